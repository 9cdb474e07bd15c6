/-
  A table of rows that are handed in: From.
-/
import Derived.Test.YtffjekhlloippaaYFrom
namespace Go.Proofs.Ytffjekhlloippaa
open Go.RowKit Go.Maps
set_option linter.unusedVariables false
set_option linter.unusedSimpArgs false
set_option maxRecDepth 100000
/-- a row's cells, in a slice of rows -/
theorem Y.row_at {I : Nat → Prop} {w : World} {a : Option Addr} {l : List (Int × Y.Rq)} (h : Rw I w 6 a l.length (Y.flat l)) {k : Nat} {x : Int × Y.Rq} (hx : l[k]? = some x) : ∃ g o, a = some ⟨g, o, none⟩ ∧ ∀ j u, (Y.wcells x.1 x.2)[j]? = some u → w.cell? ⟨g, o + k * 6 + j, none⟩ = some u := by
  rcases h.2 with h0 | ⟨g, o, rfl, hI, hc⟩
  · have := (List.getElem?_eq_some_iff.1 hx).1; omega
  · refine ⟨g, o, rfl, fun j u hu => ?_⟩
    rw [Nat.add_assoc]
    refine hc _ u ?_
    have hj : j < 6 := by have := (Array.getElem?_eq_some_iff.1 hu).1; simpa using this
    rw [Y.flat_get hx hj]
    exact hu
theorem Y.from_one (t : Y.Tb) (x : Int × Y.Rq) : Y.from_ t [x] = if Y.rerr t x = 0 then (A.put x.1 x.2 t, 0) else (t, Y.rerr t x) := by
  rw [Y.from_]
  split <;> rfl
theorem Y.from_stop : ∀ (l m : List (Int × Y.Rq)) (t : Y.Tb), (Y.from_ t l).2 ≠ 0 → Y.from_ t (l ++ m) = Y.from_ t l
  | [], m, t, h => absurd rfl h
  | x :: r, m, t, h => by
    by_cases hx : Y.rerr t x = 0
    · rw [Y.from_, if_pos hx] at h
      rw [List.cons_append, Y.from_, if_pos hx, Y.from_, if_pos hx]
      exact Y.from_stop r m _ h
    · rw [List.cons_append, Y.from_, if_neg hx, Y.from_, if_neg hx]
theorem Y.from_ok : ∀ (l : List (Int × Y.Rq)) (t : Y.Tb), Y.Ok t → Y.Ok (Y.from_ t l).1
  | [], t, h => h
  | x :: r, t, h => by
    rw [Y.from_]
    split
    · rename_i hx
      exact Y.from_ok r _ (h.more hx)
    · exact h
set_option maxHeartbeats 6400000 in
theorem yfrom_any {w : World} {I : Nat → Prop} {a : Option Addr} {c : Nat} {l : List (Int × Y.Rq)} (hl : Rw I w 6 a l.length (Y.flat l)) (hwf : ∀ x ∈ l, (Lit.int .i64 x.1).wf = true) (hlen : l.length ≤ 4000000000000) :
    Calls Try.prog 19 #[.slice a l.length c] w fun e w' => Fr (fun _ => False) w w' ∧
      (((Y.from_ [] l).2 = 0 ∧ ∃ p mb, e = .returned (.tuple #[ptrY p, .int .i64 0]) ∧ Ym w' p mb (Y.from_ [] l).1 ∧ w.heap.size ≤ mb) ∨ ((Y.from_ [] l).2 ≠ 0 ∧ e = .returned (.tuple #[.pointer none, .int .i64 (Y.from_ [] l).2]))) := by
  have KN := hid (ynew_any w)
  obtain ⟨n, hn⟩ : ∃ n, l.length = n := ⟨_, rfl⟩
  rw [hn] at hlen ⊢
  have HN := hid hn
  have HL := hid hl
  have HWF := hid hwf
  clear hl hwf hn
  go_enter Try.func19, Try.ntmps19
  go_wp2_with fail
  refine KN.out.mono ?_
  rintro e w1 ⟨rfl, hm1, hf1⟩
  generalize hp : w.heap.size + 1 = p at hm1 ⊢
  generalize hmb : w.heap.size = mb at hm1
  have F1 := hid hf1
  have HM1 := hid hm1
  have HMB := hid hmb
  clear hf1 hm1 hp hmb
  dsimp only
  go_wp2
  go_loopw [11] (fun i wr => ∃ (k : Nat), i = .int .i64 k ∧ Hid (k ≤ n ∧ Fr (fun _ => False) w wr ∧ (Y.from_ [] (l.take k)).2 = 0 ∧ Ym wr p mb (Y.from_ [] (l.take k)).1))
    (fun i _ => n - (intOf i).toNat)
  case atStart => exact ⟨0, rfl, hid ⟨Nat.zero_le _, F1.out, rfl, HM1.out⟩⟩
  case round =>
    obtain ⟨k, rfl, hall⟩ := hrel
    obtain ⟨hk, hfr, hz, hm⟩ := hall.out
    by_cases hlt : k < n
    · obtain ⟨x, hx⟩ : ∃ x, l[k]? = some x := ⟨_, List.getElem?_eq_getElem (by rw [HN.out]; exact hlt)⟩
      have hsw := HWF.out x (List.mem_of_getElem? hx)
      obtain ⟨g, o, rfl, hc⟩ := Y.row_at HL.out hx
      have htk : l.take (k + 1) = l.take k ++ [x] := by rw [List.take_add_one, hx]; rfl
      have hld : l = l.take (k + 1) ++ l.drop (k + 1) := (List.take_append_drop _ _).symm
      obtain ⟨t, ht⟩ : ∃ t, (Y.from_ [] (l.take k)).1 = t := ⟨_, rfl⟩
      have h1 : Y.from_ [] (l.take (k + 1)) = if Y.rerr t x = 0 then (A.put x.1 x.2 t, 0) else (t, Y.rerr t x) := by
        rw [htk, Y.from_app _ _ _ hz, ht, Y.from_one]
      rw [ht] at hm
      obtain ⟨s, qn, x0, x1, x2, x3⟩ := x
      have e0 : wr.cell? ⟨g, o + k * 6, none⟩ = some (.int .i64 s) := cellFr hfr (fun h => h) (hc 0 _ rfl)
      have e1 : wr.cell? ⟨g, o + k * 6 + 1, none⟩ = some (.int .i64 qn) := cellFr hfr (fun h => h) (hc 1 _ rfl)
      have e2 : wr.cell? ⟨g, o + k * 6 + 2, none⟩ = some (.int .i64 x0) := cellFr hfr (fun h => h) (hc 2 _ rfl)
      have e3 : wr.cell? ⟨g, o + k * 6 + 3, none⟩ = some (.int .i64 x1) := cellFr hfr (fun h => h) (hc 3 _ rfl)
      have e4 : wr.cell? ⟨g, o + k * 6 + 4, none⟩ = some (.int .i64 x2) := cellFr hfr (fun h => h) (hc 4 _ rfl)
      have e5 : wr.cell? ⟨g, o + k * 6 + 5, none⟩ = some (.int .i64 x3) := cellFr hfr (fun h => h) (hc 5 _ rfl)
      have i0 : (0 : Int) ≤ (k : Int) := by omega
      have i1 : (k : Int) < (n : Int) := by omega
      have fA : Fr (fun _ => False) wr (wr.alloc (.cells #[.int .i64 s, .int .i64 qn, .int .i64 x0, .int .i64 x1, .int .i64 x2, .int .i64 x3] 61)) := Fr.alloc (Fr.refl _ _) _
      have KR := hid (yrest_any (hm.kept fA (fun h => h) (fun h => h)) hsw (qn, x0, x1, x2, x3))
      have HFA := hid (hfr.trans fA (fun _ _ h => h))
      have H1 := hid h1
      have HLD := hid hld
      have HLT := hid hlt
      clear hk hfr hz hm hall hx hsw hc htk hld ht h1 fA
      by_cases hr : Y.rerr t (s, qn, x0, x1, x2, x3) = 0
      · rw [hr, if_pos rfl] at KR
        have H2 := hid (show Y.from_ [] (l.take (k + 1)) = (A.put s (qn, x0, x1, x2, x3) t, 0) from by rw [H1.out, if_pos hr])
        clear hr H1
        go_wp2_with fail
        refine KR.out.mono ?_
        rintro e w5 ⟨rfl, hm5, hf5⟩
        have REL := hid (show k + 1 ≤ n ∧ Fr (fun _ => False) w w5 ∧ (Y.from_ [] (l.take (k + 1))).2 = 0 ∧ Ym w5 p mb (Y.from_ [] (l.take (k + 1))).1 from
          ⟨hlt, HFA.out.trans hf5 (fun i hi e => by have := HMB.out; omega), by rw [H2.out], by rw [H2.out]; exact hm5⟩)
        clear hm5 hf5
        dsimp only
        go_wp2
        go_roundw
        case rel => exact ⟨k + 1, by first | go_num | rfl | trivial, REL⟩
        case measure => simp [intOf]; omega
      · rw [if_neg hr] at KR
        have H2 := hid (show Y.from_ [] l = (t, Y.rerr t (s, qn, x0, x1, x2, x3)) from by
          have h3 : Y.from_ [] (l.take (k + 1)) = (t, Y.rerr t (s, qn, x0, x1, x2, x3)) := by rw [H1.out, if_neg hr]
          have h4 := Y.from_stop (l.take (k + 1)) (l.drop (k + 1)) [] (by rw [h3]; exact hr)
          rw [← HLD.out] at h4
          rw [h4, h3])
        obtain ⟨er, her⟩ : ∃ er, Y.rerr t (s, qn, x0, x1, x2, x3) = er := ⟨_, rfl⟩
        rw [her] at KR H2 hr
        have hr2 : (er != 0) = true := by simp [hr]
        clear H1 her
        go_wp2_with fail
        refine KR.out.mono ?_
        rintro e w5 ⟨rfl, hm5, hf5⟩
        have F5 := hid (HFA.out.trans hf5 (fun i hi e => by have := HMB.out; omega))
        clear hm5 hf5
        dsimp only
        go_wp2
        go_ret2
        exact ⟨F5.out, .inr ⟨by rw [H2.out]; exact hr, by rw [H2.out]; rfl⟩⟩
    · obtain rfl : k = n := by omega
      have htk : l.take k = l := List.take_of_length_le (by rw [HN.out]; exact Nat.le_refl _)
      rw [htk] at hz hm
      have HZ := hid hz
      have HM := hid hm
      have HFR := hid hfr
      clear hk hfr hz hm hall htk
      go_wp2
      go_ret2
      exact ⟨HFR.out, .inl ⟨HZ.out, p, mb, rfl, HM.out, by have := HMB.out; omega⟩⟩
end Go.Proofs.Ytffjekhlloippaa

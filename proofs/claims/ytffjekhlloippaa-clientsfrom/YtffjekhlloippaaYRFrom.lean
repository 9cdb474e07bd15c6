/-
  The document's table of rows that are handed in: From.
-/
import Derived.Test.YtffjekhlloippaaYFrom2
import Derived.Test.YtffjekhlloippaaYRPut
namespace Go.Proofs.Ytffjekhlloippaa
open Go.RowKit Go.Maps
set_option linter.unusedVariables false
set_option linter.unusedSimpArgs false
set_option maxRecDepth 100000
set_option maxHeartbeats 16000000 in
theorem rfromY_any {w : World} {I : Nat → Prop} {a : Option Addr} {c : Nat} {l : List (Int × Y.Rq)} (hl : Rw I w 6 a l.length (Y.flat l)) (hlen : l.length ≤ 4000000000000) :
    Calls Try.prog 20 #[.slice a l.length c] w fun e w' => Fr (fun _ => False) w w' ∧
      (((Y.from_ [] l).2 = 0 ∧ ∃ r ra rc, e = .returned (.tuple #[ptrY r, .int .i64 0]) ∧ Yd w' r ra rc (Y.from_ [] l).1) ∨ ((Y.from_ [] l).2 ≠ 0 ∧ e = .returned (.tuple #[.pointer none, .int .i64 (Y.from_ [] l).2]))) := by
  obtain ⟨n, hn⟩ : ∃ n, l.length = n := ⟨_, rfl⟩
  rw [hn] at hlen ⊢
  have HN := hid hn
  have HL := hid hl
  clear hl hn
  go_enter Try.func20, Try.ntmps20
  go_wp2
  have HST := hid (show Fr (fun _ => False) w (w.alloc (.cells #[.slice none 0 0] 28)) ∧ Yd (w.alloc (.cells #[.slice none 0 0] 28)) w.heap.size none 0 [] from
    ⟨Fr.alloc (Fr.refl _ _) _, Go.heap_alloc_new w _, Rw.nil _ _ _ _, Nat.le_refl _, Y.Ok.nil⟩)
  generalize w.alloc (.cells #[.slice none 0 0] 28) = w1 at HST ⊢
  obtain ⟨r, hr⟩ : ∃ r, w.heap.size = r := ⟨_, rfl⟩
  have HR := hid hr
  rw [hr] at HST ⊢
  clear hr
  go_loopw [5] (fun i wr => ∃ (k : Nat), i = .int .i64 k ∧ Hid (k ≤ n ∧ Fr (fun _ => False) w wr ∧ (Y.from_ [] (l.take k)).2 = 0 ∧ ∃ ra rc, Yd wr r ra rc (Y.from_ [] (l.take k)).1))
    (fun i _ => n - (intOf i).toNat)
  case atStart => exact ⟨0, rfl, hid ⟨Nat.zero_le _, HST.out.1, rfl, none, 0, HST.out.2⟩⟩
  case round =>
    obtain ⟨k, rfl, hall⟩ := hrel
    obtain ⟨hk, hfr, hz, ra, rc, hd⟩ := hall.out
    by_cases hlt : k < n
    · obtain ⟨x, hx⟩ : ∃ x, l[k]? = some x := ⟨_, List.getElem?_eq_getElem (by rw [HN.out]; exact hlt)⟩
      obtain ⟨g, o, rfl, hc⟩ := Y.row_at HL.out hx
      have htk : l.take (k + 1) = l.take k ++ [x] := by rw [List.take_add_one, hx]; rfl
      have hld : l = l.take (k + 1) ++ l.drop (k + 1) := (List.take_append_drop _ _).symm
      obtain ⟨t, ht⟩ : ∃ t, (Y.from_ [] (l.take k)).1 = t := ⟨_, rfl⟩
      have h1 : Y.from_ [] (l.take (k + 1)) = if Y.rerr t x = 0 then (A.put x.1 x.2 t, 0) else (t, Y.rerr t x) := by
        rw [htk, Y.from_app _ _ _ hz, ht, Y.from_one]
      rw [ht] at hd
      obtain ⟨s, qn, x0, x1, x2, x3⟩ := x
      have HCC := hid (fun (V : World) (hV : Fr (fun _ => False) w V) => fun j u (hu : (Y.wcells s (qn, x0, x1, x2, x3))[j]? = some u) => cellFr hV (fun h => h) (hc j u hu))
      have e0 : wr.cell? ⟨g, o + k * 6, none⟩ = some (.int .i64 s) := HCC.out wr hfr 0 _ rfl
      have e1 : wr.cell? ⟨g, o + k * 6 + 1, none⟩ = some (.int .i64 qn) := HCC.out wr hfr 1 _ rfl
      have i0 : (0 : Int) ≤ (k : Int) := by omega
      have i1 : (k : Int) < (n : Int) := by omega
      have KM := hid (fun (W : World) (m : Int) => rmay_any W m)
      have KF := hid (rfindY_any hd s)
      have HD := hid hd
      have HFR := hid hfr
      have H1 := hid h1
      have HLD := hid hld
      have BAD := hid (fun (er : Int) (he : Y.rerr t (s, qn, x0, x1, x2, x3) = er) (hne : er ≠ 0) => show Y.from_ [] l = (t, er) from by
        have h3 : Y.from_ [] (l.take (k + 1)) = (t, er) := by rw [H1.out, he, if_neg hne]
        have h4 := Y.from_stop (l.take (k + 1)) (l.drop (k + 1)) [] (by rw [h3]; exact hne)
        rw [← HLD.out] at h4
        rw [h4, h3])
      clear hk hfr hz hd hall hx hc htk hld ht h1
      cases hm1 : Y.may s with
      | false =>
        have HB := hid (BAD.out 1 (by unfold Y.rerr; rw [if_neg (by simp [hm1])]) (by omega))
        go_wp2_with (first
          | (go_at_call 26; refine (KM.out _ _).mono ?_; rintro e wx ⟨rfl, rfl⟩))
        go_ret2
        exact ⟨HFR.out, .inr ⟨by rw [HB.out]; simp, by rw [HB.out]; rfl⟩⟩
      | true =>
        cases hm2 : Y.may qn with
        | false =>
          have HB := hid (BAD.out 1 (by unfold Y.rerr; rw [if_neg (by simp [hm2])]) (by omega))
          go_wp2_with (first
            | (go_at_call 26; refine (KM.out _ _).mono ?_; rintro e wx ⟨rfl, rfl⟩))
          go_ret2
          exact ⟨HFR.out, .inr ⟨by rw [HB.out]; simp, by rw [HB.out]; rfl⟩⟩
        | true =>
          cases hg : A.get s t with
          | some v =>
            rw [hg] at KF
            simp only [Option.isSome_some] at KF
            have HB := hid (BAD.out 5 (by unfold Y.rerr; rw [if_pos (by simp [hm1, hm2])]; rw [hg]; rfl) (by omega))
            clear hg
            go_wp2_with (first
              | (go_at_call 26; refine (KM.out _ _).mono ?_; rintro e wx ⟨rfl, rfl⟩)
              | (go_at_call 27; refine KF.out.mono ?_; rintro e w5 ⟨rfl, hf⟩; have F5 := hid (HFR.out.trans hf (fun _ _ h => h)); clear hf))
            go_ret2
            exact ⟨F5.out, .inr ⟨by rw [HB.out]; simp, by rw [HB.out]; rfl⟩⟩
          | none =>
            rw [hg] at KF
            simp only [Option.isSome_none] at KF
            obtain ⟨m, hm⟩ : ∃ m, t.length = m := ⟨_, rfl⟩
            have HBX := hid (show ∀ V, Fr (fun _ => False) wr V → V.cell? ⟨r, 0, none⟩ = some (.slice ra m rc) from fun V hV => by rw [← hm]; exact cellA (j := 0) (hV.cells HD.out.box (fun h => h)) rfl)
            by_cases hfu : 64 ≤ m
            · have HB := hid (BAD.out 6 (by unfold Y.rerr; rw [if_pos (by simp [hm1, hm2])]; rw [hg]; simp [hm, hfu]) (by omega))
              have hfu' : (64 : Int) ≤ (m : Int) := by omega
              clear hg hm
              go_wp2_with (first
                | (go_at_call 26; refine (KM.out _ _).mono ?_; rintro e wx ⟨rfl, rfl⟩)
                | (go_at_call 27; refine KF.out.mono ?_; rintro e w5 ⟨rfl, hf⟩; have F5 := hid (HFR.out.trans hf (fun _ _ h => h)); have c0 := HBX.out _ hf; clear hf))
              go_ret2
              exact ⟨F5.out, .inr ⟨by rw [HB.out]; simp, by rw [HB.out]; rfl⟩⟩
            · have he : Y.rerr t (s, qn, x0, x1, x2, x3) = 0 := by unfold Y.rerr; rw [if_pos (by simp [hm1, hm2])]; rw [hg]; simp [hm, hfu]
              have hfu' : ¬ (64 : Int) ≤ (m : Int) := by omega
              have HOK := hid (HD.out.ok.more he)
              have H2 := hid (show Y.from_ [] (l.take (k + 1)) = (A.put s (qn, x0, x1, x2, x3) t, 0) from by rw [H1.out, if_pos he])
              have KS := hid (fun (W : World) (hf : Fr (fun _ => False) wr W) => rsetY_any (HD.out.fr hf) s (qn, x0, x1, x2, x3) HOK.out)
              clear hg hm he BAD H1
              go_wp2_with (first
                | (go_at_call 26; refine (KM.out _ _).mono ?_; rintro e wx ⟨rfl, rfl⟩)
                | (go_at_call 27; refine KF.out.mono ?_; rintro e w5 ⟨rfl, hf⟩; have F5 := hid (HFR.out.trans hf (fun _ _ h => h)); have c0 := HBX.out _ hf; have G5 := hid hf; have e10 : w5.cell? ⟨g, o + k * 6, none⟩ = some (.int .i64 s) := HCC.out w5 F5.out 0 _ rfl; have e11 : w5.cell? ⟨g, o + k * 6 + 1, none⟩ = some (.int .i64 qn) := HCC.out w5 F5.out 1 _ rfl; have e12 : w5.cell? ⟨g, o + k * 6 + 2, none⟩ = some (.int .i64 x0) := HCC.out w5 F5.out 2 _ rfl; have e13 : w5.cell? ⟨g, o + k * 6 + 3, none⟩ = some (.int .i64 x1) := HCC.out w5 F5.out 3 _ rfl; have e14 : w5.cell? ⟨g, o + k * 6 + 4, none⟩ = some (.int .i64 x2) := HCC.out w5 F5.out 4 _ rfl; have e15 : w5.cell? ⟨g, o + k * 6 + 5, none⟩ = some (.int .i64 x3) := HCC.out w5 F5.out 5 _ rfl; clear hf)
                | (go_at_call 28; refine (KS.out _ G5.out).mono ?_; rintro e w6 ⟨rfl, ra', rc', hd6, hn6, hf6⟩; have REL := hid (show k + 1 ≤ n ∧ Fr (fun _ => False) w w6 ∧ (Y.from_ [] (l.take (k + 1))).2 = 0 ∧ ∃ ra rc, Yd w6 r ra rc (Y.from_ [] (l.take (k + 1))).1 from ⟨hlt, F5.out.trans hf6 (fun i hi e => by have := HR.out; omega), by rw [H2.out], ra', rc', by rw [H2.out]; exact hd6⟩); clear hd6 hn6 hf6))
              go_roundw
              case rel => exact ⟨k + 1, by first | go_num | rfl | trivial, REL⟩
              case measure => simp [intOf]; omega
    · obtain rfl : k = n := by omega
      have htk : l.take k = l := List.take_of_length_le (by rw [HN.out]; exact Nat.le_refl _)
      rw [htk] at hz hd
      have HZ := hid hz
      have HD := hid hd
      have HFR := hid hfr
      clear hk hfr hz hd hall htk
      go_wp2
      go_ret2
      exact ⟨HFR.out, .inl ⟨HZ.out, r, ra, rc, rfl, HD.out⟩⟩
end Go.Proofs.Ytffjekhlloippaa

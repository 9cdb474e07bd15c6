/-
  The document's table: may, find, Ask, Last.
-/
import Derived.Test.YtffjekhlloippaaYRows
import Derived.Test.YtffjekhlloippaaUList
namespace Go.Proofs.Ytffjekhlloippaa
open Go.RowKit Go.Maps
set_option linter.unusedVariables false
set_option linter.unusedSimpArgs false
set_option maxRecDepth 100000
/-- THE DOCUMENT'S TABLE IN MEMORY: its box, the row of its rows. -/
structure Yd (w : World) (r : Nat) (a : Option Addr) (c : Nat) (t : Y.Tb) : Prop where
  box : w.heap[r]? = some (.cells #[.slice a t.length c] 28 (0, 0))
  row : Rw (fun i => i ≠ r) w 6 a t.length (Y.flat t)
  cap : t.length ≤ c
  ok : Y.Ok t
theorem Yd.kept {S : Nat → Prop} {w w' : World} {r : Nat} {a : Option Addr} {c : Nat} {t : Y.Tb} (h : Yd w r a c t) (hf : Fr S w w') (h1 : ¬ S r) (h2 : ∀ i, blk a = some i → ¬ S i) : Yd w' r a c t := by
  refine ⟨hf.cells h.box h1, ⟨h.row.1, ?_⟩, h.cap, h.ok⟩
  rcases h.row.2 with h0 | ⟨g, o, rfl, hI, hc⟩
  · exact .inl h0
  · exact .inr ⟨g, o, rfl, hI, fun j u hu => cellFr hf (h2 g rfl) (hc j u hu)⟩
theorem Yd.fr {w w' : World} {r : Nat} {a : Option Addr} {c : Nat} {t : Y.Tb} (h : Yd w r a c t) (hf : Fr (fun _ => False) w w') : Yd w' r a c t := h.kept hf (fun h => h) (fun _ _ h => h)
/-- a row's cells -/
theorem Yd.at {w : World} {r : Nat} {a : Option Addr} {c : Nat} {t : Y.Tb} (h : Yd w r a c t) {k : Nat} {x : Int × Y.Rq} (hx : t[k]? = some x) : ∃ g o, a = some ⟨g, o, none⟩ ∧ g ≠ r ∧ ∀ j u, (Y.wcells x.1 x.2)[j]? = some u → w.cell? ⟨g, o + k * 6 + j, none⟩ = some u := by
  rcases h.row.2 with h0 | ⟨g, o, rfl, hI, hc⟩
  · have := (List.getElem?_eq_some_iff.1 hx).1; omega
  · refine ⟨g, o, rfl, hI, fun j u hu => ?_⟩
    rw [Nat.add_assoc]
    refine hc _ u ?_
    have hj : j < 6 := by have := (Array.getElem?_eq_some_iff.1 hu).1; simpa using this
    rw [Y.flat_get hx hj]
    exact hu
theorem rmay_any (w : World) (n : Int) : Calls Try.prog 26 #[.int .i64 n] w fun e w' => e = .returned (.bool (Y.may n)) ∧ w = w' := by
  by_cases h1 : 1 ≤ n
  · by_cases h2 : n ≤ 1099511627776
    · rw [Y.may_iff.2 ⟨h1, h2⟩]
      go_enter Try.func26, Try.ntmps26
      go_wp2
      go_ret
      exact ⟨by simp [h1, h2], rfl⟩
    · rw [show Y.may n = false from by unfold Y.may; simp [h2]]
      go_enter Try.func26, Try.ntmps26
      go_wp2
      go_ret
      exact ⟨by simp [h1, h2], rfl⟩
  · rw [show Y.may n = false from by unfold Y.may; simp [h1]]
    go_enter Try.func26, Try.ntmps26
    go_wp2
    go_ret
    exact ⟨by simp [h1], rfl⟩
set_option maxHeartbeats 1600000 in
theorem rfindY_any {w : World} {r : Nat} {a : Option Addr} {c : Nat} {t : Y.Tb} (h : Yd w r a c t) (s : Int) :
    Calls Try.prog 27 #[ptrY r, .int .i64 s] w fun e w' => e = .returned (.tuple #[.int .i64 (A.low s t), .bool (A.get s t).isSome]) ∧ Fr (fun _ => False) w w' := by
  obtain ⟨len, hln⟩ : ∃ len, t.length = len := ⟨_, rfl⟩
  have H := hid h
  have HLN := hid hln
  have hl64 : len ≤ 64 := by rw [← hln]; exact h.ok.few
  have c0 : w.cell? ⟨r, 0, none⟩ = some (.slice a len c) := cellA (j := 0) h.box (by rw [hln]; rfl)
  have hlow := hid (A.low_le s t)
  clear h hln
  go_enter Try.func27, Try.ntmps27
  go_wp2
  go_loopw [6] (fun i wr => ∃ (k : Nat), i = .int .i64 k ∧ k ≤ A.low s t ∧ w = wr) (fun i _ => len - (intOf i).toNat)
  case atStart => exact ⟨0, rfl, Nat.zero_le _, rfl⟩
  case round =>
    obtain ⟨k, rfl, hk, rfl⟩ := hrel
    have hkl : k ≤ len := by have := hlow.out; have := HLN.out; omega
    by_cases hlt : k < len
    · obtain ⟨x, hx⟩ : ∃ x, t[k]? = some x := ⟨_, List.getElem?_eq_getElem (by rw [HLN.out]; exact hlt)⟩
      obtain ⟨g, o, rfl, hgr, hc⟩ := H.out.at hx
      have e0 : w.cell? ⟨g, o + k * 6, none⟩ = some (.int .i64 x.1) := hc 0 _ rfl
      have i0 : (0 : Int) ≤ (k : Int) := by omega
      have i1 : (k : Int) < (len : Int) := by omega
      by_cases hcm : x.1 < s
      · have hk1 : k + 1 ≤ A.low s t := by
          rcases Nat.lt_or_ge k (A.low s t) with h1 | h1
          · exact h1
          · have : k = A.low s t := by omega
            subst this
            have := A.low_ge hx
            omega
        clear hx hc hgr hk
        go_wp2
        go_roundw
        case rel => exact ⟨k + 1, by first | go_num | rfl | trivial, hk1, by first | trivial | rfl⟩
        case measure => simp [intOf]; omega
      · have hke : k = A.low s t := by
          rcases Nat.lt_or_ge k (A.low s t) with h1 | h1
          · exact absurd (A.low_lt h1 hx) hcm
          · omega
        by_cases hes : x.1 = s
        · have hg : (A.get s t).isSome = true := by
            rw [(A.low_get H.out.ok.up (v := x.2)).2 (by rw [← hke, hx, ← hes])]; rfl
          have HG := hid hg
          have HKE := hid hke
          rw [hes] at e0
          have hcm' : ¬ s < s := by omega
          clear hx hc hgr hk hg hke hcm hes
          go_wp2
          go_quiet (fail)
          go_wp2
          go_ret2
          exact ⟨by rw [HG.out, ← HKE.out]; rfl, ⟨rfl, rfl, rfl, Nat.le_refl _, fun _ _ _ => rfl⟩⟩
        · have hg : (A.get s t).isSome = false := by
            cases hgg : A.get s t with
            | none => rfl
            | some v =>
              have := (A.low_get H.out.ok.up).1 hgg
              rw [← hke, hx] at this
              cases this
              exact absurd rfl hes
          have hes' : (x.1 == s) = false := by simp [hes]
          have HG := hid hg
          have HKE := hid hke
          clear hx hc hgr hk hg hke
          go_wp2
          go_quiet (fail)
          go_wp2
          go_ret2
          exact ⟨by rw [HG.out, ← HKE.out]; rfl, ⟨rfl, rfl, rfl, Nat.le_refl _, fun _ _ _ => rfl⟩⟩
    · have hke : k = A.low s t := by have := hlow.out; have := HLN.out; omega
      have hg : (A.get s t).isSome = false := by
        cases hgg : A.get s t with
        | none => rfl
        | some v =>
          have := (A.low_get H.out.ok.up).1 hgg
          rw [← hke] at this
          have := (List.getElem?_eq_some_iff.1 this).1
          have := HLN.out
          omega
      obtain rfl : k = len := by omega
      have HG := hid hg
      have HKE := hid hke
      clear hg hke hk
      go_wp2
      go_quiet (fail)
      go_wp2
      go_ret2
      exact ⟨by rw [HG.out, ← HKE.out]; rfl, ⟨rfl, rfl, rfl, Nat.le_refl _, fun _ _ _ => rfl⟩⟩
set_option maxHeartbeats 1600000 in
theorem rlastY_any {w : World} {r : Nat} {a : Option Addr} {c : Nat} {t : Y.Tb} (h : Yd w r a c t) (s : Int) :
    Calls Try.prog 17 #[ptrY r, .int .i64 s] w fun e w' => e = .returned (.int .i64 (Y.last t s)) ∧ Fr (fun _ => False) w w' := by
  have KF := hid (rfindY_any h s)
  unfold Y.last
  obtain ⟨len, hln⟩ : ∃ len, t.length = len := ⟨_, rfl⟩
  have hl64 : len ≤ 64 := by rw [← hln]; exact h.ok.few
  have HB := hid (show w.heap[r]? = some (.cells #[.slice a len c] 28 (0, 0)) from by rw [← hln]; exact h.box)
  cases hg : A.get s t with
  | none =>
    rw [hg] at KF
    simp only [Option.isSome_none] at KF
    clear h hln hg
    go_enter Try.func17, Try.ntmps17
    go_wp2_with (first | (go_at_call 27; refine KF.out.mono ?_; rintro e w1 ⟨rfl, hf⟩; have c0 := cellA (j := 0) (hf.cells HB.out (fun h => h)) rfl; have F1 := hid hf; clear hf))
    go_ret
    exact ⟨rfl, F1.out⟩
  | some v =>
    rw [hg] at KF
    simp only [Option.isSome_some] at KF
    have hx := (A.low_get h.ok.up).1 hg
    obtain ⟨g, o, rfl, hgr, hc⟩ := h.at hx
    obtain ⟨k, hk⟩ : ∃ k, A.low s t = k := ⟨_, rfl⟩
    rw [hk] at KF hx hc
    have e1 := hid (show w.cell? ⟨g, o + k * 6 + 1, none⟩ = some (.int .i64 v.1) from hc 1 _ rfl)
    have hkl : k < len := by rw [← hln]; exact (List.getElem?_eq_some_iff.1 hx).1
    have i0 : (0 : Int) ≤ (k : Int) := by omega
    have i1 : (k : Int) < (len : Int) := by omega
    clear h hln hg hx hgr hc hk
    go_enter Try.func17, Try.ntmps17
    go_wp2_with (first | (go_at_call 27; refine KF.out.mono ?_; rintro e w1 ⟨rfl, hf⟩; have c0 := cellA (j := 0) (hf.cells HB.out (fun h => h)) rfl; have F1 := hid hf; have e2 := cellFr hf (fun h => h) e1.out; clear hf))
    go_ret
    exact ⟨rfl, F1.out⟩
end Go.Proofs.Ytffjekhlloippaa

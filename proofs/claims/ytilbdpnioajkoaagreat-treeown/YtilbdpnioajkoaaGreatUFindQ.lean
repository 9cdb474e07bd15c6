/-
  The document's tree: find.
-/
import Derived.Test.YtilbdpnioajkoaaGreatMg26
import Derived.Test.YtilbdpnioajkoaaGreatMg6
namespace Go.Proofs.YtilbdpnioajkoaaGreat
open Go.RowKit Go.Maps
set_option linter.unusedVariables false
set_option linter.unusedSimpArgs false
set_option maxRecDepth 100000
attribute [local go_sem] Oper.semAt_some
/-- a row of nodes has these numbers -/
def U.Nu (w : World) (ra : Option Addr) (t : T.Tr) : Prop := ∀ k p, t[k]? = some p → ∃ g o, ra = some ⟨g, o, none⟩ ∧ w.cell? ⟨g, o + k * 4, none⟩ = some (.int .i64 p.1)
set_option maxHeartbeats 4000000 in
theorem ufind_any {w : World} {r : Nat} {ra : Option Addr} {rc : Nat} {t : T.Tr} {hv : Value} (hb : w.heap[r]? = some (.cells #[.slice ra t.length rc, hv] 86 (0, 0))) (hN : ∀ W, Fr (fun _ => False) w W → U.Nu W ra t) (hu : A.Up t) (hl : t.length ≤ 8000000000000) (n : Int) :
    Calls Tryz.prog 53 #[ptr r, .int .i64 n] w fun e w' => e = .returned (.tuple #[.int .i64 (A.low n t : Nat), .bool (A.get n t).isSome]) ∧ Fr (fun _ => False) w w' := by
  have HB := hid hb
  have HN := hid hN
  have HU := hid hu
  obtain ⟨len, hlen⟩ : ∃ n, t.length = n := ⟨_, rfl⟩
  have HL := hid hlen
  rw [hlen] at hl
  clear hb hN hu hlen
  go_enter Tryz.func53, Tryz.ntmps53
  go_wp2
  go_loopw [6] (fun i wr => ∃ k : Nat, i = .int .i64 k ∧ Hid (k ≤ len ∧ (∀ j p, j < k → t[j]? = some p → p.1 < n) ∧ Fr (fun _ => False) w wr))
    (fun i _ => (len - intOf i).toNat)
  case atStart => exact ⟨0, rfl, hid ⟨Nat.zero_le _, fun j p hj => by omega, Fr.refl _ _⟩⟩
  case round =>
    obtain ⟨k, rfl, hall⟩ := hrel
    have c0 : wr.cell? ⟨r, 0, none⟩ = some (.slice ra len rc) := by
      have := hall.out.2.2.cells HB.out (fun h => h)
      rw [HL.out] at this
      exact cellA (j := 0) this rfl
    have F0 := hid hall.out.2.2
    by_cases hlt : k < len
    · obtain ⟨p, hp⟩ : ∃ p, t[k]? = some p := ⟨_, List.getElem?_eq_getElem (by rw [HL.out]; exact hlt)⟩
      obtain ⟨g, o, rfl, c1⟩ := HN.out wr hall.out.2.2 k p hp
      have HP := hid hp
      have i0 : (0 : Int) ≤ (k : Int) := by omega
      have i1 : (k : Int) < (len : Int) := by omega
      by_cases hpn : p.1 < n
      · have HREL := hid (show k + 1 ≤ len ∧ (∀ j q, j < k + 1 → t[j]? = some q → q.1 < n) ∧ Fr (fun _ => False) w wr from ⟨hlt, fun j q hj hq => by
          rcases Nat.lt_succ_iff_lt_or_eq.1 hj with e | e
          · exact hall.out.2.1 j q e hq
          · subst e; rw [HP.out] at hq; cases hq; exact hpn, hall.out.2.2⟩)
        clear hall hlt hp
        go_wp2
        go_roundw
        case rel => exact ⟨k + 1, by first | rfl | go_num | trivial, HREL⟩
        case measure => simp [intOf]; omega
      · have HK := hid (A.low_eq (l := t) (n := n) (k := k) (fun j q hj hq => hall.out.2.1 j q hj hq) (fun q hq => by rw [HP.out] at hq; cases hq; omega) (by rw [HL.out]; omega))
        clear hall hlt hp
        by_cases he : p.1 = n
        · have HG := hid (show (A.get n t).isSome = true from by rw [(A.low_get HU.out (v := p.2)).2 (by rw [← HK.out, HP.out, ← he])]; rfl)
          go_wp2
          have hmx : Tryz.prog.follows .mixedOrders = true := by kernel_rfl
          refine wp_region_held (S := fun V => Fr (fun _ => False) wr V) hmx ?_
          have hS := (Fr.drew (Fr.refl (fun _ => False) wr))
          simp only [List.size_toArray, List.length_cons, List.length_nil, Nat.reduceAdd, Array.replicate_succ, Array.replicate_zero, List.push_toArray, List.nil_append, List.cons_append]
          refine tk (i := 0) (d := some 28) (v := ?_) rfl (Or.inl ⟨by kernel_rfl, ?_⟩) hS ?_; rotate_left 1; (intro w' hS'; clear hS'; go_simp; try with_reducible rfl); simp only [Act.put, List.setIfInBounds_toArray, List.set_cons_zero, List.set_cons_succ]
          refine tk (i := 1) (d := some 29) (v := ?_) rfl (Or.inl ⟨by kernel_rfl, ?_⟩) hS ?_; rotate_left 1; (intro w' hS'; clear hS'; go_simp; try with_reducible rfl); simp only [Act.put, List.setIfInBounds_toArray, List.set_cons_zero, List.set_cons_succ]
          refine tk (i := 2) (d := some 30) (v := ?_) rfl (Or.inl ⟨by kernel_rfl, ?_⟩) hS ?_; rotate_left 1; (intro w' hS'; clear hS'; go_simp; try with_reducible rfl); simp only [Act.put, List.setIfInBounds_toArray, List.set_cons_zero, List.set_cons_succ]
          refine tk (i := 3) (d := some 31) (v := ?_) rfl (Or.inl ⟨by kernel_rfl, ?_⟩) hS ?_; rotate_left 1; (intro w' hS'; clear hS'; go_simp; try with_reducible rfl); simp only [Act.put, List.setIfInBounds_toArray, List.set_cons_zero, List.set_cons_succ]
          refine tk (i := 4) (d := some 32) (v := ?_) rfl (Or.inl ⟨by kernel_rfl, ?_⟩) hS ?_; rotate_left 1; (intro w' hS'; clear hS'; go_simp; try with_reducible rfl); simp only [Act.put, List.setIfInBounds_toArray, List.set_cons_zero, List.set_cons_succ]
          refine tk (i := 5) (d := some 33) (v := ?_) rfl (Or.inl ⟨by kernel_rfl, ?_⟩) hS ?_; rotate_left 1; (intro w' hS'; have h1 := cellFr hS' (fun h => h) c0; clear hS'; go_simp; try with_reducible rfl); simp only [Act.put, List.setIfInBounds_toArray, List.set_cons_zero, List.set_cons_succ]
          refine tk (i := 6) (d := some 34) (v := ?_) rfl (Or.inl ⟨by kernel_rfl, ?_⟩) hS ?_; rotate_left 1; (intro w' hS'; clear hS'; go_simp; try with_reducible rfl); simp only [Act.put, List.setIfInBounds_toArray, List.set_cons_zero, List.set_cons_succ]
          refine tk (i := 7) (d := some 35) (v := ?_) rfl (Or.inl ⟨by kernel_rfl, ?_⟩) hS ?_; rotate_left 1; (intro w' hS'; clear hS'; go_simp; try with_reducible rfl); simp only [Act.put, List.setIfInBounds_toArray, List.set_cons_zero, List.set_cons_succ]
          refine tk (i := 8) (d := some 36) (v := ?_) rfl (Or.inl ⟨by kernel_rfl, ?_⟩) hS ?_; rotate_left 1; (intro w' hS'; clear hS'; go_simp; try with_reducible rfl); simp only [Act.put, List.setIfInBounds_toArray, List.set_cons_zero, List.set_cons_succ]
          refine tk (i := 20) (d := some 4) (v := ?_) rfl (Or.inl ⟨by kernel_rfl, ?_⟩) hS ?_; rotate_left 1; (intro w' hS'; clear hS'; go_simp; try with_reducible rfl); simp only [Act.put, List.setIfInBounds_toArray, List.set_cons_zero, List.set_cons_succ]
          refine tk (i := 9) (d := some 37) (v := ?_) rfl (Or.inl ⟨by kernel_rfl, ?_⟩) hS ?_; rotate_left 1; (intro w' hS'; clear hS'; go_simp; try with_reducible rfl); simp only [Act.put, List.setIfInBounds_toArray, List.set_cons_zero, List.set_cons_succ]
          refine tk (i := 10) (d := some 38) (v := ?_) rfl (Or.inl ⟨by kernel_rfl, ?_⟩) hS ?_; rotate_left 1; (intro w' hS'; clear hS'; go_simp; try with_reducible rfl); simp only [Act.put, List.setIfInBounds_toArray, List.set_cons_zero, List.set_cons_succ]
          refine tk (i := 11) (d := some 39) (v := ?_) rfl (Or.inl ⟨by kernel_rfl, ?_⟩) hS ?_; rotate_left 1; (intro w' hS'; clear hS'; go_simp; try with_reducible rfl); simp only [Act.put, List.setIfInBounds_toArray, List.set_cons_zero, List.set_cons_succ]
          refine tk (i := 12) (d := some 40) (v := ?_) rfl (Or.inl ⟨by kernel_rfl, ?_⟩) hS ?_; rotate_left 1; (intro w' hS'; have h1 := cellFr hS' (fun h => h) c0; clear hS'; go_simp; try with_reducible rfl); simp only [Act.put, List.setIfInBounds_toArray, List.set_cons_zero, List.set_cons_succ]
          refine tk (i := 13) (d := some 41) (v := ?_) rfl (Or.inl ⟨by kernel_rfl, ?_⟩) hS ?_; rotate_left 1; (intro w' hS'; clear hS'; go_simp; try with_reducible rfl); simp only [Act.put, List.setIfInBounds_toArray, List.set_cons_zero, List.set_cons_succ]
          refine tk (i := 14) (d := some 42) (v := ?_) rfl (Or.inl ⟨by kernel_rfl, ?_⟩) hS ?_; rotate_left 1; (intro w' hS'; clear hS'; go_simp; try with_reducible rfl); simp only [Act.put, List.setIfInBounds_toArray, List.set_cons_zero, List.set_cons_succ]
          refine tk (i := 15) (d := some 43) (v := ?_) rfl (Or.inl ⟨by kernel_rfl, ?_⟩) hS ?_; rotate_left 1; (intro w' hS'; clear hS'; go_simp; try with_reducible rfl); simp only [Act.put, List.setIfInBounds_toArray, List.set_cons_zero, List.set_cons_succ]
          refine tk (i := 16) (d := some 44) (v := ?_) rfl (Or.inl ⟨by kernel_rfl, ?_⟩) hS ?_; rotate_left 1; (intro w' hS'; have h1 := cellFr hS' (fun h => h) c1; clear hS'; go_simp; try with_reducible rfl); simp only [Act.put, List.setIfInBounds_toArray, List.set_cons_zero, List.set_cons_succ]
          refine tk (i := 17) (d := some 45) (v := ?_) rfl (Or.inl ⟨by kernel_rfl, ?_⟩) hS ?_; rotate_left 1; (intro w' hS'; clear hS'; go_simp; try with_reducible rfl); simp only [Act.put, List.setIfInBounds_toArray, List.set_cons_zero, List.set_cons_succ]
          refine tk (i := 18) (d := some 46) (v := ?_) rfl (Or.inl ⟨by kernel_rfl, ?_⟩) hS ?_; rotate_left 1; (intro w' hS'; clear hS'; go_simp; try with_reducible rfl); simp only [Act.put, List.setIfInBounds_toArray, List.set_cons_zero, List.set_cons_succ]
          refine tk (i := 19) (d := some 47) (v := ?_) rfl (Or.inl ⟨by kernel_rfl, ?_⟩) hS ?_; rotate_left 1; (intro w' hS'; clear hS'; go_simp; try with_reducible rfl); simp only [Act.put, List.setIfInBounds_toArray, List.set_cons_zero, List.set_cons_succ]
          refine tk (i := 21) (d := some 5) (v := ?_) rfl (Or.inl ⟨by kernel_rfl, ?_⟩) hS ?_; rotate_left 1; (intro w' hS'; clear hS'; go_simp; try with_reducible rfl); simp only [Act.put, List.setIfInBounds_toArray, List.set_cons_zero, List.set_cons_succ]
          refine wpAnyH_done (by kernel_rfl) ?_ _
          have FZ := hid (F0.out.trans hS (fun _ _ h => h))
          clear hS
          go_wp2
          go_ret2
          refine ⟨?_, FZ.out⟩
          rw [HG.out, ← HK.out]
          try rfl
        · have HG := hid (show (A.get n t).isSome = false from by
            cases hg : A.get n t with
            | none => rfl
            | some v =>
              have := (A.low_get HU.out).1 hg
              rw [← HK.out, HP.out] at this
              cases this
              exact absurd rfl he)
          go_wp2
          have hmx : Tryz.prog.follows .mixedOrders = true := by kernel_rfl
          refine wp_region_held (S := fun V => Fr (fun _ => False) wr V) hmx ?_
          have hS := (Fr.drew (Fr.refl (fun _ => False) wr))
          simp only [List.size_toArray, List.length_cons, List.length_nil, Nat.reduceAdd, Array.replicate_succ, Array.replicate_zero, List.push_toArray, List.nil_append, List.cons_append]
          refine tk (i := 0) (d := some 28) (v := ?_) rfl (Or.inl ⟨by kernel_rfl, ?_⟩) hS ?_; rotate_left 1; (intro w' hS'; clear hS'; go_simp; try with_reducible rfl); simp only [Act.put, List.setIfInBounds_toArray, List.set_cons_zero, List.set_cons_succ]
          refine tk (i := 1) (d := some 29) (v := ?_) rfl (Or.inl ⟨by kernel_rfl, ?_⟩) hS ?_; rotate_left 1; (intro w' hS'; clear hS'; go_simp; try with_reducible rfl); simp only [Act.put, List.setIfInBounds_toArray, List.set_cons_zero, List.set_cons_succ]
          refine tk (i := 2) (d := some 30) (v := ?_) rfl (Or.inl ⟨by kernel_rfl, ?_⟩) hS ?_; rotate_left 1; (intro w' hS'; clear hS'; go_simp; try with_reducible rfl); simp only [Act.put, List.setIfInBounds_toArray, List.set_cons_zero, List.set_cons_succ]
          refine tk (i := 3) (d := some 31) (v := ?_) rfl (Or.inl ⟨by kernel_rfl, ?_⟩) hS ?_; rotate_left 1; (intro w' hS'; clear hS'; go_simp; try with_reducible rfl); simp only [Act.put, List.setIfInBounds_toArray, List.set_cons_zero, List.set_cons_succ]
          refine tk (i := 4) (d := some 32) (v := ?_) rfl (Or.inl ⟨by kernel_rfl, ?_⟩) hS ?_; rotate_left 1; (intro w' hS'; clear hS'; go_simp; try with_reducible rfl); simp only [Act.put, List.setIfInBounds_toArray, List.set_cons_zero, List.set_cons_succ]
          refine tk (i := 5) (d := some 33) (v := ?_) rfl (Or.inl ⟨by kernel_rfl, ?_⟩) hS ?_; rotate_left 1; (intro w' hS'; have h1 := cellFr hS' (fun h => h) c0; clear hS'; go_simp; try with_reducible rfl); simp only [Act.put, List.setIfInBounds_toArray, List.set_cons_zero, List.set_cons_succ]
          refine tk (i := 6) (d := some 34) (v := ?_) rfl (Or.inl ⟨by kernel_rfl, ?_⟩) hS ?_; rotate_left 1; (intro w' hS'; clear hS'; go_simp; try with_reducible rfl); simp only [Act.put, List.setIfInBounds_toArray, List.set_cons_zero, List.set_cons_succ]
          refine tk (i := 7) (d := some 35) (v := ?_) rfl (Or.inl ⟨by kernel_rfl, ?_⟩) hS ?_; rotate_left 1; (intro w' hS'; clear hS'; go_simp; try with_reducible rfl); simp only [Act.put, List.setIfInBounds_toArray, List.set_cons_zero, List.set_cons_succ]
          refine tk (i := 8) (d := some 36) (v := ?_) rfl (Or.inl ⟨by kernel_rfl, ?_⟩) hS ?_; rotate_left 1; (intro w' hS'; clear hS'; go_simp; try with_reducible rfl); simp only [Act.put, List.setIfInBounds_toArray, List.set_cons_zero, List.set_cons_succ]
          refine tk (i := 20) (d := some 4) (v := ?_) rfl (Or.inl ⟨by kernel_rfl, ?_⟩) hS ?_; rotate_left 1; (intro w' hS'; clear hS'; go_simp; try with_reducible rfl); simp only [Act.put, List.setIfInBounds_toArray, List.set_cons_zero, List.set_cons_succ]
          refine tk (i := 9) (d := some 37) (v := ?_) rfl (Or.inl ⟨by kernel_rfl, ?_⟩) hS ?_; rotate_left 1; (intro w' hS'; clear hS'; go_simp; try with_reducible rfl); simp only [Act.put, List.setIfInBounds_toArray, List.set_cons_zero, List.set_cons_succ]
          refine tk (i := 10) (d := some 38) (v := ?_) rfl (Or.inl ⟨by kernel_rfl, ?_⟩) hS ?_; rotate_left 1; (intro w' hS'; clear hS'; go_simp; try with_reducible rfl); simp only [Act.put, List.setIfInBounds_toArray, List.set_cons_zero, List.set_cons_succ]
          refine tk (i := 11) (d := some 39) (v := ?_) rfl (Or.inl ⟨by kernel_rfl, ?_⟩) hS ?_; rotate_left 1; (intro w' hS'; clear hS'; go_simp; try with_reducible rfl); simp only [Act.put, List.setIfInBounds_toArray, List.set_cons_zero, List.set_cons_succ]
          refine tk (i := 12) (d := some 40) (v := ?_) rfl (Or.inl ⟨by kernel_rfl, ?_⟩) hS ?_; rotate_left 1; (intro w' hS'; have h1 := cellFr hS' (fun h => h) c0; clear hS'; go_simp; try with_reducible rfl); simp only [Act.put, List.setIfInBounds_toArray, List.set_cons_zero, List.set_cons_succ]
          refine tk (i := 13) (d := some 41) (v := ?_) rfl (Or.inl ⟨by kernel_rfl, ?_⟩) hS ?_; rotate_left 1; (intro w' hS'; clear hS'; go_simp; try with_reducible rfl); simp only [Act.put, List.setIfInBounds_toArray, List.set_cons_zero, List.set_cons_succ]
          refine tk (i := 14) (d := some 42) (v := ?_) rfl (Or.inl ⟨by kernel_rfl, ?_⟩) hS ?_; rotate_left 1; (intro w' hS'; clear hS'; go_simp; try with_reducible rfl); simp only [Act.put, List.setIfInBounds_toArray, List.set_cons_zero, List.set_cons_succ]
          refine tk (i := 15) (d := some 43) (v := ?_) rfl (Or.inl ⟨by kernel_rfl, ?_⟩) hS ?_; rotate_left 1; (intro w' hS'; clear hS'; go_simp; try with_reducible rfl); simp only [Act.put, List.setIfInBounds_toArray, List.set_cons_zero, List.set_cons_succ]
          refine tk (i := 16) (d := some 44) (v := ?_) rfl (Or.inl ⟨by kernel_rfl, ?_⟩) hS ?_; rotate_left 1; (intro w' hS'; have h1 := cellFr hS' (fun h => h) c1; clear hS'; go_simp; try with_reducible rfl); simp only [Act.put, List.setIfInBounds_toArray, List.set_cons_zero, List.set_cons_succ]
          refine tk (i := 17) (d := some 45) (v := ?_) rfl (Or.inl ⟨by kernel_rfl, ?_⟩) hS ?_; rotate_left 1; (intro w' hS'; clear hS'; go_simp; try with_reducible rfl); simp only [Act.put, List.setIfInBounds_toArray, List.set_cons_zero, List.set_cons_succ]
          refine tk (i := 18) (d := some 46) (v := ?_) rfl (Or.inl ⟨by kernel_rfl, ?_⟩) hS ?_; rotate_left 1; (intro w' hS'; clear hS'; go_simp; try with_reducible rfl); simp only [Act.put, List.setIfInBounds_toArray, List.set_cons_zero, List.set_cons_succ]
          refine tk (i := 19) (d := some 47) (v := ?_) rfl (Or.inl ⟨by kernel_rfl, ?_⟩) hS ?_; rotate_left 1; (intro w' hS'; clear hS'; go_simp; try with_reducible rfl); simp only [Act.put, List.setIfInBounds_toArray, List.set_cons_zero, List.set_cons_succ]
          refine tk (i := 21) (d := some 5) (v := ?_) rfl (Or.inl ⟨by kernel_rfl, ?_⟩) hS ?_; rotate_left 1; (intro w' hS'; clear hS'; go_simp; try with_reducible rfl); simp only [Act.put, List.setIfInBounds_toArray, List.set_cons_zero, List.set_cons_succ]
          refine wpAnyH_done (by kernel_rfl) ?_ _
          have FZ := hid (F0.out.trans hS (fun _ _ h => h))
          clear hS
          go_wp2
          go_ret2
          refine ⟨?_, FZ.out⟩
          rw [HG.out, ← HK.out]
          show Ending.returned (.tuple #[.int .i64 k, .bool (p.1 == n)]) = _
          rw [show (p.1 == n) = false from by simp [he]]
    · have hk : k = len := by have := hall.out.1; omega
      subst hk
      have HK := hid (A.low_eq (l := t) (n := n) (k := k) (fun j q hj hq => hall.out.2.1 j q hj hq) (fun q hq => by have := (List.getElem?_eq_some_iff.1 hq).1; rw [HL.out] at this; omega) (by rw [HL.out]; exact Nat.le_refl _))
      have HG := hid (show (A.get n t).isSome = false from by
        cases hg : A.get n t with
        | none => rfl
        | some v =>
          have := (A.low_get HU.out).1 hg
          rw [← HK.out] at this
          have := (List.getElem?_eq_some_iff.1 this).1
          rw [HL.out] at this
          omega)
      clear hall hlt
      go_wp2
      have hmx : Tryz.prog.follows .mixedOrders = true := by kernel_rfl
      refine wp_region_held (S := fun V => Fr (fun _ => False) wr V) hmx ?_
      have hS := (Fr.drew (Fr.refl (fun _ => False) wr))
      simp only [List.size_toArray, List.length_cons, List.length_nil, Nat.reduceAdd, Array.replicate_succ, Array.replicate_zero, List.push_toArray, List.nil_append, List.cons_append]
      refine tk (i := 0) (d := some 28) (v := ?_) rfl (Or.inl ⟨by kernel_rfl, ?_⟩) hS ?_; rotate_left 1; (intro w' hS'; clear hS'; go_simp; try with_reducible rfl); simp only [Act.put, List.setIfInBounds_toArray, List.set_cons_zero, List.set_cons_succ]
      refine tk (i := 1) (d := some 29) (v := ?_) rfl (Or.inl ⟨by kernel_rfl, ?_⟩) hS ?_; rotate_left 1; (intro w' hS'; clear hS'; go_simp; try with_reducible rfl); simp only [Act.put, List.setIfInBounds_toArray, List.set_cons_zero, List.set_cons_succ]
      refine tk (i := 2) (d := some 30) (v := ?_) rfl (Or.inl ⟨by kernel_rfl, ?_⟩) hS ?_; rotate_left 1; (intro w' hS'; clear hS'; go_simp; try with_reducible rfl); simp only [Act.put, List.setIfInBounds_toArray, List.set_cons_zero, List.set_cons_succ]
      refine tk (i := 3) (d := some 31) (v := ?_) rfl (Or.inl ⟨by kernel_rfl, ?_⟩) hS ?_; rotate_left 1; (intro w' hS'; clear hS'; go_simp; try with_reducible rfl); simp only [Act.put, List.setIfInBounds_toArray, List.set_cons_zero, List.set_cons_succ]
      refine tk (i := 4) (d := some 32) (v := ?_) rfl (Or.inl ⟨by kernel_rfl, ?_⟩) hS ?_; rotate_left 1; (intro w' hS'; clear hS'; go_simp; try with_reducible rfl); simp only [Act.put, List.setIfInBounds_toArray, List.set_cons_zero, List.set_cons_succ]
      refine tk (i := 5) (d := some 33) (v := ?_) rfl (Or.inl ⟨by kernel_rfl, ?_⟩) hS ?_; rotate_left 1; (intro w' hS'; have h1 := cellFr hS' (fun h => h) c0; clear hS'; go_simp; try with_reducible rfl); simp only [Act.put, List.setIfInBounds_toArray, List.set_cons_zero, List.set_cons_succ]
      refine tk (i := 6) (d := some 34) (v := ?_) rfl (Or.inl ⟨by kernel_rfl, ?_⟩) hS ?_; rotate_left 1; (intro w' hS'; clear hS'; go_simp; try with_reducible rfl); simp only [Act.put, List.setIfInBounds_toArray, List.set_cons_zero, List.set_cons_succ]
      refine tk (i := 7) (d := some 35) (v := ?_) rfl (Or.inl ⟨by kernel_rfl, ?_⟩) hS ?_; rotate_left 1; (intro w' hS'; clear hS'; go_simp; try with_reducible rfl); simp only [Act.put, List.setIfInBounds_toArray, List.set_cons_zero, List.set_cons_succ]
      refine tk (i := 8) (d := some 36) (v := ?_) rfl (Or.inl ⟨by kernel_rfl, ?_⟩) hS ?_; rotate_left 1; (intro w' hS'; clear hS'; go_simp; try with_reducible rfl); simp only [Act.put, List.setIfInBounds_toArray, List.set_cons_zero, List.set_cons_succ]
      refine tk (i := 20) (d := some 4) (v := ?_) rfl (Or.inl ⟨by kernel_rfl, ?_⟩) hS ?_; rotate_left 1; (intro w' hS'; clear hS'; go_simp; try with_reducible rfl); simp only [Act.put, List.setIfInBounds_toArray, List.set_cons_zero, List.set_cons_succ]
      refine tks (i := 9) (d := some 37) rfl hS ?_; simp only [Act.put, List.setIfInBounds_toArray, List.set_cons_zero, List.set_cons_succ]
      refine tks (i := 10) (d := some 38) rfl hS ?_; simp only [Act.put, List.setIfInBounds_toArray, List.set_cons_zero, List.set_cons_succ]
      refine tks (i := 11) (d := some 39) rfl hS ?_; simp only [Act.put, List.setIfInBounds_toArray, List.set_cons_zero, List.set_cons_succ]
      refine tks (i := 12) (d := some 40) rfl hS ?_; simp only [Act.put, List.setIfInBounds_toArray, List.set_cons_zero, List.set_cons_succ]
      refine tks (i := 13) (d := some 41) rfl hS ?_; simp only [Act.put, List.setIfInBounds_toArray, List.set_cons_zero, List.set_cons_succ]
      refine tks (i := 14) (d := some 42) rfl hS ?_; simp only [Act.put, List.setIfInBounds_toArray, List.set_cons_zero, List.set_cons_succ]
      refine tks (i := 15) (d := some 43) rfl hS ?_; simp only [Act.put, List.setIfInBounds_toArray, List.set_cons_zero, List.set_cons_succ]
      refine tks (i := 16) (d := some 44) rfl hS ?_; simp only [Act.put, List.setIfInBounds_toArray, List.set_cons_zero, List.set_cons_succ]
      refine tks (i := 17) (d := some 45) rfl hS ?_; simp only [Act.put, List.setIfInBounds_toArray, List.set_cons_zero, List.set_cons_succ]
      refine tks (i := 18) (d := some 46) rfl hS ?_; simp only [Act.put, List.setIfInBounds_toArray, List.set_cons_zero, List.set_cons_succ]
      refine tk (i := 19) (d := some 47) (v := ?_) rfl (Or.inl ⟨by kernel_rfl, ?_⟩) hS ?_; rotate_left 1; (intro w' hS'; clear hS'; go_simp; try with_reducible rfl); simp only [Act.put, List.setIfInBounds_toArray, List.set_cons_zero, List.set_cons_succ]
      refine tk (i := 21) (d := some 5) (v := ?_) rfl (Or.inl ⟨by kernel_rfl, ?_⟩) hS ?_; rotate_left 1; (intro w' hS'; clear hS'; go_simp; try with_reducible rfl); simp only [Act.put, List.setIfInBounds_toArray, List.set_cons_zero, List.set_cons_succ]
      refine wpAnyH_done (by kernel_rfl) ?_ _
      have FZ := hid (F0.out.trans hS (fun _ _ h => h))
      clear hS
      go_wp2
      go_ret2
      refine ⟨?_, FZ.out⟩
      rw [HG.out, ← HK.out]
      try rfl
end Go.Proofs.YtilbdpnioajkoaaGreat

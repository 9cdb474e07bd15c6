/-
  StampLattice: the walk.
-/
import Derived.Test.YtfbpaboakdpceabSStates
namespace Go.Proofs.Ytfbpaboakdpceab
open Go.RowKit
set_option linter.unusedVariables false
set_option linter.unusedSimpArgs false

set_option maxHeartbeats 51200000 in
set_option maxRecDepth 20000 in
theorem stampLattice_walk (f g h : Nat → Int) (w : World) : Calls Try.prog 3 #[.agg (V8 f), .agg (V8 g), .agg (V8 h)] w fun e w' => e = .returned (.bool true) ∧ Fr (fun _ => False) w w' := by
  obtain ⟨W, hW⟩ : ∃ W, ((w.alloc (.cells (V8 f) 23)).alloc (.cells (V8 g) 23)).alloc (.cells (V8 h) 23) = W := ⟨_, rfl⟩
  have ba : Vb W w.heap.size f := hW ▸ (Below.heap_alloc _ _ _ (by simp; omega)).trans (S.two0 w _ _)
  have bb : Vb W (w.heap.size + 1) g := hW ▸ (Below.heap_alloc _ _ _ (by simp)).trans (S.two1 w _ _)
  have bc : Vb W (w.heap.size + 1 + 1) h := by
    rw [← hW]
    have := Go.heap_alloc_new ((w.alloc (.cells (V8 f) 23)).alloc (.cells (V8 g) 23)) (.cells (V8 h) 23)
    rw [World.size_alloc, World.size_alloc] at this
    exact this
  have F0 := hid (show Fr (fun _ => False) w W from hW ▸ Fr.alloc (Fr.alloc (Fr.alloc (Fr.refl _ _) _) _) _)
  have LA := hid (fun (V : World) (hf : Fr (fun _ => False) W V) => load_whole (ty := 23) (ba.fr hf) Try.underlying23 rfl (by kernel_rfl))
  have LB := hid (fun (V : World) (hf : Fr (fun _ => False) W V) => load_whole (ty := 23) (bb.fr hf) Try.underlying23 rfl (by kernel_rfl))
  have LC := hid (fun (V : World) (hf : Fr (fun _ => False) W V) => load_whole (ty := 23) (bc.fr hf) Try.underlying23 rfl (by kernel_rfl))
  obtain ⟨J, hJ⟩ : ∃ J : Nat → Int, ∀ j, j < 8 → max (f j) (g j) = J j := ⟨fun j => max (f j) (g j), fun _ _ => rfl⟩
  obtain ⟨M, hM⟩ : ∃ J : Nat → Int, ∀ j, j < 8 → min (f j) (g j) = J j := ⟨fun j => min (f j) (g j), fun _ _ => rfl⟩
  obtain ⟨P1, hP1⟩ : ∃ J : Nat → Int, ∀ j, j < 8 → max (f j) (M j) = J j := ⟨fun j => max (f j) (M j), fun _ _ => rfl⟩
  obtain ⟨Q1, hQ1⟩ : ∃ K : Nat → Int, ∀ j, j < 8 → min (f j) (J j) = K j := ⟨fun j => min (f j) (J j), fun _ _ => rfl⟩
  obtain ⟨D, hD⟩ : ∃ J : Nat → Int, ∀ j, j < 8 → max (f j) (f j) = J j := ⟨fun j => max (f j) (f j), fun _ _ => rfl⟩
  obtain ⟨T3, hT3⟩ : ∃ J : Nat → Int, ∀ j, j < 8 → max (max (f j) (g j)) (h j) = J j := ⟨fun j => max (max (f j) (g j)) (h j), fun _ _ => rfl⟩
  obtain ⟨GH, hGH⟩ : ∃ J : Nat → Int, ∀ j, j < 8 → max (g j) (h j) = J j := ⟨fun j => max (g j) (h j), fun _ _ => rfl⟩
  obtain ⟨T2, hT2⟩ : ∃ J : Nat → Int, ∀ j, j < 8 → max (f j) (GH j) = J j := ⟨fun j => max (f j) (GH j), fun _ _ => rfl⟩
  obtain ⟨X5, hX5⟩ : ∃ J : Nat → Int, ∀ j, j < 8 → min (f j) (GH j) = J j := ⟨fun j => min (f j) (GH j), fun _ _ => rfl⟩
  obtain ⟨FH, hFH⟩ : ∃ J : Nat → Int, ∀ j, j < 8 → min (f j) (h j) = J j := ⟨fun j => min (f j) (h j), fun _ _ => rfl⟩
  obtain ⟨Y5, hY5⟩ : ∃ J : Nat → Int, ∀ j, j < 8 → max (M j) (FH j) = J j := ⟨fun j => max (M j) (FH j), fun _ _ => rfl⟩
  have KJ := hid (fun (V : World) (x : Nat) h => join2 hJ (V := V) (x := x) h)
  have KM := hid (fun (V : World) (x : Nat) h => meet2 hM (V := V) (x := x) h)
  have K5 := hid (fun (V : World) (x : Nat) h => join2 hP1 (V := V) (x := x) h)
  have K13 := hid (fun (V : World) (x : Nat) h => meet2 hQ1 (V := V) (x := x) h)
  have K21 := hid (fun (V : World) (x : Nat) h => join2 hD (V := V) (x := x) h)
  have K30 := hid (fun (V : World) (x : Nat) h => join3 hT3 (V := V) (x := x) h)
  have K35 := hid (fun (V : World) (x : Nat) h => join2 hGH (V := V) (x := x) h)
  have K37 := hid (fun (V : World) (x : Nat) h => join2 hT2 (V := V) (x := x) h)
  have K47 := hid (fun (V : World) (x : Nat) h => meet2 hX5 (V := V) (x := x) h)
  have K52 := hid (fun (V : World) (x : Nat) h => meet2 hFH (V := V) (x := x) h)
  have K54 := hid (fun (V : World) (x : Nat) h => join2 hY5 (V := V) (x := x) h)
  have KL := hid slive_any
  have KA := hid (sabove_any f g)
  have E7 := hid (fun V => eqlV_of (f := P1) (g := f) (fun j hj => by have := hP1 j hj; have := hM j hj; omega) V)
  have E15 := hid (fun V => eqlV_of (f := Q1) (g := f) (fun j hj => by have := hQ1 j hj; have := hJ j hj; omega) V)
  have E23 := hid (fun V => eqlV_of (f := D) (g := f) (fun j hj => by have := hD j hj; omega) V)
  have E38 := hid (fun V => eqlV_of (f := T3) (g := T2) (fun j hj => by have := hT3 j hj; have := hT2 j hj; have := hGH j hj; omega) V)
  have E55 := hid (fun V => eqlV_of (f := X5) (g := Y5) (fun j hj => by have := hX5 j hj; have := hY5 j hj; have := hGH j hj; have := hM j hj; have := hFH j hj; omega) V)
  have E63 := hid (fun V => eqlV J f V)
  have E72 := hid (fun V => eqlV M g V)
  rw [show S.eqv J f = S.abv f g 8 by
    rw [Bool.eq_iff_iff, S.eqv_iff, S.abv_iff]
    exact ⟨fun h k hk => by have := h k hk; have := hJ k hk; omega, fun h k hk => by have := h k hk; have := hJ k hk; omega⟩] at E63
  rw [show S.eqv M g = S.abv f g 8 by
    rw [Bool.eq_iff_iff, S.eqv_iff, S.abv_iff]
    exact ⟨fun h k hk => by have := h k hk; have := hM k hk; omega, fun h k hk => by have := h k hk; have := hM k hk; omega⟩] at E72
  generalize S.abv f g 8 = y at KA E63 E72
  have HW := hid hW
  clear hW ba bb bc hJ hM hP1 hQ1 hD hT3 hGH hT2 hX5 hFH hY5
  go_enter Try.func3, Try.ntmps3
  go_wp2_with fail
  rw [HW.out]
  have hmx : Try.prog.follows .mixedOrders = true := by kernel_rfl
  refine wp_region_held (S := fun V => Fr (fun _ => False) W V) hmx ?_
  have hS := (show Fr (fun _ => False) W W.drew from Fr.drew (Fr.refl _ _))
  simp only [List.size_toArray, List.length_cons, List.length_nil, Nat.reduceAdd, Array.replicate_succ, Array.replicate_zero, List.push_toArray, List.nil_append, List.cons_append]
  refine wpAnyH_take (i := 0) rfl (by kernel_rfl) (by kernel_rfl) (by kernel_rfl) (fun _ _ _ h => h) (jyload (by kernel_rfl) (by exact ⟨_, rfl, rfl⟩) (fun w' hS' => LA.out w' hS')) hS ?_
  simp only [List.getElem_toArray, List.getElem_cons_zero, List.getElem_cons_succ, Act.put, List.setIfInBounds_toArray, List.set_cons_zero, List.set_cons_succ]
  refine wpAnyH_take (i := 1) rfl (by kernel_rfl) (by kernel_rfl) (by kernel_rfl) (fun _ _ _ h => h) (jyload (by kernel_rfl) (by exact ⟨_, rfl, rfl⟩) (fun w' hS' => LB.out w' hS')) hS ?_
  simp only [List.getElem_toArray, List.getElem_cons_zero, List.getElem_cons_succ, Act.put, List.setIfInBounds_toArray, List.set_cons_zero, List.set_cons_succ]
  refine wpAnyH_take (i := 4) rfl (by kernel_rfl) (by kernel_rfl) (by kernel_rfl) (fun _ _ _ h => h) (jyload (by kernel_rfl) (by exact ⟨_, rfl, rfl⟩) (fun w' hS' => LA.out w' hS')) hS ?_
  simp only [List.getElem_toArray, List.getElem_cons_zero, List.getElem_cons_succ, Act.put, List.setIfInBounds_toArray, List.set_cons_zero, List.set_cons_succ]
  refine wpAnyH_take (i := 5) rfl (by kernel_rfl) (by kernel_rfl) (by kernel_rfl) (fun _ _ _ h => h) (jyload (by kernel_rfl) (by exact ⟨_, rfl, rfl⟩) (fun w' hS' => LB.out w' hS')) hS ?_
  simp only [List.getElem_toArray, List.getElem_cons_zero, List.getElem_cons_succ, Act.put, List.setIfInBounds_toArray, List.set_cons_zero, List.set_cons_succ]
  refine wpAny_states (fun n listed a V => (∃ b1 c1 b2 c2 a1 a2 : Bool, ∃ x1 x2 p q : Nat, ((c1 = true → b1 = true) ∧ (c2 = true → b2 = true ∧ c1 = true)) ∧ n + (b1.toNat + c1.toNat + b2.toNat + c2.toNat + a1.toNat + a2.toNat) = 8 ∧ listed = #[true, true, b1, c1, true, true, b2, c2, a1, a2, false, false] ∧ a = ⟨#[.agg (V8 f), .agg (V8 g), .agg (V8 h), .pointer (some ⟨w.heap.size, 0, none⟩), .pointer (some ⟨w.heap.size + 1, 0, none⟩), .pointer (some ⟨w.heap.size + 1 + 1, 0, none⟩), .bool false, (cond a1 (.pointer (some ⟨p, 0, none⟩)) undef), (cond a2 (.pointer (some ⟨q, 0, none⟩)) undef), .agg (V8 f), .agg (V8 g), (cond b1 (.slice (some ⟨x1, 0, none⟩) 2 2) undef), (cond c1 (.agg (V8 J)) undef), .agg (V8 f), .agg (V8 g), (cond b2 (.slice (some ⟨x2, 0, none⟩) 2 2) undef), (cond c2 (.agg (V8 M)) undef), undef, undef, undef, undef, undef, undef, undef, undef, undef, undef, undef, undef, undef, undef, undef, undef, undef, undef, undef, undef, undef, undef, undef, undef, undef, undef, undef, undef, undef, undef, undef, undef, undef, undef, undef, undef, undef, undef, undef, undef, undef, undef, undef, undef, undef, undef, undef, undef, undef, undef, undef, undef, undef, undef, undef, undef, undef, undef, undef, undef, undef, undef, undef, undef, undef, undef, undef, undef, undef, undef, undef, undef, undef, undef, undef], []⟩ ∧ Fr (fun _ => False) W V ∧ Bx f g b1 V x1 ∧ Bx f g b2 V x2 ∧ Ax W a1 V p ∧ Ax W a2 V q ∧ Px a1 a2 p q) ∨ (∃ x1 x2 p q : Nat, n = 1 ∧ listed = #[true, true, true, true, true, true, true, true, true, true, true, false] ∧ a = ⟨#[.agg (V8 f), .agg (V8 g), .agg (V8 h), .pointer (some ⟨w.heap.size, 0, none⟩), .pointer (some ⟨w.heap.size + 1, 0, none⟩), .pointer (some ⟨w.heap.size + 1 + 1, 0, none⟩), .bool false, .pointer (some ⟨p, 0, none⟩), .pointer (some ⟨q, 0, none⟩), .agg (V8 f), .agg (V8 g), .slice (some ⟨x1, 0, none⟩) 2 2, .agg (V8 J), .agg (V8 f), .agg (V8 g), .slice (some ⟨x2, 0, none⟩) 2 2, .agg (V8 M), undef, undef, undef, undef, undef, undef, undef, undef, undef, undef, undef, undef, undef, undef, undef, undef, undef, undef, undef, undef, undef, undef, undef, undef, undef, undef, undef, undef, undef, undef, undef, undef, undef, undef, undef, undef, undef, undef, undef, undef, undef, undef, undef, undef, undef, undef, undef, undef, undef, undef, undef, undef, undef, undef, undef, undef, undef, undef, undef, undef, undef, undef, undef, undef, undef, undef, undef, undef, undef, undef, undef, undef, undef, undef, undef], []⟩ ∧ Fr (fun _ => False) W V ∧ Vb V p J ∧ Vb V q (fun _ => 0) ∧ W.heap.size ≤ q ∧ p ≠ q) ∨ (∃ x1 x2 p q : Nat, n = 0 ∧ listed = #[true, true, true, true, true, true, true, true, true, true, true, true] ∧ a = ⟨#[.agg (V8 f), .agg (V8 g), .agg (V8 h), .pointer (some ⟨w.heap.size, 0, none⟩), .pointer (some ⟨w.heap.size + 1, 0, none⟩), .pointer (some ⟨w.heap.size + 1 + 1, 0, none⟩), .bool false, .pointer (some ⟨p, 0, none⟩), .pointer (some ⟨q, 0, none⟩), .agg (V8 f), .agg (V8 g), .slice (some ⟨x1, 0, none⟩) 2 2, .agg (V8 J), .agg (V8 f), .agg (V8 g), .slice (some ⟨x2, 0, none⟩) 2 2, .agg (V8 M), undef, undef, undef, undef, undef, undef, undef, undef, undef, undef, undef, undef, undef, undef, undef, undef, undef, undef, undef, undef, undef, undef, undef, undef, undef, undef, undef, undef, undef, undef, undef, undef, undef, undef, undef, undef, undef, undef, undef, undef, undef, undef, undef, undef, undef, undef, undef, undef, undef, undef, undef, undef, undef, undef, undef, undef, undef, undef, undef, undef, undef, undef, undef, undef, undef, undef, undef, undef, undef, undef, undef, undef, undef, undef, undef], []⟩ ∧ Fr (fun _ => False) W V ∧ Vb V p J ∧ Vb V q M)) ?_ _ _ _ _ (Or.inl ⟨false, false, false, false, false, false, 0, 0, 0, 0, by simp, rfl, rfl, rfl, hS, (fun h => by cases h), (fun h => by cases h), (fun h => by cases h), (fun h => by cases h), (fun h => by cases h)⟩)
  intro n listed a V hI
  rcases hI with ⟨b1, c1, b2, c2, a1, a2, x1, x2, p, q, hv, hn, rfl, rfl, hF, hB1, hB2, hA1, hA2, hP⟩ | ⟨x1, x2, p, q, rfl, rfl, rfl, hF, h1, h2, h3, h4⟩ | ⟨x1, x2, p, q, rfl, rfl, rfl, hF, h1, h2⟩
  · cases b1 with
    | false =>
      cases c1 with
      | false =>
        cases b2 with
        | false =>
          cases c2 with
          | false =>
            cases a1 with
            | false =>
              cases a2 with
              | false =>
                right
                refine ⟨7, [2, 6, 8, 9], by simp at hn; omega, by kernel_rfl, by simp, ?_⟩
                simp only [cond_true, cond_false]
                refine AllS.cons rfl (fun K1 hK1 => ?_) ?_
                · go_simp
                  exact hK1.out _ _ ⟨Fr.alloc hF _, Or.inl ⟨true, false, false, false, false, false, V.heap.size, x2, p, q, by simp, rfl, rfl, rfl, Fr.alloc hF _, fun _ => Ri.two (Go.heap_alloc_new V _), hB2.fr (Fr.al _ _), hA1.fr (Fr.al _ _), hA2.fr (Fr.al _ _), hP⟩⟩
                refine AllS.cons rfl (fun K1 hK1 => ?_) ?_
                · go_simp
                  exact hK1.out _ _ ⟨Fr.alloc hF _, Or.inl ⟨false, false, true, false, false, false, x1, V.heap.size, p, q, by simp, rfl, rfl, rfl, Fr.alloc hF _, hB1.fr (Fr.al _ _), fun _ => Ri.two (Go.heap_alloc_new V _), hA1.fr (Fr.al _ _), hA2.fr (Fr.al _ _), hP⟩⟩
                refine AllS.cons rfl (fun K1 hK1 => ?_) ?_
                · go_simp
                  exact hK1.out _ _ ⟨Fr.alloc hF _, Or.inl ⟨false, false, false, false, true, false, x1, x2, V.heap.size, q, by simp, rfl, rfl, rfl, Fr.alloc hF _, hB1.fr (Fr.al _ _), hB2.fr (Fr.al _ _), fun _ => ⟨Go.heap_alloc_new V _, hF.size⟩, hA2.fr (Fr.al _ _), Px.new1 hA2⟩⟩
                refine AllS.cons rfl (fun K1 hK1 => ?_) ?_
                · go_simp
                  exact hK1.out _ _ ⟨Fr.alloc hF _, Or.inl ⟨false, false, false, false, false, true, x1, x2, p, V.heap.size, by simp, rfl, rfl, rfl, Fr.alloc hF _, hB1.fr (Fr.al _ _), hB2.fr (Fr.al _ _), hA1.fr (Fr.al _ _), fun _ => ⟨Go.heap_alloc_new V _, hF.size⟩, Px.new2 hA1⟩⟩
                exact AllS.nil
              | true =>
                right
                refine ⟨6, [2, 6, 8], by simp at hn; omega, by kernel_rfl, by simp, ?_⟩
                simp only [cond_true, cond_false]
                refine AllS.cons rfl (fun K1 hK1 => ?_) ?_
                · go_simp
                  exact hK1.out _ _ ⟨Fr.alloc hF _, Or.inl ⟨true, false, false, false, false, true, V.heap.size, x2, p, q, by simp, rfl, rfl, rfl, Fr.alloc hF _, fun _ => Ri.two (Go.heap_alloc_new V _), hB2.fr (Fr.al _ _), hA1.fr (Fr.al _ _), hA2.fr (Fr.al _ _), hP⟩⟩
                refine AllS.cons rfl (fun K1 hK1 => ?_) ?_
                · go_simp
                  exact hK1.out _ _ ⟨Fr.alloc hF _, Or.inl ⟨false, false, true, false, false, true, x1, V.heap.size, p, q, by simp, rfl, rfl, rfl, Fr.alloc hF _, hB1.fr (Fr.al _ _), fun _ => Ri.two (Go.heap_alloc_new V _), hA1.fr (Fr.al _ _), hA2.fr (Fr.al _ _), hP⟩⟩
                refine AllS.cons rfl (fun K1 hK1 => ?_) ?_
                · go_simp
                  exact hK1.out _ _ ⟨Fr.alloc hF _, Or.inl ⟨false, false, false, false, true, true, x1, x2, V.heap.size, q, by simp, rfl, rfl, rfl, Fr.alloc hF _, hB1.fr (Fr.al _ _), hB2.fr (Fr.al _ _), fun _ => ⟨Go.heap_alloc_new V _, hF.size⟩, hA2.fr (Fr.al _ _), Px.new1 hA2⟩⟩
                exact AllS.nil
            | true =>
              cases a2 with
              | false =>
                right
                refine ⟨6, [2, 6, 9], by simp at hn; omega, by kernel_rfl, by simp, ?_⟩
                simp only [cond_true, cond_false]
                refine AllS.cons rfl (fun K1 hK1 => ?_) ?_
                · go_simp
                  exact hK1.out _ _ ⟨Fr.alloc hF _, Or.inl ⟨true, false, false, false, true, false, V.heap.size, x2, p, q, by simp, rfl, rfl, rfl, Fr.alloc hF _, fun _ => Ri.two (Go.heap_alloc_new V _), hB2.fr (Fr.al _ _), hA1.fr (Fr.al _ _), hA2.fr (Fr.al _ _), hP⟩⟩
                refine AllS.cons rfl (fun K1 hK1 => ?_) ?_
                · go_simp
                  exact hK1.out _ _ ⟨Fr.alloc hF _, Or.inl ⟨false, false, true, false, true, false, x1, V.heap.size, p, q, by simp, rfl, rfl, rfl, Fr.alloc hF _, hB1.fr (Fr.al _ _), fun _ => Ri.two (Go.heap_alloc_new V _), hA1.fr (Fr.al _ _), hA2.fr (Fr.al _ _), hP⟩⟩
                refine AllS.cons rfl (fun K1 hK1 => ?_) ?_
                · go_simp
                  exact hK1.out _ _ ⟨Fr.alloc hF _, Or.inl ⟨false, false, false, false, true, true, x1, x2, p, V.heap.size, by simp, rfl, rfl, rfl, Fr.alloc hF _, hB1.fr (Fr.al _ _), hB2.fr (Fr.al _ _), hA1.fr (Fr.al _ _), fun _ => ⟨Go.heap_alloc_new V _, hF.size⟩, Px.new2 hA1⟩⟩
                exact AllS.nil
              | true =>
                right
                refine ⟨5, [2, 6], by simp at hn; omega, by kernel_rfl, by simp, ?_⟩
                simp only [cond_true, cond_false]
                refine AllS.cons rfl (fun K1 hK1 => ?_) ?_
                · go_simp
                  exact hK1.out _ _ ⟨Fr.alloc hF _, Or.inl ⟨true, false, false, false, true, true, V.heap.size, x2, p, q, by simp, rfl, rfl, rfl, Fr.alloc hF _, fun _ => Ri.two (Go.heap_alloc_new V _), hB2.fr (Fr.al _ _), hA1.fr (Fr.al _ _), hA2.fr (Fr.al _ _), hP⟩⟩
                refine AllS.cons rfl (fun K1 hK1 => ?_) ?_
                · go_simp
                  exact hK1.out _ _ ⟨Fr.alloc hF _, Or.inl ⟨false, false, true, false, true, true, x1, V.heap.size, p, q, by simp, rfl, rfl, rfl, Fr.alloc hF _, hB1.fr (Fr.al _ _), fun _ => Ri.two (Go.heap_alloc_new V _), hA1.fr (Fr.al _ _), hA2.fr (Fr.al _ _), hP⟩⟩
                exact AllS.nil
          | true =>
            cases a1 with
            | false =>
              cases a2 with
              | false =>
                exact absurd (hv.2 rfl).1 (by decide)
              | true =>
                exact absurd (hv.2 rfl).1 (by decide)
            | true =>
              cases a2 with
              | false =>
                exact absurd (hv.2 rfl).1 (by decide)
              | true =>
                exact absurd (hv.2 rfl).1 (by decide)
        | true =>
          cases c2 with
          | false =>
            cases a1 with
            | false =>
              cases a2 with
              | false =>
                right
                refine ⟨6, [2, 8, 9], by simp at hn; omega, by kernel_rfl, by simp, ?_⟩
                simp only [cond_true, cond_false]
                refine AllS.cons rfl (fun K1 hK1 => ?_) ?_
                · go_simp
                  exact hK1.out _ _ ⟨Fr.alloc hF _, Or.inl ⟨true, false, true, false, false, false, V.heap.size, x2, p, q, by simp, rfl, rfl, rfl, Fr.alloc hF _, fun _ => Ri.two (Go.heap_alloc_new V _), hB2.fr (Fr.al _ _), hA1.fr (Fr.al _ _), hA2.fr (Fr.al _ _), hP⟩⟩
                refine AllS.cons rfl (fun K1 hK1 => ?_) ?_
                · go_simp
                  exact hK1.out _ _ ⟨Fr.alloc hF _, Or.inl ⟨false, false, true, false, true, false, x1, x2, V.heap.size, q, by simp, rfl, rfl, rfl, Fr.alloc hF _, hB1.fr (Fr.al _ _), hB2.fr (Fr.al _ _), fun _ => ⟨Go.heap_alloc_new V _, hF.size⟩, hA2.fr (Fr.al _ _), Px.new1 hA2⟩⟩
                refine AllS.cons rfl (fun K1 hK1 => ?_) ?_
                · go_simp
                  exact hK1.out _ _ ⟨Fr.alloc hF _, Or.inl ⟨false, false, true, false, false, true, x1, x2, p, V.heap.size, by simp, rfl, rfl, rfl, Fr.alloc hF _, hB1.fr (Fr.al _ _), hB2.fr (Fr.al _ _), hA1.fr (Fr.al _ _), fun _ => ⟨Go.heap_alloc_new V _, hF.size⟩, Px.new2 hA1⟩⟩
                exact AllS.nil
              | true =>
                right
                refine ⟨5, [2, 8], by simp at hn; omega, by kernel_rfl, by simp, ?_⟩
                simp only [cond_true, cond_false]
                refine AllS.cons rfl (fun K1 hK1 => ?_) ?_
                · go_simp
                  exact hK1.out _ _ ⟨Fr.alloc hF _, Or.inl ⟨true, false, true, false, false, true, V.heap.size, x2, p, q, by simp, rfl, rfl, rfl, Fr.alloc hF _, fun _ => Ri.two (Go.heap_alloc_new V _), hB2.fr (Fr.al _ _), hA1.fr (Fr.al _ _), hA2.fr (Fr.al _ _), hP⟩⟩
                refine AllS.cons rfl (fun K1 hK1 => ?_) ?_
                · go_simp
                  exact hK1.out _ _ ⟨Fr.alloc hF _, Or.inl ⟨false, false, true, false, true, true, x1, x2, V.heap.size, q, by simp, rfl, rfl, rfl, Fr.alloc hF _, hB1.fr (Fr.al _ _), hB2.fr (Fr.al _ _), fun _ => ⟨Go.heap_alloc_new V _, hF.size⟩, hA2.fr (Fr.al _ _), Px.new1 hA2⟩⟩
                exact AllS.nil
            | true =>
              cases a2 with
              | false =>
                right
                refine ⟨5, [2, 9], by simp at hn; omega, by kernel_rfl, by simp, ?_⟩
                simp only [cond_true, cond_false]
                refine AllS.cons rfl (fun K1 hK1 => ?_) ?_
                · go_simp
                  exact hK1.out _ _ ⟨Fr.alloc hF _, Or.inl ⟨true, false, true, false, true, false, V.heap.size, x2, p, q, by simp, rfl, rfl, rfl, Fr.alloc hF _, fun _ => Ri.two (Go.heap_alloc_new V _), hB2.fr (Fr.al _ _), hA1.fr (Fr.al _ _), hA2.fr (Fr.al _ _), hP⟩⟩
                refine AllS.cons rfl (fun K1 hK1 => ?_) ?_
                · go_simp
                  exact hK1.out _ _ ⟨Fr.alloc hF _, Or.inl ⟨false, false, true, false, true, true, x1, x2, p, V.heap.size, by simp, rfl, rfl, rfl, Fr.alloc hF _, hB1.fr (Fr.al _ _), hB2.fr (Fr.al _ _), hA1.fr (Fr.al _ _), fun _ => ⟨Go.heap_alloc_new V _, hF.size⟩, Px.new2 hA1⟩⟩
                exact AllS.nil
              | true =>
                right
                refine ⟨4, [2], by simp at hn; omega, by kernel_rfl, by simp, ?_⟩
                simp only [cond_true, cond_false]
                refine AllS.cons rfl (fun K1 hK1 => ?_) ?_
                · go_simp
                  exact hK1.out _ _ ⟨Fr.alloc hF _, Or.inl ⟨true, false, true, false, true, true, V.heap.size, x2, p, q, by simp, rfl, rfl, rfl, Fr.alloc hF _, fun _ => Ri.two (Go.heap_alloc_new V _), hB2.fr (Fr.al _ _), hA1.fr (Fr.al _ _), hA2.fr (Fr.al _ _), hP⟩⟩
                exact AllS.nil
          | true =>
            cases a1 with
            | false =>
              cases a2 with
              | false =>
                exact absurd (hv.2 rfl).2 (by decide)
              | true =>
                exact absurd (hv.2 rfl).2 (by decide)
            | true =>
              cases a2 with
              | false =>
                exact absurd (hv.2 rfl).2 (by decide)
              | true =>
                exact absurd (hv.2 rfl).2 (by decide)
      | true =>
        cases b2 with
        | false =>
          cases c2 with
          | false =>
            cases a1 with
            | false =>
              cases a2 with
              | false =>
                exact absurd (hv.1 rfl) (by decide)
              | true =>
                exact absurd (hv.1 rfl) (by decide)
            | true =>
              cases a2 with
              | false =>
                exact absurd (hv.1 rfl) (by decide)
              | true =>
                exact absurd (hv.1 rfl) (by decide)
          | true =>
            cases a1 with
            | false =>
              cases a2 with
              | false =>
                exact absurd (hv.1 rfl) (by decide)
              | true =>
                exact absurd (hv.1 rfl) (by decide)
            | true =>
              cases a2 with
              | false =>
                exact absurd (hv.1 rfl) (by decide)
              | true =>
                exact absurd (hv.1 rfl) (by decide)
        | true =>
          cases c2 with
          | false =>
            cases a1 with
            | false =>
              cases a2 with
              | false =>
                exact absurd (hv.1 rfl) (by decide)
              | true =>
                exact absurd (hv.1 rfl) (by decide)
            | true =>
              cases a2 with
              | false =>
                exact absurd (hv.1 rfl) (by decide)
              | true =>
                exact absurd (hv.1 rfl) (by decide)
          | true =>
            cases a1 with
            | false =>
              cases a2 with
              | false =>
                exact absurd (hv.1 rfl) (by decide)
              | true =>
                exact absurd (hv.1 rfl) (by decide)
            | true =>
              cases a2 with
              | false =>
                exact absurd (hv.1 rfl) (by decide)
              | true =>
                exact absurd (hv.1 rfl) (by decide)
    | true =>
      cases c1 with
      | false =>
        cases b2 with
        | false =>
          cases c2 with
          | false =>
            cases a1 with
            | false =>
              cases a2 with
              | false =>
                right
                refine ⟨6, [3, 6, 8, 9], by simp at hn; omega, by kernel_rfl, by simp, ?_⟩
                simp only [cond_true, cond_false]
                refine AllS.cons rfl (fun K1 hK1 => ?_) ?_
                · go_simp
                  refine (KJ.out V x1 (hB1 rfl)).mono ?_
                  rintro e V' ⟨rfl, fx⟩
                  exact hK1.out _ _ ⟨hF.trans fx (fun _ _ h => h), Or.inl ⟨true, true, false, false, false, false, x1, x2, p, q, by simp, rfl, rfl, rfl, hF.trans fx (fun _ _ h => h), hB1.fr fx, hB2.fr fx, hA1.fr fx, hA2.fr fx, hP⟩⟩
                refine AllS.cons rfl (fun K1 hK1 => ?_) ?_
                · go_simp
                  exact hK1.out _ _ ⟨Fr.alloc hF _, Or.inl ⟨true, false, true, false, false, false, x1, V.heap.size, p, q, by simp, rfl, rfl, rfl, Fr.alloc hF _, hB1.fr (Fr.al _ _), fun _ => Ri.two (Go.heap_alloc_new V _), hA1.fr (Fr.al _ _), hA2.fr (Fr.al _ _), hP⟩⟩
                refine AllS.cons rfl (fun K1 hK1 => ?_) ?_
                · go_simp
                  exact hK1.out _ _ ⟨Fr.alloc hF _, Or.inl ⟨true, false, false, false, true, false, x1, x2, V.heap.size, q, by simp, rfl, rfl, rfl, Fr.alloc hF _, hB1.fr (Fr.al _ _), hB2.fr (Fr.al _ _), fun _ => ⟨Go.heap_alloc_new V _, hF.size⟩, hA2.fr (Fr.al _ _), Px.new1 hA2⟩⟩
                refine AllS.cons rfl (fun K1 hK1 => ?_) ?_
                · go_simp
                  exact hK1.out _ _ ⟨Fr.alloc hF _, Or.inl ⟨true, false, false, false, false, true, x1, x2, p, V.heap.size, by simp, rfl, rfl, rfl, Fr.alloc hF _, hB1.fr (Fr.al _ _), hB2.fr (Fr.al _ _), hA1.fr (Fr.al _ _), fun _ => ⟨Go.heap_alloc_new V _, hF.size⟩, Px.new2 hA1⟩⟩
                exact AllS.nil
              | true =>
                right
                refine ⟨5, [3, 6, 8], by simp at hn; omega, by kernel_rfl, by simp, ?_⟩
                simp only [cond_true, cond_false]
                refine AllS.cons rfl (fun K1 hK1 => ?_) ?_
                · go_simp
                  refine (KJ.out V x1 (hB1 rfl)).mono ?_
                  rintro e V' ⟨rfl, fx⟩
                  exact hK1.out _ _ ⟨hF.trans fx (fun _ _ h => h), Or.inl ⟨true, true, false, false, false, true, x1, x2, p, q, by simp, rfl, rfl, rfl, hF.trans fx (fun _ _ h => h), hB1.fr fx, hB2.fr fx, hA1.fr fx, hA2.fr fx, hP⟩⟩
                refine AllS.cons rfl (fun K1 hK1 => ?_) ?_
                · go_simp
                  exact hK1.out _ _ ⟨Fr.alloc hF _, Or.inl ⟨true, false, true, false, false, true, x1, V.heap.size, p, q, by simp, rfl, rfl, rfl, Fr.alloc hF _, hB1.fr (Fr.al _ _), fun _ => Ri.two (Go.heap_alloc_new V _), hA1.fr (Fr.al _ _), hA2.fr (Fr.al _ _), hP⟩⟩
                refine AllS.cons rfl (fun K1 hK1 => ?_) ?_
                · go_simp
                  exact hK1.out _ _ ⟨Fr.alloc hF _, Or.inl ⟨true, false, false, false, true, true, x1, x2, V.heap.size, q, by simp, rfl, rfl, rfl, Fr.alloc hF _, hB1.fr (Fr.al _ _), hB2.fr (Fr.al _ _), fun _ => ⟨Go.heap_alloc_new V _, hF.size⟩, hA2.fr (Fr.al _ _), Px.new1 hA2⟩⟩
                exact AllS.nil
            | true =>
              cases a2 with
              | false =>
                right
                refine ⟨5, [3, 6, 9], by simp at hn; omega, by kernel_rfl, by simp, ?_⟩
                simp only [cond_true, cond_false]
                refine AllS.cons rfl (fun K1 hK1 => ?_) ?_
                · go_simp
                  refine (KJ.out V x1 (hB1 rfl)).mono ?_
                  rintro e V' ⟨rfl, fx⟩
                  exact hK1.out _ _ ⟨hF.trans fx (fun _ _ h => h), Or.inl ⟨true, true, false, false, true, false, x1, x2, p, q, by simp, rfl, rfl, rfl, hF.trans fx (fun _ _ h => h), hB1.fr fx, hB2.fr fx, hA1.fr fx, hA2.fr fx, hP⟩⟩
                refine AllS.cons rfl (fun K1 hK1 => ?_) ?_
                · go_simp
                  exact hK1.out _ _ ⟨Fr.alloc hF _, Or.inl ⟨true, false, true, false, true, false, x1, V.heap.size, p, q, by simp, rfl, rfl, rfl, Fr.alloc hF _, hB1.fr (Fr.al _ _), fun _ => Ri.two (Go.heap_alloc_new V _), hA1.fr (Fr.al _ _), hA2.fr (Fr.al _ _), hP⟩⟩
                refine AllS.cons rfl (fun K1 hK1 => ?_) ?_
                · go_simp
                  exact hK1.out _ _ ⟨Fr.alloc hF _, Or.inl ⟨true, false, false, false, true, true, x1, x2, p, V.heap.size, by simp, rfl, rfl, rfl, Fr.alloc hF _, hB1.fr (Fr.al _ _), hB2.fr (Fr.al _ _), hA1.fr (Fr.al _ _), fun _ => ⟨Go.heap_alloc_new V _, hF.size⟩, Px.new2 hA1⟩⟩
                exact AllS.nil
              | true =>
                right
                refine ⟨4, [3, 6], by simp at hn; omega, by kernel_rfl, by simp, ?_⟩
                simp only [cond_true, cond_false]
                refine AllS.cons rfl (fun K1 hK1 => ?_) ?_
                · go_simp
                  refine (KJ.out V x1 (hB1 rfl)).mono ?_
                  rintro e V' ⟨rfl, fx⟩
                  exact hK1.out _ _ ⟨hF.trans fx (fun _ _ h => h), Or.inl ⟨true, true, false, false, true, true, x1, x2, p, q, by simp, rfl, rfl, rfl, hF.trans fx (fun _ _ h => h), hB1.fr fx, hB2.fr fx, hA1.fr fx, hA2.fr fx, hP⟩⟩
                refine AllS.cons rfl (fun K1 hK1 => ?_) ?_
                · go_simp
                  exact hK1.out _ _ ⟨Fr.alloc hF _, Or.inl ⟨true, false, true, false, true, true, x1, V.heap.size, p, q, by simp, rfl, rfl, rfl, Fr.alloc hF _, hB1.fr (Fr.al _ _), fun _ => Ri.two (Go.heap_alloc_new V _), hA1.fr (Fr.al _ _), hA2.fr (Fr.al _ _), hP⟩⟩
                exact AllS.nil
          | true =>
            cases a1 with
            | false =>
              cases a2 with
              | false =>
                exact absurd (hv.2 rfl).1 (by decide)
              | true =>
                exact absurd (hv.2 rfl).1 (by decide)
            | true =>
              cases a2 with
              | false =>
                exact absurd (hv.2 rfl).1 (by decide)
              | true =>
                exact absurd (hv.2 rfl).1 (by decide)
        | true =>
          cases c2 with
          | false =>
            cases a1 with
            | false =>
              cases a2 with
              | false =>
                right
                refine ⟨5, [3, 8, 9], by simp at hn; omega, by kernel_rfl, by simp, ?_⟩
                simp only [cond_true, cond_false]
                refine AllS.cons rfl (fun K1 hK1 => ?_) ?_
                · go_simp
                  refine (KJ.out V x1 (hB1 rfl)).mono ?_
                  rintro e V' ⟨rfl, fx⟩
                  exact hK1.out _ _ ⟨hF.trans fx (fun _ _ h => h), Or.inl ⟨true, true, true, false, false, false, x1, x2, p, q, by simp, rfl, rfl, rfl, hF.trans fx (fun _ _ h => h), hB1.fr fx, hB2.fr fx, hA1.fr fx, hA2.fr fx, hP⟩⟩
                refine AllS.cons rfl (fun K1 hK1 => ?_) ?_
                · go_simp
                  exact hK1.out _ _ ⟨Fr.alloc hF _, Or.inl ⟨true, false, true, false, true, false, x1, x2, V.heap.size, q, by simp, rfl, rfl, rfl, Fr.alloc hF _, hB1.fr (Fr.al _ _), hB2.fr (Fr.al _ _), fun _ => ⟨Go.heap_alloc_new V _, hF.size⟩, hA2.fr (Fr.al _ _), Px.new1 hA2⟩⟩
                refine AllS.cons rfl (fun K1 hK1 => ?_) ?_
                · go_simp
                  exact hK1.out _ _ ⟨Fr.alloc hF _, Or.inl ⟨true, false, true, false, false, true, x1, x2, p, V.heap.size, by simp, rfl, rfl, rfl, Fr.alloc hF _, hB1.fr (Fr.al _ _), hB2.fr (Fr.al _ _), hA1.fr (Fr.al _ _), fun _ => ⟨Go.heap_alloc_new V _, hF.size⟩, Px.new2 hA1⟩⟩
                exact AllS.nil
              | true =>
                right
                refine ⟨4, [3, 8], by simp at hn; omega, by kernel_rfl, by simp, ?_⟩
                simp only [cond_true, cond_false]
                refine AllS.cons rfl (fun K1 hK1 => ?_) ?_
                · go_simp
                  refine (KJ.out V x1 (hB1 rfl)).mono ?_
                  rintro e V' ⟨rfl, fx⟩
                  exact hK1.out _ _ ⟨hF.trans fx (fun _ _ h => h), Or.inl ⟨true, true, true, false, false, true, x1, x2, p, q, by simp, rfl, rfl, rfl, hF.trans fx (fun _ _ h => h), hB1.fr fx, hB2.fr fx, hA1.fr fx, hA2.fr fx, hP⟩⟩
                refine AllS.cons rfl (fun K1 hK1 => ?_) ?_
                · go_simp
                  exact hK1.out _ _ ⟨Fr.alloc hF _, Or.inl ⟨true, false, true, false, true, true, x1, x2, V.heap.size, q, by simp, rfl, rfl, rfl, Fr.alloc hF _, hB1.fr (Fr.al _ _), hB2.fr (Fr.al _ _), fun _ => ⟨Go.heap_alloc_new V _, hF.size⟩, hA2.fr (Fr.al _ _), Px.new1 hA2⟩⟩
                exact AllS.nil
            | true =>
              cases a2 with
              | false =>
                right
                refine ⟨4, [3, 9], by simp at hn; omega, by kernel_rfl, by simp, ?_⟩
                simp only [cond_true, cond_false]
                refine AllS.cons rfl (fun K1 hK1 => ?_) ?_
                · go_simp
                  refine (KJ.out V x1 (hB1 rfl)).mono ?_
                  rintro e V' ⟨rfl, fx⟩
                  exact hK1.out _ _ ⟨hF.trans fx (fun _ _ h => h), Or.inl ⟨true, true, true, false, true, false, x1, x2, p, q, by simp, rfl, rfl, rfl, hF.trans fx (fun _ _ h => h), hB1.fr fx, hB2.fr fx, hA1.fr fx, hA2.fr fx, hP⟩⟩
                refine AllS.cons rfl (fun K1 hK1 => ?_) ?_
                · go_simp
                  exact hK1.out _ _ ⟨Fr.alloc hF _, Or.inl ⟨true, false, true, false, true, true, x1, x2, p, V.heap.size, by simp, rfl, rfl, rfl, Fr.alloc hF _, hB1.fr (Fr.al _ _), hB2.fr (Fr.al _ _), hA1.fr (Fr.al _ _), fun _ => ⟨Go.heap_alloc_new V _, hF.size⟩, Px.new2 hA1⟩⟩
                exact AllS.nil
              | true =>
                right
                refine ⟨3, [3], by simp at hn; omega, by kernel_rfl, by simp, ?_⟩
                simp only [cond_true, cond_false]
                refine AllS.cons rfl (fun K1 hK1 => ?_) ?_
                · go_simp
                  refine (KJ.out V x1 (hB1 rfl)).mono ?_
                  rintro e V' ⟨rfl, fx⟩
                  exact hK1.out _ _ ⟨hF.trans fx (fun _ _ h => h), Or.inl ⟨true, true, true, false, true, true, x1, x2, p, q, by simp, rfl, rfl, rfl, hF.trans fx (fun _ _ h => h), hB1.fr fx, hB2.fr fx, hA1.fr fx, hA2.fr fx, hP⟩⟩
                exact AllS.nil
          | true =>
            cases a1 with
            | false =>
              cases a2 with
              | false =>
                exact absurd (hv.2 rfl).2 (by decide)
              | true =>
                exact absurd (hv.2 rfl).2 (by decide)
            | true =>
              cases a2 with
              | false =>
                exact absurd (hv.2 rfl).2 (by decide)
              | true =>
                exact absurd (hv.2 rfl).2 (by decide)
      | true =>
        cases b2 with
        | false =>
          cases c2 with
          | false =>
            cases a1 with
            | false =>
              cases a2 with
              | false =>
                right
                refine ⟨5, [6, 8, 9], by simp at hn; omega, by kernel_rfl, by simp, ?_⟩
                simp only [cond_true, cond_false]
                refine AllS.cons rfl (fun K1 hK1 => ?_) ?_
                · go_simp
                  exact hK1.out _ _ ⟨Fr.alloc hF _, Or.inl ⟨true, true, true, false, false, false, x1, V.heap.size, p, q, by simp, rfl, rfl, rfl, Fr.alloc hF _, hB1.fr (Fr.al _ _), fun _ => Ri.two (Go.heap_alloc_new V _), hA1.fr (Fr.al _ _), hA2.fr (Fr.al _ _), hP⟩⟩
                refine AllS.cons rfl (fun K1 hK1 => ?_) ?_
                · go_simp
                  exact hK1.out _ _ ⟨Fr.alloc hF _, Or.inl ⟨true, true, false, false, true, false, x1, x2, V.heap.size, q, by simp, rfl, rfl, rfl, Fr.alloc hF _, hB1.fr (Fr.al _ _), hB2.fr (Fr.al _ _), fun _ => ⟨Go.heap_alloc_new V _, hF.size⟩, hA2.fr (Fr.al _ _), Px.new1 hA2⟩⟩
                refine AllS.cons rfl (fun K1 hK1 => ?_) ?_
                · go_simp
                  exact hK1.out _ _ ⟨Fr.alloc hF _, Or.inl ⟨true, true, false, false, false, true, x1, x2, p, V.heap.size, by simp, rfl, rfl, rfl, Fr.alloc hF _, hB1.fr (Fr.al _ _), hB2.fr (Fr.al _ _), hA1.fr (Fr.al _ _), fun _ => ⟨Go.heap_alloc_new V _, hF.size⟩, Px.new2 hA1⟩⟩
                exact AllS.nil
              | true =>
                right
                refine ⟨4, [6, 8], by simp at hn; omega, by kernel_rfl, by simp, ?_⟩
                simp only [cond_true, cond_false]
                refine AllS.cons rfl (fun K1 hK1 => ?_) ?_
                · go_simp
                  exact hK1.out _ _ ⟨Fr.alloc hF _, Or.inl ⟨true, true, true, false, false, true, x1, V.heap.size, p, q, by simp, rfl, rfl, rfl, Fr.alloc hF _, hB1.fr (Fr.al _ _), fun _ => Ri.two (Go.heap_alloc_new V _), hA1.fr (Fr.al _ _), hA2.fr (Fr.al _ _), hP⟩⟩
                refine AllS.cons rfl (fun K1 hK1 => ?_) ?_
                · go_simp
                  exact hK1.out _ _ ⟨Fr.alloc hF _, Or.inl ⟨true, true, false, false, true, true, x1, x2, V.heap.size, q, by simp, rfl, rfl, rfl, Fr.alloc hF _, hB1.fr (Fr.al _ _), hB2.fr (Fr.al _ _), fun _ => ⟨Go.heap_alloc_new V _, hF.size⟩, hA2.fr (Fr.al _ _), Px.new1 hA2⟩⟩
                exact AllS.nil
            | true =>
              cases a2 with
              | false =>
                right
                refine ⟨4, [6, 9], by simp at hn; omega, by kernel_rfl, by simp, ?_⟩
                simp only [cond_true, cond_false]
                refine AllS.cons rfl (fun K1 hK1 => ?_) ?_
                · go_simp
                  exact hK1.out _ _ ⟨Fr.alloc hF _, Or.inl ⟨true, true, true, false, true, false, x1, V.heap.size, p, q, by simp, rfl, rfl, rfl, Fr.alloc hF _, hB1.fr (Fr.al _ _), fun _ => Ri.two (Go.heap_alloc_new V _), hA1.fr (Fr.al _ _), hA2.fr (Fr.al _ _), hP⟩⟩
                refine AllS.cons rfl (fun K1 hK1 => ?_) ?_
                · go_simp
                  exact hK1.out _ _ ⟨Fr.alloc hF _, Or.inl ⟨true, true, false, false, true, true, x1, x2, p, V.heap.size, by simp, rfl, rfl, rfl, Fr.alloc hF _, hB1.fr (Fr.al _ _), hB2.fr (Fr.al _ _), hA1.fr (Fr.al _ _), fun _ => ⟨Go.heap_alloc_new V _, hF.size⟩, Px.new2 hA1⟩⟩
                exact AllS.nil
              | true =>
                right
                refine ⟨3, [6], by simp at hn; omega, by kernel_rfl, by simp, ?_⟩
                simp only [cond_true, cond_false]
                refine AllS.cons rfl (fun K1 hK1 => ?_) ?_
                · go_simp
                  exact hK1.out _ _ ⟨Fr.alloc hF _, Or.inl ⟨true, true, true, false, true, true, x1, V.heap.size, p, q, by simp, rfl, rfl, rfl, Fr.alloc hF _, hB1.fr (Fr.al _ _), fun _ => Ri.two (Go.heap_alloc_new V _), hA1.fr (Fr.al _ _), hA2.fr (Fr.al _ _), hP⟩⟩
                exact AllS.nil
          | true =>
            cases a1 with
            | false =>
              cases a2 with
              | false =>
                exact absurd (hv.2 rfl).1 (by decide)
              | true =>
                exact absurd (hv.2 rfl).1 (by decide)
            | true =>
              cases a2 with
              | false =>
                exact absurd (hv.2 rfl).1 (by decide)
              | true =>
                exact absurd (hv.2 rfl).1 (by decide)
        | true =>
          cases c2 with
          | false =>
            cases a1 with
            | false =>
              cases a2 with
              | false =>
                right
                refine ⟨4, [7, 8, 9], by simp at hn; omega, by kernel_rfl, by simp, ?_⟩
                simp only [cond_true, cond_false]
                refine AllS.cons rfl (fun K1 hK1 => ?_) ?_
                · go_simp
                  refine (KM.out V x2 (hB2 rfl)).mono ?_
                  rintro e V' ⟨rfl, fx⟩
                  exact hK1.out _ _ ⟨hF.trans fx (fun _ _ h => h), Or.inl ⟨true, true, true, true, false, false, x1, x2, p, q, by simp, rfl, rfl, rfl, hF.trans fx (fun _ _ h => h), hB1.fr fx, hB2.fr fx, hA1.fr fx, hA2.fr fx, hP⟩⟩
                refine AllS.cons rfl (fun K1 hK1 => ?_) ?_
                · go_simp
                  exact hK1.out _ _ ⟨Fr.alloc hF _, Or.inl ⟨true, true, true, false, true, false, x1, x2, V.heap.size, q, by simp, rfl, rfl, rfl, Fr.alloc hF _, hB1.fr (Fr.al _ _), hB2.fr (Fr.al _ _), fun _ => ⟨Go.heap_alloc_new V _, hF.size⟩, hA2.fr (Fr.al _ _), Px.new1 hA2⟩⟩
                refine AllS.cons rfl (fun K1 hK1 => ?_) ?_
                · go_simp
                  exact hK1.out _ _ ⟨Fr.alloc hF _, Or.inl ⟨true, true, true, false, false, true, x1, x2, p, V.heap.size, by simp, rfl, rfl, rfl, Fr.alloc hF _, hB1.fr (Fr.al _ _), hB2.fr (Fr.al _ _), hA1.fr (Fr.al _ _), fun _ => ⟨Go.heap_alloc_new V _, hF.size⟩, Px.new2 hA1⟩⟩
                exact AllS.nil
              | true =>
                right
                refine ⟨3, [7, 8], by simp at hn; omega, by kernel_rfl, by simp, ?_⟩
                simp only [cond_true, cond_false]
                refine AllS.cons rfl (fun K1 hK1 => ?_) ?_
                · go_simp
                  refine (KM.out V x2 (hB2 rfl)).mono ?_
                  rintro e V' ⟨rfl, fx⟩
                  exact hK1.out _ _ ⟨hF.trans fx (fun _ _ h => h), Or.inl ⟨true, true, true, true, false, true, x1, x2, p, q, by simp, rfl, rfl, rfl, hF.trans fx (fun _ _ h => h), hB1.fr fx, hB2.fr fx, hA1.fr fx, hA2.fr fx, hP⟩⟩
                refine AllS.cons rfl (fun K1 hK1 => ?_) ?_
                · go_simp
                  exact hK1.out _ _ ⟨Fr.alloc hF _, Or.inl ⟨true, true, true, false, true, true, x1, x2, V.heap.size, q, by simp, rfl, rfl, rfl, Fr.alloc hF _, hB1.fr (Fr.al _ _), hB2.fr (Fr.al _ _), fun _ => ⟨Go.heap_alloc_new V _, hF.size⟩, hA2.fr (Fr.al _ _), Px.new1 hA2⟩⟩
                exact AllS.nil
            | true =>
              cases a2 with
              | false =>
                right
                refine ⟨3, [7, 9], by simp at hn; omega, by kernel_rfl, by simp, ?_⟩
                simp only [cond_true, cond_false]
                refine AllS.cons rfl (fun K1 hK1 => ?_) ?_
                · go_simp
                  refine (KM.out V x2 (hB2 rfl)).mono ?_
                  rintro e V' ⟨rfl, fx⟩
                  exact hK1.out _ _ ⟨hF.trans fx (fun _ _ h => h), Or.inl ⟨true, true, true, true, true, false, x1, x2, p, q, by simp, rfl, rfl, rfl, hF.trans fx (fun _ _ h => h), hB1.fr fx, hB2.fr fx, hA1.fr fx, hA2.fr fx, hP⟩⟩
                refine AllS.cons rfl (fun K1 hK1 => ?_) ?_
                · go_simp
                  exact hK1.out _ _ ⟨Fr.alloc hF _, Or.inl ⟨true, true, true, false, true, true, x1, x2, p, V.heap.size, by simp, rfl, rfl, rfl, Fr.alloc hF _, hB1.fr (Fr.al _ _), hB2.fr (Fr.al _ _), hA1.fr (Fr.al _ _), fun _ => ⟨Go.heap_alloc_new V _, hF.size⟩, Px.new2 hA1⟩⟩
                exact AllS.nil
              | true =>
                right
                refine ⟨2, [7], by simp at hn; omega, by kernel_rfl, by simp, ?_⟩
                simp only [cond_true, cond_false]
                refine AllS.cons rfl (fun K1 hK1 => ?_) ?_
                · go_simp
                  refine (KM.out V x2 (hB2 rfl)).mono ?_
                  rintro e V' ⟨rfl, fx⟩
                  exact hK1.out _ _ ⟨hF.trans fx (fun _ _ h => h), Or.inl ⟨true, true, true, true, true, true, x1, x2, p, q, by simp, rfl, rfl, rfl, hF.trans fx (fun _ _ h => h), hB1.fr fx, hB2.fr fx, hA1.fr fx, hA2.fr fx, hP⟩⟩
                exact AllS.nil
          | true =>
            cases a1 with
            | false =>
              cases a2 with
              | false =>
                right
                refine ⟨3, [8, 9], by simp at hn; omega, by kernel_rfl, by simp, ?_⟩
                simp only [cond_true, cond_false]
                refine AllS.cons rfl (fun K1 hK1 => ?_) ?_
                · go_simp
                  exact hK1.out _ _ ⟨Fr.alloc hF _, Or.inl ⟨true, true, true, true, true, false, x1, x2, V.heap.size, q, by simp, rfl, rfl, rfl, Fr.alloc hF _, hB1.fr (Fr.al _ _), hB2.fr (Fr.al _ _), fun _ => ⟨Go.heap_alloc_new V _, hF.size⟩, hA2.fr (Fr.al _ _), Px.new1 hA2⟩⟩
                refine AllS.cons rfl (fun K1 hK1 => ?_) ?_
                · go_simp
                  exact hK1.out _ _ ⟨Fr.alloc hF _, Or.inl ⟨true, true, true, true, false, true, x1, x2, p, V.heap.size, by simp, rfl, rfl, rfl, Fr.alloc hF _, hB1.fr (Fr.al _ _), hB2.fr (Fr.al _ _), hA1.fr (Fr.al _ _), fun _ => ⟨Go.heap_alloc_new V _, hF.size⟩, Px.new2 hA1⟩⟩
                exact AllS.nil
              | true =>
                right
                refine ⟨2, [8], by simp at hn; omega, by kernel_rfl, by simp, ?_⟩
                simp only [cond_true, cond_false]
                refine AllS.cons rfl (fun K1 hK1 => ?_) ?_
                · go_simp
                  exact hK1.out _ _ ⟨Fr.alloc hF _, Or.inl ⟨true, true, true, true, true, true, x1, x2, V.heap.size, q, by simp, rfl, rfl, rfl, Fr.alloc hF _, hB1.fr (Fr.al _ _), hB2.fr (Fr.al _ _), fun _ => ⟨Go.heap_alloc_new V _, hF.size⟩, hA2.fr (Fr.al _ _), Px.new1 hA2⟩⟩
                exact AllS.nil
            | true =>
              cases a2 with
              | false =>
                right
                refine ⟨2, [9], by simp at hn; omega, by kernel_rfl, by simp, ?_⟩
                simp only [cond_true, cond_false]
                refine AllS.cons rfl (fun K1 hK1 => ?_) ?_
                · go_simp
                  exact hK1.out _ _ ⟨Fr.alloc hF _, Or.inl ⟨true, true, true, true, true, true, x1, x2, p, V.heap.size, by simp, rfl, rfl, rfl, Fr.alloc hF _, hB1.fr (Fr.al _ _), hB2.fr (Fr.al _ _), hA1.fr (Fr.al _ _), fun _ => ⟨Go.heap_alloc_new V _, hF.size⟩, Px.new2 hA1⟩⟩
                exact AllS.nil
              | true =>
                right
                refine ⟨1, [10], by simp at hn; omega, by kernel_rfl, by simp, ?_⟩
                obtain ⟨V2, st, hbV, fV⟩ := box_whole (V := V) (b := p) (c := V8 J) (hA1 rfl).1 rfl (by kernel_rfl) (by kernel_rfl)
                refine AllS.cons rfl (fun K1 hK1 => ?_) AllS.nil
                refine sstep_store (by kernel_rfl) st (by exact ⟨_, _, rfl, rfl, rfl⟩) ?_
                exact hK1.out _ _ ⟨hF.trans fV (fun i hi e => by have := (hA1 rfl).2; omega), Or.inr (Or.inl ⟨x1, x2, p, q, rfl, rfl, rfl, hF.trans fV (fun i hi e => by have := (hA1 rfl).2; omega), hbV, fV.cells (hA2 rfl).1 (fun e => hP rfl rfl e.symm), (hA2 rfl).2, hP rfl rfl⟩)⟩
  · right
    refine ⟨0, [11], rfl, by kernel_rfl, by simp, ?_⟩
    obtain ⟨V2, st, hbV, fV⟩ := box_whole (V := V) (b := q) (c := V8 M) h2 rfl (by kernel_rfl) (by kernel_rfl)
    refine AllS.cons rfl (fun K1 hK1 => ?_) AllS.nil
    refine sstep_store (by kernel_rfl) st (by exact ⟨_, _, rfl, rfl, rfl⟩) ?_
    exact hK1.out _ _ ⟨hF.trans fV (fun i hi e => by omega), Or.inr (Or.inr ⟨x1, x2, p, q, rfl, rfl, rfl, hF.trans fV (fun i hi e => by omega), fV.cells h1 (fun e => h4 e), hbV⟩)⟩
  left
  refine ⟨by kernel_rfl, ?_⟩
  dsimp only
  go_wp2_with fail
  have F1 := hid (F0.out.trans hF (fun _ _ h => h))
  have LA2 := hid (fun (U : World) (hf : Fr (fun _ => False) V U) => LA.out U (hF.trans hf (fun _ _ h => h)))
  have LB2 := hid (fun (U : World) (hf : Fr (fun _ => False) V U) => LB.out U (hF.trans hf (fun _ _ h => h)))
  have LC2 := hid (fun (U : World) (hf : Fr (fun _ => False) V U) => LC.out U (hF.trans hf (fun _ _ h => h)))
  have LJ := hid (fun (U : World) (hf : Fr (fun _ => False) V U) => load_whole (ty := 23) (h1.fr hf) Try.underlying23 rfl (by kernel_rfl))
  have LM := hid (fun (U : World) (hf : Fr (fun _ => False) V U) => load_whole (ty := 23) (h2.fr hf) Try.underlying23 rfl (by kernel_rfl))
  clear hS hF h1 h2 LA LB LC KJ KM
  refine wp_region_held (S := fun U => Fr (fun _ => False) V U) hmx ?_
  have hS := (show Fr (fun _ => False) V V.drew from Fr.drew (Fr.refl _ _))
  refine with_ops2 76 (List.toArray (false :: false :: false :: false :: false :: false :: false :: false :: false :: false :: false :: false :: false :: false :: false :: false :: false :: false :: false :: false :: false :: false :: false :: false :: false :: false :: false :: false :: false :: false :: false :: false :: false :: false :: false :: false :: false :: false :: false :: false :: false :: false :: false :: false :: false :: false :: false :: false :: false :: false :: false :: false :: false :: false :: false :: false :: false :: false :: false :: false :: false :: false :: false :: false :: false :: false :: false :: false :: false :: false :: false :: false :: false :: false :: false :: false :: [])) (by kernel_rfl) (by kernel_rfl) (fun O QQ hO hQ => ?_)
  have HO := hid hO
  have HQ := hid hQ
  have HQP : Hid (∀ c (a : Act) (d : Tmp) (v : Value) w, QQ (.panic c) (a.put (some d) v) w → QQ (.panic c) a w) := hid (by rw [hQ]; intro c a d v w h; exact h)
  clear hO hQ
  have HI0 : Hid (O[0]? = some ({ dst := some 17, op := Op.call { callee := Callee.value (Operand.func 6), args := #[], argTypes := #[] }, type := 4, pos := "law.go:83", after := #[], guard := none } : Oper)) := hid (by rw [HO.out]; kernel_rfl)
  have HI1 : Hid (O[1]? = some ({ dst := some 18, op := Op.move (Operand.tmp 17), type := 4, pos := "law.go:83", after := #[{ on := 0, ground := Ground.data }, { on := 0, ground := Ground.chain }], guard := none } : Oper)) := hid (by rw [HO.out]; kernel_rfl)
  have HI2 : Hid (O[2]? = some ({ dst := some 19, op := Op.load 23 (Operand.tmp 3), type := 23, pos := "law.go:83", after := #[{ on := 1, ground := Ground.guard }], guard := some (1, true) } : Oper)) := hid (by rw [HO.out]; kernel_rfl)
  have HI3 : Hid (O[3]? = some ({ dst := some 20, op := Op.load 23 (Operand.tmp 8), type := 23, pos := "law.go:83", after := #[{ on := 1, ground := Ground.guard }], guard := some (1, true) } : Oper)) := hid (by rw [HO.out]; kernel_rfl)
  have HI4 : Hid (O[4]? = some ({ dst := some 21, op := Op.buildSlice 28 2 #[(0, Operand.tmp 19), (1, Operand.tmp 20)], type := 28, pos := "law.go:83", after := #[{ on := 2, ground := Ground.data }, { on := 3, ground := Ground.data }, { on := 1, ground := Ground.guard }], guard := some (1, true) } : Oper)) := hid (by rw [HO.out]; kernel_rfl)
  have HI5 : Hid (O[5]? = some ({ dst := some 22, op := Op.call { callee := Callee.value (Operand.func 4), args := #[Operand.tmp 21], argTypes := #[28] }, type := 23, pos := "law.go:83", after := #[{ on := 4, ground := Ground.data }, { on := 1, ground := Ground.chain }, { on := 1, ground := Ground.guard }], guard := some (1, true) } : Oper)) := hid (by rw [HO.out]; kernel_rfl)
  have HI6 : Hid (O[6]? = some ({ dst := some 23, op := Op.load 23 (Operand.tmp 3), type := 23, pos := "law.go:83", after := #[{ on := 1, ground := Ground.guard }], guard := some (1, true) } : Oper)) := hid (by rw [HO.out]; kernel_rfl)
  have HI7 : Hid (O[7]? = some ({ dst := some 24, op := Op.binOp BinOp.eql 23 (Operand.tmp 22) (Operand.tmp 23) 23, type := 4, pos := "law.go:83", after := #[{ on := 5, ground := Ground.data }, { on := 6, ground := Ground.data }, { on := 1, ground := Ground.guard }], guard := some (1, true) } : Oper)) := hid (by rw [HO.out]; kernel_rfl)
  have HI8 : Hid (O[8]? = some ({ dst := some 25, op := Op.pick (Operand.tmp 18) (Operand.tmp 24) (Operand.const (Value.bool false)), type := 4, pos := "law.go:83", after := #[{ on := 1, ground := Ground.data }, { on := 7, ground := Ground.data }], guard := none } : Oper)) := hid (by rw [HO.out]; kernel_rfl)
  have HI9 : Hid (O[9]? = some ({ dst := some 26, op := Op.move (Operand.tmp 25), type := 4, pos := "law.go:83", after := #[{ on := 8, ground := Ground.data }, { on := 5, ground := Ground.chain }], guard := none } : Oper)) := hid (by rw [HO.out]; kernel_rfl)
  have HI10 : Hid (O[10]? = some ({ dst := some 27, op := Op.load 23 (Operand.tmp 3), type := 23, pos := "law.go:83", after := #[{ on := 9, ground := Ground.guard }], guard := some (9, true) } : Oper)) := hid (by rw [HO.out]; kernel_rfl)
  have HI11 : Hid (O[11]? = some ({ dst := some 28, op := Op.load 23 (Operand.tmp 7), type := 23, pos := "law.go:83", after := #[{ on := 9, ground := Ground.guard }], guard := some (9, true) } : Oper)) := hid (by rw [HO.out]; kernel_rfl)
  have HI12 : Hid (O[12]? = some ({ dst := some 29, op := Op.buildSlice 28 2 #[(0, Operand.tmp 27), (1, Operand.tmp 28)], type := 28, pos := "law.go:83", after := #[{ on := 10, ground := Ground.data }, { on := 11, ground := Ground.data }, { on := 9, ground := Ground.guard }], guard := some (9, true) } : Oper)) := hid (by rw [HO.out]; kernel_rfl)
  have HI13 : Hid (O[13]? = some ({ dst := some 30, op := Op.call { callee := Callee.value (Operand.func 5), args := #[Operand.tmp 29], argTypes := #[28] }, type := 23, pos := "law.go:83", after := #[{ on := 12, ground := Ground.data }, { on := 9, ground := Ground.chain }, { on := 9, ground := Ground.guard }], guard := some (9, true) } : Oper)) := hid (by rw [HO.out]; kernel_rfl)
  have HI14 : Hid (O[14]? = some ({ dst := some 31, op := Op.load 23 (Operand.tmp 3), type := 23, pos := "law.go:83", after := #[{ on := 9, ground := Ground.guard }], guard := some (9, true) } : Oper)) := hid (by rw [HO.out]; kernel_rfl)
  have HI15 : Hid (O[15]? = some ({ dst := some 32, op := Op.binOp BinOp.eql 23 (Operand.tmp 30) (Operand.tmp 31) 23, type := 4, pos := "law.go:83", after := #[{ on := 13, ground := Ground.data }, { on := 14, ground := Ground.data }, { on := 9, ground := Ground.guard }], guard := some (9, true) } : Oper)) := hid (by rw [HO.out]; kernel_rfl)
  have HI16 : Hid (O[16]? = some ({ dst := some 33, op := Op.pick (Operand.tmp 26) (Operand.tmp 32) (Operand.const (Value.bool false)), type := 4, pos := "law.go:83", after := #[{ on := 9, ground := Ground.data }, { on := 15, ground := Ground.data }], guard := none } : Oper)) := hid (by rw [HO.out]; kernel_rfl)
  have HI17 : Hid (O[17]? = some ({ dst := some 34, op := Op.move (Operand.tmp 33), type := 4, pos := "law.go:83", after := #[{ on := 16, ground := Ground.data }, { on := 13, ground := Ground.chain }], guard := none } : Oper)) := hid (by rw [HO.out]; kernel_rfl)
  have HI18 : Hid (O[18]? = some ({ dst := some 35, op := Op.load 23 (Operand.tmp 3), type := 23, pos := "law.go:83", after := #[{ on := 17, ground := Ground.guard }], guard := some (17, true) } : Oper)) := hid (by rw [HO.out]; kernel_rfl)
  have HI19 : Hid (O[19]? = some ({ dst := some 36, op := Op.load 23 (Operand.tmp 3), type := 23, pos := "law.go:83", after := #[{ on := 17, ground := Ground.guard }], guard := some (17, true) } : Oper)) := hid (by rw [HO.out]; kernel_rfl)
  have HI20 : Hid (O[20]? = some ({ dst := some 37, op := Op.buildSlice 28 2 #[(0, Operand.tmp 35), (1, Operand.tmp 36)], type := 28, pos := "law.go:83", after := #[{ on := 18, ground := Ground.data }, { on := 19, ground := Ground.data }, { on := 17, ground := Ground.guard }], guard := some (17, true) } : Oper)) := hid (by rw [HO.out]; kernel_rfl)
  have HI21 : Hid (O[21]? = some ({ dst := some 38, op := Op.call { callee := Callee.value (Operand.func 4), args := #[Operand.tmp 37], argTypes := #[28] }, type := 23, pos := "law.go:83", after := #[{ on := 20, ground := Ground.data }, { on := 17, ground := Ground.chain }, { on := 17, ground := Ground.guard }], guard := some (17, true) } : Oper)) := hid (by rw [HO.out]; kernel_rfl)
  have HI22 : Hid (O[22]? = some ({ dst := some 39, op := Op.load 23 (Operand.tmp 3), type := 23, pos := "law.go:83", after := #[{ on := 17, ground := Ground.guard }], guard := some (17, true) } : Oper)) := hid (by rw [HO.out]; kernel_rfl)
  have HI23 : Hid (O[23]? = some ({ dst := some 40, op := Op.binOp BinOp.eql 23 (Operand.tmp 38) (Operand.tmp 39) 23, type := 4, pos := "law.go:83", after := #[{ on := 21, ground := Ground.data }, { on := 22, ground := Ground.data }, { on := 17, ground := Ground.guard }], guard := some (17, true) } : Oper)) := hid (by rw [HO.out]; kernel_rfl)
  have HI24 : Hid (O[24]? = some ({ dst := some 41, op := Op.pick (Operand.tmp 34) (Operand.tmp 40) (Operand.const (Value.bool false)), type := 4, pos := "law.go:83", after := #[{ on := 17, ground := Ground.data }, { on := 23, ground := Ground.data }], guard := none } : Oper)) := hid (by rw [HO.out]; kernel_rfl)
  have HI25 : Hid (O[25]? = some ({ dst := some 42, op := Op.move (Operand.tmp 41), type := 4, pos := "law.go:83", after := #[{ on := 24, ground := Ground.data }, { on := 21, ground := Ground.chain }], guard := none } : Oper)) := hid (by rw [HO.out]; kernel_rfl)
  have HI26 : Hid (O[26]? = some ({ dst := some 43, op := Op.load 23 (Operand.tmp 3), type := 23, pos := "law.go:83", after := #[{ on := 25, ground := Ground.guard }], guard := some (25, true) } : Oper)) := hid (by rw [HO.out]; kernel_rfl)
  have HI27 : Hid (O[27]? = some ({ dst := some 44, op := Op.load 23 (Operand.tmp 4), type := 23, pos := "law.go:83", after := #[{ on := 25, ground := Ground.guard }], guard := some (25, true) } : Oper)) := hid (by rw [HO.out]; kernel_rfl)
  have HI28 : Hid (O[28]? = some ({ dst := some 45, op := Op.load 23 (Operand.tmp 5), type := 23, pos := "law.go:83", after := #[{ on := 25, ground := Ground.guard }], guard := some (25, true) } : Oper)) := hid (by rw [HO.out]; kernel_rfl)
  have HI29 : Hid (O[29]? = some ({ dst := some 46, op := Op.buildSlice 28 3 #[(0, Operand.tmp 43), (1, Operand.tmp 44), (2, Operand.tmp 45)], type := 28, pos := "law.go:83", after := #[{ on := 26, ground := Ground.data }, { on := 27, ground := Ground.data }, { on := 28, ground := Ground.data }, { on := 25, ground := Ground.guard }], guard := some (25, true) } : Oper)) := hid (by rw [HO.out]; kernel_rfl)
  have HI30 : Hid (O[30]? = some ({ dst := some 47, op := Op.call { callee := Callee.value (Operand.func 4), args := #[Operand.tmp 46], argTypes := #[28] }, type := 23, pos := "law.go:83", after := #[{ on := 29, ground := Ground.data }, { on := 25, ground := Ground.chain }, { on := 25, ground := Ground.guard }], guard := some (25, true) } : Oper)) := hid (by rw [HO.out]; kernel_rfl)
  have HI31 : Hid (O[31]? = some ({ dst := some 48, op := Op.load 23 (Operand.tmp 3), type := 23, pos := "law.go:83", after := #[{ on := 25, ground := Ground.guard }], guard := some (25, true) } : Oper)) := hid (by rw [HO.out]; kernel_rfl)
  have HI32 : Hid (O[32]? = some ({ dst := some 49, op := Op.load 23 (Operand.tmp 4), type := 23, pos := "law.go:83", after := #[{ on := 25, ground := Ground.guard }], guard := some (25, true) } : Oper)) := hid (by rw [HO.out]; kernel_rfl)
  have HI33 : Hid (O[33]? = some ({ dst := some 50, op := Op.load 23 (Operand.tmp 5), type := 23, pos := "law.go:83", after := #[{ on := 25, ground := Ground.guard }], guard := some (25, true) } : Oper)) := hid (by rw [HO.out]; kernel_rfl)
  have HI34 : Hid (O[34]? = some ({ dst := some 51, op := Op.buildSlice 28 2 #[(0, Operand.tmp 49), (1, Operand.tmp 50)], type := 28, pos := "law.go:83", after := #[{ on := 32, ground := Ground.data }, { on := 33, ground := Ground.data }, { on := 25, ground := Ground.guard }], guard := some (25, true) } : Oper)) := hid (by rw [HO.out]; kernel_rfl)
  have HI35 : Hid (O[35]? = some ({ dst := some 52, op := Op.call { callee := Callee.value (Operand.func 4), args := #[Operand.tmp 51], argTypes := #[28] }, type := 23, pos := "law.go:83", after := #[{ on := 34, ground := Ground.data }, { on := 30, ground := Ground.chain }, { on := 25, ground := Ground.guard }], guard := some (25, true) } : Oper)) := hid (by rw [HO.out]; kernel_rfl)
  have HI36 : Hid (O[36]? = some ({ dst := some 53, op := Op.buildSlice 28 2 #[(0, Operand.tmp 48), (1, Operand.tmp 52)], type := 28, pos := "law.go:83", after := #[{ on := 31, ground := Ground.data }, { on := 35, ground := Ground.data }, { on := 25, ground := Ground.guard }], guard := some (25, true) } : Oper)) := hid (by rw [HO.out]; kernel_rfl)
  have HI37 : Hid (O[37]? = some ({ dst := some 54, op := Op.call { callee := Callee.value (Operand.func 4), args := #[Operand.tmp 53], argTypes := #[28] }, type := 23, pos := "law.go:83", after := #[{ on := 36, ground := Ground.data }, { on := 35, ground := Ground.chain }, { on := 25, ground := Ground.guard }], guard := some (25, true) } : Oper)) := hid (by rw [HO.out]; kernel_rfl)
  have HI38 : Hid (O[38]? = some ({ dst := some 55, op := Op.binOp BinOp.eql 23 (Operand.tmp 47) (Operand.tmp 54) 23, type := 4, pos := "law.go:83", after := #[{ on := 30, ground := Ground.data }, { on := 37, ground := Ground.data }, { on := 25, ground := Ground.guard }], guard := some (25, true) } : Oper)) := hid (by rw [HO.out]; kernel_rfl)
  have HI39 : Hid (O[39]? = some ({ dst := some 56, op := Op.pick (Operand.tmp 42) (Operand.tmp 55) (Operand.const (Value.bool false)), type := 4, pos := "law.go:83", after := #[{ on := 25, ground := Ground.data }, { on := 38, ground := Ground.data }], guard := none } : Oper)) := hid (by rw [HO.out]; kernel_rfl)
  have HI40 : Hid (O[40]? = some ({ dst := some 57, op := Op.move (Operand.tmp 56), type := 4, pos := "law.go:83", after := #[{ on := 39, ground := Ground.data }, { on := 37, ground := Ground.chain }], guard := none } : Oper)) := hid (by rw [HO.out]; kernel_rfl)
  have HI41 : Hid (O[41]? = some ({ dst := some 58, op := Op.load 23 (Operand.tmp 3), type := 23, pos := "law.go:83", after := #[{ on := 40, ground := Ground.guard }], guard := some (40, true) } : Oper)) := hid (by rw [HO.out]; kernel_rfl)
  have HI42 : Hid (O[42]? = some ({ dst := some 59, op := Op.load 23 (Operand.tmp 4), type := 23, pos := "law.go:83", after := #[{ on := 40, ground := Ground.guard }], guard := some (40, true) } : Oper)) := hid (by rw [HO.out]; kernel_rfl)
  have HI43 : Hid (O[43]? = some ({ dst := some 60, op := Op.load 23 (Operand.tmp 5), type := 23, pos := "law.go:83", after := #[{ on := 40, ground := Ground.guard }], guard := some (40, true) } : Oper)) := hid (by rw [HO.out]; kernel_rfl)
  have HI44 : Hid (O[44]? = some ({ dst := some 61, op := Op.buildSlice 28 2 #[(0, Operand.tmp 59), (1, Operand.tmp 60)], type := 28, pos := "law.go:83", after := #[{ on := 42, ground := Ground.data }, { on := 43, ground := Ground.data }, { on := 40, ground := Ground.guard }], guard := some (40, true) } : Oper)) := hid (by rw [HO.out]; kernel_rfl)
  have HI45 : Hid (O[45]? = some ({ dst := some 62, op := Op.call { callee := Callee.value (Operand.func 4), args := #[Operand.tmp 61], argTypes := #[28] }, type := 23, pos := "law.go:84", after := #[{ on := 44, ground := Ground.data }, { on := 40, ground := Ground.chain }, { on := 40, ground := Ground.guard }], guard := some (40, true) } : Oper)) := hid (by rw [HO.out]; kernel_rfl)
  have HI46 : Hid (O[46]? = some ({ dst := some 63, op := Op.buildSlice 28 2 #[(0, Operand.tmp 58), (1, Operand.tmp 62)], type := 28, pos := "law.go:83", after := #[{ on := 41, ground := Ground.data }, { on := 45, ground := Ground.data }, { on := 40, ground := Ground.guard }], guard := some (40, true) } : Oper)) := hid (by rw [HO.out]; kernel_rfl)
  have HI47 : Hid (O[47]? = some ({ dst := some 64, op := Op.call { callee := Callee.value (Operand.func 5), args := #[Operand.tmp 63], argTypes := #[28] }, type := 23, pos := "law.go:84", after := #[{ on := 46, ground := Ground.data }, { on := 45, ground := Ground.chain }, { on := 40, ground := Ground.guard }], guard := some (40, true) } : Oper)) := hid (by rw [HO.out]; kernel_rfl)
  have HI48 : Hid (O[48]? = some ({ dst := some 65, op := Op.load 23 (Operand.tmp 8), type := 23, pos := "law.go:83", after := #[{ on := 40, ground := Ground.guard }], guard := some (40, true) } : Oper)) := hid (by rw [HO.out]; kernel_rfl)
  have HI49 : Hid (O[49]? = some ({ dst := some 66, op := Op.load 23 (Operand.tmp 3), type := 23, pos := "law.go:83", after := #[{ on := 40, ground := Ground.guard }], guard := some (40, true) } : Oper)) := hid (by rw [HO.out]; kernel_rfl)
  have HI50 : Hid (O[50]? = some ({ dst := some 67, op := Op.load 23 (Operand.tmp 5), type := 23, pos := "law.go:83", after := #[{ on := 40, ground := Ground.guard }], guard := some (40, true) } : Oper)) := hid (by rw [HO.out]; kernel_rfl)
  have HI51 : Hid (O[51]? = some ({ dst := some 68, op := Op.buildSlice 28 2 #[(0, Operand.tmp 66), (1, Operand.tmp 67)], type := 28, pos := "law.go:83", after := #[{ on := 49, ground := Ground.data }, { on := 50, ground := Ground.data }, { on := 40, ground := Ground.guard }], guard := some (40, true) } : Oper)) := hid (by rw [HO.out]; kernel_rfl)
  have HI52 : Hid (O[52]? = some ({ dst := some 69, op := Op.call { callee := Callee.value (Operand.func 5), args := #[Operand.tmp 68], argTypes := #[28] }, type := 23, pos := "law.go:84", after := #[{ on := 51, ground := Ground.data }, { on := 47, ground := Ground.chain }, { on := 40, ground := Ground.guard }], guard := some (40, true) } : Oper)) := hid (by rw [HO.out]; kernel_rfl)
  have HI53 : Hid (O[53]? = some ({ dst := some 70, op := Op.buildSlice 28 2 #[(0, Operand.tmp 65), (1, Operand.tmp 69)], type := 28, pos := "law.go:83", after := #[{ on := 48, ground := Ground.data }, { on := 52, ground := Ground.data }, { on := 40, ground := Ground.guard }], guard := some (40, true) } : Oper)) := hid (by rw [HO.out]; kernel_rfl)
  have HI54 : Hid (O[54]? = some ({ dst := some 71, op := Op.call { callee := Callee.value (Operand.func 4), args := #[Operand.tmp 70], argTypes := #[28] }, type := 23, pos := "law.go:84", after := #[{ on := 53, ground := Ground.data }, { on := 52, ground := Ground.chain }, { on := 40, ground := Ground.guard }], guard := some (40, true) } : Oper)) := hid (by rw [HO.out]; kernel_rfl)
  have HI55 : Hid (O[55]? = some ({ dst := some 72, op := Op.binOp BinOp.eql 23 (Operand.tmp 64) (Operand.tmp 71) 23, type := 4, pos := "law.go:83", after := #[{ on := 47, ground := Ground.data }, { on := 54, ground := Ground.data }, { on := 40, ground := Ground.guard }], guard := some (40, true) } : Oper)) := hid (by rw [HO.out]; kernel_rfl)
  have HI56 : Hid (O[56]? = some ({ dst := some 73, op := Op.pick (Operand.tmp 57) (Operand.tmp 72) (Operand.const (Value.bool false)), type := 4, pos := "law.go:83", after := #[{ on := 40, ground := Ground.data }, { on := 55, ground := Ground.data }], guard := none } : Oper)) := hid (by rw [HO.out]; kernel_rfl)
  have HI57 : Hid (O[57]? = some ({ dst := some 74, op := Op.move (Operand.tmp 73), type := 4, pos := "law.go:83", after := #[{ on := 56, ground := Ground.data }, { on := 54, ground := Ground.chain }], guard := none } : Oper)) := hid (by rw [HO.out]; kernel_rfl)
  have HI58 : Hid (O[58]? = some ({ dst := some 75, op := Op.load 23 (Operand.tmp 3), type := 23, pos := "law.go:83", after := #[{ on := 57, ground := Ground.guard }], guard := some (57, true) } : Oper)) := hid (by rw [HO.out]; kernel_rfl)
  have HI59 : Hid (O[59]? = some ({ dst := some 76, op := Op.load 23 (Operand.tmp 4), type := 23, pos := "law.go:83", after := #[{ on := 57, ground := Ground.guard }], guard := some (57, true) } : Oper)) := hid (by rw [HO.out]; kernel_rfl)
  have HI60 : Hid (O[60]? = some ({ dst := some 77, op := Op.call { callee := Callee.value (Operand.func 7), args := #[Operand.tmp 75, Operand.tmp 76], argTypes := #[23, 23] }, type := 4, pos := "law.go:84", after := #[{ on := 58, ground := Ground.data }, { on := 59, ground := Ground.data }, { on := 57, ground := Ground.chain }, { on := 57, ground := Ground.guard }], guard := some (57, true) } : Oper)) := hid (by rw [HO.out]; kernel_rfl)
  have HI61 : Hid (O[61]? = some ({ dst := some 78, op := Op.load 23 (Operand.tmp 7), type := 23, pos := "law.go:83", after := #[{ on := 57, ground := Ground.guard }], guard := some (57, true) } : Oper)) := hid (by rw [HO.out]; kernel_rfl)
  have HI62 : Hid (O[62]? = some ({ dst := some 79, op := Op.load 23 (Operand.tmp 3), type := 23, pos := "law.go:83", after := #[{ on := 57, ground := Ground.guard }], guard := some (57, true) } : Oper)) := hid (by rw [HO.out]; kernel_rfl)
  have HI63 : Hid (O[63]? = some ({ dst := some 80, op := Op.binOp BinOp.eql 23 (Operand.tmp 78) (Operand.tmp 79) 23, type := 4, pos := "law.go:83", after := #[{ on := 61, ground := Ground.data }, { on := 62, ground := Ground.data }, { on := 57, ground := Ground.guard }], guard := some (57, true) } : Oper)) := hid (by rw [HO.out]; kernel_rfl)
  have HI64 : Hid (O[64]? = some ({ dst := some 81, op := Op.binOp BinOp.eql 4 (Operand.tmp 77) (Operand.tmp 80) 4, type := 4, pos := "law.go:83", after := #[{ on := 60, ground := Ground.data }, { on := 63, ground := Ground.data }, { on := 57, ground := Ground.guard }], guard := some (57, true) } : Oper)) := hid (by rw [HO.out]; kernel_rfl)
  have HI65 : Hid (O[65]? = some ({ dst := some 82, op := Op.pick (Operand.tmp 74) (Operand.tmp 81) (Operand.const (Value.bool false)), type := 4, pos := "law.go:83", after := #[{ on := 57, ground := Ground.data }, { on := 64, ground := Ground.data }], guard := none } : Oper)) := hid (by rw [HO.out]; kernel_rfl)
  have HI66 : Hid (O[66]? = some ({ dst := some 83, op := Op.move (Operand.tmp 82), type := 4, pos := "law.go:83", after := #[{ on := 65, ground := Ground.data }, { on := 60, ground := Ground.chain }], guard := none } : Oper)) := hid (by rw [HO.out]; kernel_rfl)
  have HI67 : Hid (O[67]? = some ({ dst := some 84, op := Op.load 23 (Operand.tmp 3), type := 23, pos := "law.go:83", after := #[{ on := 66, ground := Ground.guard }], guard := some (66, true) } : Oper)) := hid (by rw [HO.out]; kernel_rfl)
  have HI68 : Hid (O[68]? = some ({ dst := some 85, op := Op.load 23 (Operand.tmp 4), type := 23, pos := "law.go:83", after := #[{ on := 66, ground := Ground.guard }], guard := some (66, true) } : Oper)) := hid (by rw [HO.out]; kernel_rfl)
  have HI69 : Hid (O[69]? = some ({ dst := some 86, op := Op.call { callee := Callee.value (Operand.func 7), args := #[Operand.tmp 84, Operand.tmp 85], argTypes := #[23, 23] }, type := 4, pos := "law.go:84", after := #[{ on := 67, ground := Ground.data }, { on := 68, ground := Ground.data }, { on := 66, ground := Ground.chain }, { on := 66, ground := Ground.guard }], guard := some (66, true) } : Oper)) := hid (by rw [HO.out]; kernel_rfl)
  have HI70 : Hid (O[70]? = some ({ dst := some 87, op := Op.load 23 (Operand.tmp 8), type := 23, pos := "law.go:83", after := #[{ on := 66, ground := Ground.guard }], guard := some (66, true) } : Oper)) := hid (by rw [HO.out]; kernel_rfl)
  have HI71 : Hid (O[71]? = some ({ dst := some 88, op := Op.load 23 (Operand.tmp 4), type := 23, pos := "law.go:83", after := #[{ on := 66, ground := Ground.guard }], guard := some (66, true) } : Oper)) := hid (by rw [HO.out]; kernel_rfl)
  have HI72 : Hid (O[72]? = some ({ dst := some 89, op := Op.binOp BinOp.eql 23 (Operand.tmp 87) (Operand.tmp 88) 23, type := 4, pos := "law.go:83", after := #[{ on := 70, ground := Ground.data }, { on := 71, ground := Ground.data }, { on := 66, ground := Ground.guard }], guard := some (66, true) } : Oper)) := hid (by rw [HO.out]; kernel_rfl)
  have HI73 : Hid (O[73]? = some ({ dst := some 90, op := Op.binOp BinOp.eql 4 (Operand.tmp 86) (Operand.tmp 89) 4, type := 4, pos := "law.go:83", after := #[{ on := 69, ground := Ground.data }, { on := 72, ground := Ground.data }, { on := 66, ground := Ground.guard }], guard := some (66, true) } : Oper)) := hid (by rw [HO.out]; kernel_rfl)
  have HI74 : Hid (O[74]? = some ({ dst := some 91, op := Op.pick (Operand.tmp 83) (Operand.tmp 90) (Operand.const (Value.bool false)), type := 4, pos := "law.go:83", after := #[{ on := 66, ground := Ground.data }, { on := 73, ground := Ground.data }], guard := none } : Oper)) := hid (by rw [HO.out]; kernel_rfl)
  have HI75 : Hid (O[75]? = some ({ dst := some 6, op := Op.assign (Operand.tmp 91), type := 4, pos := "law.go:83", after := ([{ on := 74, ground := Ground.data }, { on := 69, ground := Ground.chain }, { on := 0, ground := Ground.phase }, { on := 1, ground := Ground.phase }, { on := 2, ground := Ground.phase }, { on := 3, ground := Ground.phase }, { on := 4, ground := Ground.phase }, { on := 5, ground := Ground.phase }, { on := 6, ground := Ground.phase }, { on := 7, ground := Ground.phase }, { on := 8, ground := Ground.phase }, { on := 9, ground := Ground.phase }, { on := 10, ground := Ground.phase }, { on := 11, ground := Ground.phase }, { on := 12, ground := Ground.phase }, { on := 13, ground := Ground.phase }, { on := 14, ground := Ground.phase }, { on := 15, ground := Ground.phase }, { on := 16, ground := Ground.phase }, { on := 17, ground := Ground.phase }, { on := 18, ground := Ground.phase }, { on := 19, ground := Ground.phase }, { on := 20, ground := Ground.phase }, { on := 21, ground := Ground.phase }, { on := 22, ground := Ground.phase }, { on := 23, ground := Ground.phase }, { on := 24, ground := Ground.phase }, { on := 25, ground := Ground.phase }, { on := 26, ground := Ground.phase }, { on := 27, ground := Ground.phase }, { on := 28, ground := Ground.phase }, { on := 29, ground := Ground.phase }, { on := 30, ground := Ground.phase }, { on := 31, ground := Ground.phase }, { on := 32, ground := Ground.phase }, { on := 33, ground := Ground.phase }, { on := 34, ground := Ground.phase }, { on := 35, ground := Ground.phase }].append [{ on := 36, ground := Ground.phase }, { on := 37, ground := Ground.phase }, { on := 38, ground := Ground.phase }, { on := 39, ground := Ground.phase }, { on := 40, ground := Ground.phase }, { on := 41, ground := Ground.phase }, { on := 42, ground := Ground.phase }, { on := 43, ground := Ground.phase }, { on := 44, ground := Ground.phase }, { on := 45, ground := Ground.phase }, { on := 46, ground := Ground.phase }, { on := 47, ground := Ground.phase }, { on := 48, ground := Ground.phase }, { on := 49, ground := Ground.phase }, { on := 50, ground := Ground.phase }, { on := 51, ground := Ground.phase }, { on := 52, ground := Ground.phase }, { on := 53, ground := Ground.phase }, { on := 54, ground := Ground.phase }, { on := 55, ground := Ground.phase }, { on := 56, ground := Ground.phase }, { on := 57, ground := Ground.phase }, { on := 58, ground := Ground.phase }, { on := 59, ground := Ground.phase }, { on := 60, ground := Ground.phase }, { on := 61, ground := Ground.phase }, { on := 62, ground := Ground.phase }, { on := 63, ground := Ground.phase }, { on := 64, ground := Ground.phase }, { on := 65, ground := Ground.phase }, { on := 66, ground := Ground.phase }, { on := 67, ground := Ground.phase }, { on := 68, ground := Ground.phase }, { on := 69, ground := Ground.phase }, { on := 70, ground := Ground.phase }, { on := 71, ground := Ground.phase }, { on := 72, ground := Ground.phase }, { on := 73, ground := Ground.phase }, { on := 74, ground := Ground.phase }]).toArray, guard := none } : Oper)) := hid (by rw [HO.out]; kernel_rfl)
  have REST57 : ∀ (u9 u10 u11 u12 u13 u14 u15 u16 u17 u18 u19 u20 u21 u22 u23 u24 u25 u26 u27 u28 u29 u30 u31 u32 u33 u34 u35 u36 u37 u38 u39 u40 u41 u42 u43 u44 u45 u46 u47 u48 u49 u50 u51 u52 u53 u54 u55 u56 u57 u58 u59 u60 u61 u62 u63 u64 u65 u66 u67 u68 u69 u70 u71 u72 u73 : Value) (U : World), Fr (fun _ => False) V U → wpAnyH Try.prog .any O QQ (fun U => Fr (fun _ => False) V U) 18 (List.toArray (true :: true :: true :: true :: true :: true :: true :: true :: true :: true :: true :: true :: true :: true :: true :: true :: true :: true :: true :: true :: true :: true :: true :: true :: true :: true :: true :: true :: true :: true :: true :: true :: true :: true :: true :: true :: true :: true :: true :: true :: true :: true :: true :: true :: true :: true :: true :: true :: true :: true :: true :: true :: true :: true :: true :: true :: true :: true :: false :: false :: false :: false :: false :: false :: false :: false :: false :: false :: false :: false :: false :: false :: false :: false :: false :: false :: [])) ⟨List.toArray ((.agg (V8 f)) :: (.agg (V8 g)) :: (.agg (V8 h)) :: (.pointer (some ⟨w.heap.size, 0, none⟩)) :: (.pointer (some ⟨w.heap.size + 1, 0, none⟩)) :: (.pointer (some ⟨w.heap.size + 1 + 1, 0, none⟩)) :: (.bool false) :: (.pointer (some ⟨p, 0, none⟩)) :: (.pointer (some ⟨q, 0, none⟩)) :: (u9) :: (u10) :: (u11) :: (u12) :: (u13) :: (u14) :: (u15) :: (u16) :: (u17) :: (u18) :: (u19) :: (u20) :: (u21) :: (u22) :: (u23) :: (u24) :: (u25) :: (u26) :: (u27) :: (u28) :: (u29) :: (u30) :: (u31) :: (u32) :: (u33) :: (u34) :: (u35) :: (u36) :: (u37) :: (u38) :: (u39) :: (u40) :: (u41) :: (u42) :: (u43) :: (u44) :: (u45) :: (u46) :: (u47) :: (u48) :: (u49) :: (u50) :: (u51) :: (u52) :: (u53) :: (u54) :: (u55) :: (u56) :: (u57) :: (u58) :: (u59) :: (u60) :: (u61) :: (u62) :: (u63) :: (u64) :: (u65) :: (u66) :: (u67) :: (u68) :: (u69) :: (u70) :: (u71) :: (u72) :: (u73) :: (.bool true) :: (undef) :: (undef) :: (undef) :: (undef) :: (undef) :: (undef) :: (undef) :: (undef) :: (undef) :: (undef) :: (undef) :: (undef) :: (undef) :: (undef) :: (undef) :: (undef) :: (undef) :: []), []⟩ U := by
    intro u9 u10 u11 u12 u13 u14 u15 u16 u17 u18 u19 u20 u21 u22 u23 u24 u25 u26 u27 u28 u29 u30 u31 u32 u33 u34 u35 u36 u37 u38 u39 u40 u41 u42 u43 u44 u45 u46 u47 u48 u49 u50 u51 u52 u53 u54 u55 u56 u57 u58 u59 u60 u61 u62 u63 u64 u65 u66 u67 u68 u69 u70 u71 u72 u73 U hS
    refine wpAnyH_take (i := 58) HI58.out (by rw [HO.out]; kernel_rfl) (by rw [HO.out]; kernel_rfl) (by rw [HO.out]; kernel_rfl) (fun c a w h => HQP.out c a 75 _ w h) (jyload (by rw [HO.out]; kernel_rfl) (by exact ⟨_, rfl, rfl⟩) (fun w' hS' => LA2.out w' hS')) hS ?_
    simp only [List.getElem_toArray, List.getElem_cons_zero, List.getElem_cons_succ, Act.put, List.setIfInBounds_toArray, List.set_cons_zero, List.set_cons_succ]
    refine wpAnyH_take (i := 59) HI59.out (by rw [HO.out]; kernel_rfl) (by rw [HO.out]; kernel_rfl) (by rw [HO.out]; kernel_rfl) (fun c a w h => HQP.out c a 76 _ w h) (jyload (by rw [HO.out]; kernel_rfl) (by exact ⟨_, rfl, rfl⟩) (fun w' hS' => LB2.out w' hS')) hS ?_
    simp only [List.getElem_toArray, List.getElem_cons_zero, List.getElem_cons_succ, Act.put, List.setIfInBounds_toArray, List.set_cons_zero, List.set_cons_succ]
    refine wpAnyH_take (i := 61) HI61.out (by rw [HO.out]; kernel_rfl) (by rw [HO.out]; kernel_rfl) (by rw [HO.out]; kernel_rfl) (fun c a w h => HQP.out c a 78 _ w h) (jyload (by rw [HO.out]; kernel_rfl) (by exact ⟨_, rfl, rfl⟩) (fun w' hS' => LJ.out w' hS')) hS ?_
    simp only [List.getElem_toArray, List.getElem_cons_zero, List.getElem_cons_succ, Act.put, List.setIfInBounds_toArray, List.set_cons_zero, List.set_cons_succ]
    refine wpAnyH_take (i := 62) HI62.out (by rw [HO.out]; kernel_rfl) (by rw [HO.out]; kernel_rfl) (by rw [HO.out]; kernel_rfl) (fun c a w h => HQP.out c a 79 _ w h) (jyload (by rw [HO.out]; kernel_rfl) (by exact ⟨_, rfl, rfl⟩) (fun w' hS' => LA2.out w' hS')) hS ?_
    simp only [List.getElem_toArray, List.getElem_cons_zero, List.getElem_cons_succ, Act.put, List.setIfInBounds_toArray, List.set_cons_zero, List.set_cons_succ]
    refine wpAnyH_take (i := 63) HI63.out (by rw [HO.out]; kernel_rfl) (by rw [HO.out]; kernel_rfl) (by rw [HO.out]; kernel_rfl) (fun c a w h => HQP.out c a 80 _ w h) (syeql (u := .agg (V8 J)) (v := .agg (V8 f)) (by rw [HO.out]; kernel_rfl) (by exact ⟨_, _, _, rfl, by kernel_rfl, by kernel_rfl, fun W => guardV _ _ _ _ W⟩) (fun w' hS' => E63.out w')) hS ?_
    simp only [List.getElem_toArray, List.getElem_cons_zero, List.getElem_cons_succ, Act.put, List.setIfInBounds_toArray, List.set_cons_zero, List.set_cons_succ]
    refine wpAnyH_ready (rs := [60]) (by rw [HO.out]; kernel_rfl) (by simp) ?_
    refine AllReadyH.cons HI60.out (fun K1 hK1 => ?_) AllReadyH.nil
    rw [if_pos (by rw [HO.out]; kernel_rfl)]
    go_simp
    refine (KA.out _).mono ?_
    rintro e U1 ⟨rfl, fx⟩
    refine hK1.out _ _ (hS.trans fx (fun _ _ h => h)) (fun hS => ?_)
    clear fx hK1 K1
    simp only [List.getElem_toArray, List.getElem_cons_zero, List.getElem_cons_succ, Act.put, List.setIfInBounds_toArray, List.set_cons_zero, List.set_cons_succ]
    refine wpAnyH_take (i := 64) (v := .bool true) HI64.out (by rw [HO.out]; kernel_rfl) (by rw [HO.out]; kernel_rfl) (by rw [HO.out]; kernel_rfl) (fun c a w h => HQP.out c a 81 _ w h) (Or.inl ⟨(by rw [HO.out]; kernel_rfl), fun w' hS' => by clear hS'; go_simp⟩) hS ?_
    simp only [List.getElem_toArray, List.getElem_cons_zero, List.getElem_cons_succ, Act.put, List.setIfInBounds_toArray, List.set_cons_zero, List.set_cons_succ]
    refine wpAnyH_take (i := 65) (v := .bool true) HI65.out (by rw [HO.out]; kernel_rfl) (by rw [HO.out]; kernel_rfl) (by rw [HO.out]; kernel_rfl) (fun c a w h => HQP.out c a 82 _ w h) (Or.inl ⟨(by rw [HO.out]; kernel_rfl), fun w' hS' => by clear hS'; go_simp⟩) hS ?_
    simp only [List.getElem_toArray, List.getElem_cons_zero, List.getElem_cons_succ, Act.put, List.setIfInBounds_toArray, List.set_cons_zero, List.set_cons_succ]
    refine wpAnyH_take (i := 66) (v := .bool true) HI66.out (by rw [HO.out]; kernel_rfl) (by rw [HO.out]; kernel_rfl) (by rw [HO.out]; kernel_rfl) (fun c a w h => HQP.out c a 83 _ w h) (Or.inl ⟨(by rw [HO.out]; kernel_rfl), fun w' hS' => by clear hS'; go_simp⟩) hS ?_
    simp only [List.getElem_toArray, List.getElem_cons_zero, List.getElem_cons_succ, Act.put, List.setIfInBounds_toArray, List.set_cons_zero, List.set_cons_succ]
    refine wpAnyH_take (i := 67) HI67.out (by rw [HO.out]; kernel_rfl) (by rw [HO.out]; kernel_rfl) (by rw [HO.out]; kernel_rfl) (fun c a w h => HQP.out c a 84 _ w h) (jyload (by rw [HO.out]; kernel_rfl) (by exact ⟨_, rfl, rfl⟩) (fun w' hS' => LA2.out w' hS')) hS ?_
    simp only [List.getElem_toArray, List.getElem_cons_zero, List.getElem_cons_succ, Act.put, List.setIfInBounds_toArray, List.set_cons_zero, List.set_cons_succ]
    refine wpAnyH_take (i := 68) HI68.out (by rw [HO.out]; kernel_rfl) (by rw [HO.out]; kernel_rfl) (by rw [HO.out]; kernel_rfl) (fun c a w h => HQP.out c a 85 _ w h) (jyload (by rw [HO.out]; kernel_rfl) (by exact ⟨_, rfl, rfl⟩) (fun w' hS' => LB2.out w' hS')) hS ?_
    simp only [List.getElem_toArray, List.getElem_cons_zero, List.getElem_cons_succ, Act.put, List.setIfInBounds_toArray, List.set_cons_zero, List.set_cons_succ]
    refine wpAnyH_take (i := 70) HI70.out (by rw [HO.out]; kernel_rfl) (by rw [HO.out]; kernel_rfl) (by rw [HO.out]; kernel_rfl) (fun c a w h => HQP.out c a 87 _ w h) (jyload (by rw [HO.out]; kernel_rfl) (by exact ⟨_, rfl, rfl⟩) (fun w' hS' => LM.out w' hS')) hS ?_
    simp only [List.getElem_toArray, List.getElem_cons_zero, List.getElem_cons_succ, Act.put, List.setIfInBounds_toArray, List.set_cons_zero, List.set_cons_succ]
    refine wpAnyH_take (i := 71) HI71.out (by rw [HO.out]; kernel_rfl) (by rw [HO.out]; kernel_rfl) (by rw [HO.out]; kernel_rfl) (fun c a w h => HQP.out c a 88 _ w h) (jyload (by rw [HO.out]; kernel_rfl) (by exact ⟨_, rfl, rfl⟩) (fun w' hS' => LB2.out w' hS')) hS ?_
    simp only [List.getElem_toArray, List.getElem_cons_zero, List.getElem_cons_succ, Act.put, List.setIfInBounds_toArray, List.set_cons_zero, List.set_cons_succ]
    refine wpAnyH_take (i := 72) HI72.out (by rw [HO.out]; kernel_rfl) (by rw [HO.out]; kernel_rfl) (by rw [HO.out]; kernel_rfl) (fun c a w h => HQP.out c a 89 _ w h) (syeql (u := .agg (V8 M)) (v := .agg (V8 g)) (by rw [HO.out]; kernel_rfl) (by exact ⟨_, _, _, rfl, by kernel_rfl, by kernel_rfl, fun W => guardV _ _ _ _ W⟩) (fun w' hS' => E72.out w')) hS ?_
    simp only [List.getElem_toArray, List.getElem_cons_zero, List.getElem_cons_succ, Act.put, List.setIfInBounds_toArray, List.set_cons_zero, List.set_cons_succ]
    refine wpAnyH_ready (rs := [69]) (by rw [HO.out]; kernel_rfl) (by simp) ?_
    refine AllReadyH.cons HI69.out (fun K1 hK1 => ?_) AllReadyH.nil
    rw [if_pos (by rw [HO.out]; kernel_rfl)]
    go_simp
    refine (KA.out _).mono ?_
    rintro e U2 ⟨rfl, fx⟩
    refine hK1.out _ _ (hS.trans fx (fun _ _ h => h)) (fun hS => ?_)
    clear fx hK1 K1
    simp only [List.getElem_toArray, List.getElem_cons_zero, List.getElem_cons_succ, Act.put, List.setIfInBounds_toArray, List.set_cons_zero, List.set_cons_succ]
    refine wpAnyH_take (i := 73) (v := .bool true) HI73.out (by rw [HO.out]; kernel_rfl) (by rw [HO.out]; kernel_rfl) (by rw [HO.out]; kernel_rfl) (fun c a w h => HQP.out c a 90 _ w h) (Or.inl ⟨(by rw [HO.out]; kernel_rfl), fun w' hS' => by clear hS'; go_simp⟩) hS ?_
    simp only [List.getElem_toArray, List.getElem_cons_zero, List.getElem_cons_succ, Act.put, List.setIfInBounds_toArray, List.set_cons_zero, List.set_cons_succ]
    refine wpAnyH_take (i := 74) (v := .bool true) HI74.out (by rw [HO.out]; kernel_rfl) (by rw [HO.out]; kernel_rfl) (by rw [HO.out]; kernel_rfl) (fun c a w h => HQP.out c a 91 _ w h) (Or.inl ⟨(by rw [HO.out]; kernel_rfl), fun w' hS' => by clear hS'; go_simp⟩) hS ?_
    simp only [List.getElem_toArray, List.getElem_cons_zero, List.getElem_cons_succ, Act.put, List.setIfInBounds_toArray, List.set_cons_zero, List.set_cons_succ]
    refine wpAnyH_take (i := 75) (v := ?_) HI75.out (by rw [HO.out]; kernel_rfl) (by rw [HO.out]; kernel_rfl) (by rw [HO.out]; kernel_rfl) (fun c a w h => HQP.out c a 6 _ w h) (Or.inl ⟨(by rw [HO.out]; kernel_rfl), ?_⟩) hS ?_
    rotate_left 1
    · (intro w' hS'; clear hS'; go_simp; try with_reducible rfl)
    simp only [List.getElem_toArray, List.getElem_cons_zero, List.getElem_cons_succ, Act.put, List.setIfInBounds_toArray, List.set_cons_zero, List.set_cons_succ]
    refine wpAnyH_done (by rw [HO.out]; kernel_rfl) ?_ _
    rw [HQ.out]
    go_wp2
    go_ret
    exact ⟨rfl, F1.out.trans hS (fun _ _ h => h)⟩
  have REST40 : ∀ (u9 u10 u11 u12 u13 u14 u15 u16 u17 u18 u19 u20 u21 u22 u23 u24 u25 u26 u27 u28 u29 u30 u31 u32 u33 u34 u35 u36 u37 u38 u39 u40 u41 u42 u43 u44 u45 u46 u47 u48 u49 u50 u51 u52 u53 u54 u55 u56 : Value) (U : World), Fr (fun _ => False) V U → wpAnyH Try.prog .any O QQ (fun U => Fr (fun _ => False) V U) 35 (List.toArray (true :: true :: true :: true :: true :: true :: true :: true :: true :: true :: true :: true :: true :: true :: true :: true :: true :: true :: true :: true :: true :: true :: true :: true :: true :: true :: true :: true :: true :: true :: true :: true :: true :: true :: true :: true :: true :: true :: true :: true :: true :: false :: false :: false :: false :: false :: false :: false :: false :: false :: false :: false :: false :: false :: false :: false :: false :: false :: false :: false :: false :: false :: false :: false :: false :: false :: false :: false :: false :: false :: false :: false :: false :: false :: false :: false :: [])) ⟨List.toArray ((.agg (V8 f)) :: (.agg (V8 g)) :: (.agg (V8 h)) :: (.pointer (some ⟨w.heap.size, 0, none⟩)) :: (.pointer (some ⟨w.heap.size + 1, 0, none⟩)) :: (.pointer (some ⟨w.heap.size + 1 + 1, 0, none⟩)) :: (.bool false) :: (.pointer (some ⟨p, 0, none⟩)) :: (.pointer (some ⟨q, 0, none⟩)) :: (u9) :: (u10) :: (u11) :: (u12) :: (u13) :: (u14) :: (u15) :: (u16) :: (u17) :: (u18) :: (u19) :: (u20) :: (u21) :: (u22) :: (u23) :: (u24) :: (u25) :: (u26) :: (u27) :: (u28) :: (u29) :: (u30) :: (u31) :: (u32) :: (u33) :: (u34) :: (u35) :: (u36) :: (u37) :: (u38) :: (u39) :: (u40) :: (u41) :: (u42) :: (u43) :: (u44) :: (u45) :: (u46) :: (u47) :: (u48) :: (u49) :: (u50) :: (u51) :: (u52) :: (u53) :: (u54) :: (u55) :: (u56) :: (.bool true) :: (undef) :: (undef) :: (undef) :: (undef) :: (undef) :: (undef) :: (undef) :: (undef) :: (undef) :: (undef) :: (undef) :: (undef) :: (undef) :: (undef) :: (undef) :: (undef) :: (undef) :: (undef) :: (undef) :: (undef) :: (undef) :: (undef) :: (undef) :: (undef) :: (undef) :: (undef) :: (undef) :: (undef) :: (undef) :: (undef) :: (undef) :: (undef) :: (undef) :: (undef) :: []), []⟩ U := by
    intro u9 u10 u11 u12 u13 u14 u15 u16 u17 u18 u19 u20 u21 u22 u23 u24 u25 u26 u27 u28 u29 u30 u31 u32 u33 u34 u35 u36 u37 u38 u39 u40 u41 u42 u43 u44 u45 u46 u47 u48 u49 u50 u51 u52 u53 u54 u55 u56 U hS
    refine wpAnyH_take (i := 41) HI41.out (by rw [HO.out]; kernel_rfl) (by rw [HO.out]; kernel_rfl) (by rw [HO.out]; kernel_rfl) (fun c a w h => HQP.out c a 58 _ w h) (jyload (by rw [HO.out]; kernel_rfl) (by exact ⟨_, rfl, rfl⟩) (fun w' hS' => LA2.out w' hS')) hS ?_
    simp only [List.getElem_toArray, List.getElem_cons_zero, List.getElem_cons_succ, Act.put, List.setIfInBounds_toArray, List.set_cons_zero, List.set_cons_succ]
    refine wpAnyH_take (i := 42) HI42.out (by rw [HO.out]; kernel_rfl) (by rw [HO.out]; kernel_rfl) (by rw [HO.out]; kernel_rfl) (fun c a w h => HQP.out c a 59 _ w h) (jyload (by rw [HO.out]; kernel_rfl) (by exact ⟨_, rfl, rfl⟩) (fun w' hS' => LB2.out w' hS')) hS ?_
    simp only [List.getElem_toArray, List.getElem_cons_zero, List.getElem_cons_succ, Act.put, List.setIfInBounds_toArray, List.set_cons_zero, List.set_cons_succ]
    refine wpAnyH_take (i := 43) HI43.out (by rw [HO.out]; kernel_rfl) (by rw [HO.out]; kernel_rfl) (by rw [HO.out]; kernel_rfl) (fun c a w h => HQP.out c a 60 _ w h) (jyload (by rw [HO.out]; kernel_rfl) (by exact ⟨_, rfl, rfl⟩) (fun w' hS' => LC2.out w' hS')) hS ?_
    simp only [List.getElem_toArray, List.getElem_cons_zero, List.getElem_cons_succ, Act.put, List.setIfInBounds_toArray, List.set_cons_zero, List.set_cons_succ]
    refine wpAnyH_take (i := 48) HI48.out (by rw [HO.out]; kernel_rfl) (by rw [HO.out]; kernel_rfl) (by rw [HO.out]; kernel_rfl) (fun c a w h => HQP.out c a 65 _ w h) (jyload (by rw [HO.out]; kernel_rfl) (by exact ⟨_, rfl, rfl⟩) (fun w' hS' => LM.out w' hS')) hS ?_
    simp only [List.getElem_toArray, List.getElem_cons_zero, List.getElem_cons_succ, Act.put, List.setIfInBounds_toArray, List.set_cons_zero, List.set_cons_succ]
    refine wpAnyH_take (i := 49) HI49.out (by rw [HO.out]; kernel_rfl) (by rw [HO.out]; kernel_rfl) (by rw [HO.out]; kernel_rfl) (fun c a w h => HQP.out c a 66 _ w h) (jyload (by rw [HO.out]; kernel_rfl) (by exact ⟨_, rfl, rfl⟩) (fun w' hS' => LA2.out w' hS')) hS ?_
    simp only [List.getElem_toArray, List.getElem_cons_zero, List.getElem_cons_succ, Act.put, List.setIfInBounds_toArray, List.set_cons_zero, List.set_cons_succ]
    refine wpAnyH_take (i := 50) HI50.out (by rw [HO.out]; kernel_rfl) (by rw [HO.out]; kernel_rfl) (by rw [HO.out]; kernel_rfl) (fun c a w h => HQP.out c a 67 _ w h) (jyload (by rw [HO.out]; kernel_rfl) (by exact ⟨_, rfl, rfl⟩) (fun w' hS' => LC2.out w' hS')) hS ?_
    simp only [List.getElem_toArray, List.getElem_cons_zero, List.getElem_cons_succ, Act.put, List.setIfInBounds_toArray, List.set_cons_zero, List.set_cons_succ]
    refine wpAnyH_ready (rs := [44, 51]) (by rw [HO.out]; kernel_rfl) (by simp) ?_
    refine AllReadyH.cons HI44.out (fun K1 hK1 => ?_) (AllReadyH.cons HI51.out (fun K1 hK1 => ?_) AllReadyH.nil)
    · rw [if_pos (by rw [HO.out]; kernel_rfl)]
      go_simp
      refine build2 (f := g) (g := h) hS (fun U3 hS fx hx44 => ?_)
      refine hK1.out _ _ hS (fun hS => ?_)
      clear hK1 K1 fx
      simp only [List.getElem_toArray, List.getElem_cons_zero, List.getElem_cons_succ, Act.put, List.setIfInBounds_toArray, List.set_cons_zero, List.set_cons_succ]
      refine wpAnyH_ready (rs := [45, 51]) (by rw [HO.out]; kernel_rfl) (by simp) ?_
      refine AllReadyH.cons HI45.out (fun K1 hK1 => ?_) (AllReadyH.cons HI51.out (fun K1 hK1 => ?_) AllReadyH.nil)
      · rw [if_pos (by rw [HO.out]; kernel_rfl)]
        go_simp
        refine (K35.out _ _ hx44).mono ?_
        rintro e U4 ⟨rfl, fx⟩
        refine hK1.out _ _ (hS.trans fx (fun _ _ h => h)) (fun hS => ?_)
        clear hx44
        clear fx hK1 K1
        simp only [List.getElem_toArray, List.getElem_cons_zero, List.getElem_cons_succ, Act.put, List.setIfInBounds_toArray, List.set_cons_zero, List.set_cons_succ]
        refine wpAnyH_ready (rs := [46, 51]) (by rw [HO.out]; kernel_rfl) (by simp) ?_
        refine AllReadyH.cons HI46.out (fun K1 hK1 => ?_) (AllReadyH.cons HI51.out (fun K1 hK1 => ?_) AllReadyH.nil)
        · rw [if_pos (by rw [HO.out]; kernel_rfl)]
          go_simp
          refine build2 (f := f) (g := GH) hS (fun U5 hS fx hx46 => ?_)
          refine hK1.out _ _ hS (fun hS => ?_)
          clear hK1 K1 fx
          simp only [List.getElem_toArray, List.getElem_cons_zero, List.getElem_cons_succ, Act.put, List.setIfInBounds_toArray, List.set_cons_zero, List.set_cons_succ]
          refine wpAnyH_ready (rs := [47, 51]) (by rw [HO.out]; kernel_rfl) (by simp) ?_
          refine AllReadyH.cons HI47.out (fun K1 hK1 => ?_) (AllReadyH.cons HI51.out (fun K1 hK1 => ?_) AllReadyH.nil)
          · rw [if_pos (by rw [HO.out]; kernel_rfl)]
            go_simp
            refine (K47.out _ _ hx46).mono ?_
            rintro e U6 ⟨rfl, fx⟩
            refine hK1.out _ _ (hS.trans fx (fun _ _ h => h)) (fun hS => ?_)
            clear hx46
            clear fx hK1 K1
            simp only [List.getElem_toArray, List.getElem_cons_zero, List.getElem_cons_succ, Act.put, List.setIfInBounds_toArray, List.set_cons_zero, List.set_cons_succ]
            refine wpAnyH_ready (rs := [51]) (by rw [HO.out]; kernel_rfl) (by simp) ?_
            refine AllReadyH.cons HI51.out (fun K1 hK1 => ?_) AllReadyH.nil
            rw [if_pos (by rw [HO.out]; kernel_rfl)]
            go_simp
            refine build2 (f := f) (g := h) hS (fun U7 hS fx hx51 => ?_)
            refine hK1.out _ _ hS (fun hS => ?_)
            clear hK1 K1 fx
            simp only [List.getElem_toArray, List.getElem_cons_zero, List.getElem_cons_succ, Act.put, List.setIfInBounds_toArray, List.set_cons_zero, List.set_cons_succ]
            refine wpAnyH_ready (rs := [52]) (by rw [HO.out]; kernel_rfl) (by simp) ?_
            refine AllReadyH.cons HI52.out (fun K1 hK1 => ?_) AllReadyH.nil
            rw [if_pos (by rw [HO.out]; kernel_rfl)]
            go_simp
            refine (K52.out _ _ hx51).mono ?_
            rintro e U8 ⟨rfl, fx⟩
            refine hK1.out _ _ (hS.trans fx (fun _ _ h => h)) (fun hS => ?_)
            clear hx51
            clear fx hK1 K1
            simp only [List.getElem_toArray, List.getElem_cons_zero, List.getElem_cons_succ, Act.put, List.setIfInBounds_toArray, List.set_cons_zero, List.set_cons_succ]
            refine wpAnyH_ready (rs := [53]) (by rw [HO.out]; kernel_rfl) (by simp) ?_
            refine AllReadyH.cons HI53.out (fun K1 hK1 => ?_) AllReadyH.nil
            rw [if_pos (by rw [HO.out]; kernel_rfl)]
            go_simp
            refine build2 (f := M) (g := FH) hS (fun U9 hS fx hx53 => ?_)
            refine hK1.out _ _ hS (fun hS => ?_)
            clear hK1 K1 fx
            simp only [List.getElem_toArray, List.getElem_cons_zero, List.getElem_cons_succ, Act.put, List.setIfInBounds_toArray, List.set_cons_zero, List.set_cons_succ]
            refine wpAnyH_ready (rs := [54]) (by rw [HO.out]; kernel_rfl) (by simp) ?_
            refine AllReadyH.cons HI54.out (fun K1 hK1 => ?_) AllReadyH.nil
            rw [if_pos (by rw [HO.out]; kernel_rfl)]
            go_simp
            refine (K54.out _ _ hx53).mono ?_
            rintro e U10 ⟨rfl, fx⟩
            refine hK1.out _ _ (hS.trans fx (fun _ _ h => h)) (fun hS => ?_)
            clear hx53
            clear fx hK1 K1
            simp only [List.getElem_toArray, List.getElem_cons_zero, List.getElem_cons_succ, Act.put, List.setIfInBounds_toArray, List.set_cons_zero, List.set_cons_succ]
            refine wpAnyH_take (i := 55) HI55.out (by rw [HO.out]; kernel_rfl) (by rw [HO.out]; kernel_rfl) (by rw [HO.out]; kernel_rfl) (fun c a w h => HQP.out c a 72 _ w h) (syeql (u := .agg (V8 X5)) (v := .agg (V8 Y5)) (by rw [HO.out]; kernel_rfl) (by exact ⟨_, _, _, rfl, by kernel_rfl, by kernel_rfl, fun W => guardV _ _ _ _ W⟩) (fun w' hS' => E55.out w')) hS ?_
            simp only [List.getElem_toArray, List.getElem_cons_zero, List.getElem_cons_succ, Act.put, List.setIfInBounds_toArray, List.set_cons_zero, List.set_cons_succ]
            refine wpAnyH_take (i := 56) (v := .bool true) HI56.out (by rw [HO.out]; kernel_rfl) (by rw [HO.out]; kernel_rfl) (by rw [HO.out]; kernel_rfl) (fun c a w h => HQP.out c a 73 _ w h) (Or.inl ⟨(by rw [HO.out]; kernel_rfl), fun w' hS' => by clear hS'; go_simp⟩) hS ?_
            simp only [List.getElem_toArray, List.getElem_cons_zero, List.getElem_cons_succ, Act.put, List.setIfInBounds_toArray, List.set_cons_zero, List.set_cons_succ]
            refine wpAnyH_take (i := 57) (v := .bool true) HI57.out (by rw [HO.out]; kernel_rfl) (by rw [HO.out]; kernel_rfl) (by rw [HO.out]; kernel_rfl) (fun c a w h => HQP.out c a 74 _ w h) (Or.inl ⟨(by rw [HO.out]; kernel_rfl), fun w' hS' => by clear hS'; go_simp⟩) hS ?_
            simp only [List.getElem_toArray, List.getElem_cons_zero, List.getElem_cons_succ, Act.put, List.setIfInBounds_toArray, List.set_cons_zero, List.set_cons_succ]
            exact REST57 _ _ _ _ _ _ _ _ _ _ _ _ _ _ _ _ _ _ _ _ _ _ _ _ _ _ _ _ _ _ _ _ _ _ _ _ _ _ _ _ _ _ _ _ _ _ _ _ _ _ _ _ _ _ _ _ _ _ _ _ _ _ _ _ _ _ hS
          · rw [if_pos (by rw [HO.out]; kernel_rfl)]
            go_simp
            refine build2 (f := f) (g := h) hS (fun U11 hS fx hx51 => ?_)
            refine hK1.out _ _ hS (fun hS => ?_)
            have hx46 := hx46.fr fx
            clear hK1 K1 fx
            simp only [List.getElem_toArray, List.getElem_cons_zero, List.getElem_cons_succ, Act.put, List.setIfInBounds_toArray, List.set_cons_zero, List.set_cons_succ]
            refine wpAnyH_ready (rs := [47]) (by rw [HO.out]; kernel_rfl) (by simp) ?_
            refine AllReadyH.cons HI47.out (fun K1 hK1 => ?_) AllReadyH.nil
            rw [if_pos (by rw [HO.out]; kernel_rfl)]
            go_simp
            refine (K47.out _ _ hx46).mono ?_
            rintro e U12 ⟨rfl, fx⟩
            refine hK1.out _ _ (hS.trans fx (fun _ _ h => h)) (fun hS => ?_)
            clear hx46
            have hx51 := hx51.fr fx
            clear fx hK1 K1
            simp only [List.getElem_toArray, List.getElem_cons_zero, List.getElem_cons_succ, Act.put, List.setIfInBounds_toArray, List.set_cons_zero, List.set_cons_succ]
            refine wpAnyH_ready (rs := [52]) (by rw [HO.out]; kernel_rfl) (by simp) ?_
            refine AllReadyH.cons HI52.out (fun K1 hK1 => ?_) AllReadyH.nil
            rw [if_pos (by rw [HO.out]; kernel_rfl)]
            go_simp
            refine (K52.out _ _ hx51).mono ?_
            rintro e U13 ⟨rfl, fx⟩
            refine hK1.out _ _ (hS.trans fx (fun _ _ h => h)) (fun hS => ?_)
            clear hx51
            clear fx hK1 K1
            simp only [List.getElem_toArray, List.getElem_cons_zero, List.getElem_cons_succ, Act.put, List.setIfInBounds_toArray, List.set_cons_zero, List.set_cons_succ]
            refine wpAnyH_ready (rs := [53]) (by rw [HO.out]; kernel_rfl) (by simp) ?_
            refine AllReadyH.cons HI53.out (fun K1 hK1 => ?_) AllReadyH.nil
            rw [if_pos (by rw [HO.out]; kernel_rfl)]
            go_simp
            refine build2 (f := M) (g := FH) hS (fun U14 hS fx hx53 => ?_)
            refine hK1.out _ _ hS (fun hS => ?_)
            clear hK1 K1 fx
            simp only [List.getElem_toArray, List.getElem_cons_zero, List.getElem_cons_succ, Act.put, List.setIfInBounds_toArray, List.set_cons_zero, List.set_cons_succ]
            refine wpAnyH_ready (rs := [54]) (by rw [HO.out]; kernel_rfl) (by simp) ?_
            refine AllReadyH.cons HI54.out (fun K1 hK1 => ?_) AllReadyH.nil
            rw [if_pos (by rw [HO.out]; kernel_rfl)]
            go_simp
            refine (K54.out _ _ hx53).mono ?_
            rintro e U15 ⟨rfl, fx⟩
            refine hK1.out _ _ (hS.trans fx (fun _ _ h => h)) (fun hS => ?_)
            clear hx53
            clear fx hK1 K1
            simp only [List.getElem_toArray, List.getElem_cons_zero, List.getElem_cons_succ, Act.put, List.setIfInBounds_toArray, List.set_cons_zero, List.set_cons_succ]
            refine wpAnyH_take (i := 55) HI55.out (by rw [HO.out]; kernel_rfl) (by rw [HO.out]; kernel_rfl) (by rw [HO.out]; kernel_rfl) (fun c a w h => HQP.out c a 72 _ w h) (syeql (u := .agg (V8 X5)) (v := .agg (V8 Y5)) (by rw [HO.out]; kernel_rfl) (by exact ⟨_, _, _, rfl, by kernel_rfl, by kernel_rfl, fun W => guardV _ _ _ _ W⟩) (fun w' hS' => E55.out w')) hS ?_
            simp only [List.getElem_toArray, List.getElem_cons_zero, List.getElem_cons_succ, Act.put, List.setIfInBounds_toArray, List.set_cons_zero, List.set_cons_succ]
            refine wpAnyH_take (i := 56) (v := .bool true) HI56.out (by rw [HO.out]; kernel_rfl) (by rw [HO.out]; kernel_rfl) (by rw [HO.out]; kernel_rfl) (fun c a w h => HQP.out c a 73 _ w h) (Or.inl ⟨(by rw [HO.out]; kernel_rfl), fun w' hS' => by clear hS'; go_simp⟩) hS ?_
            simp only [List.getElem_toArray, List.getElem_cons_zero, List.getElem_cons_succ, Act.put, List.setIfInBounds_toArray, List.set_cons_zero, List.set_cons_succ]
            refine wpAnyH_take (i := 57) (v := .bool true) HI57.out (by rw [HO.out]; kernel_rfl) (by rw [HO.out]; kernel_rfl) (by rw [HO.out]; kernel_rfl) (fun c a w h => HQP.out c a 74 _ w h) (Or.inl ⟨(by rw [HO.out]; kernel_rfl), fun w' hS' => by clear hS'; go_simp⟩) hS ?_
            simp only [List.getElem_toArray, List.getElem_cons_zero, List.getElem_cons_succ, Act.put, List.setIfInBounds_toArray, List.set_cons_zero, List.set_cons_succ]
            exact REST57 _ _ _ _ _ _ _ _ _ _ _ _ _ _ _ _ _ _ _ _ _ _ _ _ _ _ _ _ _ _ _ _ _ _ _ _ _ _ _ _ _ _ _ _ _ _ _ _ _ _ _ _ _ _ _ _ _ _ _ _ _ _ _ _ _ _ hS
        · rw [if_pos (by rw [HO.out]; kernel_rfl)]
          go_simp
          refine build2 (f := f) (g := h) hS (fun U16 hS fx hx51 => ?_)
          refine hK1.out _ _ hS (fun hS => ?_)
          clear hK1 K1 fx
          simp only [List.getElem_toArray, List.getElem_cons_zero, List.getElem_cons_succ, Act.put, List.setIfInBounds_toArray, List.set_cons_zero, List.set_cons_succ]
          refine wpAnyH_ready (rs := [46]) (by rw [HO.out]; kernel_rfl) (by simp) ?_
          refine AllReadyH.cons HI46.out (fun K1 hK1 => ?_) AllReadyH.nil
          rw [if_pos (by rw [HO.out]; kernel_rfl)]
          go_simp
          refine build2 (f := f) (g := GH) hS (fun U17 hS fx hx46 => ?_)
          refine hK1.out _ _ hS (fun hS => ?_)
          have hx51 := hx51.fr fx
          clear hK1 K1 fx
          simp only [List.getElem_toArray, List.getElem_cons_zero, List.getElem_cons_succ, Act.put, List.setIfInBounds_toArray, List.set_cons_zero, List.set_cons_succ]
          refine wpAnyH_ready (rs := [47]) (by rw [HO.out]; kernel_rfl) (by simp) ?_
          refine AllReadyH.cons HI47.out (fun K1 hK1 => ?_) AllReadyH.nil
          rw [if_pos (by rw [HO.out]; kernel_rfl)]
          go_simp
          refine (K47.out _ _ hx46).mono ?_
          rintro e U18 ⟨rfl, fx⟩
          refine hK1.out _ _ (hS.trans fx (fun _ _ h => h)) (fun hS => ?_)
          clear hx46
          have hx51 := hx51.fr fx
          clear fx hK1 K1
          simp only [List.getElem_toArray, List.getElem_cons_zero, List.getElem_cons_succ, Act.put, List.setIfInBounds_toArray, List.set_cons_zero, List.set_cons_succ]
          refine wpAnyH_ready (rs := [52]) (by rw [HO.out]; kernel_rfl) (by simp) ?_
          refine AllReadyH.cons HI52.out (fun K1 hK1 => ?_) AllReadyH.nil
          rw [if_pos (by rw [HO.out]; kernel_rfl)]
          go_simp
          refine (K52.out _ _ hx51).mono ?_
          rintro e U19 ⟨rfl, fx⟩
          refine hK1.out _ _ (hS.trans fx (fun _ _ h => h)) (fun hS => ?_)
          clear hx51
          clear fx hK1 K1
          simp only [List.getElem_toArray, List.getElem_cons_zero, List.getElem_cons_succ, Act.put, List.setIfInBounds_toArray, List.set_cons_zero, List.set_cons_succ]
          refine wpAnyH_ready (rs := [53]) (by rw [HO.out]; kernel_rfl) (by simp) ?_
          refine AllReadyH.cons HI53.out (fun K1 hK1 => ?_) AllReadyH.nil
          rw [if_pos (by rw [HO.out]; kernel_rfl)]
          go_simp
          refine build2 (f := M) (g := FH) hS (fun U20 hS fx hx53 => ?_)
          refine hK1.out _ _ hS (fun hS => ?_)
          clear hK1 K1 fx
          simp only [List.getElem_toArray, List.getElem_cons_zero, List.getElem_cons_succ, Act.put, List.setIfInBounds_toArray, List.set_cons_zero, List.set_cons_succ]
          refine wpAnyH_ready (rs := [54]) (by rw [HO.out]; kernel_rfl) (by simp) ?_
          refine AllReadyH.cons HI54.out (fun K1 hK1 => ?_) AllReadyH.nil
          rw [if_pos (by rw [HO.out]; kernel_rfl)]
          go_simp
          refine (K54.out _ _ hx53).mono ?_
          rintro e U21 ⟨rfl, fx⟩
          refine hK1.out _ _ (hS.trans fx (fun _ _ h => h)) (fun hS => ?_)
          clear hx53
          clear fx hK1 K1
          simp only [List.getElem_toArray, List.getElem_cons_zero, List.getElem_cons_succ, Act.put, List.setIfInBounds_toArray, List.set_cons_zero, List.set_cons_succ]
          refine wpAnyH_take (i := 55) HI55.out (by rw [HO.out]; kernel_rfl) (by rw [HO.out]; kernel_rfl) (by rw [HO.out]; kernel_rfl) (fun c a w h => HQP.out c a 72 _ w h) (syeql (u := .agg (V8 X5)) (v := .agg (V8 Y5)) (by rw [HO.out]; kernel_rfl) (by exact ⟨_, _, _, rfl, by kernel_rfl, by kernel_rfl, fun W => guardV _ _ _ _ W⟩) (fun w' hS' => E55.out w')) hS ?_
          simp only [List.getElem_toArray, List.getElem_cons_zero, List.getElem_cons_succ, Act.put, List.setIfInBounds_toArray, List.set_cons_zero, List.set_cons_succ]
          refine wpAnyH_take (i := 56) (v := .bool true) HI56.out (by rw [HO.out]; kernel_rfl) (by rw [HO.out]; kernel_rfl) (by rw [HO.out]; kernel_rfl) (fun c a w h => HQP.out c a 73 _ w h) (Or.inl ⟨(by rw [HO.out]; kernel_rfl), fun w' hS' => by clear hS'; go_simp⟩) hS ?_
          simp only [List.getElem_toArray, List.getElem_cons_zero, List.getElem_cons_succ, Act.put, List.setIfInBounds_toArray, List.set_cons_zero, List.set_cons_succ]
          refine wpAnyH_take (i := 57) (v := .bool true) HI57.out (by rw [HO.out]; kernel_rfl) (by rw [HO.out]; kernel_rfl) (by rw [HO.out]; kernel_rfl) (fun c a w h => HQP.out c a 74 _ w h) (Or.inl ⟨(by rw [HO.out]; kernel_rfl), fun w' hS' => by clear hS'; go_simp⟩) hS ?_
          simp only [List.getElem_toArray, List.getElem_cons_zero, List.getElem_cons_succ, Act.put, List.setIfInBounds_toArray, List.set_cons_zero, List.set_cons_succ]
          exact REST57 _ _ _ _ _ _ _ _ _ _ _ _ _ _ _ _ _ _ _ _ _ _ _ _ _ _ _ _ _ _ _ _ _ _ _ _ _ _ _ _ _ _ _ _ _ _ _ _ _ _ _ _ _ _ _ _ _ _ _ _ _ _ _ _ _ _ hS
      · rw [if_pos (by rw [HO.out]; kernel_rfl)]
        go_simp
        refine build2 (f := f) (g := h) hS (fun U22 hS fx hx51 => ?_)
        refine hK1.out _ _ hS (fun hS => ?_)
        have hx44 := hx44.fr fx
        clear hK1 K1 fx
        simp only [List.getElem_toArray, List.getElem_cons_zero, List.getElem_cons_succ, Act.put, List.setIfInBounds_toArray, List.set_cons_zero, List.set_cons_succ]
        refine wpAnyH_ready (rs := [45]) (by rw [HO.out]; kernel_rfl) (by simp) ?_
        refine AllReadyH.cons HI45.out (fun K1 hK1 => ?_) AllReadyH.nil
        rw [if_pos (by rw [HO.out]; kernel_rfl)]
        go_simp
        refine (K35.out _ _ hx44).mono ?_
        rintro e U23 ⟨rfl, fx⟩
        refine hK1.out _ _ (hS.trans fx (fun _ _ h => h)) (fun hS => ?_)
        clear hx44
        have hx51 := hx51.fr fx
        clear fx hK1 K1
        simp only [List.getElem_toArray, List.getElem_cons_zero, List.getElem_cons_succ, Act.put, List.setIfInBounds_toArray, List.set_cons_zero, List.set_cons_succ]
        refine wpAnyH_ready (rs := [46]) (by rw [HO.out]; kernel_rfl) (by simp) ?_
        refine AllReadyH.cons HI46.out (fun K1 hK1 => ?_) AllReadyH.nil
        rw [if_pos (by rw [HO.out]; kernel_rfl)]
        go_simp
        refine build2 (f := f) (g := GH) hS (fun U24 hS fx hx46 => ?_)
        refine hK1.out _ _ hS (fun hS => ?_)
        have hx51 := hx51.fr fx
        clear hK1 K1 fx
        simp only [List.getElem_toArray, List.getElem_cons_zero, List.getElem_cons_succ, Act.put, List.setIfInBounds_toArray, List.set_cons_zero, List.set_cons_succ]
        refine wpAnyH_ready (rs := [47]) (by rw [HO.out]; kernel_rfl) (by simp) ?_
        refine AllReadyH.cons HI47.out (fun K1 hK1 => ?_) AllReadyH.nil
        rw [if_pos (by rw [HO.out]; kernel_rfl)]
        go_simp
        refine (K47.out _ _ hx46).mono ?_
        rintro e U25 ⟨rfl, fx⟩
        refine hK1.out _ _ (hS.trans fx (fun _ _ h => h)) (fun hS => ?_)
        clear hx46
        have hx51 := hx51.fr fx
        clear fx hK1 K1
        simp only [List.getElem_toArray, List.getElem_cons_zero, List.getElem_cons_succ, Act.put, List.setIfInBounds_toArray, List.set_cons_zero, List.set_cons_succ]
        refine wpAnyH_ready (rs := [52]) (by rw [HO.out]; kernel_rfl) (by simp) ?_
        refine AllReadyH.cons HI52.out (fun K1 hK1 => ?_) AllReadyH.nil
        rw [if_pos (by rw [HO.out]; kernel_rfl)]
        go_simp
        refine (K52.out _ _ hx51).mono ?_
        rintro e U26 ⟨rfl, fx⟩
        refine hK1.out _ _ (hS.trans fx (fun _ _ h => h)) (fun hS => ?_)
        clear hx51
        clear fx hK1 K1
        simp only [List.getElem_toArray, List.getElem_cons_zero, List.getElem_cons_succ, Act.put, List.setIfInBounds_toArray, List.set_cons_zero, List.set_cons_succ]
        refine wpAnyH_ready (rs := [53]) (by rw [HO.out]; kernel_rfl) (by simp) ?_
        refine AllReadyH.cons HI53.out (fun K1 hK1 => ?_) AllReadyH.nil
        rw [if_pos (by rw [HO.out]; kernel_rfl)]
        go_simp
        refine build2 (f := M) (g := FH) hS (fun U27 hS fx hx53 => ?_)
        refine hK1.out _ _ hS (fun hS => ?_)
        clear hK1 K1 fx
        simp only [List.getElem_toArray, List.getElem_cons_zero, List.getElem_cons_succ, Act.put, List.setIfInBounds_toArray, List.set_cons_zero, List.set_cons_succ]
        refine wpAnyH_ready (rs := [54]) (by rw [HO.out]; kernel_rfl) (by simp) ?_
        refine AllReadyH.cons HI54.out (fun K1 hK1 => ?_) AllReadyH.nil
        rw [if_pos (by rw [HO.out]; kernel_rfl)]
        go_simp
        refine (K54.out _ _ hx53).mono ?_
        rintro e U28 ⟨rfl, fx⟩
        refine hK1.out _ _ (hS.trans fx (fun _ _ h => h)) (fun hS => ?_)
        clear hx53
        clear fx hK1 K1
        simp only [List.getElem_toArray, List.getElem_cons_zero, List.getElem_cons_succ, Act.put, List.setIfInBounds_toArray, List.set_cons_zero, List.set_cons_succ]
        refine wpAnyH_take (i := 55) HI55.out (by rw [HO.out]; kernel_rfl) (by rw [HO.out]; kernel_rfl) (by rw [HO.out]; kernel_rfl) (fun c a w h => HQP.out c a 72 _ w h) (syeql (u := .agg (V8 X5)) (v := .agg (V8 Y5)) (by rw [HO.out]; kernel_rfl) (by exact ⟨_, _, _, rfl, by kernel_rfl, by kernel_rfl, fun W => guardV _ _ _ _ W⟩) (fun w' hS' => E55.out w')) hS ?_
        simp only [List.getElem_toArray, List.getElem_cons_zero, List.getElem_cons_succ, Act.put, List.setIfInBounds_toArray, List.set_cons_zero, List.set_cons_succ]
        refine wpAnyH_take (i := 56) (v := .bool true) HI56.out (by rw [HO.out]; kernel_rfl) (by rw [HO.out]; kernel_rfl) (by rw [HO.out]; kernel_rfl) (fun c a w h => HQP.out c a 73 _ w h) (Or.inl ⟨(by rw [HO.out]; kernel_rfl), fun w' hS' => by clear hS'; go_simp⟩) hS ?_
        simp only [List.getElem_toArray, List.getElem_cons_zero, List.getElem_cons_succ, Act.put, List.setIfInBounds_toArray, List.set_cons_zero, List.set_cons_succ]
        refine wpAnyH_take (i := 57) (v := .bool true) HI57.out (by rw [HO.out]; kernel_rfl) (by rw [HO.out]; kernel_rfl) (by rw [HO.out]; kernel_rfl) (fun c a w h => HQP.out c a 74 _ w h) (Or.inl ⟨(by rw [HO.out]; kernel_rfl), fun w' hS' => by clear hS'; go_simp⟩) hS ?_
        simp only [List.getElem_toArray, List.getElem_cons_zero, List.getElem_cons_succ, Act.put, List.setIfInBounds_toArray, List.set_cons_zero, List.set_cons_succ]
        exact REST57 _ _ _ _ _ _ _ _ _ _ _ _ _ _ _ _ _ _ _ _ _ _ _ _ _ _ _ _ _ _ _ _ _ _ _ _ _ _ _ _ _ _ _ _ _ _ _ _ _ _ _ _ _ _ _ _ _ _ _ _ _ _ _ _ _ _ hS
    · rw [if_pos (by rw [HO.out]; kernel_rfl)]
      go_simp
      refine build2 (f := f) (g := h) hS (fun U29 hS fx hx51 => ?_)
      refine hK1.out _ _ hS (fun hS => ?_)
      clear hK1 K1 fx
      simp only [List.getElem_toArray, List.getElem_cons_zero, List.getElem_cons_succ, Act.put, List.setIfInBounds_toArray, List.set_cons_zero, List.set_cons_succ]
      refine wpAnyH_ready (rs := [44]) (by rw [HO.out]; kernel_rfl) (by simp) ?_
      refine AllReadyH.cons HI44.out (fun K1 hK1 => ?_) AllReadyH.nil
      rw [if_pos (by rw [HO.out]; kernel_rfl)]
      go_simp
      refine build2 (f := g) (g := h) hS (fun U30 hS fx hx44 => ?_)
      refine hK1.out _ _ hS (fun hS => ?_)
      have hx51 := hx51.fr fx
      clear hK1 K1 fx
      simp only [List.getElem_toArray, List.getElem_cons_zero, List.getElem_cons_succ, Act.put, List.setIfInBounds_toArray, List.set_cons_zero, List.set_cons_succ]
      refine wpAnyH_ready (rs := [45]) (by rw [HO.out]; kernel_rfl) (by simp) ?_
      refine AllReadyH.cons HI45.out (fun K1 hK1 => ?_) AllReadyH.nil
      rw [if_pos (by rw [HO.out]; kernel_rfl)]
      go_simp
      refine (K35.out _ _ hx44).mono ?_
      rintro e U31 ⟨rfl, fx⟩
      refine hK1.out _ _ (hS.trans fx (fun _ _ h => h)) (fun hS => ?_)
      clear hx44
      have hx51 := hx51.fr fx
      clear fx hK1 K1
      simp only [List.getElem_toArray, List.getElem_cons_zero, List.getElem_cons_succ, Act.put, List.setIfInBounds_toArray, List.set_cons_zero, List.set_cons_succ]
      refine wpAnyH_ready (rs := [46]) (by rw [HO.out]; kernel_rfl) (by simp) ?_
      refine AllReadyH.cons HI46.out (fun K1 hK1 => ?_) AllReadyH.nil
      rw [if_pos (by rw [HO.out]; kernel_rfl)]
      go_simp
      refine build2 (f := f) (g := GH) hS (fun U32 hS fx hx46 => ?_)
      refine hK1.out _ _ hS (fun hS => ?_)
      have hx51 := hx51.fr fx
      clear hK1 K1 fx
      simp only [List.getElem_toArray, List.getElem_cons_zero, List.getElem_cons_succ, Act.put, List.setIfInBounds_toArray, List.set_cons_zero, List.set_cons_succ]
      refine wpAnyH_ready (rs := [47]) (by rw [HO.out]; kernel_rfl) (by simp) ?_
      refine AllReadyH.cons HI47.out (fun K1 hK1 => ?_) AllReadyH.nil
      rw [if_pos (by rw [HO.out]; kernel_rfl)]
      go_simp
      refine (K47.out _ _ hx46).mono ?_
      rintro e U33 ⟨rfl, fx⟩
      refine hK1.out _ _ (hS.trans fx (fun _ _ h => h)) (fun hS => ?_)
      clear hx46
      have hx51 := hx51.fr fx
      clear fx hK1 K1
      simp only [List.getElem_toArray, List.getElem_cons_zero, List.getElem_cons_succ, Act.put, List.setIfInBounds_toArray, List.set_cons_zero, List.set_cons_succ]
      refine wpAnyH_ready (rs := [52]) (by rw [HO.out]; kernel_rfl) (by simp) ?_
      refine AllReadyH.cons HI52.out (fun K1 hK1 => ?_) AllReadyH.nil
      rw [if_pos (by rw [HO.out]; kernel_rfl)]
      go_simp
      refine (K52.out _ _ hx51).mono ?_
      rintro e U34 ⟨rfl, fx⟩
      refine hK1.out _ _ (hS.trans fx (fun _ _ h => h)) (fun hS => ?_)
      clear hx51
      clear fx hK1 K1
      simp only [List.getElem_toArray, List.getElem_cons_zero, List.getElem_cons_succ, Act.put, List.setIfInBounds_toArray, List.set_cons_zero, List.set_cons_succ]
      refine wpAnyH_ready (rs := [53]) (by rw [HO.out]; kernel_rfl) (by simp) ?_
      refine AllReadyH.cons HI53.out (fun K1 hK1 => ?_) AllReadyH.nil
      rw [if_pos (by rw [HO.out]; kernel_rfl)]
      go_simp
      refine build2 (f := M) (g := FH) hS (fun U35 hS fx hx53 => ?_)
      refine hK1.out _ _ hS (fun hS => ?_)
      clear hK1 K1 fx
      simp only [List.getElem_toArray, List.getElem_cons_zero, List.getElem_cons_succ, Act.put, List.setIfInBounds_toArray, List.set_cons_zero, List.set_cons_succ]
      refine wpAnyH_ready (rs := [54]) (by rw [HO.out]; kernel_rfl) (by simp) ?_
      refine AllReadyH.cons HI54.out (fun K1 hK1 => ?_) AllReadyH.nil
      rw [if_pos (by rw [HO.out]; kernel_rfl)]
      go_simp
      refine (K54.out _ _ hx53).mono ?_
      rintro e U36 ⟨rfl, fx⟩
      refine hK1.out _ _ (hS.trans fx (fun _ _ h => h)) (fun hS => ?_)
      clear hx53
      clear fx hK1 K1
      simp only [List.getElem_toArray, List.getElem_cons_zero, List.getElem_cons_succ, Act.put, List.setIfInBounds_toArray, List.set_cons_zero, List.set_cons_succ]
      refine wpAnyH_take (i := 55) HI55.out (by rw [HO.out]; kernel_rfl) (by rw [HO.out]; kernel_rfl) (by rw [HO.out]; kernel_rfl) (fun c a w h => HQP.out c a 72 _ w h) (syeql (u := .agg (V8 X5)) (v := .agg (V8 Y5)) (by rw [HO.out]; kernel_rfl) (by exact ⟨_, _, _, rfl, by kernel_rfl, by kernel_rfl, fun W => guardV _ _ _ _ W⟩) (fun w' hS' => E55.out w')) hS ?_
      simp only [List.getElem_toArray, List.getElem_cons_zero, List.getElem_cons_succ, Act.put, List.setIfInBounds_toArray, List.set_cons_zero, List.set_cons_succ]
      refine wpAnyH_take (i := 56) (v := .bool true) HI56.out (by rw [HO.out]; kernel_rfl) (by rw [HO.out]; kernel_rfl) (by rw [HO.out]; kernel_rfl) (fun c a w h => HQP.out c a 73 _ w h) (Or.inl ⟨(by rw [HO.out]; kernel_rfl), fun w' hS' => by clear hS'; go_simp⟩) hS ?_
      simp only [List.getElem_toArray, List.getElem_cons_zero, List.getElem_cons_succ, Act.put, List.setIfInBounds_toArray, List.set_cons_zero, List.set_cons_succ]
      refine wpAnyH_take (i := 57) (v := .bool true) HI57.out (by rw [HO.out]; kernel_rfl) (by rw [HO.out]; kernel_rfl) (by rw [HO.out]; kernel_rfl) (fun c a w h => HQP.out c a 74 _ w h) (Or.inl ⟨(by rw [HO.out]; kernel_rfl), fun w' hS' => by clear hS'; go_simp⟩) hS ?_
      simp only [List.getElem_toArray, List.getElem_cons_zero, List.getElem_cons_succ, Act.put, List.setIfInBounds_toArray, List.set_cons_zero, List.set_cons_succ]
      exact REST57 _ _ _ _ _ _ _ _ _ _ _ _ _ _ _ _ _ _ _ _ _ _ _ _ _ _ _ _ _ _ _ _ _ _ _ _ _ _ _ _ _ _ _ _ _ _ _ _ _ _ _ _ _ _ _ _ _ _ _ _ _ _ _ _ _ _ hS
  clear REST57
  have REST25 : ∀ (u9 u10 u11 u12 u13 u14 u15 u16 u17 u18 u19 u20 u21 u22 u23 u24 u25 u26 u27 u28 u29 u30 u31 u32 u33 u34 u35 u36 u37 u38 u39 u40 u41 : Value) (U : World), Fr (fun _ => False) V U → wpAnyH Try.prog .any O QQ (fun U => Fr (fun _ => False) V U) 50 (List.toArray (true :: true :: true :: true :: true :: true :: true :: true :: true :: true :: true :: true :: true :: true :: true :: true :: true :: true :: true :: true :: true :: true :: true :: true :: true :: true :: false :: false :: false :: false :: false :: false :: false :: false :: false :: false :: false :: false :: false :: false :: false :: false :: false :: false :: false :: false :: false :: false :: false :: false :: false :: false :: false :: false :: false :: false :: false :: false :: false :: false :: false :: false :: false :: false :: false :: false :: false :: false :: false :: false :: false :: false :: false :: false :: false :: false :: [])) ⟨List.toArray ((.agg (V8 f)) :: (.agg (V8 g)) :: (.agg (V8 h)) :: (.pointer (some ⟨w.heap.size, 0, none⟩)) :: (.pointer (some ⟨w.heap.size + 1, 0, none⟩)) :: (.pointer (some ⟨w.heap.size + 1 + 1, 0, none⟩)) :: (.bool false) :: (.pointer (some ⟨p, 0, none⟩)) :: (.pointer (some ⟨q, 0, none⟩)) :: (u9) :: (u10) :: (u11) :: (u12) :: (u13) :: (u14) :: (u15) :: (u16) :: (u17) :: (u18) :: (u19) :: (u20) :: (u21) :: (u22) :: (u23) :: (u24) :: (u25) :: (u26) :: (u27) :: (u28) :: (u29) :: (u30) :: (u31) :: (u32) :: (u33) :: (u34) :: (u35) :: (u36) :: (u37) :: (u38) :: (u39) :: (u40) :: (u41) :: (.bool true) :: (undef) :: (undef) :: (undef) :: (undef) :: (undef) :: (undef) :: (undef) :: (undef) :: (undef) :: (undef) :: (undef) :: (undef) :: (undef) :: (undef) :: (undef) :: (undef) :: (undef) :: (undef) :: (undef) :: (undef) :: (undef) :: (undef) :: (undef) :: (undef) :: (undef) :: (undef) :: (undef) :: (undef) :: (undef) :: (undef) :: (undef) :: (undef) :: (undef) :: (undef) :: (undef) :: (undef) :: (undef) :: (undef) :: (undef) :: (undef) :: (undef) :: (undef) :: (undef) :: (undef) :: (undef) :: (undef) :: (undef) :: (undef) :: (undef) :: []), []⟩ U := by
    intro u9 u10 u11 u12 u13 u14 u15 u16 u17 u18 u19 u20 u21 u22 u23 u24 u25 u26 u27 u28 u29 u30 u31 u32 u33 u34 u35 u36 u37 u38 u39 u40 u41 U hS
    refine wpAnyH_take (i := 26) HI26.out (by rw [HO.out]; kernel_rfl) (by rw [HO.out]; kernel_rfl) (by rw [HO.out]; kernel_rfl) (fun c a w h => HQP.out c a 43 _ w h) (jyload (by rw [HO.out]; kernel_rfl) (by exact ⟨_, rfl, rfl⟩) (fun w' hS' => LA2.out w' hS')) hS ?_
    simp only [List.getElem_toArray, List.getElem_cons_zero, List.getElem_cons_succ, Act.put, List.setIfInBounds_toArray, List.set_cons_zero, List.set_cons_succ]
    refine wpAnyH_take (i := 27) HI27.out (by rw [HO.out]; kernel_rfl) (by rw [HO.out]; kernel_rfl) (by rw [HO.out]; kernel_rfl) (fun c a w h => HQP.out c a 44 _ w h) (jyload (by rw [HO.out]; kernel_rfl) (by exact ⟨_, rfl, rfl⟩) (fun w' hS' => LB2.out w' hS')) hS ?_
    simp only [List.getElem_toArray, List.getElem_cons_zero, List.getElem_cons_succ, Act.put, List.setIfInBounds_toArray, List.set_cons_zero, List.set_cons_succ]
    refine wpAnyH_take (i := 28) HI28.out (by rw [HO.out]; kernel_rfl) (by rw [HO.out]; kernel_rfl) (by rw [HO.out]; kernel_rfl) (fun c a w h => HQP.out c a 45 _ w h) (jyload (by rw [HO.out]; kernel_rfl) (by exact ⟨_, rfl, rfl⟩) (fun w' hS' => LC2.out w' hS')) hS ?_
    simp only [List.getElem_toArray, List.getElem_cons_zero, List.getElem_cons_succ, Act.put, List.setIfInBounds_toArray, List.set_cons_zero, List.set_cons_succ]
    refine wpAnyH_take (i := 31) HI31.out (by rw [HO.out]; kernel_rfl) (by rw [HO.out]; kernel_rfl) (by rw [HO.out]; kernel_rfl) (fun c a w h => HQP.out c a 48 _ w h) (jyload (by rw [HO.out]; kernel_rfl) (by exact ⟨_, rfl, rfl⟩) (fun w' hS' => LA2.out w' hS')) hS ?_
    simp only [List.getElem_toArray, List.getElem_cons_zero, List.getElem_cons_succ, Act.put, List.setIfInBounds_toArray, List.set_cons_zero, List.set_cons_succ]
    refine wpAnyH_take (i := 32) HI32.out (by rw [HO.out]; kernel_rfl) (by rw [HO.out]; kernel_rfl) (by rw [HO.out]; kernel_rfl) (fun c a w h => HQP.out c a 49 _ w h) (jyload (by rw [HO.out]; kernel_rfl) (by exact ⟨_, rfl, rfl⟩) (fun w' hS' => LB2.out w' hS')) hS ?_
    simp only [List.getElem_toArray, List.getElem_cons_zero, List.getElem_cons_succ, Act.put, List.setIfInBounds_toArray, List.set_cons_zero, List.set_cons_succ]
    refine wpAnyH_take (i := 33) HI33.out (by rw [HO.out]; kernel_rfl) (by rw [HO.out]; kernel_rfl) (by rw [HO.out]; kernel_rfl) (fun c a w h => HQP.out c a 50 _ w h) (jyload (by rw [HO.out]; kernel_rfl) (by exact ⟨_, rfl, rfl⟩) (fun w' hS' => LC2.out w' hS')) hS ?_
    simp only [List.getElem_toArray, List.getElem_cons_zero, List.getElem_cons_succ, Act.put, List.setIfInBounds_toArray, List.set_cons_zero, List.set_cons_succ]
    refine wpAnyH_ready (rs := [29, 34]) (by rw [HO.out]; kernel_rfl) (by simp) ?_
    refine AllReadyH.cons HI29.out (fun K1 hK1 => ?_) (AllReadyH.cons HI34.out (fun K1 hK1 => ?_) AllReadyH.nil)
    · rw [if_pos (by rw [HO.out]; kernel_rfl)]
      go_simp
      refine build3 (f := f) (g := g) (h := h) hS (fun U37 hS fx hx29 => ?_)
      refine hK1.out _ _ hS (fun hS => ?_)
      clear hK1 K1 fx
      simp only [List.getElem_toArray, List.getElem_cons_zero, List.getElem_cons_succ, Act.put, List.setIfInBounds_toArray, List.set_cons_zero, List.set_cons_succ]
      refine wpAnyH_ready (rs := [30, 34]) (by rw [HO.out]; kernel_rfl) (by simp) ?_
      refine AllReadyH.cons HI30.out (fun K1 hK1 => ?_) (AllReadyH.cons HI34.out (fun K1 hK1 => ?_) AllReadyH.nil)
      · rw [if_pos (by rw [HO.out]; kernel_rfl)]
        go_simp
        refine (K30.out _ _ hx29).mono ?_
        rintro e U38 ⟨rfl, fx⟩
        refine hK1.out _ _ (hS.trans fx (fun _ _ h => h)) (fun hS => ?_)
        clear hx29
        clear fx hK1 K1
        simp only [List.getElem_toArray, List.getElem_cons_zero, List.getElem_cons_succ, Act.put, List.setIfInBounds_toArray, List.set_cons_zero, List.set_cons_succ]
        refine wpAnyH_ready (rs := [34]) (by rw [HO.out]; kernel_rfl) (by simp) ?_
        refine AllReadyH.cons HI34.out (fun K1 hK1 => ?_) AllReadyH.nil
        rw [if_pos (by rw [HO.out]; kernel_rfl)]
        go_simp
        refine build2 (f := g) (g := h) hS (fun U39 hS fx hx34 => ?_)
        refine hK1.out _ _ hS (fun hS => ?_)
        clear hK1 K1 fx
        simp only [List.getElem_toArray, List.getElem_cons_zero, List.getElem_cons_succ, Act.put, List.setIfInBounds_toArray, List.set_cons_zero, List.set_cons_succ]
        refine wpAnyH_ready (rs := [35]) (by rw [HO.out]; kernel_rfl) (by simp) ?_
        refine AllReadyH.cons HI35.out (fun K1 hK1 => ?_) AllReadyH.nil
        rw [if_pos (by rw [HO.out]; kernel_rfl)]
        go_simp
        refine (K35.out _ _ hx34).mono ?_
        rintro e U40 ⟨rfl, fx⟩
        refine hK1.out _ _ (hS.trans fx (fun _ _ h => h)) (fun hS => ?_)
        clear hx34
        clear fx hK1 K1
        simp only [List.getElem_toArray, List.getElem_cons_zero, List.getElem_cons_succ, Act.put, List.setIfInBounds_toArray, List.set_cons_zero, List.set_cons_succ]
        refine wpAnyH_ready (rs := [36]) (by rw [HO.out]; kernel_rfl) (by simp) ?_
        refine AllReadyH.cons HI36.out (fun K1 hK1 => ?_) AllReadyH.nil
        rw [if_pos (by rw [HO.out]; kernel_rfl)]
        go_simp
        refine build2 (f := f) (g := GH) hS (fun U41 hS fx hx36 => ?_)
        refine hK1.out _ _ hS (fun hS => ?_)
        clear hK1 K1 fx
        simp only [List.getElem_toArray, List.getElem_cons_zero, List.getElem_cons_succ, Act.put, List.setIfInBounds_toArray, List.set_cons_zero, List.set_cons_succ]
        refine wpAnyH_ready (rs := [37]) (by rw [HO.out]; kernel_rfl) (by simp) ?_
        refine AllReadyH.cons HI37.out (fun K1 hK1 => ?_) AllReadyH.nil
        rw [if_pos (by rw [HO.out]; kernel_rfl)]
        go_simp
        refine (K37.out _ _ hx36).mono ?_
        rintro e U42 ⟨rfl, fx⟩
        refine hK1.out _ _ (hS.trans fx (fun _ _ h => h)) (fun hS => ?_)
        clear hx36
        clear fx hK1 K1
        simp only [List.getElem_toArray, List.getElem_cons_zero, List.getElem_cons_succ, Act.put, List.setIfInBounds_toArray, List.set_cons_zero, List.set_cons_succ]
        refine wpAnyH_take (i := 38) HI38.out (by rw [HO.out]; kernel_rfl) (by rw [HO.out]; kernel_rfl) (by rw [HO.out]; kernel_rfl) (fun c a w h => HQP.out c a 55 _ w h) (syeql (u := .agg (V8 T3)) (v := .agg (V8 T2)) (by rw [HO.out]; kernel_rfl) (by exact ⟨_, _, _, rfl, by kernel_rfl, by kernel_rfl, fun W => guardV _ _ _ _ W⟩) (fun w' hS' => E38.out w')) hS ?_
        simp only [List.getElem_toArray, List.getElem_cons_zero, List.getElem_cons_succ, Act.put, List.setIfInBounds_toArray, List.set_cons_zero, List.set_cons_succ]
        refine wpAnyH_take (i := 39) (v := .bool true) HI39.out (by rw [HO.out]; kernel_rfl) (by rw [HO.out]; kernel_rfl) (by rw [HO.out]; kernel_rfl) (fun c a w h => HQP.out c a 56 _ w h) (Or.inl ⟨(by rw [HO.out]; kernel_rfl), fun w' hS' => by clear hS'; go_simp⟩) hS ?_
        simp only [List.getElem_toArray, List.getElem_cons_zero, List.getElem_cons_succ, Act.put, List.setIfInBounds_toArray, List.set_cons_zero, List.set_cons_succ]
        refine wpAnyH_take (i := 40) (v := .bool true) HI40.out (by rw [HO.out]; kernel_rfl) (by rw [HO.out]; kernel_rfl) (by rw [HO.out]; kernel_rfl) (fun c a w h => HQP.out c a 57 _ w h) (Or.inl ⟨(by rw [HO.out]; kernel_rfl), fun w' hS' => by clear hS'; go_simp⟩) hS ?_
        simp only [List.getElem_toArray, List.getElem_cons_zero, List.getElem_cons_succ, Act.put, List.setIfInBounds_toArray, List.set_cons_zero, List.set_cons_succ]
        exact REST40 _ _ _ _ _ _ _ _ _ _ _ _ _ _ _ _ _ _ _ _ _ _ _ _ _ _ _ _ _ _ _ _ _ _ _ _ _ _ _ _ _ _ _ _ _ _ _ _ _ hS
      · rw [if_pos (by rw [HO.out]; kernel_rfl)]
        go_simp
        refine build2 (f := g) (g := h) hS (fun U43 hS fx hx34 => ?_)
        refine hK1.out _ _ hS (fun hS => ?_)
        have hx29 := hx29.fr fx
        clear hK1 K1 fx
        simp only [List.getElem_toArray, List.getElem_cons_zero, List.getElem_cons_succ, Act.put, List.setIfInBounds_toArray, List.set_cons_zero, List.set_cons_succ]
        refine wpAnyH_ready (rs := [30]) (by rw [HO.out]; kernel_rfl) (by simp) ?_
        refine AllReadyH.cons HI30.out (fun K1 hK1 => ?_) AllReadyH.nil
        rw [if_pos (by rw [HO.out]; kernel_rfl)]
        go_simp
        refine (K30.out _ _ hx29).mono ?_
        rintro e U44 ⟨rfl, fx⟩
        refine hK1.out _ _ (hS.trans fx (fun _ _ h => h)) (fun hS => ?_)
        clear hx29
        have hx34 := hx34.fr fx
        clear fx hK1 K1
        simp only [List.getElem_toArray, List.getElem_cons_zero, List.getElem_cons_succ, Act.put, List.setIfInBounds_toArray, List.set_cons_zero, List.set_cons_succ]
        refine wpAnyH_ready (rs := [35]) (by rw [HO.out]; kernel_rfl) (by simp) ?_
        refine AllReadyH.cons HI35.out (fun K1 hK1 => ?_) AllReadyH.nil
        rw [if_pos (by rw [HO.out]; kernel_rfl)]
        go_simp
        refine (K35.out _ _ hx34).mono ?_
        rintro e U45 ⟨rfl, fx⟩
        refine hK1.out _ _ (hS.trans fx (fun _ _ h => h)) (fun hS => ?_)
        clear hx34
        clear fx hK1 K1
        simp only [List.getElem_toArray, List.getElem_cons_zero, List.getElem_cons_succ, Act.put, List.setIfInBounds_toArray, List.set_cons_zero, List.set_cons_succ]
        refine wpAnyH_ready (rs := [36]) (by rw [HO.out]; kernel_rfl) (by simp) ?_
        refine AllReadyH.cons HI36.out (fun K1 hK1 => ?_) AllReadyH.nil
        rw [if_pos (by rw [HO.out]; kernel_rfl)]
        go_simp
        refine build2 (f := f) (g := GH) hS (fun U46 hS fx hx36 => ?_)
        refine hK1.out _ _ hS (fun hS => ?_)
        clear hK1 K1 fx
        simp only [List.getElem_toArray, List.getElem_cons_zero, List.getElem_cons_succ, Act.put, List.setIfInBounds_toArray, List.set_cons_zero, List.set_cons_succ]
        refine wpAnyH_ready (rs := [37]) (by rw [HO.out]; kernel_rfl) (by simp) ?_
        refine AllReadyH.cons HI37.out (fun K1 hK1 => ?_) AllReadyH.nil
        rw [if_pos (by rw [HO.out]; kernel_rfl)]
        go_simp
        refine (K37.out _ _ hx36).mono ?_
        rintro e U47 ⟨rfl, fx⟩
        refine hK1.out _ _ (hS.trans fx (fun _ _ h => h)) (fun hS => ?_)
        clear hx36
        clear fx hK1 K1
        simp only [List.getElem_toArray, List.getElem_cons_zero, List.getElem_cons_succ, Act.put, List.setIfInBounds_toArray, List.set_cons_zero, List.set_cons_succ]
        refine wpAnyH_take (i := 38) HI38.out (by rw [HO.out]; kernel_rfl) (by rw [HO.out]; kernel_rfl) (by rw [HO.out]; kernel_rfl) (fun c a w h => HQP.out c a 55 _ w h) (syeql (u := .agg (V8 T3)) (v := .agg (V8 T2)) (by rw [HO.out]; kernel_rfl) (by exact ⟨_, _, _, rfl, by kernel_rfl, by kernel_rfl, fun W => guardV _ _ _ _ W⟩) (fun w' hS' => E38.out w')) hS ?_
        simp only [List.getElem_toArray, List.getElem_cons_zero, List.getElem_cons_succ, Act.put, List.setIfInBounds_toArray, List.set_cons_zero, List.set_cons_succ]
        refine wpAnyH_take (i := 39) (v := .bool true) HI39.out (by rw [HO.out]; kernel_rfl) (by rw [HO.out]; kernel_rfl) (by rw [HO.out]; kernel_rfl) (fun c a w h => HQP.out c a 56 _ w h) (Or.inl ⟨(by rw [HO.out]; kernel_rfl), fun w' hS' => by clear hS'; go_simp⟩) hS ?_
        simp only [List.getElem_toArray, List.getElem_cons_zero, List.getElem_cons_succ, Act.put, List.setIfInBounds_toArray, List.set_cons_zero, List.set_cons_succ]
        refine wpAnyH_take (i := 40) (v := .bool true) HI40.out (by rw [HO.out]; kernel_rfl) (by rw [HO.out]; kernel_rfl) (by rw [HO.out]; kernel_rfl) (fun c a w h => HQP.out c a 57 _ w h) (Or.inl ⟨(by rw [HO.out]; kernel_rfl), fun w' hS' => by clear hS'; go_simp⟩) hS ?_
        simp only [List.getElem_toArray, List.getElem_cons_zero, List.getElem_cons_succ, Act.put, List.setIfInBounds_toArray, List.set_cons_zero, List.set_cons_succ]
        exact REST40 _ _ _ _ _ _ _ _ _ _ _ _ _ _ _ _ _ _ _ _ _ _ _ _ _ _ _ _ _ _ _ _ _ _ _ _ _ _ _ _ _ _ _ _ _ _ _ _ _ hS
    · rw [if_pos (by rw [HO.out]; kernel_rfl)]
      go_simp
      refine build2 (f := g) (g := h) hS (fun U48 hS fx hx34 => ?_)
      refine hK1.out _ _ hS (fun hS => ?_)
      clear hK1 K1 fx
      simp only [List.getElem_toArray, List.getElem_cons_zero, List.getElem_cons_succ, Act.put, List.setIfInBounds_toArray, List.set_cons_zero, List.set_cons_succ]
      refine wpAnyH_ready (rs := [29]) (by rw [HO.out]; kernel_rfl) (by simp) ?_
      refine AllReadyH.cons HI29.out (fun K1 hK1 => ?_) AllReadyH.nil
      rw [if_pos (by rw [HO.out]; kernel_rfl)]
      go_simp
      refine build3 (f := f) (g := g) (h := h) hS (fun U49 hS fx hx29 => ?_)
      refine hK1.out _ _ hS (fun hS => ?_)
      have hx34 := hx34.fr fx
      clear hK1 K1 fx
      simp only [List.getElem_toArray, List.getElem_cons_zero, List.getElem_cons_succ, Act.put, List.setIfInBounds_toArray, List.set_cons_zero, List.set_cons_succ]
      refine wpAnyH_ready (rs := [30]) (by rw [HO.out]; kernel_rfl) (by simp) ?_
      refine AllReadyH.cons HI30.out (fun K1 hK1 => ?_) AllReadyH.nil
      rw [if_pos (by rw [HO.out]; kernel_rfl)]
      go_simp
      refine (K30.out _ _ hx29).mono ?_
      rintro e U50 ⟨rfl, fx⟩
      refine hK1.out _ _ (hS.trans fx (fun _ _ h => h)) (fun hS => ?_)
      clear hx29
      have hx34 := hx34.fr fx
      clear fx hK1 K1
      simp only [List.getElem_toArray, List.getElem_cons_zero, List.getElem_cons_succ, Act.put, List.setIfInBounds_toArray, List.set_cons_zero, List.set_cons_succ]
      refine wpAnyH_ready (rs := [35]) (by rw [HO.out]; kernel_rfl) (by simp) ?_
      refine AllReadyH.cons HI35.out (fun K1 hK1 => ?_) AllReadyH.nil
      rw [if_pos (by rw [HO.out]; kernel_rfl)]
      go_simp
      refine (K35.out _ _ hx34).mono ?_
      rintro e U51 ⟨rfl, fx⟩
      refine hK1.out _ _ (hS.trans fx (fun _ _ h => h)) (fun hS => ?_)
      clear hx34
      clear fx hK1 K1
      simp only [List.getElem_toArray, List.getElem_cons_zero, List.getElem_cons_succ, Act.put, List.setIfInBounds_toArray, List.set_cons_zero, List.set_cons_succ]
      refine wpAnyH_ready (rs := [36]) (by rw [HO.out]; kernel_rfl) (by simp) ?_
      refine AllReadyH.cons HI36.out (fun K1 hK1 => ?_) AllReadyH.nil
      rw [if_pos (by rw [HO.out]; kernel_rfl)]
      go_simp
      refine build2 (f := f) (g := GH) hS (fun U52 hS fx hx36 => ?_)
      refine hK1.out _ _ hS (fun hS => ?_)
      clear hK1 K1 fx
      simp only [List.getElem_toArray, List.getElem_cons_zero, List.getElem_cons_succ, Act.put, List.setIfInBounds_toArray, List.set_cons_zero, List.set_cons_succ]
      refine wpAnyH_ready (rs := [37]) (by rw [HO.out]; kernel_rfl) (by simp) ?_
      refine AllReadyH.cons HI37.out (fun K1 hK1 => ?_) AllReadyH.nil
      rw [if_pos (by rw [HO.out]; kernel_rfl)]
      go_simp
      refine (K37.out _ _ hx36).mono ?_
      rintro e U53 ⟨rfl, fx⟩
      refine hK1.out _ _ (hS.trans fx (fun _ _ h => h)) (fun hS => ?_)
      clear hx36
      clear fx hK1 K1
      simp only [List.getElem_toArray, List.getElem_cons_zero, List.getElem_cons_succ, Act.put, List.setIfInBounds_toArray, List.set_cons_zero, List.set_cons_succ]
      refine wpAnyH_take (i := 38) HI38.out (by rw [HO.out]; kernel_rfl) (by rw [HO.out]; kernel_rfl) (by rw [HO.out]; kernel_rfl) (fun c a w h => HQP.out c a 55 _ w h) (syeql (u := .agg (V8 T3)) (v := .agg (V8 T2)) (by rw [HO.out]; kernel_rfl) (by exact ⟨_, _, _, rfl, by kernel_rfl, by kernel_rfl, fun W => guardV _ _ _ _ W⟩) (fun w' hS' => E38.out w')) hS ?_
      simp only [List.getElem_toArray, List.getElem_cons_zero, List.getElem_cons_succ, Act.put, List.setIfInBounds_toArray, List.set_cons_zero, List.set_cons_succ]
      refine wpAnyH_take (i := 39) (v := .bool true) HI39.out (by rw [HO.out]; kernel_rfl) (by rw [HO.out]; kernel_rfl) (by rw [HO.out]; kernel_rfl) (fun c a w h => HQP.out c a 56 _ w h) (Or.inl ⟨(by rw [HO.out]; kernel_rfl), fun w' hS' => by clear hS'; go_simp⟩) hS ?_
      simp only [List.getElem_toArray, List.getElem_cons_zero, List.getElem_cons_succ, Act.put, List.setIfInBounds_toArray, List.set_cons_zero, List.set_cons_succ]
      refine wpAnyH_take (i := 40) (v := .bool true) HI40.out (by rw [HO.out]; kernel_rfl) (by rw [HO.out]; kernel_rfl) (by rw [HO.out]; kernel_rfl) (fun c a w h => HQP.out c a 57 _ w h) (Or.inl ⟨(by rw [HO.out]; kernel_rfl), fun w' hS' => by clear hS'; go_simp⟩) hS ?_
      simp only [List.getElem_toArray, List.getElem_cons_zero, List.getElem_cons_succ, Act.put, List.setIfInBounds_toArray, List.set_cons_zero, List.set_cons_succ]
      exact REST40 _ _ _ _ _ _ _ _ _ _ _ _ _ _ _ _ _ _ _ _ _ _ _ _ _ _ _ _ _ _ _ _ _ _ _ _ _ _ _ _ _ _ _ _ _ _ _ _ _ hS
  clear REST40
  refine wpAnyH_ready (rs := [0]) (by rw [HO.out]; kernel_rfl) (by simp) ?_
  refine AllReadyH.cons HI0.out (fun K1 hK1 => ?_) AllReadyH.nil
  rw [if_pos (by rw [HO.out]; kernel_rfl)]
  go_simp
  refine (KL.out _).mono ?_
  rintro e U54 ⟨rfl, fx⟩
  refine hK1.out _ _ (hS.trans fx (fun _ _ h => h)) (fun hS => ?_)
  clear fx hK1 K1
  simp only [List.getElem_toArray, List.getElem_cons_zero, List.getElem_cons_succ, Act.put, List.setIfInBounds_toArray, List.set_cons_zero, List.set_cons_succ]
  refine wpAnyH_take (i := 1) (v := .bool true) HI1.out (by rw [HO.out]; kernel_rfl) (by rw [HO.out]; kernel_rfl) (by rw [HO.out]; kernel_rfl) (fun c a w h => HQP.out c a 18 _ w h) (Or.inl ⟨(by rw [HO.out]; kernel_rfl), fun w' hS' => by clear hS'; go_simp⟩) hS ?_
  simp only [List.getElem_toArray, List.getElem_cons_zero, List.getElem_cons_succ, Act.put, List.setIfInBounds_toArray, List.set_cons_zero, List.set_cons_succ]
  refine wpAnyH_take (i := 2) HI2.out (by rw [HO.out]; kernel_rfl) (by rw [HO.out]; kernel_rfl) (by rw [HO.out]; kernel_rfl) (fun c a w h => HQP.out c a 19 _ w h) (jyload (by rw [HO.out]; kernel_rfl) (by exact ⟨_, rfl, rfl⟩) (fun w' hS' => LA2.out w' hS')) hS ?_
  simp only [List.getElem_toArray, List.getElem_cons_zero, List.getElem_cons_succ, Act.put, List.setIfInBounds_toArray, List.set_cons_zero, List.set_cons_succ]
  refine wpAnyH_take (i := 3) HI3.out (by rw [HO.out]; kernel_rfl) (by rw [HO.out]; kernel_rfl) (by rw [HO.out]; kernel_rfl) (fun c a w h => HQP.out c a 20 _ w h) (jyload (by rw [HO.out]; kernel_rfl) (by exact ⟨_, rfl, rfl⟩) (fun w' hS' => LM.out w' hS')) hS ?_
  simp only [List.getElem_toArray, List.getElem_cons_zero, List.getElem_cons_succ, Act.put, List.setIfInBounds_toArray, List.set_cons_zero, List.set_cons_succ]
  refine wpAnyH_take (i := 6) HI6.out (by rw [HO.out]; kernel_rfl) (by rw [HO.out]; kernel_rfl) (by rw [HO.out]; kernel_rfl) (fun c a w h => HQP.out c a 23 _ w h) (jyload (by rw [HO.out]; kernel_rfl) (by exact ⟨_, rfl, rfl⟩) (fun w' hS' => LA2.out w' hS')) hS ?_
  simp only [List.getElem_toArray, List.getElem_cons_zero, List.getElem_cons_succ, Act.put, List.setIfInBounds_toArray, List.set_cons_zero, List.set_cons_succ]
  refine wpAnyH_ready (rs := [4]) (by rw [HO.out]; kernel_rfl) (by simp) ?_
  refine AllReadyH.cons HI4.out (fun K1 hK1 => ?_) AllReadyH.nil
  rw [if_pos (by rw [HO.out]; kernel_rfl)]
  go_simp
  refine build2 (f := f) (g := M) hS (fun U55 hS fx hx4 => ?_)
  refine hK1.out _ _ hS (fun hS => ?_)
  clear hK1 K1 fx
  simp only [List.getElem_toArray, List.getElem_cons_zero, List.getElem_cons_succ, Act.put, List.setIfInBounds_toArray, List.set_cons_zero, List.set_cons_succ]
  refine wpAnyH_ready (rs := [5]) (by rw [HO.out]; kernel_rfl) (by simp) ?_
  refine AllReadyH.cons HI5.out (fun K1 hK1 => ?_) AllReadyH.nil
  rw [if_pos (by rw [HO.out]; kernel_rfl)]
  go_simp
  refine (K5.out _ _ hx4).mono ?_
  rintro e U56 ⟨rfl, fx⟩
  refine hK1.out _ _ (hS.trans fx (fun _ _ h => h)) (fun hS => ?_)
  clear hx4
  clear fx hK1 K1
  simp only [List.getElem_toArray, List.getElem_cons_zero, List.getElem_cons_succ, Act.put, List.setIfInBounds_toArray, List.set_cons_zero, List.set_cons_succ]
  refine wpAnyH_take (i := 7) HI7.out (by rw [HO.out]; kernel_rfl) (by rw [HO.out]; kernel_rfl) (by rw [HO.out]; kernel_rfl) (fun c a w h => HQP.out c a 24 _ w h) (syeql (u := .agg (V8 P1)) (v := .agg (V8 f)) (by rw [HO.out]; kernel_rfl) (by exact ⟨_, _, _, rfl, by kernel_rfl, by kernel_rfl, fun W => guardV _ _ _ _ W⟩) (fun w' hS' => E7.out w')) hS ?_
  simp only [List.getElem_toArray, List.getElem_cons_zero, List.getElem_cons_succ, Act.put, List.setIfInBounds_toArray, List.set_cons_zero, List.set_cons_succ]
  refine wpAnyH_take (i := 8) (v := .bool true) HI8.out (by rw [HO.out]; kernel_rfl) (by rw [HO.out]; kernel_rfl) (by rw [HO.out]; kernel_rfl) (fun c a w h => HQP.out c a 25 _ w h) (Or.inl ⟨(by rw [HO.out]; kernel_rfl), fun w' hS' => by clear hS'; go_simp⟩) hS ?_
  simp only [List.getElem_toArray, List.getElem_cons_zero, List.getElem_cons_succ, Act.put, List.setIfInBounds_toArray, List.set_cons_zero, List.set_cons_succ]
  refine wpAnyH_take (i := 9) (v := .bool true) HI9.out (by rw [HO.out]; kernel_rfl) (by rw [HO.out]; kernel_rfl) (by rw [HO.out]; kernel_rfl) (fun c a w h => HQP.out c a 26 _ w h) (Or.inl ⟨(by rw [HO.out]; kernel_rfl), fun w' hS' => by clear hS'; go_simp⟩) hS ?_
  simp only [List.getElem_toArray, List.getElem_cons_zero, List.getElem_cons_succ, Act.put, List.setIfInBounds_toArray, List.set_cons_zero, List.set_cons_succ]
  refine wpAnyH_take (i := 10) HI10.out (by rw [HO.out]; kernel_rfl) (by rw [HO.out]; kernel_rfl) (by rw [HO.out]; kernel_rfl) (fun c a w h => HQP.out c a 27 _ w h) (jyload (by rw [HO.out]; kernel_rfl) (by exact ⟨_, rfl, rfl⟩) (fun w' hS' => LA2.out w' hS')) hS ?_
  simp only [List.getElem_toArray, List.getElem_cons_zero, List.getElem_cons_succ, Act.put, List.setIfInBounds_toArray, List.set_cons_zero, List.set_cons_succ]
  refine wpAnyH_take (i := 11) HI11.out (by rw [HO.out]; kernel_rfl) (by rw [HO.out]; kernel_rfl) (by rw [HO.out]; kernel_rfl) (fun c a w h => HQP.out c a 28 _ w h) (jyload (by rw [HO.out]; kernel_rfl) (by exact ⟨_, rfl, rfl⟩) (fun w' hS' => LJ.out w' hS')) hS ?_
  simp only [List.getElem_toArray, List.getElem_cons_zero, List.getElem_cons_succ, Act.put, List.setIfInBounds_toArray, List.set_cons_zero, List.set_cons_succ]
  refine wpAnyH_take (i := 14) HI14.out (by rw [HO.out]; kernel_rfl) (by rw [HO.out]; kernel_rfl) (by rw [HO.out]; kernel_rfl) (fun c a w h => HQP.out c a 31 _ w h) (jyload (by rw [HO.out]; kernel_rfl) (by exact ⟨_, rfl, rfl⟩) (fun w' hS' => LA2.out w' hS')) hS ?_
  simp only [List.getElem_toArray, List.getElem_cons_zero, List.getElem_cons_succ, Act.put, List.setIfInBounds_toArray, List.set_cons_zero, List.set_cons_succ]
  refine wpAnyH_ready (rs := [12]) (by rw [HO.out]; kernel_rfl) (by simp) ?_
  refine AllReadyH.cons HI12.out (fun K1 hK1 => ?_) AllReadyH.nil
  rw [if_pos (by rw [HO.out]; kernel_rfl)]
  go_simp
  refine build2 (f := f) (g := J) hS (fun U57 hS fx hx12 => ?_)
  refine hK1.out _ _ hS (fun hS => ?_)
  clear hK1 K1 fx
  simp only [List.getElem_toArray, List.getElem_cons_zero, List.getElem_cons_succ, Act.put, List.setIfInBounds_toArray, List.set_cons_zero, List.set_cons_succ]
  refine wpAnyH_ready (rs := [13]) (by rw [HO.out]; kernel_rfl) (by simp) ?_
  refine AllReadyH.cons HI13.out (fun K1 hK1 => ?_) AllReadyH.nil
  rw [if_pos (by rw [HO.out]; kernel_rfl)]
  go_simp
  refine (K13.out _ _ hx12).mono ?_
  rintro e U58 ⟨rfl, fx⟩
  refine hK1.out _ _ (hS.trans fx (fun _ _ h => h)) (fun hS => ?_)
  clear hx12
  clear fx hK1 K1
  simp only [List.getElem_toArray, List.getElem_cons_zero, List.getElem_cons_succ, Act.put, List.setIfInBounds_toArray, List.set_cons_zero, List.set_cons_succ]
  refine wpAnyH_take (i := 15) HI15.out (by rw [HO.out]; kernel_rfl) (by rw [HO.out]; kernel_rfl) (by rw [HO.out]; kernel_rfl) (fun c a w h => HQP.out c a 32 _ w h) (syeql (u := .agg (V8 Q1)) (v := .agg (V8 f)) (by rw [HO.out]; kernel_rfl) (by exact ⟨_, _, _, rfl, by kernel_rfl, by kernel_rfl, fun W => guardV _ _ _ _ W⟩) (fun w' hS' => E15.out w')) hS ?_
  simp only [List.getElem_toArray, List.getElem_cons_zero, List.getElem_cons_succ, Act.put, List.setIfInBounds_toArray, List.set_cons_zero, List.set_cons_succ]
  refine wpAnyH_take (i := 16) (v := .bool true) HI16.out (by rw [HO.out]; kernel_rfl) (by rw [HO.out]; kernel_rfl) (by rw [HO.out]; kernel_rfl) (fun c a w h => HQP.out c a 33 _ w h) (Or.inl ⟨(by rw [HO.out]; kernel_rfl), fun w' hS' => by clear hS'; go_simp⟩) hS ?_
  simp only [List.getElem_toArray, List.getElem_cons_zero, List.getElem_cons_succ, Act.put, List.setIfInBounds_toArray, List.set_cons_zero, List.set_cons_succ]
  refine wpAnyH_take (i := 17) (v := .bool true) HI17.out (by rw [HO.out]; kernel_rfl) (by rw [HO.out]; kernel_rfl) (by rw [HO.out]; kernel_rfl) (fun c a w h => HQP.out c a 34 _ w h) (Or.inl ⟨(by rw [HO.out]; kernel_rfl), fun w' hS' => by clear hS'; go_simp⟩) hS ?_
  simp only [List.getElem_toArray, List.getElem_cons_zero, List.getElem_cons_succ, Act.put, List.setIfInBounds_toArray, List.set_cons_zero, List.set_cons_succ]
  refine wpAnyH_take (i := 18) HI18.out (by rw [HO.out]; kernel_rfl) (by rw [HO.out]; kernel_rfl) (by rw [HO.out]; kernel_rfl) (fun c a w h => HQP.out c a 35 _ w h) (jyload (by rw [HO.out]; kernel_rfl) (by exact ⟨_, rfl, rfl⟩) (fun w' hS' => LA2.out w' hS')) hS ?_
  simp only [List.getElem_toArray, List.getElem_cons_zero, List.getElem_cons_succ, Act.put, List.setIfInBounds_toArray, List.set_cons_zero, List.set_cons_succ]
  refine wpAnyH_take (i := 19) HI19.out (by rw [HO.out]; kernel_rfl) (by rw [HO.out]; kernel_rfl) (by rw [HO.out]; kernel_rfl) (fun c a w h => HQP.out c a 36 _ w h) (jyload (by rw [HO.out]; kernel_rfl) (by exact ⟨_, rfl, rfl⟩) (fun w' hS' => LA2.out w' hS')) hS ?_
  simp only [List.getElem_toArray, List.getElem_cons_zero, List.getElem_cons_succ, Act.put, List.setIfInBounds_toArray, List.set_cons_zero, List.set_cons_succ]
  refine wpAnyH_take (i := 22) HI22.out (by rw [HO.out]; kernel_rfl) (by rw [HO.out]; kernel_rfl) (by rw [HO.out]; kernel_rfl) (fun c a w h => HQP.out c a 39 _ w h) (jyload (by rw [HO.out]; kernel_rfl) (by exact ⟨_, rfl, rfl⟩) (fun w' hS' => LA2.out w' hS')) hS ?_
  simp only [List.getElem_toArray, List.getElem_cons_zero, List.getElem_cons_succ, Act.put, List.setIfInBounds_toArray, List.set_cons_zero, List.set_cons_succ]
  refine wpAnyH_ready (rs := [20]) (by rw [HO.out]; kernel_rfl) (by simp) ?_
  refine AllReadyH.cons HI20.out (fun K1 hK1 => ?_) AllReadyH.nil
  rw [if_pos (by rw [HO.out]; kernel_rfl)]
  go_simp
  refine build2 (f := f) (g := f) hS (fun U59 hS fx hx20 => ?_)
  refine hK1.out _ _ hS (fun hS => ?_)
  clear hK1 K1 fx
  simp only [List.getElem_toArray, List.getElem_cons_zero, List.getElem_cons_succ, Act.put, List.setIfInBounds_toArray, List.set_cons_zero, List.set_cons_succ]
  refine wpAnyH_ready (rs := [21]) (by rw [HO.out]; kernel_rfl) (by simp) ?_
  refine AllReadyH.cons HI21.out (fun K1 hK1 => ?_) AllReadyH.nil
  rw [if_pos (by rw [HO.out]; kernel_rfl)]
  go_simp
  refine (K21.out _ _ hx20).mono ?_
  rintro e U60 ⟨rfl, fx⟩
  refine hK1.out _ _ (hS.trans fx (fun _ _ h => h)) (fun hS => ?_)
  clear hx20
  clear fx hK1 K1
  simp only [List.getElem_toArray, List.getElem_cons_zero, List.getElem_cons_succ, Act.put, List.setIfInBounds_toArray, List.set_cons_zero, List.set_cons_succ]
  refine wpAnyH_take (i := 23) HI23.out (by rw [HO.out]; kernel_rfl) (by rw [HO.out]; kernel_rfl) (by rw [HO.out]; kernel_rfl) (fun c a w h => HQP.out c a 40 _ w h) (syeql (u := .agg (V8 D)) (v := .agg (V8 f)) (by rw [HO.out]; kernel_rfl) (by exact ⟨_, _, _, rfl, by kernel_rfl, by kernel_rfl, fun W => guardV _ _ _ _ W⟩) (fun w' hS' => E23.out w')) hS ?_
  simp only [List.getElem_toArray, List.getElem_cons_zero, List.getElem_cons_succ, Act.put, List.setIfInBounds_toArray, List.set_cons_zero, List.set_cons_succ]
  refine wpAnyH_take (i := 24) (v := .bool true) HI24.out (by rw [HO.out]; kernel_rfl) (by rw [HO.out]; kernel_rfl) (by rw [HO.out]; kernel_rfl) (fun c a w h => HQP.out c a 41 _ w h) (Or.inl ⟨(by rw [HO.out]; kernel_rfl), fun w' hS' => by clear hS'; go_simp⟩) hS ?_
  simp only [List.getElem_toArray, List.getElem_cons_zero, List.getElem_cons_succ, Act.put, List.setIfInBounds_toArray, List.set_cons_zero, List.set_cons_succ]
  refine wpAnyH_take (i := 25) (v := .bool true) HI25.out (by rw [HO.out]; kernel_rfl) (by rw [HO.out]; kernel_rfl) (by rw [HO.out]; kernel_rfl) (fun c a w h => HQP.out c a 42 _ w h) (Or.inl ⟨(by rw [HO.out]; kernel_rfl), fun w' hS' => by clear hS'; go_simp⟩) hS ?_
  simp only [List.getElem_toArray, List.getElem_cons_zero, List.getElem_cons_succ, Act.put, List.setIfInBounds_toArray, List.set_cons_zero, List.set_cons_succ]
  exact REST25 _ _ _ _ _ _ _ _ _ _ _ _ _ _ _ _ _ _ _ _ _ _ _ _ _ _ _ _ _ _ _ _ _ _ hS
end Go.Proofs.Ytfbpaboakdpceab

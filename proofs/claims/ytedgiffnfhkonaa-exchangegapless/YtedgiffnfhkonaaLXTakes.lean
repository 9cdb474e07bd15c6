/-
  ExchangeTakes: the walk.
-/
import Derived.Test.YtedgiffnfhkonaaXRef2
import Derived.Test.YtedgiffnfhkonaaXBegun
import Derived.Test.YtedgiffnfhkonaaSAbove
namespace Go.Proofs.Ytedgiffnfhkonaa
open Go.RowKit
set_option linter.unusedVariables false
set_option linter.unusedSimpArgs false
set_option maxRecDepth 100000
theorem rtake_any {I : Nat → Prop} (w : World) (g : Nat → Int) (b : Bool) (v : Nat → Value) (hg : X.in64 g) (o q : Int) (l : List S.Op) (a : Option Addr) (c : Nat) (hl : X.Ops I w a l) (hi : ∀ x ∈ l, x.in64) (hln : l.length ≤ 1599289640401) :
    Calls Try.prog 8 #[.agg (X.cs g b v), .int .i64 o, .int .i64 q, .slice a l.length c] w fun e w' => X.New w (X.cnt g o q l) e w' := by
  have none_of : ∀ (e : Ending) (w' : World), X.cnt g o q l = [] → (e = .returned (.slice none 0 0) ∧ Fr (fun _ => False) w w') → X.New w (X.cnt g o q l) e w' := fun e w' h0 h => by
    obtain ⟨rfl, hf⟩ := h
    rw [h0]
    exact ⟨none, 0, rfl, X.Ops.nil _ _ _, Nat.zero_le _, hf⟩
  cases hs : X.site o with
  | false => exact (rtake_out w g b v o q a l.length c hs).mono fun e w' h => none_of e w' (by unfold X.cnt X.may; simp [hs]) h
  | true =>
    have hs2 := X.site_iff.1 hs
    obtain ⟨k, rfl⟩ : ∃ k : Nat, o = (k : Int) := ⟨o.toNat, by omega⟩
    by_cases hm : X.may g (k : Int) q = false ∨ 1099511627776 < g (29 + k)
    · exact (rtake_no w g b v k (by omega) q a l.length c hm).mono fun e w' h => none_of e w' (X.cnt_no l hm) h
    · have h1 : X.may g (k : Int) q = true := by cases h : X.may g (k : Int) q <;> simp [h] at hm ⊢
      exact rtake_ok w g b v hg k (by omega) q l a c hl hi hln h1 (fun h => hm (.inr h))
set_option maxHeartbeats 6400000 in
theorem exchangeTakes_walk {I : Nat → Prop} {w : World} {g : Nat → Int} {b : Bool} {v : Nat → Value} (hg : X.in64 g) {o q : Int} {l : List S.Op} {a : Option Addr} {c : Nat} (hl : X.Ops I w a l) (hi : ∀ x ∈ l, x.in64) (hln : l.length ≤ c ∧ l.length ≤ 1599289640401) :
    Calls Try.prog 3 #[.agg (X.cs g b v), .int .i64 o, .int .i64 q, .slice a l.length c] w fun e w' => e = .returned (.bool true) ∧ Fr (fun _ => False) w w' := by
  obtain ⟨W, hW⟩ : ∃ W, w.alloc (.cells (X.cs g b v) 34) = W := ⟨_, rfl⟩
  have F0 := hid (show Fr (fun _ => False) w W from hW ▸ Fr.alloc (Fr.refl _ _) _)
  have SN := hid (show X.Sn W w.heap.size g b v from X.Sn.of (hW ▸ Go.heap_alloc_new w _))
  have LS := hid (fun (V : World) (hf : Fr (fun _ => False) W V) => (SN.out.kept hf (fun h => h)).load)
  have KT := hid (fun (V : World) (hf : Fr (fun _ => False) W V) => xtake_any V g b v hg o q l a c (hl.fr (F0.out.trans hf (fun _ _ h => h))) hi hln.1 hln.2)
  have RT := hid (fun (V : World) (hf : Fr (fun _ => False) W V) => rtake_any V g b v hg o q l a c (hl.fr (F0.out.trans hf (fun _ _ h => h))) hi hln.2)
  have LR := hid (Nat.le_trans (X.cnt_le g o q l) hln.2)
  generalize X.cs g b v = CX at hW LS KT RT ⊢
  generalize X.cnt g o q l = R at KT RT LR
  have HW := hid hW
  clear hW hl hi hln SN
  go_enter Try.func3, Try.ntmps3
  go_wp2_with fail
  rw [HW.out]
  have hmx : Try.prog.follows .mixedOrders = true := by kernel_rfl
  refine wp_region_held (S := fun V => Fr (fun _ => False) W V) hmx ?_
  have hS := (show Fr (fun _ => False) W W.drew from Fr.drew (Fr.refl _ _))
  simp only [List.size_toArray, List.length_cons, List.length_nil, Nat.reduceAdd, Array.replicate_succ, Array.replicate_zero, List.push_toArray, List.nil_append, List.cons_append]
  refine wpAnyH_ready (rs := [0]) (by kernel_rfl) (by simp) ?_
  refine AllReadyH.cons rfl (fun K1 hK1 => ?_) (AllReadyH.nil)
  go_simp
  refine (xbegun_any _).mono ?_
  rintro e w9 ⟨rfl, fx⟩
  refine hK1.out _ _ (hS.trans fx (fun _ _ h => h)) (fun hS => ?_)
  clear fx
  clear hK1 K1
  simp only [List.getElem_toArray, List.getElem_cons_zero, List.getElem_cons_succ, Act.put, List.setIfInBounds_toArray, List.set_cons_zero, List.set_cons_succ]
  refine wpAnyH_take (i := 1) (v := ?_) rfl (by kernel_rfl) (by kernel_rfl) (by kernel_rfl) (fun _ _ _ h => h) (Or.inl ⟨by kernel_rfl, ?_⟩) hS ?_
  rotate_left 1
  · (intro w' hS'; clear hS'; go_simp; try with_reducible rfl)
  simp only [List.getElem_toArray, List.getElem_cons_zero, List.getElem_cons_succ, Act.put, List.setIfInBounds_toArray, List.set_cons_zero, List.set_cons_succ]
  refine wpAnyH_take (i := 2) rfl (by kernel_rfl) (by kernel_rfl) (by kernel_rfl) (fun _ _ _ h => h) (jyload (by kernel_rfl) (by exact ⟨_, rfl, rfl⟩) (fun w' hS' => LS.out w' hS')) hS ?_
  simp only [List.getElem_toArray, List.getElem_cons_zero, List.getElem_cons_succ, Act.put, List.setIfInBounds_toArray, List.set_cons_zero, List.set_cons_succ]
  refine wpAnyH_take (i := 3) (v := ?_) rfl (by kernel_rfl) (by kernel_rfl) (by kernel_rfl) (fun _ _ _ h => h) (Or.inl ⟨by kernel_rfl, ?_⟩) hS ?_
  rotate_left 1
  · (intro w' hS'; clear hS'; go_simp; try with_reducible rfl)
  simp only [List.getElem_toArray, List.getElem_cons_zero, List.getElem_cons_succ, Act.put, List.setIfInBounds_toArray, List.set_cons_zero, List.set_cons_succ]
  refine wpAnyH_take (i := 4) (v := ?_) rfl (by kernel_rfl) (by kernel_rfl) (by kernel_rfl) (fun _ _ _ h => h) (Or.inl ⟨by kernel_rfl, ?_⟩) hS ?_
  rotate_left 1
  · (intro w' hS'; clear hS'; go_simp; try with_reducible rfl)
  simp only [List.getElem_toArray, List.getElem_cons_zero, List.getElem_cons_succ, Act.put, List.setIfInBounds_toArray, List.set_cons_zero, List.set_cons_succ]
  refine wpAnyH_take (i := 5) (v := ?_) rfl (by kernel_rfl) (by kernel_rfl) (by kernel_rfl) (fun _ _ _ h => h) (Or.inl ⟨by kernel_rfl, ?_⟩) hS ?_
  rotate_left 1
  · (intro w' hS'; clear hS'; go_simp; try with_reducible rfl)
  simp only [List.getElem_toArray, List.getElem_cons_zero, List.getElem_cons_succ, Act.put, List.setIfInBounds_toArray, List.set_cons_zero, List.set_cons_succ]
  refine wpAnyH_take (i := 7) rfl (by kernel_rfl) (by kernel_rfl) (by kernel_rfl) (fun _ _ _ h => h) (jyload (by kernel_rfl) (by exact ⟨_, rfl, rfl⟩) (fun w' hS' => LS.out w' hS')) hS ?_
  simp only [List.getElem_toArray, List.getElem_cons_zero, List.getElem_cons_succ, Act.put, List.setIfInBounds_toArray, List.set_cons_zero, List.set_cons_succ]
  refine wpAnyH_take (i := 8) (v := ?_) rfl (by kernel_rfl) (by kernel_rfl) (by kernel_rfl) (fun _ _ _ h => h) (Or.inl ⟨by kernel_rfl, ?_⟩) hS ?_
  rotate_left 1
  · (intro w' hS'; clear hS'; go_simp; try with_reducible rfl)
  simp only [List.getElem_toArray, List.getElem_cons_zero, List.getElem_cons_succ, Act.put, List.setIfInBounds_toArray, List.set_cons_zero, List.set_cons_succ]
  refine wpAnyH_take (i := 9) (v := ?_) rfl (by kernel_rfl) (by kernel_rfl) (by kernel_rfl) (fun _ _ _ h => h) (Or.inl ⟨by kernel_rfl, ?_⟩) hS ?_
  rotate_left 1
  · (intro w' hS'; clear hS'; go_simp; try with_reducible rfl)
  simp only [List.getElem_toArray, List.getElem_cons_zero, List.getElem_cons_succ, Act.put, List.setIfInBounds_toArray, List.set_cons_zero, List.set_cons_succ]
  refine wpAnyH_take (i := 10) (v := ?_) rfl (by kernel_rfl) (by kernel_rfl) (by kernel_rfl) (fun _ _ _ h => h) (Or.inl ⟨by kernel_rfl, ?_⟩) hS ?_
  rotate_left 1
  · (intro w' hS'; clear hS'; go_simp; try with_reducible rfl)
  simp only [List.getElem_toArray, List.getElem_cons_zero, List.getElem_cons_succ, Act.put, List.setIfInBounds_toArray, List.set_cons_zero, List.set_cons_succ]
  refine wpAnyH_ready (rs := [6]) (by kernel_rfl) (by simp) ?_
  refine AllReadyH.cons rfl (fun K1 hK1 => ?_) (AllReadyH.nil)
  go_simp
  refine (KT.out _ hS).mono ?_
  rintro e w9 ⟨ta, tc, rfl, hO, _, fx⟩
  have O6 := hid hO
  refine hK1.out _ _ (hS.trans fx (fun _ _ h => h)) (fun hS => ?_)
  clear fx hO
  clear hK1 K1
  simp only [List.getElem_toArray, List.getElem_cons_zero, List.getElem_cons_succ, Act.put, List.setIfInBounds_toArray, List.set_cons_zero, List.set_cons_succ]
  refine wpAnyH_ready (rs := [11]) (by kernel_rfl) (by simp) ?_
  refine AllReadyH.cons rfl (fun K1 hK1 => ?_) (AllReadyH.nil)
  go_simp
  refine (RT.out _ hS).mono ?_
  rintro e w9 ⟨tb, td, rfl, hO, _, fx⟩
  have O7 := hid (O6.out.fr fx)
  have O8 := hid hO
  refine hK1.out _ _ (hS.trans fx (fun _ _ h => h)) (fun hS => ?_)
  clear fx hO
  clear hK1 K1
  simp only [List.getElem_toArray, List.getElem_cons_zero, List.getElem_cons_succ, Act.put, List.setIfInBounds_toArray, List.set_cons_zero, List.set_cons_succ]
  refine wpAnyH_ready (rs := [12]) (by kernel_rfl) (by simp) ?_
  refine AllReadyH.cons rfl (fun K1 hK1 => ?_) (AllReadyH.nil)
  go_simp
  refine (lxops_same _ R _ _ _ _ O7.out O8.out LR.out).mono ?_
  rintro e w9 ⟨rfl, fx⟩
  refine hK1.out _ _ (hS.trans fx (fun _ _ h => h)) (fun hS => ?_)
  clear fx
  clear hK1 K1
  simp only [List.getElem_toArray, List.getElem_cons_zero, List.getElem_cons_succ, Act.put, List.setIfInBounds_toArray, List.set_cons_zero, List.set_cons_succ]
  refine wpAnyH_take (i := 13) (v := ?_) rfl (by kernel_rfl) (by kernel_rfl) (by kernel_rfl) (fun _ _ _ h => h) (Or.inl ⟨by kernel_rfl, ?_⟩) hS ?_
  rotate_left 1
  · (intro w' hS'; clear hS'; go_simp; try with_reducible rfl)
  simp only [List.getElem_toArray, List.getElem_cons_zero, List.getElem_cons_succ, Act.put, List.setIfInBounds_toArray, List.set_cons_zero, List.set_cons_succ]
  refine wpAnyH_take (i := 14) (v := ?_) rfl (by kernel_rfl) (by kernel_rfl) (by kernel_rfl) (fun _ _ _ h => h) (Or.inl ⟨by kernel_rfl, ?_⟩) hS ?_
  rotate_left 1
  · (intro w' hS'; clear hS'; go_simp; try with_reducible rfl)
  simp only [List.getElem_toArray, List.getElem_cons_zero, List.getElem_cons_succ, Act.put, List.setIfInBounds_toArray, List.set_cons_zero, List.set_cons_succ]
  refine wpAnyH_done (by kernel_rfl) ?_ _
  go_wp2
  go_ret
  exact ⟨rfl, F0.out.trans hS (fun _ _ h => h)⟩
end Go.Proofs.Ytedgiffnfhkonaa

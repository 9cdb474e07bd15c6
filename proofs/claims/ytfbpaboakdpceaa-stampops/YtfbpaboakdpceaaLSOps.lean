/-
  StampOps: the walk.
-/
import Derived.Test.YtfbpaboakdpceaaSOps3
namespace Go.Proofs.Ytfbpaboakdpceaa
open Go.RowKit
set_option linter.unusedVariables false
set_option linter.unusedSimpArgs false

set_option maxHeartbeats 6400000 in
set_option maxRecDepth 20000 in
theorem stampOps_walk (o : S.Op) (hi : o.in64) (w : World) : Calls Try.prog 5 #[.agg o.cs] w fun e w' => e = .returned (.bool true) ∧ Fr (fun _ => False) w w' := by
  obtain ⟨W, hW⟩ : ∃ W, w.alloc (.cells o.cs 36) = W := ⟨_, rfl⟩
  have ba : W.heap[w.heap.size]? = some (.cells o.cs 36 (0, 0)) := hW ▸ Go.heap_alloc_new w _
  have F0 := hid (show Fr (fun _ => False) w W from hW ▸ Fr.alloc (Fr.refl _ _) _)
  have LA := hid (fun (V : World) (hf : Fr (fun _ => False) W V) => load_whole (ty := 36) (hf.cells ba (fun h => h)) Try.underlying36 rfl (by kernel_rfl))
  have KL := hid slive_any
  have KC := hid (scheckop_any o hi)
  have RC := hid (rscheckop_any o hi)
  generalize S.chk o = x at KC RC
  have HW := hid hW
  clear hW ba hi
  go_enter Try.func5, Try.ntmps5
  go_wp2_with fail
  rw [HW.out]
  have hmx : Try.prog.follows .mixedOrders = true := by kernel_rfl
  refine wp_region_held (S := fun V => Fr (fun _ => False) W V) hmx ?_
  have hS := (show Fr (fun _ => False) W W.drew from Fr.drew (Fr.refl _ _))
  simp only [List.size_toArray, List.length_cons, List.length_nil, Nat.reduceAdd, Array.replicate_succ, Array.replicate_zero, List.push_toArray, List.nil_append, List.cons_append]
  refine wpAnyH_ready (rs := [0]) (by kernel_rfl) (by simp) ?_
  refine AllReadyH.cons rfl (fun K1 hK1 => ?_) AllReadyH.nil
  go_simp
  refine (KL.out _).mono ?_
  rintro e w90 ⟨rfl, fx⟩
  refine hK1.out _ _ (hS.trans fx (fun _ _ h => h)) (fun hS => ?_)
  clear fx
  clear hK1 K1
  simp only [List.getElem_toArray, List.getElem_cons_zero, List.getElem_cons_succ, Act.put, List.setIfInBounds_toArray, List.set_cons_zero, List.set_cons_succ]
  refine wpAnyH_take (i := 1) (v := ?_) rfl (by kernel_rfl) (by kernel_rfl) (by kernel_rfl) (fun _ _ _ h => h) (Or.inl ⟨by kernel_rfl, ?_⟩) hS ?_
  rotate_left 1
  · (intro w' hS'; clear hS'; go_simp; try with_reducible rfl)
  simp only [List.getElem_toArray, List.getElem_cons_zero, List.getElem_cons_succ, Act.put, List.setIfInBounds_toArray, List.set_cons_zero, List.set_cons_succ]
  refine wpAnyH_take (i := 2) rfl (by kernel_rfl) (by kernel_rfl) (by kernel_rfl) (fun _ _ _ h => h) (jyload (by kernel_rfl) (by exact ⟨_, rfl, rfl⟩) (fun w' hS' => LA.out w' hS')) hS ?_
  simp only [List.getElem_toArray, List.getElem_cons_zero, List.getElem_cons_succ, Act.put, List.setIfInBounds_toArray, List.set_cons_zero, List.set_cons_succ]
  refine wpAnyH_take (i := 4) rfl (by kernel_rfl) (by kernel_rfl) (by kernel_rfl) (fun _ _ _ h => h) (jyload (by kernel_rfl) (by exact ⟨_, rfl, rfl⟩) (fun w' hS' => LA.out w' hS')) hS ?_
  simp only [List.getElem_toArray, List.getElem_cons_zero, List.getElem_cons_succ, Act.put, List.setIfInBounds_toArray, List.set_cons_zero, List.set_cons_succ]
  refine wpAnyH_ready (rs := [3]) (by kernel_rfl) (by simp) ?_
  refine AllReadyH.cons rfl (fun K1 hK1 => ?_) AllReadyH.nil
  go_simp
  refine (KC.out _).mono ?_
  rintro e w93 ⟨rfl, fx⟩
  refine hK1.out _ _ (hS.trans fx (fun _ _ h => h)) (fun hS => ?_)
  clear fx
  clear hK1 K1
  simp only [List.getElem_toArray, List.getElem_cons_zero, List.getElem_cons_succ, Act.put, List.setIfInBounds_toArray, List.set_cons_zero, List.set_cons_succ]
  refine wpAnyH_ready (rs := [5]) (by kernel_rfl) (by simp) ?_
  refine AllReadyH.cons rfl (fun K1 hK1 => ?_) AllReadyH.nil
  go_simp
  refine (RC.out _).mono ?_
  rintro e w95 ⟨rfl, fx⟩
  refine hK1.out _ _ (hS.trans fx (fun _ _ h => h)) (fun hS => ?_)
  clear fx
  clear hK1 K1
  simp only [List.getElem_toArray, List.getElem_cons_zero, List.getElem_cons_succ, Act.put, List.setIfInBounds_toArray, List.set_cons_zero, List.set_cons_succ]
  refine wpAnyH_take (i := 6) (v := .bool true) rfl (by kernel_rfl) (by kernel_rfl) (by kernel_rfl) (fun _ _ _ h => h) (Or.inl ⟨by kernel_rfl, fun w' hS' => by clear hS'; go_simp⟩) hS ?_
  simp only [List.getElem_toArray, List.getElem_cons_zero, List.getElem_cons_succ, Act.put, List.setIfInBounds_toArray, List.set_cons_zero, List.set_cons_succ]
  refine wpAnyH_take (i := 7) (v := ?_) rfl (by kernel_rfl) (by kernel_rfl) (by kernel_rfl) (fun _ _ _ h => h) (Or.inl ⟨by kernel_rfl, ?_⟩) hS ?_
  rotate_left 1
  · (intro w' hS'; clear hS'; go_simp; try with_reducible rfl)
  simp only [List.getElem_toArray, List.getElem_cons_zero, List.getElem_cons_succ, Act.put, List.setIfInBounds_toArray, List.set_cons_zero, List.set_cons_succ]
  refine wpAnyH_take (i := 8) (v := ?_) rfl (by kernel_rfl) (by kernel_rfl) (by kernel_rfl) (fun _ _ _ h => h) (Or.inl ⟨by kernel_rfl, ?_⟩) hS ?_
  rotate_left 1
  · (intro w' hS'; clear hS'; go_simp; try with_reducible rfl)
  simp only [List.getElem_toArray, List.getElem_cons_zero, List.getElem_cons_succ, Act.put, List.setIfInBounds_toArray, List.set_cons_zero, List.set_cons_succ]
  refine wpAnyH_done (by kernel_rfl) ?_ _
  go_wp2
  go_ret
  exact ⟨rfl, F0.out.trans hS (fun _ _ h => h)⟩
end Go.Proofs.Ytfbpaboakdpceaa

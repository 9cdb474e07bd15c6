/-
  The simplest leader comes to its entry.
-/
import Derived.Test.YtcmpkbgkhbcekaaDoorJNil
import Derived.Maps.OwnOps
import Derived.Maps.OwnSet
import Derived.Maps.RangeWalk
namespace Go.Proofs.YtcmpkbgkhbcekaaDoor
open Go.RowKit Go.Maps
set_option linter.unusedVariables false
set_option linter.unusedSimpArgs false

/-- the simplest proposer's cells -/
abbrev jCells (r : Int) (came slots : Option Nat) (next : Int) : Array Value := #[.int .i64 1, .int .i64 0, .int .i64 0, .int .i64 1, .int .u8 r, .map came, .map slots, .int .i64 next]
set_option maxHeartbeats 3200000 in
theorem jnew (w : World) : Calls Tryd.prog 17 #[.agg #[.int .i64 1, .int .i64 0], .int .i64 0, .int .i64 1] w fun e w' => ∃ p cm sm, e = .returned (.tuple #[.pointer (some ⟨p, 0, none⟩), .int .i64 0]) ∧ w.heap.size ≤ cm ∧ cm < sm ∧ sm < p ∧ w'.heap[p]? = some (.cells (jCells 0 (some cm) (some sm) 0) 49 (0, 0)) ∧ w'.heap[cm]? = some (.map #[] 0) ∧ w'.heap[sm]? = some (.map #[] 0) ∧ Fr (fun _ => False) w w' := by
  have hmm := @run_makeMap Tryd.prog
  obtain ⟨W, hW⟩ : ∃ W, (((w.alloc (.cells #[.int .i64 1, .int .i64 0] 43)).alloc (.map #[] 0)).alloc (.map #[] 0)).alloc (.cells (jCells 0 (some (w.heap.size + 1)) (some (w.heap.size + 2)) 0) 49) = W := ⟨_, rfl⟩
  have hp : W.heap[w.heap.size + 3]? = some (.cells (jCells 0 (some (w.heap.size + 1)) (some (w.heap.size + 2)) 0) 49 (0, 0)) := by
    have h1 := Go.heap_alloc_new (((w.alloc (.cells #[.int .i64 1, .int .i64 0] 43)).alloc (.map #[] 0)).alloc (.map #[] 0)) (.cells (jCells 0 (some (w.heap.size + 1)) (some (w.heap.size + 2)) 0) 49)
    simp only [World.size_alloc] at h1
    rw [← hW]; exact h1
  have hc : W.heap[w.heap.size + 1]? = some (.map #[] 0) := by
    have h1 := Go.heap_alloc_new (w.alloc (.cells #[.int .i64 1, .int .i64 0] 43)) (.map #[] 0)
    simp only [World.size_alloc] at h1
    rw [← hW]; exact (Below.heap_alloc _ _ _ (by simp)).trans ((Below.heap_alloc _ _ _ (by simp)).trans h1)
  have hs : W.heap[w.heap.size + 2]? = some (.map #[] 0) := by
    have h1 := Go.heap_alloc_new ((w.alloc (.cells #[.int .i64 1, .int .i64 0] 43)).alloc (.map #[] 0)) (.map #[] 0)
    simp only [World.size_alloc] at h1
    rw [← hW]; exact (Below.heap_alloc _ _ _ (by simp)).trans h1
  have fW : Fr (fun _ => False) w W := by rw [← hW]; exact Fr.alloc (Fr.alloc (Fr.alloc (Fr.alloc (Fr.refl _ _) _) _) _) _
  have HW := hid hW
  have HF := hid (And.intro hp (And.intro hc (And.intro hs fW)))
  have K := hid (fun V => jmaj1 V)
  have K2 := hid (fun (V : World) (hV : V.heap[w.heap.size + 3]? = some (.cells (jCells 0 (some (w.heap.size + 1)) (some (w.heap.size + 2)) 0) 49 (0, 0))) => jreplica (cellA (j := 3) hV rfl))
  have b0 : W.cell? ⟨w.heap.size, 0, none⟩ = some (.int .i64 1) := by
    have h1 := Go.heap_alloc_new w (.cells #[.int .i64 1, .int .i64 0] 43)
    exact cellA (t := 43) (m := (0, 0)) (cs := #[.int .i64 1, .int .i64 0]) (by rw [← hW]; exact (Below.heap_alloc _ _ _ (by simp; omega)).trans ((Below.heap_alloc _ _ _ (by simp; omega)).trans ((Below.heap_alloc _ _ _ (by simp)).trans h1))) rfl
  have b1 : W.cell? ⟨w.heap.size, 1, none⟩ = some (.int .i64 0) := by
    have h1 := Go.heap_alloc_new w (.cells #[.int .i64 1, .int .i64 0] 43)
    exact cellA (t := 43) (m := (0, 0)) (cs := #[.int .i64 1, .int .i64 0]) (by rw [← hW]; exact (Below.heap_alloc _ _ _ (by simp; omega)).trans ((Below.heap_alloc _ _ _ (by simp; omega)).trans ((Below.heap_alloc _ _ _ (by simp)).trans h1))) rfl
  clear hW hp hc hs fW
  go_enter Tryd.func17, Tryd.ntmps17
  go_upto_region 2 with fail
  rw [HW.out]
  clear hmm
  go_wp2_with (first
    | (go_at_call 30; refine (K.out _).mono ?_; rintro e w1 ⟨rfl, rfl⟩)
    | (go_at_call 27; refine (K2.out _ HF.out.1).mono ?_; rintro e w1 ⟨rfl, rfl⟩))
  go_ret2
  exact ⟨_, _, _, rfl, by omega, by omega, by omega, HF.out⟩
set_option maxHeartbeats 3200000 in
theorem jindex (f : Value) (w : World) : Calls Tryd.prog 49 #[.slice none 0 0, f] w fun e w' => e = .returned (.int .i64 (-1)) ∧ w = w' := by
  go_enter Tryd.func49, Tryd.ntmps49
  go_wp2
  refine wp_loop_rounds 1 ?_
  rw [rounds_succ]
  go_wp2
  go_ret
  exact ⟨rfl, rfl⟩
set_option maxHeartbeats 3200000 in
theorem jcontains (f : Value) (w : World) : Calls Tryd.prog 37 #[.slice none 0 0, f] w fun e w' => e = .returned (.bool false) ∧ w = w' := by
  go_enter Tryd.func37, Tryd.ntmps37
  go_wp2_with (first
    | (go_at_call 49; refine (jindex _ _).mono ?_; rintro e w1 ⟨rfl, rfl⟩))
  go_ret
  exact ⟨rfl, rfl⟩
set_option maxHeartbeats 3200000 in
set_option maxRecDepth 20000 in
theorem jmay (v : Value) (w : World) : Calls Tryd.prog 36 #[v, .slice none 0 0] w fun e w' => e = .returned (.bool true) ∧ Fr (fun _ => False) w w' := by
  have hmm := @run_makeMap Tryd.prog
  have hl : ∀ ty, (Builtin.len_ #[108] ty #[.map (some w.heap.size)]).run Tryd.prog (w.alloc (.map #[] 0)) = .ok (.int .i64 0) (w.alloc (.map #[] 0)) := fun ty => by
    have := (World.ownsMap_made (H := Unit) w Tryd.prog 2 (fun _ => none)).len Tryd.underlying108 ty
    simpa [Maps.size_eq] using this
  go_enter Tryd.func36, Tryd.ntmps36
  go_wp2
  refine wp_loop_rounds 1 ?_
  rw [rounds_succ]
  go_wp2
  go_ret
  exact ⟨rfl, Fr.alloc (Fr.refl _ _) _⟩
set_option maxHeartbeats 3200000 in
theorem jgather (v : Value) (w : World) : Calls Tryd.prog 20 #[v, .slice none 0 0] w fun e w' => e = .returned (.tuple #[]) ∧ w = w' := by
  go_enter Tryd.func20, Tryd.ntmps20
  go_wp2
  refine wp_loop_rounds 1 ?_
  rw [rounds_succ]
  go_wp2
  go_end0
  exact ⟨rfl, rfl⟩
set_option maxHeartbeats 3200000 in
theorem jready {w : World} {p : Nat} {cm sm : Option Nat} {nx : Int} (x : Int) (hx : x = 0 ∨ x = 1) (h : w.heap[p]? = some (.cells (jCells x cm sm nx) 49 (0, 0))) : Calls Tryd.prog 11 #[.pointer (some ⟨p, 0, none⟩)] w fun e w' => e = .returned (.bool (decide (x = 1))) ∧ Fr (fun _ => False) w w' := by
  have K := hid (fun (V : World) (hf : Fr (fun _ => False) w V) => jmade_one (cellA (j := 3) (hf.cells h (fun h => h)) rfl))
  have K2 := hid (fun (V : World) (hf : Fr (fun _ => False) w V) => jmajority x hx (cellA (j := 4) (hf.cells h (fun h => h)) rfl))
  have KC := hid (fun (V : World) (hf : Fr (fun _ => False) w V) => show V.cell? ⟨p, 3, none⟩ = some (.int .i64 1) from cellA (hf.cells h (fun h => h)) rfl)
  have hmx : Tryd.prog.follows .mixedOrders = true := by kernel_rfl
  obtain ⟨rb, hrb⟩ : ∃ b, decide (x = 1) = b := ⟨_, rfl⟩
  rw [hrb] at K2 ⊢
  clear h hx hrb
  go_enter Tryd.func11, Tryd.ntmps11
  go_wp2
  refine wp_region_held (S := fun V => Fr (fun _ => False) w V) hmx ?_
  have hS : Fr (fun _ => False) w w.drew := Fr.drew (Fr.refl _ _)
  simp only [List.size_toArray, List.length_cons, List.length_nil, Nat.reduceAdd, Array.replicate_succ, Array.replicate_zero, List.push_toArray, List.nil_append, List.cons_append]
  refine wpAnyH_take (i := 0) (v := ?_) rfl (by kernel_rfl) (by kernel_rfl) (by kernel_rfl) (fun _ _ _ h => h) (Or.inl ⟨by kernel_rfl, ?_⟩) hS ?_
  rotate_left 1
  · (intro w' hS'; clear hS'; go_simp; try with_reducible rfl)
  simp only [List.getElem_toArray, List.getElem_cons_zero, List.getElem_cons_succ, Act.put, List.setIfInBounds_toArray, List.set_cons_zero, List.set_cons_succ]
  refine wpAnyH_ready (rs := [1]) (by kernel_rfl) (by simp) ?_
  refine AllReadyH.cons rfl (fun K1 hK1 => ?_) AllReadyH.nil
  go_simp
  refine (K.out _ hS).mono ?_
  rintro e w1 ⟨rfl, rfl⟩
  refine hK1.out _ _ hS (fun hS => ?_)
  clear hK1 K1
  simp only [Act.put, List.setIfInBounds_toArray, List.set_cons_zero, List.set_cons_succ]
  refine wpAnyH_take (i := 2) (v := ?_) rfl (by kernel_rfl) (by kernel_rfl) (by kernel_rfl) (fun _ _ _ h => h) (Or.inl ⟨by kernel_rfl, ?_⟩) hS ?_
  rotate_left 1
  · (intro w' hS'; clear hS'; go_simp; try with_reducible rfl)
  simp only [List.getElem_toArray, List.getElem_cons_zero, List.getElem_cons_succ, Act.put, List.setIfInBounds_toArray, List.set_cons_zero, List.set_cons_succ]
  refine wpAnyH_take (i := 3) (v := ?_) rfl (by kernel_rfl) (by kernel_rfl) (by kernel_rfl) (fun _ _ _ h => h) (Or.inl ⟨by kernel_rfl, ?_⟩) hS ?_
  rotate_left 1
  · (intro w' hS'; clear hS'; go_simp; try with_reducible rfl)
  simp only [List.getElem_toArray, List.getElem_cons_zero, List.getElem_cons_succ, Act.put, List.setIfInBounds_toArray, List.set_cons_zero, List.set_cons_succ]
  refine wpAnyH_take (i := 4) (v := ?_) rfl (by kernel_rfl) (by kernel_rfl) (by kernel_rfl) (fun _ _ _ h => h) (Or.inl ⟨by kernel_rfl, ?_⟩) hS ?_
  rotate_left 1
  · (intro w' hS'; clear hS'; go_simp; try with_reducible rfl)
  simp only [List.getElem_toArray, List.getElem_cons_zero, List.getElem_cons_succ, Act.put, List.setIfInBounds_toArray, List.set_cons_zero, List.set_cons_succ]
  refine wpAnyH_take (i := 5) (v := ?_) rfl (by kernel_rfl) (by kernel_rfl) (by kernel_rfl) (fun _ _ _ h => h) (Or.inl ⟨by kernel_rfl, ?_⟩) hS ?_
  rotate_left 1
  · (intro w' hS'; clear hS'; go_simp; try with_reducible rfl)
  simp only [List.getElem_toArray, List.getElem_cons_zero, List.getElem_cons_succ, Act.put, List.setIfInBounds_toArray, List.set_cons_zero, List.set_cons_succ]
  refine wpAnyH_take (i := 6) (v := ?_) rfl (by kernel_rfl) (by kernel_rfl) (by kernel_rfl) (fun _ _ _ h => h) (Or.inl ⟨by kernel_rfl, ?_⟩) hS ?_
  rotate_left 1
  · (intro w' hS'; clear hS'; go_simp; try with_reducible rfl)
  simp only [List.getElem_toArray, List.getElem_cons_zero, List.getElem_cons_succ, Act.put, List.setIfInBounds_toArray, List.set_cons_zero, List.set_cons_succ]
  refine wpAnyH_take (i := 7) (v := ?_) rfl (by kernel_rfl) (by kernel_rfl) (by kernel_rfl) (fun _ _ _ h => h) (Or.inl ⟨by kernel_rfl, ?_⟩) hS ?_
  rotate_left 1
  · (intro w' hS'; clear hS'; go_simp; try with_reducible rfl)
  simp only [List.getElem_toArray, List.getElem_cons_zero, List.getElem_cons_succ, Act.put, List.setIfInBounds_toArray, List.set_cons_zero, List.set_cons_succ]
  refine wpAnyH_take (i := 8) (v := ?_) rfl (by kernel_rfl) (by kernel_rfl) (by kernel_rfl) (fun _ _ _ h => h) (Or.inl ⟨by kernel_rfl, ?_⟩) hS ?_
  rotate_left 1
  · (intro w' hS'; clear hS'; go_simp; try with_reducible rfl)
  simp only [List.getElem_toArray, List.getElem_cons_zero, List.getElem_cons_succ, Act.put, List.setIfInBounds_toArray, List.set_cons_zero, List.set_cons_succ]
  refine wpAnyH_take (i := 9) (v := ?_) rfl (by kernel_rfl) (by kernel_rfl) (by kernel_rfl) (fun _ _ _ h => h) (Or.inl ⟨by kernel_rfl, ?_⟩) hS ?_
  rotate_left 1
  · (intro w' hS'; have hc := KC.out _ hS'; clear hS'; go_simp; try with_reducible rfl)
  simp only [List.getElem_toArray, List.getElem_cons_zero, List.getElem_cons_succ, Act.put, List.setIfInBounds_toArray, List.set_cons_zero, List.set_cons_succ]
  refine wpAnyH_ready (rs := [10]) (by kernel_rfl) (by simp) ?_
  refine AllReadyH.cons rfl (fun K1 hK1 => ?_) AllReadyH.nil
  go_simp
  refine (K2.out _ hS).mono ?_
  rintro e w1 ⟨rfl, rfl⟩
  refine hK1.out _ _ hS (fun hS => ?_)
  clear hK1 K1
  simp only [Act.put, List.setIfInBounds_toArray, List.set_cons_zero, List.set_cons_succ]
  refine wpAnyH_take (i := 11) (v := ?_) rfl (by kernel_rfl) (by kernel_rfl) (by kernel_rfl) (fun _ _ _ h => h) (Or.inl ⟨by kernel_rfl, ?_⟩) hS ?_
  rotate_left 1
  · (intro w' hS'; clear hS'; go_simp; try with_reducible rfl)
  simp only [List.getElem_toArray, List.getElem_cons_zero, List.getElem_cons_succ, Act.put, List.setIfInBounds_toArray, List.set_cons_zero, List.set_cons_succ]
  refine wpAnyH_take (i := 12) (v := ?_) rfl (by kernel_rfl) (by kernel_rfl) (by kernel_rfl) (fun _ _ _ h => h) (Or.inl ⟨by kernel_rfl, ?_⟩) hS ?_
  rotate_left 1
  · (intro w' hS'; clear hS'; go_simp; try with_reducible rfl)
  simp only [List.getElem_toArray, List.getElem_cons_zero, List.getElem_cons_succ, Act.put, List.setIfInBounds_toArray, List.set_cons_zero, List.set_cons_succ]
  refine wpAnyH_done (by kernel_rfl) ?_ _
  have FS := hid hS
  clear hS K K2 KC
  go_wp2
  go_ret
  exact ⟨rfl, FS.out⟩
end Go.Proofs.YtcmpkbgkhbcekaaDoor

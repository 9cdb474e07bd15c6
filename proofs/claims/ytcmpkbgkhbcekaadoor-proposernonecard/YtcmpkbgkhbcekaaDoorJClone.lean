/-
  CloneEntry of an entry without rows.
-/
import Derived.Test.YtcmpkbgkhbcekaaDoorJBegun2
namespace Go.Proofs.YtcmpkbgkhbcekaaDoor
open Go.RowKit Go.Maps
set_option linter.unusedVariables false
set_option linter.unusedSimpArgs false

theorem jops_nil (w : World) : Calls Tryd.prog 45 #[.slice none 0 0] w fun e w' => e = .returned (.slice none 0 0) ∧ w = w' := by
  have k1 := fun (w : World) (a : Option Addr) (l c : Nat) => Lib.run_eql_slice_nil (P := Tryd.prog) w 27 26 a l c 0 0 Tryd.underlying27
  go_enter Tryd.func45, Tryd.ntmps45
  go_wp2
  go_ret
  exact ⟨rfl, rfl⟩
theorem jbytes_nil (w : World) : Calls Tryd.prog 46 #[.slice none 0 0] w fun e w' => e = .returned (.slice none 0 0) ∧ w = w' := by
  have k1 := fun (w : World) (a : Option Addr) (l c : Nat) => Lib.run_eql_slice_nil (P := Tryd.prog) w 33 5 a l c 0 0 Tryd.underlying33
  go_enter Tryd.func46, Tryd.ntmps46
  go_wp2
  go_ret
  exact ⟨rfl, rfl⟩
set_option maxHeartbeats 3200000 in
set_option maxRecDepth 20000 in
theorem jclone (w : World) (ea : Array Value) (hsz : ea.size = 56) (hone : ea.all (·.oneCell') = true) (h13 : ea[13]? = some (.slice none 0 0)) (h52 : ea[52]? = some (.slice none 0 0)) :
    Calls Tryd.prog 24 #[.agg ea] w fun e w' => e = .returned (.agg ea) ∧ Fr (fun _ => False) w w' := by
  obtain ⟨W, hW⟩ : ∃ W, (w.alloc (.cells ea 37)).alloc (.cells zE56 37) = W := ⟨_, rfl⟩
  have f0 : Fr (fun _ => False) w W := by rw [← hW]; exact Fr.alloc (Fr.alloc (Fr.refl _ _) _) _
  have ba : W.heap[w.heap.size]? = some (.cells ea 37 (0, 0)) := by rw [← hW]; exact (Below.heap_alloc _ _ _ (by simp)).trans (Go.heap_alloc_new w _)
  have bz : W.heap[w.heap.size + 1]? = some (.cells zE56 37 (0, 0)) := by
    have h1 := Go.heap_alloc_new (w.alloc (.cells ea 37)) (.cells zE56 37)
    rw [World.size_alloc] at h1
    rw [← hW]; exact h1
  have c13 : W.cell? ⟨w.heap.size, 13, none⟩ = some (.slice none 0 0) := cellA ba h13
  have z13 := fun j => frozen_of_row (j := j) ba
  obtain ⟨W1, hW1⟩ : ∃ W1, W.setCell ⟨w.heap.size, 13, none⟩ (.slice none 0 0) = W1 := ⟨_, rfl⟩
  have b1 : W1.heap[w.heap.size]? = some (.cells ea 37 (0, 0)) := by rw [← hW1, setCell_row ba, set_same h13]
  have fs1 : Fr (fun k => k = w.heap.size) W W1 := by rw [← hW1]; exact Fr.setCell (p := ⟨w.heap.size, 13, none⟩) (S := fun k => k = w.heap.size) (Fr.refl _ _) (fun _ => rfl) _
  have c52 : W1.cell? ⟨w.heap.size, 52, none⟩ = some (.slice none 0 0) := cellA b1 h52
  have z52 := fun j => frozen_of_row (j := j) b1
  obtain ⟨W2, hW2⟩ : ∃ W2, W1.setCell ⟨w.heap.size, 52, none⟩ (.slice none 0 0) = W2 := ⟨_, rfl⟩
  have b2 : W2.heap[w.heap.size]? = some (.cells ea 37 (0, 0)) := by rw [← hW2, setCell_row b1, set_same h52]
  have fs2 : Fr (fun k => k = w.heap.size) W1 W2 := by rw [← hW2]; exact Fr.setCell (p := ⟨w.heap.size, 52, none⟩) (S := fun k => k = w.heap.size) (Fr.refl _ _) (fun _ => rfl) _
  have bz2 := fs2.cells (fs1.cells bz (by omega)) (by omega)
  have ld := load_whole (ty := 37) b2 Tryd.underlying37 rfl (by rw [hsz]; kernel_rfl)
  obtain ⟨V, st, lr, fV⟩ := box_back (c := ea) bz2 (by rw [hsz]; exact Nat.le_refl _) (by rw [hsz]; kernel_rfl) hone Tryd.underlying37 rfl
  have fin : Fr (fun _ => False) w V := ((f0.trans fs1 (fun i hi e => by omega)).trans fs2 (fun i hi e => by omega)).trans fV (fun i hi e => by omega)
  have HW := hid hW
  have HW1 := hid hW1
  have HW2 := hid hW2
  have LD := hid ld
  have ST := hid st
  have LR := hid lr
  have FIN := hid fin
  unfold zE56 at HW
  have e13 : ea[13] = .slice none 0 0 := by rw [Array.getElem?_eq_getElem (by omega)] at h13; simpa using h13
  clear hW hW1 hW2 f0 ba bz b1 fs1 b2 fs2 bz2 ld st lr fV fin h13 h52 hone
  go_enter Tryd.func24, Tryd.ntmps24
  go_upto_region 1 with fail
  rw [HW.out]
  go_upto_region 2 with (first
    | (go_at_call 45; refine (jops_nil _).mono ?_; rintro e wx ⟨rfl, rfl⟩))
  rw [HW1.out]
  go_upto_region 3 with (first
    | (go_at_call 46; refine (jbytes_nil _).mono ?_; rintro e wx ⟨rfl, rfl⟩))
  rw [HW2.out]
  go_wp2_with (first
    | (refine wpList_load_v LD.out (by exact ⟨_, rfl, rfl⟩) (by kernel_rfl) ?_)
    | (refine wpList_store_v ST.out (by exact ⟨_, _, rfl, rfl, rfl⟩) (by kernel_rfl) ?_))
  exact bodyPost_ret (v := .agg ea) (results_cell1 Tryd.results24 _ _ _ _ _ (by rfl) LR.out) rfl ⟨rfl, FIN.out⟩
end Go.Proofs.YtcmpkbgkhbcekaaDoor

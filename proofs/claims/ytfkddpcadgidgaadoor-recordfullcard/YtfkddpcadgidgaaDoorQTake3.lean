/-
  The simplest entry is read: judged, TakeEntry.
-/
import Derived.Test.YtfkddpcadgidgaaDoorQTake2
namespace Go.Proofs.YtfkddpcadgidgaaDoor
open Go.RowKit
set_option linter.unusedVariables false

set_option maxRecDepth 20000 in
set_option maxHeartbeats 6400000 in
theorem judgedLeave (w : World) (tb : Tb w) : Calls Tryd.prog 56 #[.agg M.e73, .int .i64 0, .func (.func 43) #[] #[]] w fun e w' => e = .returned (.tuple #[.agg M.e73, .int .i64 0]) ∧ Fr (fun _ => False) w w' := by
  have fW : Fr (fun _ => False) w ((w.alloc (.cells M.e73 36)).alloc (.cells M.e00 36)) := Fr.alloc (Fr.alloc (Fr.refl _ _) _) _
  have b0 : ((w.alloc (.cells M.e73 36)).alloc (.cells M.e00 36)).heap[w.heap.size]? = some (.cells M.e73 36 (0, 0)) := (Below.heap_alloc _ _ _ (by simp)).trans (Go.heap_alloc_new w _)
  have br : ((w.alloc (.cells M.e73 36)).alloc (.cells M.e00 36)).heap[w.heap.size + 1]? = some (.cells M.e00 36 (0, 0)) := by
    have := Go.heap_alloc_new (w.alloc (.cells M.e73 36)) (.cells M.e00 36)
    rw [World.size_alloc] at this
    exact this
  obtain ⟨W, hW⟩ : ∃ W, (w.alloc (.cells M.e73 36)).alloc (.cells M.e00 36) = W := ⟨_, rfl⟩
  rw [hW] at fW b0 br
  have ld : ∀ V, Fr (fun _ => False) W V → (Instr.loadAt 36 (.pointer (some ⟨w.heap.size, 0, none⟩))).run Tryd.prog V = .ok (.agg M.e73) V := fun V hf => run_loadAt_mid V w.heap.size 0 _ M.e73.toList _ (rangeAt_of (hf.cells b0 (fun h => h)) 0 M.e73.toList rfl) Tryd.underlying36 rfl (by kernel_rfl)
  have st : ∀ V, Fr (fun _ => False) W V → (Instr.storeAt 36 (.pointer (some ⟨w.heap.size + 1, 0, none⟩)) (.agg M.e73)).run Tryd.prog V = .ok () (V.setCells (w.heap.size + 1) 0 M.e73.toList) ∧ (loadVar 36 ⟨w.heap.size + 1, 0, none⟩).run Tryd.prog (V.setCells (w.heap.size + 1) 0 M.e73.toList) = .ok (.agg M.e73) (V.setCells (w.heap.size + 1) 0 M.e73.toList) := fun V hf => by
    have bV := hf.cells br (fun h => h)
    have th : V.there (w.heap.size + 1) 0 M.e73.size := fun j hj => by
      have hj : j < 56 := hj
      refine ⟨?_, frozen_of_row bV⟩
      rw [Nat.zero_add, cell_of_row V _ j _ _ _ bV]
      have : j < M.e00.size := hj
      simp [this]
    exact ⟨run_storeAt_mid (P := Tryd.prog) V _ 0 36 M.e73 th (by kernel_rfl) (by kernel_rfl), run_loadVar_mid (P := Tryd.prog) _ _ 0 36 M.e73.toList _ (World.rangeAt_setCells_same V _ 0 M.e73.toList th) Tryd.underlying36 rfl (by kernel_rfl)⟩
  have KC := hid (checkLeave W (tb.kept fW (fun h => h)))
  obtain ⟨va, hva⟩ : ∃ v, Value.agg M.e73 = v := ⟨_, rfl⟩
  rw [hva] at ld st KC
  have LD := hid ld
  have ST := hid st
  have HW := hid hW
  have HVA := hid hva
  have FW := hid fW
  have LD0 := hid (ld W (Fr.refl _ _))
  clear hW hva b0 br fW ld st tb
  unfold M.e73 at HW HVA ⊢
  unfold M.e00 at HW
  go_enter Tryd.func56, Tryd.ntmps56
  go_upto_region 1 with fail
  rw [HW.out, HVA.out]
  repeat (first
    | (refine wpList_load_v LD0.out (by exact ⟨_, rfl, rfl⟩) (by kernel_rfl) ?_)
    | (go_at_call 43; refine KC.out.mono ?_; rintro e w1 ⟨rfl, hf1⟩; have F1 := hid hf1; have LD1 := hid (LD.out _ hf1); have st1 := ST.out _ hf1; have f2 := Fr.setCells w1 (w.heap.size + 1) 0 M.e73.toList; obtain ⟨w2, hw2⟩ : ∃ w2, w1.setCells (w.heap.size + 1) 0 M.e73.toList = w2 := ⟨_, rfl⟩; rw [hw2] at st1 f2; have ST1 := hid st1.1; have LR1 := hid st1.2; have F2 := hid f2; clear hf1 st1 f2 hw2; dsimp only)
    | (refine wpList_load_v LD1.out (by exact ⟨_, rfl, rfl⟩) (by kernel_rfl) ?_)
    | (refine wpList_store_v ST1.out (by exact ⟨_, _, rfl, rfl, rfl⟩) (by kernel_rfl) ?_)
    | go_values | go_skip | go_guarded | go_step | go_upon | go_back)
  refine bodyPost_ret (v := .tuple #[va, .int .i64 0]) (results_cell2 Tryd.results56 _ _ _ _ _ _ (by rfl) LR1.out (by rfl)) rfl ⟨by rw [← HVA.out], ?_⟩
  exact ((FW.out.trans F1.out (fun _ _ h => h)).mono (T := fun k => k = w.heap.size + 1) (fun _ _ h => h.elim)).trans F2.out (fun _ _ h => h) |>.mono (fun i hi e => by omega)

end Go.Proofs.YtfkddpcadgidgaaDoor

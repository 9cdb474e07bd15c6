/-
  The simplest entry may be: CheckEntry of it.
-/
import Derived.Test.YtfkddpcadgidgaaDoorQLeave
namespace Go.Proofs.YtfkddpcadgidgaaDoor
open Go.RowKit
set_option linter.unusedVariables false

theorem row_at0 (W : World) (r0 r1 r2 r3 : Int) : (Instr.index 130 (.agg #[.int .i64 r0, .int .i64 r1, .int .i64 r2, .int .i64 r3]) (.int .i64 0)).run Tryd.prog W = .ok (.int .i64 r0) W := by kernel_rfl
theorem row_at1 (W : World) (r0 r1 r2 r3 : Int) : (Instr.index 130 (.agg #[.int .i64 r0, .int .i64 r1, .int .i64 r2, .int .i64 r3]) (.int .i64 1)).run Tryd.prog W = .ok (.int .i64 r1) W := by kernel_rfl
theorem row_at2 (W : World) (r0 r1 r2 r3 : Int) : (Instr.index 130 (.agg #[.int .i64 r0, .int .i64 r1, .int .i64 r2, .int .i64 r3]) (.int .i64 2)).run Tryd.prog W = .ok (.int .i64 r2) W := by kernel_rfl
theorem row_at3 (W : World) (r0 r1 r2 r3 : Int) : (Instr.index 130 (.agg #[.int .i64 r0, .int .i64 r1, .int .i64 r2, .int .i64 r3]) (.int .i64 3)).run Tryd.prog W = .ok (.int .i64 r3) W := by kernel_rfl
set_option maxRecDepth 20000 in
set_option maxHeartbeats 6400000 in
theorem checkLeave (w : World) (T : Tb w) : Calls Tryd.prog 43 #[.agg M.e73] w fun e w' => e = .returned (.int .i64 0) ∧ Fr (fun _ => False) w w' := by
  have fW : Fr (fun _ => False) w (w.alloc (.cells M.e73 36)) := Fr.alloc (Fr.refl _ _) _
  have b0 : (w.alloc (.cells M.e73 36)).heap[w.heap.size]? = some (.cells M.e73 36 (0, 0)) := Go.heap_alloc_new w _
  obtain ⟨W, hW⟩ : ∃ W, w.alloc (.cells M.e73 36) = W := ⟨_, rfl⟩
  obtain ⟨va, hva⟩ : ∃ v, Value.agg M.e73 = v := ⟨_, rfl⟩
  rw [hW] at fW b0
  have c0 : W.cell? ⟨w.heap.size, 0, none⟩ = some (.int .i64 7) := cell_at (j := 0) b0 rfl
  have HW := hid hW
  have HVA := hid hva
  have B0 := hid b0
  have FW := hid fW
  have KR := hid (entryRow_ok W (T.kept fW (fun h => h)) 7 (by omega))
  rw [show M.eRow 7 0 = 16 from rfl, show M.eRow 7 1 = 0 from rfl, show M.eRow 7 2 = 0 from rfl, show M.eRow 7 3 = 0 from rfl] at KR
  have hsz : w.heap.size < W.heap.size := lt_of_row b0
  clear hW hva b0 fW
  unfold M.e73 at HW HVA ⊢
  go_enter Tryd.func43, Tryd.ntmps43
  go_upto_region 1 with fail
  rw [HW.out, HVA.out]
  clear HW HVA
  go_wp2_with fail
  refine KR.out.mono ?_
  rintro e w1 ⟨rfl, hf1⟩
  have F1 := hid hf1
  have b1 := hf1.cells B0.out (fun h => h)
  have B1 := hid b1
  clear hf1 b1 c0 KR
  have i0 := row_at0
  have i1 := row_at1
  have i2 := row_at2
  have i3 := row_at3
  go_wp2_with fail
  refine wp_loop_rounds 5 ?_
  rw [rounds_succ]
  go_wp2_with fail
  refine (cutSite ((Fr.alloc (Fr.refl (fun _ => False) w1) _).cells B1.out (fun h => h)) 3 rfl (by omega) (by omega)).mono ?_
  rintro e w2 ⟨rfl, hb2, hf2⟩
  have B2 := hid hb2
  have F2 := hid ((Fr.alloc (Fr.refl (fun k => k = w.heap.size) w1) _).trans hf2 (fun _ _ h => h))
  clear hb2 hf2 B1
  go_wp2_with fail
  rw [rounds_succ]
  go_wp2_with (first | (go_at_call 74; refine (cutNone _ _).mono ?_; rintro e wx ⟨rfl, rfl⟩))
  rw [rounds_succ]
  go_wp2_with (first | (go_at_call 74; refine (cutNone _ _).mono ?_; rintro e wx ⟨rfl, rfl⟩))
  rw [rounds_succ]
  go_wp2_with (first | (go_at_call 74; refine (cutNone _ _).mono ?_; rintro e wx ⟨rfl, rfl⟩))
  rw [rounds_succ]
  have c2 : w2.cell? ⟨w.heap.size, 0, none⟩ = some (.int .i64 7) := cell_at (j := 0) B2.out rfl
  have z2 := frozen_of_row (j := 0) B2.out
  go_upto_region 8 with fail
  have hr3 := setCell_row (j := 0) B2.out (.int .i64 0)
  rw [show (M.e73.setIfInBounds 53 (.int .i64 0)).setIfInBounds 0 (.int .i64 0) = M.e00 from rfl] at hr3
  have f3 : Fr (fun k => k = w.heap.size) w2 (w2.setCell ⟨w.heap.size, 0, none⟩ (.int .i64 0)) := Fr.setCell (p := ⟨w.heap.size, 0, none⟩) (S := fun k => k = w.heap.size) (Fr.refl _ _) (fun _ => rfl) _
  obtain ⟨w3, hw3⟩ : ∃ w3, w2.setCell ⟨w.heap.size, 0, none⟩ (.int .i64 0) = w3 := ⟨_, rfl⟩
  rw [hw3] at hr3 f3 ⊢
  have lz : (Instr.loadAt 36 (.pointer (some ⟨w.heap.size, 0, none⟩))).run Tryd.prog w3 = .ok (.agg M.e00) w3 := run_loadAt_mid w3 w.heap.size 0 _ M.e00.toList _ (rangeAt_of hr3 0 M.e00.toList rfl) Tryd.underlying36 rfl (by kernel_rfl)
  have F3 := hid f3
  have LZ := hid lz
  have KS := hid (sameEntry_zero w3)
  clear hr3 f3 lz hw3 c2 z2 i0 i1 i2 i3 B2
  repeat (first
    | (refine wpList_load_v LZ.out (by exact ⟨_, rfl, rfl⟩) (by kernel_rfl) ?_)
    | (go_at_call 7; refine KS.out.mono ?_; rintro e w4 ⟨rfl, hf4⟩; have F4 := hid hf4; clear hf4; dsimp only)
    | (go_at_call 60; refine (told_any _ _).mono ?_; rintro e wx ⟨rfl, rfl⟩; dsimp only)
    | go_values | go_skip | go_guarded | go_step | go_upon | go_back)
  go_ret
  refine ⟨rfl, ?_⟩
  have g3 : Fr (fun k => k = w.heap.size) w w3 := ((FW.out.mono (T := fun k => k = w.heap.size) (fun _ _ h => h.elim)).trans (F1.out.mono (T := fun k => k = w.heap.size) (fun _ _ h => h.elim)) (fun _ _ h => h)).trans (F2.out.trans F3.out (fun _ _ h => h)) (fun _ _ h => h)
  exact (g3.trans F4.out (fun _ _ h => h.elim)).mono (fun i hi e => by omega)

end Go.Proofs.YtfkddpcadgidgaaDoor

/-
  PutOp and PutEpoch at a writer that nothing made.
-/
import Derived.Test.YtfkddpcadgidgaaDoorQBegun
import Derived.Test.YtfkddpcadgidgaaDoorNoneR
namespace Go.Proofs.YtfkddpcadgidgaaDoor
open Go.RowKit
set_option linter.unusedVariables false

theorem isMade_nil (w : World) : Calls Tryd.prog 59 #[.pointer none] w fun e w' => e = .returned (.bool false) ∧ Fr (fun _ => False) w w' := by
  go_enter Tryd.func59, Tryd.ntmps59
  go_wp2
  go_ret
  exact ⟨rfl, Fr.refl _ _⟩
set_option maxRecDepth 20000 in
set_option maxHeartbeats 3200000 in
theorem isMade_zero {w : World} {p : Nat} {T : TypeId} (hp : w.heap[p]? = some (.cells #[.bool false, .slice none 0 0] T (0, 0))) : Calls Tryd.prog 59 #[.pointer (some ⟨p, 0, none⟩)] w fun e w' => e = .returned (.bool false) ∧ Fr (fun _ => False) w w' := by
  have c0 := cell_at (j := 0) hp rfl
  have c1 := cell_at (j := 1) hp rfl
  have z0 := frozen_of_row (j := 0) hp
  have z1 := frozen_of_row (j := 1) hp
  have HP := hid hp
  clear hp
  go_enter Tryd.func59, Tryd.ntmps59
  go_wp2_with fail
  have fW : Fr (fun _ => False) w (w.alloc (.cells #[.bool false, .slice none 0 0] 76)) := Fr.alloc (Fr.refl _ _) _
  have bW : (w.alloc (.cells #[.bool false, .slice none 0 0] 76)).heap[w.heap.size]? = some (.cells #[.bool false, .slice none 0 0] 76 (0, 0)) := Go.heap_alloc_new w _
  obtain ⟨W, hW⟩ : ∃ W, w.alloc (.cells #[.bool false, .slice none 0 0] 76) = W := ⟨_, rfl⟩
  rw [hW] at fW bW
  rw [hW]
  have pW := fW.cells HP.out (fun h => h)
  have K := hid (noWInt W (.pointer (some ⟨p, 0, none⟩)) (.inr ⟨p, rfl, cell_at (j := 0) pW rfl⟩) 0)
  clear c0 c1 z0 z1 hW
  have c0 := cell_at (j := 0) pW rfl
  have c1 := cell_at (j := 1) pW rfl
  have z0 := frozen_of_row (j := 0) pW
  have z1 := frozen_of_row (j := 1) pW
  have d0 := cell_at (j := 0) bW rfl
  have d1 := cell_at (j := 1) bW rfl
  have PW := hid pW
  have FW := hid fW
  clear pW fW bW
  refine K.out.mono ?_
  rintro e w' ⟨rfl, rfl⟩
  go_wp2
  go_ret
  have b1 : ((W.setCell ⟨p, 0, none⟩ (.bool false)).setCell ⟨p, 1, none⟩ (.slice none 0 0)).heap[p]? = W.heap[p]? := by
    have q1 : (W.setCell ⟨p, 0, none⟩ (.bool false)).heap[p]? = some (.cells #[.bool false, .slice none 0 0] T (0, 0)) := by rw [setCell_row PW.out]; rfl
    rw [setCell_row q1, PW.out]; rfl
  have f1 : Fr (fun k => k = p) W ((W.setCell ⟨p, 0, none⟩ (.bool false)).setCell ⟨p, 1, none⟩ (.slice none 0 0)) := Fr.setCell (p := ⟨p, 1, none⟩) (S := fun k => k = p) (Fr.setCell (p := ⟨p, 0, none⟩) (S := fun k => k = p) (Fr.refl _ W) (fun _ => rfl) _) (fun _ => rfl) _
  exact ⟨rfl, FW.out.trans (Fr.same f1 b1) (fun _ _ h => h)⟩
/-- nil, or a zero value, with its cells -/
def Nz (w : World) (v : Value) : Prop := v = .pointer none ∨ ∃ p T, v = .pointer (some ⟨p, 0, none⟩) ∧ w.heap[p]? = some (.cells #[.bool false, .slice none 0 0] T (0, 0))
theorem Nz.kept {w w' : World} {v : Value} (h : Nz w v) (hf : Fr (fun _ => False) w w') : Nz w' v := by
  rcases h with h | ⟨p, T, rfl, hc⟩
  · exact .inl h
  · exact .inr ⟨p, T, rfl, hf.cells hc (fun h => h)⟩
theorem isMade_no {w : World} {v : Value} (h : Nz w v) : Calls Tryd.prog 59 #[v] w fun e w' => e = .returned (.bool false) ∧ Fr (fun _ => False) w w' := by
  rcases h with rfl | ⟨p, T, rfl, hp⟩
  · exact isMade_nil w
  · exact isMade_zero hp
theorem putWhole_no {w : World} {v : Value} (h : Nz w v) (n : Int) (u : Value) : Calls Tryd.prog 35 #[v, .int .i64 n, u] w fun e w' => e = .returned (.int .i64 2) ∧ Fr (fun _ => False) w w' := by
  have K := hid (isMade_no h)
  clear h
  go_enter Tryd.func35, Tryd.ntmps35
  go_wp2_with fail
  refine K.out.mono ?_
  rintro e w' ⟨rfl, hf⟩
  go_wp2
  go_ret
  exact ⟨rfl, hf⟩
set_option maxRecDepth 20000 in
set_option maxHeartbeats 3200000 in
theorem putOp_no {w : World} {v : Value} (h : Nz w v) (o : M.Op) : Calls Tryd.prog 16 #[v, .agg o.cs] w fun e w' => e = .returned (.int .i64 2) ∧ Fr (fun _ => False) w w' := by
  have fW : Fr (fun _ => False) w (w.alloc (.cells o.cs 25)) := Fr.alloc (Fr.refl _ _) _
  have bW : (w.alloc (.cells o.cs 25)).heap[w.heap.size]? = some (.cells o.cs 25 (0, 0)) := Go.heap_alloc_new w _
  obtain ⟨W, hW⟩ : ∃ W, w.alloc (.cells o.cs 25) = W := ⟨_, rfl⟩
  rw [hW] at fW bW
  have ld : (Instr.loadAt 25 (.pointer (some ⟨w.heap.size, 0, none⟩))).run Tryd.prog W = .ok (.agg o.cs) W := run_loadAt_mid W w.heap.size 0 _ (o.cs).toList _ (rangeAt_of bW 0 (o.cs).toList rfl) Tryd.underlying25 rfl (by kernel_rfl)
  have KC := hid (checkOp_any o W)
  have KP := hid (fun W2 (hf : Fr (fun _ => False) W W2) n u => putWhole_no ((h.kept fW).kept hf) n u)
  have FW := hid fW
  have HW := hid hW
  obtain ⟨va, hva⟩ : ∃ v, Value.agg (o.cs) = v := ⟨_, rfl⟩
  rw [hva] at ld KC
  have LD := hid ld
  rw [hva]
  have HVA := hid hva
  clear fW bW hW ld hva h
  rw [← HVA.out]
  go_enter Tryd.func16, Tryd.ntmps16
  go_upto_region 1 with fail
  rw [HW.out, HVA.out]
  repeat (first
    | (refine wpList_load_v LD.out (by exact ⟨_, rfl, rfl⟩) (by kernel_rfl) ?_)
    | (go_at_call 36; refine KC.out.mono ?_; rintro e w1 ⟨rfl, hf1⟩; have F1 := hid hf1; clear hf1; dsimp only)
    | (go_at_call 35; refine (KP.out _ F1.out _ _).mono ?_; rintro e w2 ⟨rfl, hf2⟩; have F2 := hid hf2; clear hf2; dsimp only)
    | go_values | go_skip | go_guarded | go_step | go_upon | go_back)
  go_ret
  exact ⟨rfl, (FW.out.trans F1.out (fun _ _ h => h)).trans F2.out (fun _ _ h => h)⟩
end Go.Proofs.YtfkddpcadgidgaaDoor

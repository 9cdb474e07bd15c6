/-
  A table: Clone.
-/
import Derived.Test.YtffjekhlloippaaYPut
import Derived.Shelf.SlMaps.Clone
namespace Go.Proofs.Ytffjekhlloippaa
open Go.RowKit Go.Maps
set_option linter.unusedVariables false
set_option linter.unusedSimpArgs false
set_option maxRecDepth 100000
set_option maxHeartbeats 2000000 in
theorem mapsCloneY {w : World} {mb m : Nat} {g : Int → Option Value} (h : Mp 2 litI w mb g m) :
    Calls Try.prog 24 #[.map (some mb)] w fun e w' => e = .returned (.map (some w.heap.size)) ∧ Mp 2 litI w' w.heap.size g m ∧ Fr (fun _ => False) w w' ∧ w.heap.size < w'.heap.size := by
  obtain ⟨D, ⟨es, clock, hb, r⟩, h2⟩ := h
  have hq := fun w => run_eql_map_nil_sl (P := Try.prog) w 52 _ _ (some mb) Try.underlying52
  have HF := hid (And.intro r h2)
  clear r h2
  go_enter Try.func24, Try.ntmps24
  go_wp2
  rw [run_callFunc_extern Try.func32 (by kernel_rfl) (by kernel_rfl) (by kernel_rfl) (e := Extern.MapsClone.clone) (by kernel_rfl), run_maps_clone_sl w 52 hb]
  simp only [Result.andThen]
  rw [Oper.upon_value]
  go_wp2
  rw [run_typeAssert_map_sl _ 52 _ _ _ _ Try.underlying52]
  simp only [Result.andThen]
  rw [Oper.upon_value]
  go_wp2
  go_ret
  exact ⟨rfl, ⟨D, ⟨es, clock, Go.heap_alloc_new w _, HF.out.1⟩, HF.out.2⟩, Fr.alloc (Fr.refl _ _) _, by simp⟩
set_option maxHeartbeats 3200000 in
theorem yclone_any {w : World} {p mb : Nat} {t : Y.Tb} (h : Ym w p mb t) : Calls Try.prog 11 #[ptrY p] w fun e w' => ∃ p2 mb2, e = .returned (ptrY p2) ∧ w.heap.size ≤ p2 ∧ w.heap.size ≤ mb2 ∧ Ym w' p2 mb2 t ∧ Fr (fun _ => False) w w' := by
  have KM := hid (ymade_any h)
  have KC := hid (fun (W : World) (hf : Fr (fun _ => False) w W) => mapsCloneY (h.map.kept hf (fun h => h)))
  have c0 : w.cell? ⟨p, 0, none⟩ = some (.map (some mb)) := cellA (j := 0) h.box rfl
  have HO := hid h.ok
  clear h
  go_enter Try.func11, Try.ntmps11
  go_wp2_with (first
    | (go_at_call 23; refine KM.out.mono ?_; rintro e w2 ⟨rfl, rfl⟩)
    | (go_at_call 24; refine (KC.out _ (Fr.refl _ _)).mono ?_; rintro e w3 ⟨rfl, om3, f3, hlt3⟩; have F3 := hid f3; have OM3 := hid om3; have HL3 := hid hlt3; clear f3 om3 hlt3))
  go_ret
  have f4 : Fr (fun _ => False) w3 (w3.alloc (.cells #[.map (some w.heap.size)] 54)) := Fr.alloc (Fr.refl _ _) _
  exact ⟨w3.heap.size, w.heap.size, rfl, F3.out.size, Nat.le_refl _, ⟨Go.heap_alloc_new w3 _, OM3.out.kept f4 (fun h => h), HO.out⟩, F3.out.trans f4 (fun _ _ h => h)⟩
end Go.Proofs.Ytffjekhlloippaa

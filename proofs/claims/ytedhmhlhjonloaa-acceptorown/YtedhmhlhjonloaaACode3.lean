/-
  An acceptor: Clone.
-/
import Derived.Test.YtedhmhlhjonloaaACode2
import Derived.Shelf.SlMaps.Clone
namespace Go.Proofs.Ytedhmhlhjonloaa
open Go.RowKit Go.Maps
set_option linter.unusedVariables false
set_option linter.unusedSimpArgs false

set_option maxRecDepth 100000 in
set_option maxHeartbeats 2000000 in
theorem mapsClone_any {w : World} {mb : Nat} {m : List (Int × Nat)} (h : OMi w mb m) :
    Calls Try.prog 35 #[.map (some mb)] w fun e w' => e = .returned (.map (some w.heap.size)) ∧ OMi w' w.heap.size m ∧ Fr (fun _ => False) w w' ∧ w.heap.size < w'.heap.size := by
  obtain ⟨es, clock, hb, hF, hs, hD⟩ := h
  have hq := fun w => run_eql_map_nil_sl (P := Try.prog) w 88 _ _ (some mb) Try.underlying88
  have HF := hid (And.intro hF (And.intro hs hD))
  clear hF hs hD
  go_enter Try.func35, Try.ntmps35
  go_wp2
  rw [run_callFunc_extern Try.func53 (by kernel_rfl) (by kernel_rfl) (by kernel_rfl) (e := Extern.MapsClone.clone) (by kernel_rfl), run_maps_clone_sl w 88 hb]
  simp only [Result.andThen]
  rw [Oper.upon_value]
  go_wp2
  rw [run_typeAssert_map_sl _ 88 _ _ _ _ Try.underlying88]
  simp only [Result.andThen]
  rw [Oper.upon_value]
  go_wp2
  go_ret
  exact ⟨rfl, ⟨es, clock, Go.heap_alloc_new w _, HF.out.1, HF.out.2.1, HF.out.2.2⟩, Fr.alloc (Fr.refl _ _) _, by simp⟩
set_option maxHeartbeats 3200000 in
set_option maxRecDepth 20000 in
theorem acClone_any {I : Nat → Prop} {w : World} {p mb : Nat} {a : A.Ac} (h : At_ I w p mb a) :
    Calls Try.prog 11 #[ptrV p] w fun r w' => ∃ p2 mb2, r = .returned (ptrV p2) ∧ w.heap.size ≤ p2 ∧ w.heap.size ≤ mb2 ∧ At_ I w' p2 mb2 a ∧ Fr (fun _ => False) w w' := by
  have HH := hid h
  obtain ⟨hI, hp, hm, l, ham⟩ := h
  have KM := hid (fun (W : World) (hf : Fr (fun _ => False) w W) => acMade_any (cellA (j := 3) (hf.cells ham.at_ (fun h => h)) rfl))
  have KC := hid (fun (W : World) (hf : Fr (fun _ => False) w W) => mapsClone_any (ham.mp.kept hf (fun h => h)))
  have c0 : w.cell? ⟨p, 0, none⟩ = some (.int .i64 a.pr.1) := cellA ham.at_ rfl
  have c1 : w.cell? ⟨p, 1, none⟩ = some (.int .i64 a.pr.2) := cellA ham.at_ rfl
  have c2 : w.cell? ⟨p, 2, none⟩ = some (.int .i64 a.fs) := cellA ham.at_ rfl
  have c3 : w.cell? ⟨p, 3, none⟩ = some (.map (some mb)) := cellA ham.at_ rfl
  have HS := hid (fun (V : World) (hf : Fr (fun _ => False) w V) => show V.cell? ⟨p, 0, none⟩ = some (.int .i64 a.pr.1) ∧ V.cell? ⟨p, 1, none⟩ = some (.int .i64 a.pr.2) ∧ V.cell? ⟨p, 2, none⟩ = some (.int .i64 a.fs) ∧ V.cell? ⟨p, 3, none⟩ = some (.map (some mb)) from
    ⟨cellFr hf (fun h => h) c0, cellFr hf (fun h => h) c1, cellFr hf (fun h => h) c2, cellFr hf (fun h => h) c3⟩)
  have HAM := hid ham
  have HI := hid hI
  have HPM := hid (And.intro hp hm)
  have fin : ∀ W, Fr (fun _ => False) w W → OMi W w.heap.size (A.mp SM.g l) → w.heap.size < W.heap.size → ∃ p2 mb2, (Ending.returned (.pointer (some ⟨W.heap.size, 0, none⟩)) : Ending) = .returned (ptrV p2) ∧ w.heap.size ≤ p2 ∧ w.heap.size ≤ mb2 ∧ At_ I (W.alloc (.cells #[.int .i64 a.pr.1, .int .i64 a.pr.2, .int .i64 a.fs, .map (some w.heap.size)] 90)) p2 mb2 a ∧ Fr (fun _ => False) w (W.alloc (.cells #[.int .i64 a.pr.1, .int .i64 a.pr.2, .int .i64 a.fs, .map (some w.heap.size)] 90)) := by
    intro W fW hom hlt
    have f2 : Fr (fun _ => False) w (W.alloc (.cells #[.int .i64 a.pr.1, .int .i64 a.pr.2, .int .i64 a.fs, .map (some w.heap.size)] 90)) := Fr.alloc fW _
    have hs := fW.size
    refine ⟨W.heap.size, w.heap.size, rfl, hs, Nat.le_refl _, ⟨fun i hi => ?_, by simp, by simp; omega, l, ⟨Go.heap_alloc_new W _, hom.kept (Fr.alloc (Fr.refl (fun _ => False) W) _) (fun h => h), by omega, fun hi => ?_, fun hi => ?_, fun q hq => ?_, ham.up, ham.ls, ham.sm⟩⟩, f2⟩
    · have := hI i hi; simp; omega
    · have := hI _ hi; omega
    · have := hI _ hi; omega
    · obtain ⟨e1, e2, cs, e3, e4⟩ := ham.sl q hq
      exact ⟨e1, e2, cs, f2.cells e3 (fun h => h), e4.kept f2 (fun _ _ h => h)⟩
  have FIN := hid fin
  clear hI hp hm ham fin
  generalize a.pr.1 = x1 at *
  generalize a.pr.2 = x2 at *
  generalize a.fs = x3 at *
  go_enter Try.func11, Try.ntmps11
  go_wp2_with (first
    | (go_at_call 34; refine (KM.out _ (Fr.refl _ _)).mono ?_; rintro e w2 ⟨rfl, rfl⟩))
  go_region_held3 (fun V => V.cell? ⟨p, 0, none⟩ = some (.int .i64 x1) ∧ V.cell? ⟨p, 1, none⟩ = some (.int .i64 x2) ∧ V.cell? ⟨p, 2, none⟩ = some (.int .i64 x3) ∧ V.cell? ⟨p, 3, none⟩ = some (.map (some mb))) (first | exact HS.out _ (Fr.drew (Fr.refl _ _)) | exact HS.out _ F3.out | exact HS.out _ (Fr.alloc F3.out _))
    (first
      | (go_at_call 35; refine (KC.out _ (Fr.drew (Fr.refl _ _))).mono ?_; rintro e w3 ⟨rfl, om3, f3, hlt3⟩; have F3 := hid ((Fr.drew (Fr.refl (fun _ => False) w)).trans f3 (fun _ _ h => h)); have OM3 := hid om3; have HL3 := hid hlt3; clear f3 om3 hlt3))
  go_wp2
  go_ret
  exact FIN.out _ F3.out OM3.out HL3.out
end Go.Proofs.Ytedhmhlhjonloaa

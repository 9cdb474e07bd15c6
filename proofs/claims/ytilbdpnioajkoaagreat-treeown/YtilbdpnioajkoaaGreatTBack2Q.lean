/-
  Back, of what was done last.
-/
import Derived.Test.YtilbdpnioajkoaaGreatTBackQ
import Derived.Test.YtilbdpnioajkoaaGreatMg21
namespace Go.Proofs.YtilbdpnioajkoaaGreat
open Go.RowKit Go.Maps
set_option linter.unusedVariables false
set_option maxRecDepth 100000
set_option linter.unusedSimpArgs false
set_option maxHeartbeats 1600000 in
theorem back_put {c : Nat → Option T.Col} {w : World} {bud bud' p : Nat} {dos last : Int} {t t' : T.Tr} {mb : Nat} {f f' : Int → Nat} (h : Tf c w bud p dos last t mb f) (hl : Lo c w.heap.size) {d : Nat} {bf : Int} {fa fb : Nat} (hd : w.heap[d]? = some (.cells #[ptr p, .int .i64 last, .int .i64 bf, .func (.func 109) #[] #[ptr fa, ptr fb]] 115 (0, 0))) (hcd : c d = none)
    (hcl : ∀ V, Fr (fun _ => False) w V → Calls Tryz.prog 109 #[ptr fa, ptr fb] V fun e w' => e = .returned (.tuple #[]) ∧ Fr (fun i => c i ≠ none) V w' ∧ ∃ c', More c c' V.heap.size ∧ Lo c' w'.heap.size ∧ Tf c' w' bud' p dos last t' mb f') :
    Calls Tryz.prog 61 #[ptr p, .agg #[ptr d]] w fun e w' => e = .returned (.int .i64 0) ∧ Fr (fun i => c i ≠ none) w w' ∧ ∃ c', More c c' w.heap.size ∧ Lo c' w'.heap.size ∧ Tf c' w' bud' p dos bf t' mb f' := by
  obtain ⟨W, hW⟩ : ∃ W, w.alloc (.cells #[ptr d] 53) = W := ⟨_, rfl⟩
  have fW : Fr (fun _ => False) w W := by rw [← hW]; exact Fr.alloc (Fr.refl _ _) _
  have hTW := h.kept fW (fun _ _ h => h)
  have hdW := fW.cells hd (fun h => h)
  have KM := hid (tmade_any hTW)
  have hbx : W.heap[w.heap.size]? = some (.cells #[ptr d] 53 (0, 0)) := by rw [← hW]; exact Go.heap_alloc_new w _
  have u0 : W.cell? ⟨w.heap.size, 0, none⟩ = some (ptr d) := cellA (j := 0) hbx rfl
  have d0 : W.cell? ⟨d, 0, none⟩ = some (ptr p) := cellA (j := 0) hdW rfl
  have d1 : W.cell? ⟨d, 1, none⟩ = some (.int .i64 last) := cellA (j := 1) hdW rfl
  have d2 : W.cell? ⟨d, 2, none⟩ = some (.int .i64 bf) := cellA (j := 2) hdW rfl
  have d3 : W.cell? ⟨d, 3, none⟩ = some (.func (.func 109) #[] #[ptr fa, ptr fb]) := cellA (j := 3) hdW rfl
  have p2 : W.cell? ⟨p, 2, none⟩ = some (.int .i64 last) := cellA (j := 2) hTW.cells rfl
  have C0 := hid (show ∀ V, Fr (fun _ => False) W V → V.cell? ⟨w.heap.size, 0, none⟩ = some (ptr d) ∧ V.cell? ⟨d, 0, none⟩ = some (ptr p) ∧ V.cell? ⟨d, 1, none⟩ = some (.int .i64 last) ∧ V.cell? ⟨p, 2, none⟩ = some (.int .i64 last) from fun V hf => ⟨cellFr hf (fun h => h) u0, cellFr hf (fun h => h) d0, cellFr hf (fun h => h) d1, cellFr hf (fun h => h) p2⟩)
  have hcb : c w.heap.size = none := by
    cases hc : c w.heap.size with
    | none => rfl
    | some col => have := hl w.heap.size (by rw [hc]; simp); omega
  have C1 := hid (show ∀ V, Fr (fun i => c i ≠ none) W.drew V → V.cell? ⟨w.heap.size, 0, none⟩ = some (ptr d) ∧ V.cell? ⟨d, 2, none⟩ = some (.int .i64 bf) from fun V hf => ⟨cellA (j := 0) (hf.cells (show W.drew.heap[w.heap.size]? = _ from hbx) (fun e => e hcb)) rfl, cellA (j := 2) (hf.cells (show W.drew.heap[d]? = _ from hdW) (fun e => e hcd)) rfl⟩)
  have KC := hid (hcl W.drew (fW.trans (Fr.drew (Fr.refl (fun _ => False) W)) (fun _ _ h => h)))
  have FW := hid (show Fr (fun _ => False) w W.drew from fW.trans (Fr.drew (Fr.refl (fun _ => False) W)) (fun _ _ h => h))
  have HCP := hid h.cp
  have HW := hid hW
  clear h hl hd hcd hcl hTW hdW fW hW hbx hcb
  go_enter Tryz.func61, Tryz.ntmps61
  go_wp2_with (go_at_call 42; rw [HW.out]; refine KM.out.mono ?_; rintro e wx ⟨rfl, rfl⟩)
  have hmx : Tryz.prog.follows .mixedOrders = true := by kernel_rfl
  refine wp_region_held (S := fun V => Fr (fun _ => False) W V) hmx ?_
  have hS := (Fr.drew (Fr.refl (fun _ => False) W))
  simp only [List.size_toArray, List.length_cons, List.length_nil, Nat.reduceAdd, Array.replicate_succ, Array.replicate_zero, List.push_toArray, List.nil_append, List.cons_append]
  refine wpAnyH_take (i := 0) (v := ?_) rfl (by kernel_rfl) (by kernel_rfl) (by kernel_rfl) (fun _ _ _ h => h) (Or.inl ⟨by kernel_rfl, ?_⟩) hS ?_
  rotate_left 1
  · (intro w' hS'; clear hS'; go_simp; try with_reducible rfl)
  simp only [List.getElem_toArray, List.getElem_cons_zero, List.getElem_cons_succ, Act.put, List.setIfInBounds_toArray, List.set_cons_zero, List.set_cons_succ]
  refine wpAnyH_take (i := 1) (v := ?_) rfl (by kernel_rfl) (by kernel_rfl) (by kernel_rfl) (fun _ _ _ h => h) (Or.inl ⟨by kernel_rfl, ?_⟩) hS ?_
  rotate_left 1
  · (intro w' hS'; have h1 := (C0.out w' hS').1; clear hS'; go_simp; try with_reducible rfl)
  simp only [List.getElem_toArray, List.getElem_cons_zero, List.getElem_cons_succ, Act.put, List.setIfInBounds_toArray, List.set_cons_zero, List.set_cons_succ]
  refine wpAnyH_take (i := 2) (v := ?_) rfl (by kernel_rfl) (by kernel_rfl) (by kernel_rfl) (fun _ _ _ h => h) (Or.inl ⟨by kernel_rfl, ?_⟩) hS ?_
  rotate_left 1
  · (intro w' hS'; clear hS'; go_simp; try with_reducible rfl)
  simp only [List.getElem_toArray, List.getElem_cons_zero, List.getElem_cons_succ, Act.put, List.setIfInBounds_toArray, List.set_cons_zero, List.set_cons_succ]
  refine wpAnyH_take (i := 3) (v := ?_) rfl (by kernel_rfl) (by kernel_rfl) (by kernel_rfl) (fun _ _ _ h => h) (Or.inl ⟨by kernel_rfl, ?_⟩) hS ?_
  rotate_left 1
  · (intro w' hS'; clear hS'; go_simp; try with_reducible rfl)
  simp only [List.getElem_toArray, List.getElem_cons_zero, List.getElem_cons_succ, Act.put, List.setIfInBounds_toArray, List.set_cons_zero, List.set_cons_succ]
  refine wpAnyH_take (i := 4) (v := ?_) rfl (by kernel_rfl) (by kernel_rfl) (by kernel_rfl) (fun _ _ _ h => h) (Or.inl ⟨by kernel_rfl, ?_⟩) hS ?_
  rotate_left 1
  · (intro w' hS'; have h1 := (C0.out w' hS').2.1; clear hS'; go_simp; try with_reducible rfl)
  simp only [List.getElem_toArray, List.getElem_cons_zero, List.getElem_cons_succ, Act.put, List.setIfInBounds_toArray, List.set_cons_zero, List.set_cons_succ]
  refine wpAnyH_take (i := 5) (v := ?_) rfl (by kernel_rfl) (by kernel_rfl) (by kernel_rfl) (fun _ _ _ h => h) (Or.inl ⟨by kernel_rfl, ?_⟩) hS ?_
  rotate_left 1
  · (intro w' hS'; clear hS'; go_simp; try with_reducible rfl)
  simp only [List.getElem_toArray, List.getElem_cons_zero, List.getElem_cons_succ, Act.put, List.setIfInBounds_toArray, List.set_cons_zero, List.set_cons_succ]
  refine wpAnyH_take (i := 6) (v := .bool false) rfl (by kernel_rfl) (by kernel_rfl) (by kernel_rfl) (fun _ _ _ h => h) (Or.inl ⟨by kernel_rfl, fun w' hS' => by (clear hS'; go_simp; rw [ptr_self]; rfl)⟩) hS ?_
  simp only [List.getElem_toArray, List.getElem_cons_zero, List.getElem_cons_succ, Act.put, List.setIfInBounds_toArray, List.set_cons_zero, List.set_cons_succ]
  refine wpAnyH_take (i := 7) (v := ?_) rfl (by kernel_rfl) (by kernel_rfl) (by kernel_rfl) (fun _ _ _ h => h) (Or.inl ⟨by kernel_rfl, ?_⟩) hS ?_
  rotate_left 1
  · (intro w' hS'; clear hS'; go_simp; try with_reducible rfl)
  simp only [List.getElem_toArray, List.getElem_cons_zero, List.getElem_cons_succ, Act.put, List.setIfInBounds_toArray, List.set_cons_zero, List.set_cons_succ]
  refine wpAnyH_take (i := 8) (v := ?_) rfl (by kernel_rfl) (by kernel_rfl) (by kernel_rfl) (fun _ _ _ h => h) (Or.inl ⟨by kernel_rfl, ?_⟩) hS ?_
  rotate_left 1
  · (intro w' hS'; clear hS'; go_simp; try with_reducible rfl)
  simp only [List.getElem_toArray, List.getElem_cons_zero, List.getElem_cons_succ, Act.put, List.setIfInBounds_toArray, List.set_cons_zero, List.set_cons_succ]
  refine wpAnyH_take (i := 9) (v := ?_) rfl (by kernel_rfl) (by kernel_rfl) (by kernel_rfl) (fun _ _ _ h => h) (Or.inl ⟨by kernel_rfl, ?_⟩) hS ?_
  rotate_left 1
  · (intro w' hS'; have h1 := (C0.out w' hS').1; clear hS'; go_simp; try with_reducible rfl)
  simp only [List.getElem_toArray, List.getElem_cons_zero, List.getElem_cons_succ, Act.put, List.setIfInBounds_toArray, List.set_cons_zero, List.set_cons_succ]
  refine wpAnyH_take (i := 10) (v := ?_) rfl (by kernel_rfl) (by kernel_rfl) (by kernel_rfl) (fun _ _ _ h => h) (Or.inl ⟨by kernel_rfl, ?_⟩) hS ?_
  rotate_left 1
  · (intro w' hS'; clear hS'; go_simp; try with_reducible rfl)
  simp only [List.getElem_toArray, List.getElem_cons_zero, List.getElem_cons_succ, Act.put, List.setIfInBounds_toArray, List.set_cons_zero, List.set_cons_succ]
  refine wpAnyH_take (i := 11) (v := ?_) rfl (by kernel_rfl) (by kernel_rfl) (by kernel_rfl) (fun _ _ _ h => h) (Or.inl ⟨by kernel_rfl, ?_⟩) hS ?_
  rotate_left 1
  · (intro w' hS'; clear hS'; go_simp; try with_reducible rfl)
  simp only [List.getElem_toArray, List.getElem_cons_zero, List.getElem_cons_succ, Act.put, List.setIfInBounds_toArray, List.set_cons_zero, List.set_cons_succ]
  refine wpAnyH_take (i := 12) (v := ?_) rfl (by kernel_rfl) (by kernel_rfl) (by kernel_rfl) (fun _ _ _ h => h) (Or.inl ⟨by kernel_rfl, ?_⟩) hS ?_
  rotate_left 1
  · (intro w' hS'; have h1 := (C0.out w' hS').2.2.1; clear hS'; go_simp; try with_reducible rfl)
  simp only [List.getElem_toArray, List.getElem_cons_zero, List.getElem_cons_succ, Act.put, List.setIfInBounds_toArray, List.set_cons_zero, List.set_cons_succ]
  refine wpAnyH_take (i := 13) (v := ?_) rfl (by kernel_rfl) (by kernel_rfl) (by kernel_rfl) (fun _ _ _ h => h) (Or.inl ⟨by kernel_rfl, ?_⟩) hS ?_
  rotate_left 1
  · (intro w' hS'; clear hS'; go_simp; try with_reducible rfl)
  simp only [List.getElem_toArray, List.getElem_cons_zero, List.getElem_cons_succ, Act.put, List.setIfInBounds_toArray, List.set_cons_zero, List.set_cons_succ]
  refine wpAnyH_take (i := 14) (v := ?_) rfl (by kernel_rfl) (by kernel_rfl) (by kernel_rfl) (fun _ _ _ h => h) (Or.inl ⟨by kernel_rfl, ?_⟩) hS ?_
  rotate_left 1
  · (intro w' hS'; clear hS'; go_simp; try with_reducible rfl)
  simp only [List.getElem_toArray, List.getElem_cons_zero, List.getElem_cons_succ, Act.put, List.setIfInBounds_toArray, List.set_cons_zero, List.set_cons_succ]
  refine wpAnyH_take (i := 15) (v := ?_) rfl (by kernel_rfl) (by kernel_rfl) (by kernel_rfl) (fun _ _ _ h => h) (Or.inl ⟨by kernel_rfl, ?_⟩) hS ?_
  rotate_left 1
  · (intro w' hS'; clear hS'; go_simp; try with_reducible rfl)
  simp only [List.getElem_toArray, List.getElem_cons_zero, List.getElem_cons_succ, Act.put, List.setIfInBounds_toArray, List.set_cons_zero, List.set_cons_succ]
  refine wpAnyH_take (i := 16) (v := ?_) rfl (by kernel_rfl) (by kernel_rfl) (by kernel_rfl) (fun _ _ _ h => h) (Or.inl ⟨by kernel_rfl, ?_⟩) hS ?_
  rotate_left 1
  · (intro w' hS'; have h1 := (C0.out w' hS').2.2.2; clear hS'; go_simp; try with_reducible rfl)
  simp only [List.getElem_toArray, List.getElem_cons_zero, List.getElem_cons_succ, Act.put, List.setIfInBounds_toArray, List.set_cons_zero, List.set_cons_succ]
  refine wpAnyH_take (i := 17) (v := ?_) rfl (by kernel_rfl) (by kernel_rfl) (by kernel_rfl) (fun _ _ _ h => h) (Or.inl ⟨by kernel_rfl, ?_⟩) hS ?_
  rotate_left 1
  · (intro w' hS'; clear hS'; go_simp; try with_reducible rfl)
  simp only [List.getElem_toArray, List.getElem_cons_zero, List.getElem_cons_succ, Act.put, List.setIfInBounds_toArray, List.set_cons_zero, List.set_cons_succ]
  refine wpAnyH_take (i := 18) (v := ?_) rfl (by kernel_rfl) (by kernel_rfl) (by kernel_rfl) (fun _ _ _ h => h) (Or.inl ⟨by kernel_rfl, ?_⟩) hS ?_
  rotate_left 1
  · (intro w' hS'; clear hS'; go_simp; try with_reducible rfl)
  simp only [List.getElem_toArray, List.getElem_cons_zero, List.getElem_cons_succ, Act.put, List.setIfInBounds_toArray, List.set_cons_zero, List.set_cons_succ]
  refine wpAnyH_take (i := 19) (v := ?_) rfl (by kernel_rfl) (by kernel_rfl) (by kernel_rfl) (fun _ _ _ h => h) (Or.inl ⟨by kernel_rfl, ?_⟩) hS ?_
  rotate_left 1
  · (intro w' hS'; clear hS'; go_simp; try with_reducible rfl)
  simp only [List.getElem_toArray, List.getElem_cons_zero, List.getElem_cons_succ, Act.put, List.setIfInBounds_toArray, List.set_cons_zero, List.set_cons_succ]
  refine wpAnyH_done (by kernel_rfl) ?_ _
  clear hS
  go_wp2_with (go_at_call 109; refine KC.out.mono ?_; rintro e w2 ⟨rfl, fx, c', k1, k2, k3⟩; have FX := hid fx; have P1 := hid k1; have P2 := hid k2; have P3 := hid k3; obtain ⟨g1, g2⟩ := C1.out w2 fx; have z2 : w2.frozen? ⟨p, 2, none⟩ = false := frozen_of_row k3.cells; have y2 : w2.cell? ⟨p, 2, none⟩ = some (.int .i64 last) := cellA (j := 2) k3.cells rfl; clear fx k1 k2 k3)
  have p9 := setCell_row (j := 2) P3.out.cells (.int .i64 bf)
  have f9 : Fr (fun i => i = p) w2 (w2.setCell ⟨p, 2, none⟩ (.int .i64 bf)) := Fr.setCell (p := ⟨p, 2, none⟩) (Fr.refl (fun i => i = p) _) (fun _ => rfl) _
  go_ret
  refine ⟨rfl, ((FW.out.mono (fun _ _ h => h.elim)).trans FX.out (fun _ _ h => h)).trans f9 (fun i _ e => by rw [e, HCP.out]; simp), c', fun i hi => P1.out i (Nat.lt_of_lt_of_le hi FW.out.size), fun i hi => Nat.lt_of_lt_of_le (P2.out i hi) f9.size, P3.out.count f9 p9⟩
set_option maxHeartbeats 1600000 in
theorem back_move {c : Nat → Option T.Col} {w : World} {bud bud' p : Nat} {dos last : Int} {t t' : T.Tr} {mb : Nat} {f f' : Int → Nat} (h : Tf c w bud p dos last t mb f) (hl : Lo c w.heap.size) {d : Nat} {bf : Int} {fa fb fd : Nat} (hd : w.heap[d]? = some (.cells #[ptr p, .int .i64 last, .int .i64 bf, .func (.func 111) #[] #[ptr fa, ptr fb, ptr fd]] 115 (0, 0))) (hcd : c d = none)
    (hcl : ∀ V, Fr (fun _ => False) w V → Calls Tryz.prog 111 #[ptr fa, ptr fb, ptr fd] V fun e w' => e = .returned (.tuple #[]) ∧ Fr (fun i => c i ≠ none) V w' ∧ ∃ c', More c c' V.heap.size ∧ Lo c' w'.heap.size ∧ Tf c' w' bud' p dos last t' mb f') :
    Calls Tryz.prog 61 #[ptr p, .agg #[ptr d]] w fun e w' => e = .returned (.int .i64 0) ∧ Fr (fun i => c i ≠ none) w w' ∧ ∃ c', More c c' w.heap.size ∧ Lo c' w'.heap.size ∧ Tf c' w' bud' p dos bf t' mb f' := by
  obtain ⟨W, hW⟩ : ∃ W, w.alloc (.cells #[ptr d] 53) = W := ⟨_, rfl⟩
  have fW : Fr (fun _ => False) w W := by rw [← hW]; exact Fr.alloc (Fr.refl _ _) _
  have hTW := h.kept fW (fun _ _ h => h)
  have hdW := fW.cells hd (fun h => h)
  have KM := hid (tmade_any hTW)
  have hbx : W.heap[w.heap.size]? = some (.cells #[ptr d] 53 (0, 0)) := by rw [← hW]; exact Go.heap_alloc_new w _
  have u0 : W.cell? ⟨w.heap.size, 0, none⟩ = some (ptr d) := cellA (j := 0) hbx rfl
  have d0 : W.cell? ⟨d, 0, none⟩ = some (ptr p) := cellA (j := 0) hdW rfl
  have d1 : W.cell? ⟨d, 1, none⟩ = some (.int .i64 last) := cellA (j := 1) hdW rfl
  have d2 : W.cell? ⟨d, 2, none⟩ = some (.int .i64 bf) := cellA (j := 2) hdW rfl
  have d3 : W.cell? ⟨d, 3, none⟩ = some (.func (.func 111) #[] #[ptr fa, ptr fb, ptr fd]) := cellA (j := 3) hdW rfl
  have p2 : W.cell? ⟨p, 2, none⟩ = some (.int .i64 last) := cellA (j := 2) hTW.cells rfl
  have C0 := hid (show ∀ V, Fr (fun _ => False) W V → V.cell? ⟨w.heap.size, 0, none⟩ = some (ptr d) ∧ V.cell? ⟨d, 0, none⟩ = some (ptr p) ∧ V.cell? ⟨d, 1, none⟩ = some (.int .i64 last) ∧ V.cell? ⟨p, 2, none⟩ = some (.int .i64 last) from fun V hf => ⟨cellFr hf (fun h => h) u0, cellFr hf (fun h => h) d0, cellFr hf (fun h => h) d1, cellFr hf (fun h => h) p2⟩)
  have hcb : c w.heap.size = none := by
    cases hc : c w.heap.size with
    | none => rfl
    | some col => have := hl w.heap.size (by rw [hc]; simp); omega
  have C1 := hid (show ∀ V, Fr (fun i => c i ≠ none) W.drew V → V.cell? ⟨w.heap.size, 0, none⟩ = some (ptr d) ∧ V.cell? ⟨d, 2, none⟩ = some (.int .i64 bf) from fun V hf => ⟨cellA (j := 0) (hf.cells (show W.drew.heap[w.heap.size]? = _ from hbx) (fun e => e hcb)) rfl, cellA (j := 2) (hf.cells (show W.drew.heap[d]? = _ from hdW) (fun e => e hcd)) rfl⟩)
  have KC := hid (hcl W.drew (fW.trans (Fr.drew (Fr.refl (fun _ => False) W)) (fun _ _ h => h)))
  have FW := hid (show Fr (fun _ => False) w W.drew from fW.trans (Fr.drew (Fr.refl (fun _ => False) W)) (fun _ _ h => h))
  have HCP := hid h.cp
  have HW := hid hW
  clear h hl hd hcd hcl hTW hdW fW hW hbx hcb
  go_enter Tryz.func61, Tryz.ntmps61
  go_wp2_with (go_at_call 42; rw [HW.out]; refine KM.out.mono ?_; rintro e wx ⟨rfl, rfl⟩)
  have hmx : Tryz.prog.follows .mixedOrders = true := by kernel_rfl
  refine wp_region_held (S := fun V => Fr (fun _ => False) W V) hmx ?_
  have hS := (Fr.drew (Fr.refl (fun _ => False) W))
  simp only [List.size_toArray, List.length_cons, List.length_nil, Nat.reduceAdd, Array.replicate_succ, Array.replicate_zero, List.push_toArray, List.nil_append, List.cons_append]
  refine wpAnyH_take (i := 0) (v := ?_) rfl (by kernel_rfl) (by kernel_rfl) (by kernel_rfl) (fun _ _ _ h => h) (Or.inl ⟨by kernel_rfl, ?_⟩) hS ?_
  rotate_left 1
  · (intro w' hS'; clear hS'; go_simp; try with_reducible rfl)
  simp only [List.getElem_toArray, List.getElem_cons_zero, List.getElem_cons_succ, Act.put, List.setIfInBounds_toArray, List.set_cons_zero, List.set_cons_succ]
  refine wpAnyH_take (i := 1) (v := ?_) rfl (by kernel_rfl) (by kernel_rfl) (by kernel_rfl) (fun _ _ _ h => h) (Or.inl ⟨by kernel_rfl, ?_⟩) hS ?_
  rotate_left 1
  · (intro w' hS'; have h1 := (C0.out w' hS').1; clear hS'; go_simp; try with_reducible rfl)
  simp only [List.getElem_toArray, List.getElem_cons_zero, List.getElem_cons_succ, Act.put, List.setIfInBounds_toArray, List.set_cons_zero, List.set_cons_succ]
  refine wpAnyH_take (i := 2) (v := ?_) rfl (by kernel_rfl) (by kernel_rfl) (by kernel_rfl) (fun _ _ _ h => h) (Or.inl ⟨by kernel_rfl, ?_⟩) hS ?_
  rotate_left 1
  · (intro w' hS'; clear hS'; go_simp; try with_reducible rfl)
  simp only [List.getElem_toArray, List.getElem_cons_zero, List.getElem_cons_succ, Act.put, List.setIfInBounds_toArray, List.set_cons_zero, List.set_cons_succ]
  refine wpAnyH_take (i := 3) (v := ?_) rfl (by kernel_rfl) (by kernel_rfl) (by kernel_rfl) (fun _ _ _ h => h) (Or.inl ⟨by kernel_rfl, ?_⟩) hS ?_
  rotate_left 1
  · (intro w' hS'; clear hS'; go_simp; try with_reducible rfl)
  simp only [List.getElem_toArray, List.getElem_cons_zero, List.getElem_cons_succ, Act.put, List.setIfInBounds_toArray, List.set_cons_zero, List.set_cons_succ]
  refine wpAnyH_take (i := 4) (v := ?_) rfl (by kernel_rfl) (by kernel_rfl) (by kernel_rfl) (fun _ _ _ h => h) (Or.inl ⟨by kernel_rfl, ?_⟩) hS ?_
  rotate_left 1
  · (intro w' hS'; have h1 := (C0.out w' hS').2.1; clear hS'; go_simp; try with_reducible rfl)
  simp only [List.getElem_toArray, List.getElem_cons_zero, List.getElem_cons_succ, Act.put, List.setIfInBounds_toArray, List.set_cons_zero, List.set_cons_succ]
  refine wpAnyH_take (i := 5) (v := ?_) rfl (by kernel_rfl) (by kernel_rfl) (by kernel_rfl) (fun _ _ _ h => h) (Or.inl ⟨by kernel_rfl, ?_⟩) hS ?_
  rotate_left 1
  · (intro w' hS'; clear hS'; go_simp; try with_reducible rfl)
  simp only [List.getElem_toArray, List.getElem_cons_zero, List.getElem_cons_succ, Act.put, List.setIfInBounds_toArray, List.set_cons_zero, List.set_cons_succ]
  refine wpAnyH_take (i := 6) (v := .bool false) rfl (by kernel_rfl) (by kernel_rfl) (by kernel_rfl) (fun _ _ _ h => h) (Or.inl ⟨by kernel_rfl, fun w' hS' => by (clear hS'; go_simp; rw [ptr_self]; rfl)⟩) hS ?_
  simp only [List.getElem_toArray, List.getElem_cons_zero, List.getElem_cons_succ, Act.put, List.setIfInBounds_toArray, List.set_cons_zero, List.set_cons_succ]
  refine wpAnyH_take (i := 7) (v := ?_) rfl (by kernel_rfl) (by kernel_rfl) (by kernel_rfl) (fun _ _ _ h => h) (Or.inl ⟨by kernel_rfl, ?_⟩) hS ?_
  rotate_left 1
  · (intro w' hS'; clear hS'; go_simp; try with_reducible rfl)
  simp only [List.getElem_toArray, List.getElem_cons_zero, List.getElem_cons_succ, Act.put, List.setIfInBounds_toArray, List.set_cons_zero, List.set_cons_succ]
  refine wpAnyH_take (i := 8) (v := ?_) rfl (by kernel_rfl) (by kernel_rfl) (by kernel_rfl) (fun _ _ _ h => h) (Or.inl ⟨by kernel_rfl, ?_⟩) hS ?_
  rotate_left 1
  · (intro w' hS'; clear hS'; go_simp; try with_reducible rfl)
  simp only [List.getElem_toArray, List.getElem_cons_zero, List.getElem_cons_succ, Act.put, List.setIfInBounds_toArray, List.set_cons_zero, List.set_cons_succ]
  refine wpAnyH_take (i := 9) (v := ?_) rfl (by kernel_rfl) (by kernel_rfl) (by kernel_rfl) (fun _ _ _ h => h) (Or.inl ⟨by kernel_rfl, ?_⟩) hS ?_
  rotate_left 1
  · (intro w' hS'; have h1 := (C0.out w' hS').1; clear hS'; go_simp; try with_reducible rfl)
  simp only [List.getElem_toArray, List.getElem_cons_zero, List.getElem_cons_succ, Act.put, List.setIfInBounds_toArray, List.set_cons_zero, List.set_cons_succ]
  refine wpAnyH_take (i := 10) (v := ?_) rfl (by kernel_rfl) (by kernel_rfl) (by kernel_rfl) (fun _ _ _ h => h) (Or.inl ⟨by kernel_rfl, ?_⟩) hS ?_
  rotate_left 1
  · (intro w' hS'; clear hS'; go_simp; try with_reducible rfl)
  simp only [List.getElem_toArray, List.getElem_cons_zero, List.getElem_cons_succ, Act.put, List.setIfInBounds_toArray, List.set_cons_zero, List.set_cons_succ]
  refine wpAnyH_take (i := 11) (v := ?_) rfl (by kernel_rfl) (by kernel_rfl) (by kernel_rfl) (fun _ _ _ h => h) (Or.inl ⟨by kernel_rfl, ?_⟩) hS ?_
  rotate_left 1
  · (intro w' hS'; clear hS'; go_simp; try with_reducible rfl)
  simp only [List.getElem_toArray, List.getElem_cons_zero, List.getElem_cons_succ, Act.put, List.setIfInBounds_toArray, List.set_cons_zero, List.set_cons_succ]
  refine wpAnyH_take (i := 12) (v := ?_) rfl (by kernel_rfl) (by kernel_rfl) (by kernel_rfl) (fun _ _ _ h => h) (Or.inl ⟨by kernel_rfl, ?_⟩) hS ?_
  rotate_left 1
  · (intro w' hS'; have h1 := (C0.out w' hS').2.2.1; clear hS'; go_simp; try with_reducible rfl)
  simp only [List.getElem_toArray, List.getElem_cons_zero, List.getElem_cons_succ, Act.put, List.setIfInBounds_toArray, List.set_cons_zero, List.set_cons_succ]
  refine wpAnyH_take (i := 13) (v := ?_) rfl (by kernel_rfl) (by kernel_rfl) (by kernel_rfl) (fun _ _ _ h => h) (Or.inl ⟨by kernel_rfl, ?_⟩) hS ?_
  rotate_left 1
  · (intro w' hS'; clear hS'; go_simp; try with_reducible rfl)
  simp only [List.getElem_toArray, List.getElem_cons_zero, List.getElem_cons_succ, Act.put, List.setIfInBounds_toArray, List.set_cons_zero, List.set_cons_succ]
  refine wpAnyH_take (i := 14) (v := ?_) rfl (by kernel_rfl) (by kernel_rfl) (by kernel_rfl) (fun _ _ _ h => h) (Or.inl ⟨by kernel_rfl, ?_⟩) hS ?_
  rotate_left 1
  · (intro w' hS'; clear hS'; go_simp; try with_reducible rfl)
  simp only [List.getElem_toArray, List.getElem_cons_zero, List.getElem_cons_succ, Act.put, List.setIfInBounds_toArray, List.set_cons_zero, List.set_cons_succ]
  refine wpAnyH_take (i := 15) (v := ?_) rfl (by kernel_rfl) (by kernel_rfl) (by kernel_rfl) (fun _ _ _ h => h) (Or.inl ⟨by kernel_rfl, ?_⟩) hS ?_
  rotate_left 1
  · (intro w' hS'; clear hS'; go_simp; try with_reducible rfl)
  simp only [List.getElem_toArray, List.getElem_cons_zero, List.getElem_cons_succ, Act.put, List.setIfInBounds_toArray, List.set_cons_zero, List.set_cons_succ]
  refine wpAnyH_take (i := 16) (v := ?_) rfl (by kernel_rfl) (by kernel_rfl) (by kernel_rfl) (fun _ _ _ h => h) (Or.inl ⟨by kernel_rfl, ?_⟩) hS ?_
  rotate_left 1
  · (intro w' hS'; have h1 := (C0.out w' hS').2.2.2; clear hS'; go_simp; try with_reducible rfl)
  simp only [List.getElem_toArray, List.getElem_cons_zero, List.getElem_cons_succ, Act.put, List.setIfInBounds_toArray, List.set_cons_zero, List.set_cons_succ]
  refine wpAnyH_take (i := 17) (v := ?_) rfl (by kernel_rfl) (by kernel_rfl) (by kernel_rfl) (fun _ _ _ h => h) (Or.inl ⟨by kernel_rfl, ?_⟩) hS ?_
  rotate_left 1
  · (intro w' hS'; clear hS'; go_simp; try with_reducible rfl)
  simp only [List.getElem_toArray, List.getElem_cons_zero, List.getElem_cons_succ, Act.put, List.setIfInBounds_toArray, List.set_cons_zero, List.set_cons_succ]
  refine wpAnyH_take (i := 18) (v := ?_) rfl (by kernel_rfl) (by kernel_rfl) (by kernel_rfl) (fun _ _ _ h => h) (Or.inl ⟨by kernel_rfl, ?_⟩) hS ?_
  rotate_left 1
  · (intro w' hS'; clear hS'; go_simp; try with_reducible rfl)
  simp only [List.getElem_toArray, List.getElem_cons_zero, List.getElem_cons_succ, Act.put, List.setIfInBounds_toArray, List.set_cons_zero, List.set_cons_succ]
  refine wpAnyH_take (i := 19) (v := ?_) rfl (by kernel_rfl) (by kernel_rfl) (by kernel_rfl) (fun _ _ _ h => h) (Or.inl ⟨by kernel_rfl, ?_⟩) hS ?_
  rotate_left 1
  · (intro w' hS'; clear hS'; go_simp; try with_reducible rfl)
  simp only [List.getElem_toArray, List.getElem_cons_zero, List.getElem_cons_succ, Act.put, List.setIfInBounds_toArray, List.set_cons_zero, List.set_cons_succ]
  refine wpAnyH_done (by kernel_rfl) ?_ _
  clear hS
  go_wp2_with (go_at_call 111; refine KC.out.mono ?_; rintro e w2 ⟨rfl, fx, c', k1, k2, k3⟩; have FX := hid fx; have P1 := hid k1; have P2 := hid k2; have P3 := hid k3; obtain ⟨g1, g2⟩ := C1.out w2 fx; have z2 : w2.frozen? ⟨p, 2, none⟩ = false := frozen_of_row k3.cells; have y2 : w2.cell? ⟨p, 2, none⟩ = some (.int .i64 last) := cellA (j := 2) k3.cells rfl; clear fx k1 k2 k3)
  have p9 := setCell_row (j := 2) P3.out.cells (.int .i64 bf)
  have f9 : Fr (fun i => i = p) w2 (w2.setCell ⟨p, 2, none⟩ (.int .i64 bf)) := Fr.setCell (p := ⟨p, 2, none⟩) (Fr.refl (fun i => i = p) _) (fun _ => rfl) _
  go_ret
  refine ⟨rfl, ((FW.out.mono (fun _ _ h => h.elim)).trans FX.out (fun _ _ h => h)).trans f9 (fun i _ e => by rw [e, HCP.out]; simp), c', fun i hi => P1.out i (Nat.lt_of_lt_of_le hi FW.out.size), fun i hi => Nat.lt_of_lt_of_le (P2.out i hi) f9.size, P3.out.count f9 p9⟩
set_option maxHeartbeats 1600000 in
theorem back_attr {c : Nat → Option T.Col} {w : World} {bud bud' p : Nat} {dos last : Int} {t t' : T.Tr} {mb : Nat} {f f' : Int → Nat} (h : Tf c w bud p dos last t mb f) (hl : Lo c w.heap.size) {d : Nat} {bf : Int} {fa fb fd : Nat} (hd : w.heap[d]? = some (.cells #[ptr p, .int .i64 last, .int .i64 bf, .func (.func 112) #[] #[ptr fa, ptr fb, ptr fd]] 115 (0, 0))) (hcd : c d = none)
    (hcl : ∀ V, Fr (fun _ => False) w V → Calls Tryz.prog 112 #[ptr fa, ptr fb, ptr fd] V fun e w' => e = .returned (.tuple #[]) ∧ Fr (fun i => c i ≠ none) V w' ∧ ∃ c', More c c' V.heap.size ∧ Lo c' w'.heap.size ∧ Tf c' w' bud' p dos last t' mb f') :
    Calls Tryz.prog 61 #[ptr p, .agg #[ptr d]] w fun e w' => e = .returned (.int .i64 0) ∧ Fr (fun i => c i ≠ none) w w' ∧ ∃ c', More c c' w.heap.size ∧ Lo c' w'.heap.size ∧ Tf c' w' bud' p dos bf t' mb f' := by
  obtain ⟨W, hW⟩ : ∃ W, w.alloc (.cells #[ptr d] 53) = W := ⟨_, rfl⟩
  have fW : Fr (fun _ => False) w W := by rw [← hW]; exact Fr.alloc (Fr.refl _ _) _
  have hTW := h.kept fW (fun _ _ h => h)
  have hdW := fW.cells hd (fun h => h)
  have KM := hid (tmade_any hTW)
  have hbx : W.heap[w.heap.size]? = some (.cells #[ptr d] 53 (0, 0)) := by rw [← hW]; exact Go.heap_alloc_new w _
  have u0 : W.cell? ⟨w.heap.size, 0, none⟩ = some (ptr d) := cellA (j := 0) hbx rfl
  have d0 : W.cell? ⟨d, 0, none⟩ = some (ptr p) := cellA (j := 0) hdW rfl
  have d1 : W.cell? ⟨d, 1, none⟩ = some (.int .i64 last) := cellA (j := 1) hdW rfl
  have d2 : W.cell? ⟨d, 2, none⟩ = some (.int .i64 bf) := cellA (j := 2) hdW rfl
  have d3 : W.cell? ⟨d, 3, none⟩ = some (.func (.func 112) #[] #[ptr fa, ptr fb, ptr fd]) := cellA (j := 3) hdW rfl
  have p2 : W.cell? ⟨p, 2, none⟩ = some (.int .i64 last) := cellA (j := 2) hTW.cells rfl
  have C0 := hid (show ∀ V, Fr (fun _ => False) W V → V.cell? ⟨w.heap.size, 0, none⟩ = some (ptr d) ∧ V.cell? ⟨d, 0, none⟩ = some (ptr p) ∧ V.cell? ⟨d, 1, none⟩ = some (.int .i64 last) ∧ V.cell? ⟨p, 2, none⟩ = some (.int .i64 last) from fun V hf => ⟨cellFr hf (fun h => h) u0, cellFr hf (fun h => h) d0, cellFr hf (fun h => h) d1, cellFr hf (fun h => h) p2⟩)
  have hcb : c w.heap.size = none := by
    cases hc : c w.heap.size with
    | none => rfl
    | some col => have := hl w.heap.size (by rw [hc]; simp); omega
  have C1 := hid (show ∀ V, Fr (fun i => c i ≠ none) W.drew V → V.cell? ⟨w.heap.size, 0, none⟩ = some (ptr d) ∧ V.cell? ⟨d, 2, none⟩ = some (.int .i64 bf) from fun V hf => ⟨cellA (j := 0) (hf.cells (show W.drew.heap[w.heap.size]? = _ from hbx) (fun e => e hcb)) rfl, cellA (j := 2) (hf.cells (show W.drew.heap[d]? = _ from hdW) (fun e => e hcd)) rfl⟩)
  have KC := hid (hcl W.drew (fW.trans (Fr.drew (Fr.refl (fun _ => False) W)) (fun _ _ h => h)))
  have FW := hid (show Fr (fun _ => False) w W.drew from fW.trans (Fr.drew (Fr.refl (fun _ => False) W)) (fun _ _ h => h))
  have HCP := hid h.cp
  have HW := hid hW
  clear h hl hd hcd hcl hTW hdW fW hW hbx hcb
  go_enter Tryz.func61, Tryz.ntmps61
  go_wp2_with (go_at_call 42; rw [HW.out]; refine KM.out.mono ?_; rintro e wx ⟨rfl, rfl⟩)
  have hmx : Tryz.prog.follows .mixedOrders = true := by kernel_rfl
  refine wp_region_held (S := fun V => Fr (fun _ => False) W V) hmx ?_
  have hS := (Fr.drew (Fr.refl (fun _ => False) W))
  simp only [List.size_toArray, List.length_cons, List.length_nil, Nat.reduceAdd, Array.replicate_succ, Array.replicate_zero, List.push_toArray, List.nil_append, List.cons_append]
  refine wpAnyH_take (i := 0) (v := ?_) rfl (by kernel_rfl) (by kernel_rfl) (by kernel_rfl) (fun _ _ _ h => h) (Or.inl ⟨by kernel_rfl, ?_⟩) hS ?_
  rotate_left 1
  · (intro w' hS'; clear hS'; go_simp; try with_reducible rfl)
  simp only [List.getElem_toArray, List.getElem_cons_zero, List.getElem_cons_succ, Act.put, List.setIfInBounds_toArray, List.set_cons_zero, List.set_cons_succ]
  refine wpAnyH_take (i := 1) (v := ?_) rfl (by kernel_rfl) (by kernel_rfl) (by kernel_rfl) (fun _ _ _ h => h) (Or.inl ⟨by kernel_rfl, ?_⟩) hS ?_
  rotate_left 1
  · (intro w' hS'; have h1 := (C0.out w' hS').1; clear hS'; go_simp; try with_reducible rfl)
  simp only [List.getElem_toArray, List.getElem_cons_zero, List.getElem_cons_succ, Act.put, List.setIfInBounds_toArray, List.set_cons_zero, List.set_cons_succ]
  refine wpAnyH_take (i := 2) (v := ?_) rfl (by kernel_rfl) (by kernel_rfl) (by kernel_rfl) (fun _ _ _ h => h) (Or.inl ⟨by kernel_rfl, ?_⟩) hS ?_
  rotate_left 1
  · (intro w' hS'; clear hS'; go_simp; try with_reducible rfl)
  simp only [List.getElem_toArray, List.getElem_cons_zero, List.getElem_cons_succ, Act.put, List.setIfInBounds_toArray, List.set_cons_zero, List.set_cons_succ]
  refine wpAnyH_take (i := 3) (v := ?_) rfl (by kernel_rfl) (by kernel_rfl) (by kernel_rfl) (fun _ _ _ h => h) (Or.inl ⟨by kernel_rfl, ?_⟩) hS ?_
  rotate_left 1
  · (intro w' hS'; clear hS'; go_simp; try with_reducible rfl)
  simp only [List.getElem_toArray, List.getElem_cons_zero, List.getElem_cons_succ, Act.put, List.setIfInBounds_toArray, List.set_cons_zero, List.set_cons_succ]
  refine wpAnyH_take (i := 4) (v := ?_) rfl (by kernel_rfl) (by kernel_rfl) (by kernel_rfl) (fun _ _ _ h => h) (Or.inl ⟨by kernel_rfl, ?_⟩) hS ?_
  rotate_left 1
  · (intro w' hS'; have h1 := (C0.out w' hS').2.1; clear hS'; go_simp; try with_reducible rfl)
  simp only [List.getElem_toArray, List.getElem_cons_zero, List.getElem_cons_succ, Act.put, List.setIfInBounds_toArray, List.set_cons_zero, List.set_cons_succ]
  refine wpAnyH_take (i := 5) (v := ?_) rfl (by kernel_rfl) (by kernel_rfl) (by kernel_rfl) (fun _ _ _ h => h) (Or.inl ⟨by kernel_rfl, ?_⟩) hS ?_
  rotate_left 1
  · (intro w' hS'; clear hS'; go_simp; try with_reducible rfl)
  simp only [List.getElem_toArray, List.getElem_cons_zero, List.getElem_cons_succ, Act.put, List.setIfInBounds_toArray, List.set_cons_zero, List.set_cons_succ]
  refine wpAnyH_take (i := 6) (v := .bool false) rfl (by kernel_rfl) (by kernel_rfl) (by kernel_rfl) (fun _ _ _ h => h) (Or.inl ⟨by kernel_rfl, fun w' hS' => by (clear hS'; go_simp; rw [ptr_self]; rfl)⟩) hS ?_
  simp only [List.getElem_toArray, List.getElem_cons_zero, List.getElem_cons_succ, Act.put, List.setIfInBounds_toArray, List.set_cons_zero, List.set_cons_succ]
  refine wpAnyH_take (i := 7) (v := ?_) rfl (by kernel_rfl) (by kernel_rfl) (by kernel_rfl) (fun _ _ _ h => h) (Or.inl ⟨by kernel_rfl, ?_⟩) hS ?_
  rotate_left 1
  · (intro w' hS'; clear hS'; go_simp; try with_reducible rfl)
  simp only [List.getElem_toArray, List.getElem_cons_zero, List.getElem_cons_succ, Act.put, List.setIfInBounds_toArray, List.set_cons_zero, List.set_cons_succ]
  refine wpAnyH_take (i := 8) (v := ?_) rfl (by kernel_rfl) (by kernel_rfl) (by kernel_rfl) (fun _ _ _ h => h) (Or.inl ⟨by kernel_rfl, ?_⟩) hS ?_
  rotate_left 1
  · (intro w' hS'; clear hS'; go_simp; try with_reducible rfl)
  simp only [List.getElem_toArray, List.getElem_cons_zero, List.getElem_cons_succ, Act.put, List.setIfInBounds_toArray, List.set_cons_zero, List.set_cons_succ]
  refine wpAnyH_take (i := 9) (v := ?_) rfl (by kernel_rfl) (by kernel_rfl) (by kernel_rfl) (fun _ _ _ h => h) (Or.inl ⟨by kernel_rfl, ?_⟩) hS ?_
  rotate_left 1
  · (intro w' hS'; have h1 := (C0.out w' hS').1; clear hS'; go_simp; try with_reducible rfl)
  simp only [List.getElem_toArray, List.getElem_cons_zero, List.getElem_cons_succ, Act.put, List.setIfInBounds_toArray, List.set_cons_zero, List.set_cons_succ]
  refine wpAnyH_take (i := 10) (v := ?_) rfl (by kernel_rfl) (by kernel_rfl) (by kernel_rfl) (fun _ _ _ h => h) (Or.inl ⟨by kernel_rfl, ?_⟩) hS ?_
  rotate_left 1
  · (intro w' hS'; clear hS'; go_simp; try with_reducible rfl)
  simp only [List.getElem_toArray, List.getElem_cons_zero, List.getElem_cons_succ, Act.put, List.setIfInBounds_toArray, List.set_cons_zero, List.set_cons_succ]
  refine wpAnyH_take (i := 11) (v := ?_) rfl (by kernel_rfl) (by kernel_rfl) (by kernel_rfl) (fun _ _ _ h => h) (Or.inl ⟨by kernel_rfl, ?_⟩) hS ?_
  rotate_left 1
  · (intro w' hS'; clear hS'; go_simp; try with_reducible rfl)
  simp only [List.getElem_toArray, List.getElem_cons_zero, List.getElem_cons_succ, Act.put, List.setIfInBounds_toArray, List.set_cons_zero, List.set_cons_succ]
  refine wpAnyH_take (i := 12) (v := ?_) rfl (by kernel_rfl) (by kernel_rfl) (by kernel_rfl) (fun _ _ _ h => h) (Or.inl ⟨by kernel_rfl, ?_⟩) hS ?_
  rotate_left 1
  · (intro w' hS'; have h1 := (C0.out w' hS').2.2.1; clear hS'; go_simp; try with_reducible rfl)
  simp only [List.getElem_toArray, List.getElem_cons_zero, List.getElem_cons_succ, Act.put, List.setIfInBounds_toArray, List.set_cons_zero, List.set_cons_succ]
  refine wpAnyH_take (i := 13) (v := ?_) rfl (by kernel_rfl) (by kernel_rfl) (by kernel_rfl) (fun _ _ _ h => h) (Or.inl ⟨by kernel_rfl, ?_⟩) hS ?_
  rotate_left 1
  · (intro w' hS'; clear hS'; go_simp; try with_reducible rfl)
  simp only [List.getElem_toArray, List.getElem_cons_zero, List.getElem_cons_succ, Act.put, List.setIfInBounds_toArray, List.set_cons_zero, List.set_cons_succ]
  refine wpAnyH_take (i := 14) (v := ?_) rfl (by kernel_rfl) (by kernel_rfl) (by kernel_rfl) (fun _ _ _ h => h) (Or.inl ⟨by kernel_rfl, ?_⟩) hS ?_
  rotate_left 1
  · (intro w' hS'; clear hS'; go_simp; try with_reducible rfl)
  simp only [List.getElem_toArray, List.getElem_cons_zero, List.getElem_cons_succ, Act.put, List.setIfInBounds_toArray, List.set_cons_zero, List.set_cons_succ]
  refine wpAnyH_take (i := 15) (v := ?_) rfl (by kernel_rfl) (by kernel_rfl) (by kernel_rfl) (fun _ _ _ h => h) (Or.inl ⟨by kernel_rfl, ?_⟩) hS ?_
  rotate_left 1
  · (intro w' hS'; clear hS'; go_simp; try with_reducible rfl)
  simp only [List.getElem_toArray, List.getElem_cons_zero, List.getElem_cons_succ, Act.put, List.setIfInBounds_toArray, List.set_cons_zero, List.set_cons_succ]
  refine wpAnyH_take (i := 16) (v := ?_) rfl (by kernel_rfl) (by kernel_rfl) (by kernel_rfl) (fun _ _ _ h => h) (Or.inl ⟨by kernel_rfl, ?_⟩) hS ?_
  rotate_left 1
  · (intro w' hS'; have h1 := (C0.out w' hS').2.2.2; clear hS'; go_simp; try with_reducible rfl)
  simp only [List.getElem_toArray, List.getElem_cons_zero, List.getElem_cons_succ, Act.put, List.setIfInBounds_toArray, List.set_cons_zero, List.set_cons_succ]
  refine wpAnyH_take (i := 17) (v := ?_) rfl (by kernel_rfl) (by kernel_rfl) (by kernel_rfl) (fun _ _ _ h => h) (Or.inl ⟨by kernel_rfl, ?_⟩) hS ?_
  rotate_left 1
  · (intro w' hS'; clear hS'; go_simp; try with_reducible rfl)
  simp only [List.getElem_toArray, List.getElem_cons_zero, List.getElem_cons_succ, Act.put, List.setIfInBounds_toArray, List.set_cons_zero, List.set_cons_succ]
  refine wpAnyH_take (i := 18) (v := ?_) rfl (by kernel_rfl) (by kernel_rfl) (by kernel_rfl) (fun _ _ _ h => h) (Or.inl ⟨by kernel_rfl, ?_⟩) hS ?_
  rotate_left 1
  · (intro w' hS'; clear hS'; go_simp; try with_reducible rfl)
  simp only [List.getElem_toArray, List.getElem_cons_zero, List.getElem_cons_succ, Act.put, List.setIfInBounds_toArray, List.set_cons_zero, List.set_cons_succ]
  refine wpAnyH_take (i := 19) (v := ?_) rfl (by kernel_rfl) (by kernel_rfl) (by kernel_rfl) (fun _ _ _ h => h) (Or.inl ⟨by kernel_rfl, ?_⟩) hS ?_
  rotate_left 1
  · (intro w' hS'; clear hS'; go_simp; try with_reducible rfl)
  simp only [List.getElem_toArray, List.getElem_cons_zero, List.getElem_cons_succ, Act.put, List.setIfInBounds_toArray, List.set_cons_zero, List.set_cons_succ]
  refine wpAnyH_done (by kernel_rfl) ?_ _
  clear hS
  go_wp2_with (go_at_call 112; refine KC.out.mono ?_; rintro e w2 ⟨rfl, fx, c', k1, k2, k3⟩; have FX := hid fx; have P1 := hid k1; have P2 := hid k2; have P3 := hid k3; obtain ⟨g1, g2⟩ := C1.out w2 fx; have z2 : w2.frozen? ⟨p, 2, none⟩ = false := frozen_of_row k3.cells; have y2 : w2.cell? ⟨p, 2, none⟩ = some (.int .i64 last) := cellA (j := 2) k3.cells rfl; clear fx k1 k2 k3)
  have p9 := setCell_row (j := 2) P3.out.cells (.int .i64 bf)
  have f9 : Fr (fun i => i = p) w2 (w2.setCell ⟨p, 2, none⟩ (.int .i64 bf)) := Fr.setCell (p := ⟨p, 2, none⟩) (Fr.refl (fun i => i = p) _) (fun _ => rfl) _
  go_ret
  refine ⟨rfl, ((FW.out.mono (fun _ _ h => h.elim)).trans FX.out (fun _ _ h => h)).trans f9 (fun i _ e => by rw [e, HCP.out]; simp), c', fun i hi => P1.out i (Nat.lt_of_lt_of_le hi FW.out.size), fun i hi => Nat.lt_of_lt_of_le (P2.out i hi) f9.size, P3.out.count f9 p9⟩
end Go.Proofs.YtilbdpnioajkoaaGreat

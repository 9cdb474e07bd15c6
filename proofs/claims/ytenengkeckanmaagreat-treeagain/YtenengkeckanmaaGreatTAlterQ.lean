/-
  A key of a node gets a value, and what takes it back: alter.
-/
import Derived.Test.YtenengkeckanmaaGreatMg17
namespace Go.Proofs.YtenengkeckanmaaGreat
open Go.RowKit Go.Maps
set_option linter.unusedVariables false
set_option maxRecDepth 100000
set_option linter.unusedSimpArgs false

/-- what takes an attribute back -/
def T.UndoAttr (c : Nat → Option T.Col) (w : World) (b : Nat) (k bf : ByteArray) (v : Value) : Prop := ∃ bx bk bb, v = .func (.func 115) #[] #[ptr bx, ptr bk, ptr bb] ∧ T.Box c w bx (ptr b) ∧ T.Box c w bk (.string k) ∧ T.Box c w bb (.string bf)
set_option maxHeartbeats 1600000 in
theorem alter_any {c : Nat → Option T.Col} {w : World} {bud b : Nat} {n : Int} {x : T.Nd} {ks : ByteArray → List Int} (h : Nm c w bud b n x ks) (hl : Lo c w.heap.size) {k v : ByteArray} (hk : k.size ≤ maxLen) (hA : T.Ak x.ats) (hb : x.ats.length < 1000000000000000000) :
    Calls Tryz.prog 93 #[ptr b, .string k, .string v] w fun e w' => Fr (T.Mine c n) w w' ∧ ∃ u c', e = .returned u ∧ More c c' w.heap.size ∧ Lo c' w'.heap.size ∧ Nm c' w' bud b n ⟨x.par, x.nm, T.aset k v x.ats⟩ ks ∧ T.UndoAttr c' w' b k ((T.aget k x.ats).getD ⟨#[]⟩) u := by
  obtain ⟨W, hW⟩ : ∃ W, (w.alloc (.cells #[ptr b] 83)).alloc (.cells #[.string k] 9) = W := ⟨_, rfl⟩
  have fW : Fr (fun _ => False) w W := by rw [← hW]; exact Fr.alloc (Fr.alloc (Fr.refl _ _) _) _
  have b0 : W.heap[w.heap.size]? = some (.cells #[ptr b] 83 (0, 0)) := by
    rw [← hW]
    exact (Fr.alloc (Fr.refl (fun _ => False) _) _).cells (Go.heap_alloc_new w _) (fun h => h)
  have b1 : W.heap[w.heap.size + 1]? = some (.cells #[.string k] 9 (0, 0)) := by
    rw [← hW]
    have := Go.heap_alloc_new (w.alloc (.cells #[ptr b] 83)) (.cells #[.string k] 9)
    rw [alloc_size] at this
    exact this
  have zW : W.heap.size = w.heap.size + 2 := by rw [← hW, alloc_size, alloc_size]
  obtain ⟨av, uv, g, m, hN⟩ := h
  obtain ⟨bf, hbf⟩ : ∃ bf, (T.aget k x.ats).getD ⟨#[]⟩ = bf := ⟨_, rfl⟩
  rw [hbf]
  obtain ⟨kk, hkk⟩ : ∃ kk, ((T.aget k x.ats).map (fun v => Value.agg #[.string k, .string v])).getD (.agg #[.string ⟨#[]⟩, .string ⟨#[]⟩]) = .agg #[.string kk, .string bf] := by
    cases hg : T.aget k x.ats with
    | none => rw [hg] at hbf; exact ⟨⟨#[]⟩, by rw [← hbf]; rfl⟩
    | some z => rw [hg] at hbf; exact ⟨k, by rw [← hbf]; rfl⟩
  have C0 := hid (show ∀ V, Fr (fun _ => False) W V → V.cell? ⟨w.heap.size, 0, none⟩ = some (ptr b) ∧ V.cell? ⟨w.heap.size + 1, 0, none⟩ = some (.string k) ∧ V.cell? ⟨b, 2, none⟩ = some (.map av) from fun V hf => ⟨cellA (j := 0) (hf.cells b0 (fun h => h)) rfl, cellA (j := 0) (hf.cells b1 (fun h => h)) rfl, cellA (j := 2) (hf.cells (fW.cells hN.cells (fun h => h)) (fun h => h)) rfl⟩)
  have L1 := hid (show ∀ V, Fr (fun _ => False) W V → (Instr.lookup 86 (.map av) (.string k) false).run Tryz.prog V = .ok (.agg #[.string kk, .string bf]) V from fun V hf => by
    have := (hN.att.kept (fW.trans hf (fun _ _ h => h)) (fun _ _ h => h)).look keyS Tryz.underlying86 (zeroAttr V) (keyOfS hk)
    rw [this, hkk])
  obtain ⟨W8, hW8⟩ : ∃ W8, (W.alloc (.cells #[.string bf] 9)).drew = W8 := ⟨_, rfl⟩
  have f8 : Fr (fun _ => False) W W8 := by rw [← hW8]; exact Fr.drew (Fr.alloc (Fr.refl _ _) _)
  have b8 : W8.heap[w.heap.size + 2]? = some (.cells #[.string bf] 9 (0, 0)) := by
    rw [← hW8, ← zW]
    exact Go.heap_alloc_new W _
  have z8 : W8.heap.size = w.heap.size + 3 := by rw [← hW8]; show (W.alloc _).heap.size = _; rw [alloc_size, zW]
  have fw8 : Fr (fun _ => False) w W8 := fW.trans f8 (fun _ _ h => h)
  have hcn : ∀ i, w.heap.size ≤ i → c i = none := fun i hi => by
    cases hc : c i with
    | none => rfl
    | some col => have := hl i (by rw [hc]; simp); omega
  have hnm : ∀ i, w.heap.size ≤ i → ¬ T.Mine c n i := fun i hi ⟨col, e, _⟩ => by rw [hcn i hi] at e; cases e
  have KS := hid (set_any (w := W8) (v := v) (show Nm c W8 bud b n x ks from ⟨av, uv, g, m, hN.kept fw8 (fun _ _ _ _ h => h)⟩) (fun i hi => by have := hl i hi; omega) hk hA hb)
  have e0 : W8.cell? ⟨w.heap.size, 0, none⟩ = some (ptr b) := cellA (j := 0) (f8.cells b0 (fun h => h)) rfl
  have e1 : W8.cell? ⟨w.heap.size + 1, 0, none⟩ = some (.string k) := cellA (j := 0) (f8.cells b1 (fun h => h)) rfl
  have HEND : Hid (∀ w9, Fr (T.Mine c n) W8 w9 → (∃ c', More c c' W8.heap.size ∧ Lo c' w9.heap.size ∧ Nm c' w9 bud b n ⟨x.par, x.nm, T.aset k v x.ats⟩ ks) → Fr (T.Mine c n) w w9 ∧ ∃ u c', Ending.returned (.func (.func 115) #[] #[ptr w.heap.size, ptr (w.heap.size + 1), ptr (w.heap.size + 2)]) = .returned u ∧ More c c' w.heap.size ∧ Lo c' w9.heap.size ∧ Nm c' w9 bud b n ⟨x.par, x.nm, T.aset k v x.ats⟩ ks ∧ T.UndoAttr c' w9 b k bf u) := hid (fun w9 fx ⟨c', k1, k2, k3⟩ => by
    have hcc : ∀ i, w.heap.size ≤ i → i < w.heap.size + 3 → c' i = none := fun i h1 h2 => by rw [k1 i (by omega)]; exact hcn i h1
    exact ⟨(fw8.mono (fun _ _ h => h.elim)).trans fx (fun _ _ h => h), _, c', rfl, fun i hi => k1 i (by omega), k2, k3, _, _, _, rfl, ⟨⟨_, fx.cells (f8.cells b0 (fun h => h)) (hnm _ (by omega))⟩, hcc _ (by omega) (by omega)⟩, ⟨⟨_, fx.cells (f8.cells b1 (fun h => h)) (hnm _ (by omega))⟩, hcc _ (by omega) (by omega)⟩, ⟨⟨_, fx.cells b8 (hnm _ (by omega))⟩, hcc _ (by omega) (by omega)⟩⟩)
  have HW := hid hW
  have HW8 := hid hW8
  clear hW hW8 hl hA hb hk fW b0 b1 hN hbf hkk f8 b8 z8 fw8 hcn hnm
  go_enter Tryz.func93, Tryz.ntmps93
  go_wp2_with fail
  rw [HW.out]
  have hmx : Tryz.prog.follows .mixedOrders = true := by kernel_rfl
  refine wp_region_held (S := fun V => Fr (fun _ => False) W V) hmx ?_
  have hS := (Fr.drew (Fr.refl (fun _ => False) W))
  simp only [List.size_toArray, List.length_cons, List.length_nil, Nat.reduceAdd, Array.replicate_succ, Array.replicate_zero, List.push_toArray, List.nil_append, List.cons_append]
  refine wpAnyH_take (i := 0) (v := ?_) rfl (by kernel_rfl) (by kernel_rfl) (by kernel_rfl) (fun _ _ _ h => h) (Or.inl ⟨by kernel_rfl, ?_⟩) hS ?_
  rotate_left 1
  · (intro w' hS'; have h1 := (C0.out w' hS').1; clear hS'; go_simp; try with_reducible rfl)
  simp only [List.getElem_toArray, List.getElem_cons_zero, List.getElem_cons_succ, Act.put, List.setIfInBounds_toArray, List.set_cons_zero, List.set_cons_succ]
  refine wpAnyH_take (i := 1) (v := ?_) rfl (by kernel_rfl) (by kernel_rfl) (by kernel_rfl) (fun _ _ _ h => h) (Or.inl ⟨by kernel_rfl, ?_⟩) hS ?_
  rotate_left 1
  · (intro w' hS'; clear hS'; go_simp; try with_reducible rfl)
  simp only [List.getElem_toArray, List.getElem_cons_zero, List.getElem_cons_succ, Act.put, List.setIfInBounds_toArray, List.set_cons_zero, List.set_cons_succ]
  refine wpAnyH_take (i := 2) (v := ?_) rfl (by kernel_rfl) (by kernel_rfl) (by kernel_rfl) (fun _ _ _ h => h) (Or.inl ⟨by kernel_rfl, ?_⟩) hS ?_
  rotate_left 1
  · (intro w' hS'; clear hS'; go_simp; try with_reducible rfl)
  simp only [List.getElem_toArray, List.getElem_cons_zero, List.getElem_cons_succ, Act.put, List.setIfInBounds_toArray, List.set_cons_zero, List.set_cons_succ]
  refine wpAnyH_take (i := 3) (v := ?_) rfl (by kernel_rfl) (by kernel_rfl) (by kernel_rfl) (fun _ _ _ h => h) (Or.inl ⟨by kernel_rfl, ?_⟩) hS ?_
  rotate_left 1
  · (intro w' hS'; have h1 := (C0.out w' hS').2.2; clear hS'; go_simp; try with_reducible rfl)
  simp only [List.getElem_toArray, List.getElem_cons_zero, List.getElem_cons_succ, Act.put, List.setIfInBounds_toArray, List.set_cons_zero, List.set_cons_succ]
  refine wpAnyH_take (i := 4) (v := ?_) rfl (by kernel_rfl) (by kernel_rfl) (by kernel_rfl) (fun _ _ _ h => h) (Or.inl ⟨by kernel_rfl, ?_⟩) hS ?_
  rotate_left 1
  · (intro w' hS'; have h1 := (C0.out w' hS').2.1; clear hS'; go_simp; try with_reducible rfl)
  simp only [List.getElem_toArray, List.getElem_cons_zero, List.getElem_cons_succ, Act.put, List.setIfInBounds_toArray, List.set_cons_zero, List.set_cons_succ]
  refine wpAnyH_take (i := 5) rfl (by kernel_rfl) (by kernel_rfl) (by kernel_rfl) (fun _ _ _ h => h) (tylook (by kernel_rfl) (by exact ⟨_, _, rfl, rfl, rfl⟩) (fun w' hS' => L1.out w' hS')) hS ?_
  simp only [List.getElem_toArray, List.getElem_cons_zero, List.getElem_cons_succ, Act.put, List.setIfInBounds_toArray, List.set_cons_zero, List.set_cons_succ]
  refine wpAnyH_take (i := 6) (v := .string bf) rfl (by kernel_rfl) (by kernel_rfl) (by kernel_rfl) (fun _ _ _ h => h) (Or.inl ⟨by kernel_rfl, fun w' hS' => by kernel_rfl⟩) hS ?_
  simp only [List.getElem_toArray, List.getElem_cons_zero, List.getElem_cons_succ, Act.put, List.setIfInBounds_toArray, List.set_cons_zero, List.set_cons_succ]
  refine wpAnyH_ready (rs := [7]) (by kernel_rfl) (by simp) ?_
  refine AllReadyH.cons rfl (fun K1 hK1 => ?_) (AllReadyH.nil)
  go_simp
  refine hK1.out _ _ (by first | exact Fr.drew (Fr.alloc (Fr.refl _ _) _) | exact Fr.alloc hS _) (fun hS => ?_)
  clear hK1 K1
  simp only [List.getElem_toArray, List.getElem_cons_zero, List.getElem_cons_succ, Act.put, List.setIfInBounds_toArray, List.set_cons_zero, List.set_cons_succ]
  refine wpAnyH_ready (rs := [8]) (by kernel_rfl) (by simp) ?_
  refine AllReadyH.cons rfl (fun K1 hK1 => ?_) (AllReadyH.nil)
  go_simp
  refine hK1.out _ _ (by first | exact Fr.drew (Fr.alloc (Fr.refl _ _) _) | exact Fr.alloc (Fr.drew (Fr.refl _ _)) _) (fun hS => ?_)
  clear hK1 K1
  simp only [List.getElem_toArray, List.getElem_cons_zero, List.getElem_cons_succ, Act.put, List.setIfInBounds_toArray, List.set_cons_zero, List.set_cons_succ]
  refine wpAnyH_done (by kernel_rfl) ?_ _
  clear hS
  rw [HW8.out]
  go_wp2_with (go_at_call 85; refine KS.out.mono ?_; rintro e w9 ⟨rfl, fx, hfin⟩; have FX := hid fx; have HFIN := hid hfin; clear fx hfin)
  go_ret
  exact HEND.out _ FX.out HFIN.out
end Go.Proofs.YtenengkeckanmaaGreat

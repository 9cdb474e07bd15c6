/-
  Moves and attributes are done: change.
-/
import Derived.Test.YtilbdpnioajkoaaGreatMg16
import Derived.Test.YtilbdpnioajkoaaGreatMg12
namespace Go.Proofs.YtilbdpnioajkoaaGreat
open Go.RowKit Go.Maps
set_option linter.unusedVariables false
set_option maxRecDepth 100000
set_option linter.unusedSimpArgs false

/-- what a node has changed, not where it stands -/
theorem T.kids_same {t : T.Tr} (ht : A.Up t) {n : Int} {x : T.Nd} (hx : A.get n t = some x) (l : T.At) (m : Int) (s : ByteArray) : T.kids (A.put n ⟨x.par, x.nm, l⟩ t) m s = T.kids t m s := by
  refine T.rise_ext (T.rise_kids (ht.put n _) m s) (T.rise_kids ht m s) (fun k => ?_)
  rw [T.mem_kids (ht.put n _), T.mem_kids ht]
  by_cases e : k = n
  · subst e
    rw [A.get_put_same ht, hx]
    constructor
    · rintro ⟨h1, y, h2, h3, h4⟩
      cases h2
      exact ⟨h1, x, rfl, h3, h4⟩
    · rintro ⟨h1, y, h2, h3, h4⟩
      cases h2
      exact ⟨h1, _, rfl, h3, h4⟩
  · rw [A.get_put_other ht e]
theorem Tf.altered {c c' : Nat → Option T.Col} {w w' : World} {bud p : Nat} {dos last : Int} {t : T.Tr} {mb : Nat} {f : Int → Nat} (h : Tf c w bud p dos last t mb f) (hl : Lo c w.heap.size) (ht : A.Up t) {n : Int} {x : T.Nd} (hx : A.get n t = some x) {l : T.At} (hf : Fr (T.Mine c n) w w') (hM : More c c' w.heap.size) (hN : Nm c' w' bud (f n) n ⟨x.par, x.nm, l⟩ (T.kids t n)) : Tf c' w' bud p dos last (A.put n ⟨x.par, x.nm, l⟩ t) mb f := by
  have hc := hM.keeps hl
  have hmp : ¬ T.Mine c n p := fun ⟨col, e1, e2⟩ => by rw [h.cp] at e1; cases e1; cases e2
  have hmm : ¬ T.Mine c n mb := fun ⟨col, e1, e2⟩ => by rw [h.cm] at e1; cases e1; cases e2
  refine ⟨hf.cells h.cells hmp, hc _ _ h.cp, hc _ _ h.cm, ?_, ?_, fun k z hz => ?_⟩
  · have := h.map.kept hf hmm
    rw [A.length_put_same ht hx]
    have e : (fun k => (A.get k (A.put n ⟨x.par, x.nm, l⟩ t)).map (fun _ => ptr (f k))) = fun k => (A.get k t).map (fun _ => ptr (f k)) := by
      funext k
      have h1 := A.isSome_put ht hx ⟨x.par, x.nm, l⟩ k
      cases h2 : A.get k t <;> cases h3 : A.get k (A.put n ⟨x.par, x.nm, l⟩ t) <;> rw [h2, h3] at h1 <;> first | rfl | cases h1
    rw [e]
    exact this
  · rw [A.length_put_same ht hx]
    exact h.few
  · by_cases e : k = n
    · subst e
      rw [A.get_put_same ht] at hz
      cases hz
      exact hN.kids (fun s => T.kids_same ht hx l _ s)
    · rw [A.get_put_other ht e] at hz
      exact (((h.node k z hz).kept hf (fun i col e1 e2 ⟨col', e3, e4⟩ => by rw [e1] at e3; cases e3; rw [e2] at e4; cases e4; exact e rfl)).ext hc (Nat.le_refl _)).kids (fun s => T.kids_same ht hx l _ s)
set_option maxHeartbeats 1600000 in
theorem change2_any {c : Nat → Option T.Col} {w : World} {bud p : Nat} {dos last : Int} {t : T.Tr} {mb : Nat} {f : Int → Nat} (h : Tf c w bud p dos last t mb f) (hl : Lo c w.heap.size) (hb : bud < 8000000000000) (ht : A.Up t) (h0 : A.get 0 t = none) (o : S.Op) (hi : o.in64) (hk : o.k = 2) (hn2 : 2 < o.n) (hs : o.a.size ≤ 255) {x y y0 : T.Nd} (hx : A.get o.n t = some x) (hxp : (Lit.int .i64 x.par).wf = true) (hxn : x.par ≠ o.n) (hxs : x.nm.size ≤ maxLen) (hx0 : A.get x.par t = some y0) (hpn : o.p ≠ o.n) (hy : A.get o.p t = some y) :
    Calls Tryz.prog 56 #[ptr p, .agg o.cs] w fun e w' => Fr (fun i => c i ≠ none) w w' ∧ ∃ v c', e = .returned v ∧ More c c' w.heap.size ∧ Lo c' w'.heap.size ∧ Tf c' w' (bud + 1) p dos last (A.put o.n ⟨o.p, o.a, x.ats⟩ t) mb f ∧ T.UndoMove c' w' p o.n x.par x.nm v := by
  obtain ⟨W, hW⟩ : ∃ W, w.alloc (.cells o.cs 35) = W := ⟨_, rfl⟩
  have fW : Fr (fun _ => False) w W := by rw [← hW]; exact Fr.alloc (Fr.refl _ _) _
  have hbx : W.heap[w.heap.size]? = some (.cells o.cs 35 (0, 0)) := by rw [← hW]; exact Go.heap_alloc_new w _
  have hcn : ¬ (c w.heap.size ≠ none) := fun e => by have := hl _ e; omega
  have HC := hid (show ∀ V, Fr (fun i => c i ≠ none) W V → V.cell? ⟨w.heap.size, 3, none⟩ = some (.int .i64 o.n) ∧ (Instr.loadAt 35 (.pointer (some ⟨w.heap.size, 0, none⟩))).run Tryz.prog V = .ok (.agg o.cs) V from fun V hf => ⟨cellA (j := 3) (hf.cells hbx hcn) rfl, load_whole (hf.cells hbx hcn) Tryz.underlying35 rfl (by kernel_rfl)⟩)
  have KP := hid (placeOf_any o (by omega))
  have KQ := hid (show ∀ V, Fr (fun _ => False) W V → _ from fun V hf => move_any (w := V) (h.kept (fW.trans hf (fun _ _ h => h)) (fun _ _ h => h)) (fun i hi => Nat.lt_of_lt_of_le (hl i hi) (fW.trans hf (fun _ _ h => h)).size) hb ht h0 (wfT hi.1.1 hi.1.2) hn2 (wfT hi.2.1 hi.2.2) (show o.a.size ≤ maxLen by unfold maxLen; omega) hx hxp hxn hxs hx0 hpn hy)
  have c2 : W.cell? ⟨w.heap.size, 2, none⟩ = some (.int .i64 2) := by rw [← hk]; exact cellA (j := 2) hbx rfl
  have FW := hid fW
  have HW := hid hW
  clear h hl hb ht h0 hi hn2 hs hx hxp hxn hxs hx0 hpn hy fW hbx hcn
  clear hW
  go_enter Tryz.func56, Tryz.ntmps56
  go_wp2_with fail
  rw [HW.out]
  clear hk c2
  have hmx : Tryz.prog.follows .mixedOrders = true := by kernel_rfl
  refine wp_region_held (S := fun V => Fr (fun i => c i ≠ none) W V) hmx ?_
  have hS := (Fr.drew (Fr.refl (fun i => c i ≠ none) W))
  simp only [List.size_toArray, List.length_cons, List.length_nil, Nat.reduceAdd, Array.replicate_succ, Array.replicate_zero, List.push_toArray, List.nil_append, List.cons_append]
  refine wpAnyH_take (i := 0) (v := ?_) rfl (by kernel_rfl) (by kernel_rfl) (by kernel_rfl) (fun _ _ _ h => h) (Or.inl ⟨by kernel_rfl, ?_⟩) hS ?_
  rotate_left 1
  · (intro w' hS'; clear hS'; go_simp; try with_reducible rfl)
  simp only [List.getElem_toArray, List.getElem_cons_zero, List.getElem_cons_succ, Act.put, List.setIfInBounds_toArray, List.set_cons_zero, List.set_cons_succ]
  refine wpAnyH_take (i := 1) (v := ?_) rfl (by kernel_rfl) (by kernel_rfl) (by kernel_rfl) (fun _ _ _ h => h) (Or.inl ⟨by kernel_rfl, ?_⟩) hS ?_
  rotate_left 1
  · (intro w' hS'; clear hS'; go_simp; try with_reducible rfl)
  simp only [List.getElem_toArray, List.getElem_cons_zero, List.getElem_cons_succ, Act.put, List.setIfInBounds_toArray, List.set_cons_zero, List.set_cons_succ]
  refine wpAnyH_take (i := 2) (v := ?_) rfl (by kernel_rfl) (by kernel_rfl) (by kernel_rfl) (fun _ _ _ h => h) (Or.inl ⟨by kernel_rfl, ?_⟩) hS ?_
  rotate_left 1
  · (intro w' hS'; have h1 := (HC.out w' hS').1; clear hS'; go_simp; try with_reducible rfl)
  simp only [List.getElem_toArray, List.getElem_cons_zero, List.getElem_cons_succ, Act.put, List.setIfInBounds_toArray, List.set_cons_zero, List.set_cons_succ]
  refine wpAnyH_take (i := 3) rfl (by kernel_rfl) (by kernel_rfl) (by kernel_rfl) (fun _ _ _ h => h) (tyload (by kernel_rfl) (by exact ⟨_, rfl, rfl⟩) (fun w' hS' => (HC.out w' hS').2)) hS ?_
  simp only [List.getElem_toArray, List.getElem_cons_zero, List.getElem_cons_succ, Act.put, List.setIfInBounds_toArray, List.set_cons_zero, List.set_cons_succ]
  refine wpAnyH_ready (rs := [4]) (by kernel_rfl) (by simp) ?_
  refine AllReadyH.cons rfl (fun K1 hK1 => ?_) (AllReadyH.nil)
  go_simp
  refine (KP.out _).mono ?_
  rintro e w4 ⟨rfl, fx⟩
  have F4 := hid ((Fr.drew (Fr.refl (fun _ => False) W)).trans fx (fun _ _ h => h))
  refine hK1.out _ _ (hS.trans fx (fun _ _ h => h.elim)) (fun hS => ?_)
  clear fx
  clear hK1 K1
  simp only [List.getElem_toArray, List.getElem_cons_zero, List.getElem_cons_succ, Act.put, List.setIfInBounds_toArray, List.set_cons_zero, List.set_cons_succ]
  refine wpAnyH_ready (rs := [5]) (by kernel_rfl) (by simp) ?_
  refine AllReadyH.cons rfl (fun K1 hK1 => ?_) (AllReadyH.nil)
  go_simp
  refine (KQ.out w4 F4.out).mono ?_
  rintro e w5 ⟨fx, v, c', rfl, k1, k2, k3, k4⟩
  have P1 := hid k1
  have P2 := hid k2
  have P3 := hid k3
  have P4 := hid k4
  have FX := hid fx
  clear k1 k2 k3 k4
  refine hK1.out _ _ (hS.trans fx (fun _ _ h => h)) (fun hS => ?_)
  clear fx
  clear hK1 K1
  simp only [List.getElem_toArray, List.getElem_cons_zero, List.getElem_cons_succ, Act.put, List.setIfInBounds_toArray, List.set_cons_zero, List.set_cons_succ]
  refine wpAnyH_take (i := 6) (v := ?_) rfl (by kernel_rfl) (by kernel_rfl) (by kernel_rfl) (fun _ _ _ h => h) (Or.inl ⟨by kernel_rfl, ?_⟩) hS ?_
  rotate_left 1
  · (intro w' hS'; clear hS'; go_simp; try with_reducible rfl)
  simp only [List.getElem_toArray, List.getElem_cons_zero, List.getElem_cons_succ, Act.put, List.setIfInBounds_toArray, List.set_cons_zero, List.set_cons_succ]
  refine wpAnyH_done (by kernel_rfl) ?_ _
  clear hS
  go_wp2_with fail
  have FIN := hid (show Fr (fun i => c i ≠ none) w w5 from ((FW.out.trans F4.out (fun _ _ h => h)).mono (fun _ _ h => h.elim)).trans FX.out (fun _ _ h => h))
  have M := hid (show More c c' w.heap.size from fun i hi => P1.out i (Nat.lt_of_lt_of_le hi (FW.out.trans F4.out (fun _ _ h => h)).size))
  go_ret
  exact ⟨FIN.out, _, c', rfl, M.out, P2.out, P3.out, P4.out⟩
set_option maxHeartbeats 1600000 in
theorem change3_any {c : Nat → Option T.Col} {w : World} {bud p : Nat} {dos last : Int} {t : T.Tr} {mb : Nat} {f : Int → Nat} (h : Tf c w bud p dos last t mb f) (hl : Lo c w.heap.size) (ht : A.Up t) (o : S.Op) (hi : o.in64) (hk : o.k = 3) (hb : o.b.size ≤ 255) (hc : o.c.size ≤ 255) {x : T.Nd} (hx : A.get o.n t = some x) (hA : T.Ak x.ats) (hat : x.ats.length < 1000000000000000000) :
    Calls Tryz.prog 56 #[ptr p, .agg o.cs] w fun e w' => Fr (fun i => c i ≠ none) w w' ∧ ∃ v c', e = .returned v ∧ More c c' w.heap.size ∧ Lo c' w'.heap.size ∧ Tf c' w' bud p dos last (A.put o.n ⟨x.par, x.nm, T.aset o.b o.c x.ats⟩ t) mb f ∧ T.UndoAttr c' w' (f o.n) o.b ((T.aget o.b x.ats).getD ⟨#[]⟩) v := by
  obtain ⟨W, hW⟩ : ∃ W, w.alloc (.cells o.cs 35) = W := ⟨_, rfl⟩
  have fW : Fr (fun _ => False) w W := by rw [← hW]; exact Fr.alloc (Fr.refl _ _) _
  have hbx : W.heap[w.heap.size]? = some (.cells o.cs 35 (0, 0)) := by rw [← hW]; exact Go.heap_alloc_new w _
  have hcn : ¬ (c w.heap.size ≠ none) := fun e => by have := hl _ e; omega
  have hcm : ¬ T.Mine c o.n w.heap.size := fun ⟨col, e, _⟩ => hcn (by rw [e]; simp)
  have hmp : ¬ T.Mine c o.n p := fun ⟨col, e1, e2⟩ => by rw [h.cp] at e1; cases e1; cases e2
  have hmm : ¬ T.Mine c o.n mb := fun ⟨col, e1, e2⟩ => by rw [h.cm] at e1; cases e1; cases e2
  have HC := hid (show ∀ V, Fr (T.Mine c o.n) W V → V.cell? ⟨w.heap.size, 3, none⟩ = some (.int .i64 o.n) ∧ V.cell? ⟨w.heap.size, 6, none⟩ = some (.string o.b) ∧ V.cell? ⟨w.heap.size, 7, none⟩ = some (.string o.c) ∧ V.cell? ⟨p, 0, none⟩ = some (.map (some mb)) from fun V hf => ⟨cellA (j := 3) (hf.cells hbx hcm) rfl, cellA (j := 6) (hf.cells hbx hcm) rfl, cellA (j := 7) (hf.cells hbx hcm) rfl, cellA (j := 0) (hf.cells (fW.cells h.cells (fun h => h)) hmp) rfl⟩)
  have L1 := hid (show ∀ V, Fr (T.Mine c o.n) W V → (Instr.lookup 81 (.map (some mb)) (.int .i64 o.n) false).run Tryz.prog V = .ok (ptr (f o.n)) V from fun V hf => by
    have := ((h.map.kept fW (fun h => h)).kept hf hmm).look keyI Tryz.underlying81 (zeroNd V) (keyOfI (wfT hi.1.1 hi.1.2))
    rw [hx] at this
    exact this)
  have K5 := hid (sclone_t o.b (by omega))
  have K6 := hid (sclone_t o.c (by omega))
  have lo : ∀ V, Fr (fun _ => False) W V → Lo c V.heap.size := fun V hf i hi => Nat.lt_of_lt_of_le (hl i hi) (fW.trans hf (fun _ _ h => h)).size
  have KQ := hid (show ∀ V, Fr (fun _ => False) W V → _ from fun V hf => alter_any (w := V) (v := o.c) ((h.node o.n x hx).kept (fW.trans hf (fun _ _ h => h)) (fun _ _ _ _ h => h)) (lo V hf) (k := o.b) (show o.b.size ≤ maxLen by unfold maxLen; omega) hA hat)
  have HEND : Hid (∀ w5 w6 c', Fr (fun _ => False) W w5 → Fr (T.Mine c o.n) w5 w6 → More c c' w5.heap.size → Nm c' w6 bud (f o.n) o.n ⟨x.par, x.nm, T.aset o.b o.c x.ats⟩ (T.kids t o.n) → Fr (fun i => c i ≠ none) w w6 ∧ More c c' w.heap.size ∧ Tf c' w6 bud p dos last (A.put o.n ⟨x.par, x.nm, T.aset o.b o.c x.ats⟩ t) mb f) := hid (fun w5 w6 c' f5 fx k1 k3 => by
    have f05 := fW.trans f5 (fun _ _ h => h)
    exact ⟨(f05.mono (fun _ _ h => h.elim)).trans fx (fun i _ ⟨col, e, _⟩ => by rw [e]; simp), fun i hi => k1 i (Nat.lt_of_lt_of_le hi f05.size), (h.kept f05 (fun _ _ h => h)).altered (lo w5 f5) ht hx fx k1 k3⟩)
  have c2 : W.cell? ⟨w.heap.size, 2, none⟩ = some (.int .i64 3) := by rw [← hk]; exact cellA (j := 2) hbx rfl
  have HW := hid hW
  clear h hl hb hc ht hi hx hA hat fW hbx hcn hcm hmp hmm lo hW
  go_enter Tryz.func56, Tryz.ntmps56
  go_wp2_with fail
  rw [HW.out]
  clear hk c2
  have hmx : Tryz.prog.follows .mixedOrders = true := by kernel_rfl
  refine wp_region_held (S := fun V => Fr (T.Mine c o.n) W V) hmx ?_
  have hS := (Fr.drew (Fr.refl (T.Mine c o.n) W))
  simp only [List.size_toArray, List.length_cons, List.length_nil, Nat.reduceAdd, Array.replicate_succ, Array.replicate_zero, List.push_toArray, List.nil_append, List.cons_append]
  refine wpAnyH_take (i := 0) (v := ?_) rfl (by kernel_rfl) (by kernel_rfl) (by kernel_rfl) (fun _ _ _ h => h) (Or.inl ⟨by kernel_rfl, ?_⟩) hS ?_
  rotate_left 1
  · (intro w' hS'; clear hS'; go_simp; try with_reducible rfl)
  simp only [List.getElem_toArray, List.getElem_cons_zero, List.getElem_cons_succ, Act.put, List.setIfInBounds_toArray, List.set_cons_zero, List.set_cons_succ]
  refine wpAnyH_take (i := 1) (v := ?_) rfl (by kernel_rfl) (by kernel_rfl) (by kernel_rfl) (fun _ _ _ h => h) (Or.inl ⟨by kernel_rfl, ?_⟩) hS ?_
  rotate_left 1
  · (intro w' hS'; clear hS'; go_simp; try with_reducible rfl)
  simp only [List.getElem_toArray, List.getElem_cons_zero, List.getElem_cons_succ, Act.put, List.setIfInBounds_toArray, List.set_cons_zero, List.set_cons_succ]
  refine wpAnyH_take (i := 2) (v := ?_) rfl (by kernel_rfl) (by kernel_rfl) (by kernel_rfl) (fun _ _ _ h => h) (Or.inl ⟨by kernel_rfl, ?_⟩) hS ?_
  rotate_left 1
  · (intro w' hS'; clear hS'; go_simp; try with_reducible rfl)
  simp only [List.getElem_toArray, List.getElem_cons_zero, List.getElem_cons_succ, Act.put, List.setIfInBounds_toArray, List.set_cons_zero, List.set_cons_succ]
  refine wpAnyH_take (i := 3) (v := ?_) rfl (by kernel_rfl) (by kernel_rfl) (by kernel_rfl) (fun _ _ _ h => h) (Or.inl ⟨by kernel_rfl, ?_⟩) hS ?_
  rotate_left 1
  · (intro w' hS'; have h1 := (HC.out w' hS').2.2.2; clear hS'; go_simp; try with_reducible rfl)
  simp only [List.getElem_toArray, List.getElem_cons_zero, List.getElem_cons_succ, Act.put, List.setIfInBounds_toArray, List.set_cons_zero, List.set_cons_succ]
  refine wpAnyH_take (i := 4) (v := ?_) rfl (by kernel_rfl) (by kernel_rfl) (by kernel_rfl) (fun _ _ _ h => h) (Or.inl ⟨by kernel_rfl, ?_⟩) hS ?_
  rotate_left 1
  · (intro w' hS'; clear hS'; go_simp; try with_reducible rfl)
  simp only [List.getElem_toArray, List.getElem_cons_zero, List.getElem_cons_succ, Act.put, List.setIfInBounds_toArray, List.set_cons_zero, List.set_cons_succ]
  refine wpAnyH_take (i := 5) (v := ?_) rfl (by kernel_rfl) (by kernel_rfl) (by kernel_rfl) (fun _ _ _ h => h) (Or.inl ⟨by kernel_rfl, ?_⟩) hS ?_
  rotate_left 1
  · (intro w' hS'; have h1 := (HC.out w' hS').1; clear hS'; go_simp; try with_reducible rfl)
  simp only [List.getElem_toArray, List.getElem_cons_zero, List.getElem_cons_succ, Act.put, List.setIfInBounds_toArray, List.set_cons_zero, List.set_cons_succ]
  refine wpAnyH_take (i := 6) rfl (by kernel_rfl) (by kernel_rfl) (by kernel_rfl) (fun _ _ _ h => h) (tylook (by kernel_rfl) (by exact ⟨_, _, rfl, rfl, rfl⟩) (fun w' hS' => L1.out w' hS')) hS ?_
  simp only [List.getElem_toArray, List.getElem_cons_zero, List.getElem_cons_succ, Act.put, List.setIfInBounds_toArray, List.set_cons_zero, List.set_cons_succ]
  refine wpAnyH_take (i := 7) (v := ?_) rfl (by kernel_rfl) (by kernel_rfl) (by kernel_rfl) (fun _ _ _ h => h) (Or.inl ⟨by kernel_rfl, ?_⟩) hS ?_
  rotate_left 1
  · (intro w' hS'; clear hS'; go_simp; try with_reducible rfl)
  simp only [List.getElem_toArray, List.getElem_cons_zero, List.getElem_cons_succ, Act.put, List.setIfInBounds_toArray, List.set_cons_zero, List.set_cons_succ]
  refine wpAnyH_take (i := 8) (v := ?_) rfl (by kernel_rfl) (by kernel_rfl) (by kernel_rfl) (fun _ _ _ h => h) (Or.inl ⟨by kernel_rfl, ?_⟩) hS ?_
  rotate_left 1
  · (intro w' hS'; have h1 := (HC.out w' hS').2.1; clear hS'; go_simp; try with_reducible rfl)
  simp only [List.getElem_toArray, List.getElem_cons_zero, List.getElem_cons_succ, Act.put, List.setIfInBounds_toArray, List.set_cons_zero, List.set_cons_succ]
  refine wpAnyH_take (i := 10) (v := ?_) rfl (by kernel_rfl) (by kernel_rfl) (by kernel_rfl) (fun _ _ _ h => h) (Or.inl ⟨by kernel_rfl, ?_⟩) hS ?_
  rotate_left 1
  · (intro w' hS'; clear hS'; go_simp; try with_reducible rfl)
  simp only [List.getElem_toArray, List.getElem_cons_zero, List.getElem_cons_succ, Act.put, List.setIfInBounds_toArray, List.set_cons_zero, List.set_cons_succ]
  refine wpAnyH_take (i := 11) (v := ?_) rfl (by kernel_rfl) (by kernel_rfl) (by kernel_rfl) (fun _ _ _ h => h) (Or.inl ⟨by kernel_rfl, ?_⟩) hS ?_
  rotate_left 1
  · (intro w' hS'; have h1 := (HC.out w' hS').2.2.1; clear hS'; go_simp; try with_reducible rfl)
  simp only [List.getElem_toArray, List.getElem_cons_zero, List.getElem_cons_succ, Act.put, List.setIfInBounds_toArray, List.set_cons_zero, List.set_cons_succ]
  refine wpAnyH_ready (rs := [9]) (by kernel_rfl) (by simp) ?_
  refine AllReadyH.cons rfl (fun K1 hK1 => ?_) (AllReadyH.nil)
  go_simp
  refine (K5.out _).mono ?_
  rintro e w4 ⟨rfl, fx⟩
  have F4 := hid ((Fr.drew (Fr.refl (fun _ => False) W)).trans fx (fun _ _ h => h))
  refine hK1.out _ _ (hS.trans fx (fun _ _ h => h.elim)) (fun hS => ?_)
  clear fx
  clear hK1 K1
  simp only [List.getElem_toArray, List.getElem_cons_zero, List.getElem_cons_succ, Act.put, List.setIfInBounds_toArray, List.set_cons_zero, List.set_cons_succ]
  refine wpAnyH_ready (rs := [12]) (by kernel_rfl) (by simp) ?_
  refine AllReadyH.cons rfl (fun K1 hK1 => ?_) (AllReadyH.nil)
  go_simp
  refine (K6.out _).mono ?_
  rintro e w5 ⟨rfl, fx⟩
  have F5 := hid (F4.out.trans fx (fun _ _ h => h))
  refine hK1.out _ _ (hS.trans fx (fun _ _ h => h.elim)) (fun hS => ?_)
  clear fx
  clear hK1 K1
  simp only [List.getElem_toArray, List.getElem_cons_zero, List.getElem_cons_succ, Act.put, List.setIfInBounds_toArray, List.set_cons_zero, List.set_cons_succ]
  refine wpAnyH_ready (rs := [13]) (by kernel_rfl) (by simp) ?_
  refine AllReadyH.cons rfl (fun K1 hK1 => ?_) (AllReadyH.nil)
  go_simp
  refine (KQ.out w5 F5.out).mono ?_
  rintro e w6 ⟨fx, v, c', rfl, k1, k2, k3, k4⟩
  have P1 := hid k1
  have P2 := hid k2
  have P3 := hid k3
  have P4 := hid k4
  have FX := hid fx
  clear k1 k2 k3 k4
  refine hK1.out _ _ (hS.trans fx (fun _ _ h => h)) (fun hS => ?_)
  clear fx
  clear hK1 K1
  simp only [List.getElem_toArray, List.getElem_cons_zero, List.getElem_cons_succ, Act.put, List.setIfInBounds_toArray, List.set_cons_zero, List.set_cons_succ]
  refine wpAnyH_take (i := 14) (v := ?_) rfl (by kernel_rfl) (by kernel_rfl) (by kernel_rfl) (fun _ _ _ h => h) (Or.inl ⟨by kernel_rfl, ?_⟩) hS ?_
  rotate_left 1
  · (intro w' hS'; clear hS'; go_simp; try with_reducible rfl)
  simp only [List.getElem_toArray, List.getElem_cons_zero, List.getElem_cons_succ, Act.put, List.setIfInBounds_toArray, List.set_cons_zero, List.set_cons_succ]
  refine wpAnyH_done (by kernel_rfl) ?_ _
  clear hS
  go_wp2_with fail
  obtain ⟨e1, e2, e3⟩ := HEND.out w5 w6 c' F5.out FX.out P1.out P3.out
  have E1 := hid e1
  have E2 := hid e2
  have E3 := hid e3
  clear e1 e2 e3
  go_ret
  exact ⟨E1.out, _, c', rfl, E2.out, P2.out, E3.out, P4.out⟩
end Go.Proofs.YtilbdpnioajkoaaGreat

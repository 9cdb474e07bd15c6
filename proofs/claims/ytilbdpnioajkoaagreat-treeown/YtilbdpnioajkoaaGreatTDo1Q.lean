/-
  A make is done: Do.
-/
import Derived.Test.YtilbdpnioajkoaaGreatMg12
namespace Go.Proofs.YtilbdpnioajkoaaGreat
open Go.RowKit Go.Maps
set_option linter.unusedVariables false
set_option maxRecDepth 100000
set_option linter.unusedSimpArgs false

/-- the tree's counters have changed -/
theorem Tf.count {c : Nat → Option T.Col} {w w' : World} {bud p : Nat} {dos last dos' last' : Int} {t : T.Tr} {mb : Nat} {f : Int → Nat} (h : Tf c w bud p dos last t mb f) (hf : Fr (fun i => i = p) w w') (hp : w'.heap[p]? = some (.cells #[.map (some mb), .int .i64 dos', .int .i64 last'] 83 (0, 0))) : Tf c w' bud p dos' last' t mb f :=
  ⟨hp, h.cp, h.cm, h.map.kept hf (fun e => by have := h.cp; rw [← e, h.cm] at this; cases this), h.few, fun n x hx => (h.node n x hx).kept hf (fun i col e1 e2 e3 => by rw [e3, h.cp] at e1; cases e1; cases e2)⟩
theorem T.Box.kept {S : Nat → Prop} {c : Nat → Option T.Col} {w w' : World} {b : Nat} {v : Value} (h : T.Box c w b v) (hf : Fr S w w') (hS : ∀ i, c i = none → (∃ ty, w.heap[i]? = some (.cells #[v] ty (0, 0))) → ¬ S i) : T.Box c w' b v := by
  obtain ⟨⟨ty, h1⟩, h2⟩ := h
  exact ⟨⟨ty, hf.cells h1 (hS b h2 ⟨ty, h1⟩)⟩, h2⟩
theorem T.UndoPut.kept {S : Nat → Prop} {c : Nat → Option T.Col} {w w' : World} {p : Nat} {n : Int} {v : Value} (h : T.UndoPut c w p n v) (hf : Fr S w w') (hS : ∀ i x, x ≠ .pointer none → c i = none → (∃ ty, w.heap[i]? = some (.cells #[x] ty (0, 0))) → ¬ S i) : T.UndoPut c w' p n v := by
  obtain ⟨bt, bn, e, h1, h2⟩ := h
  exact ⟨bt, bn, e, h1.kept hf (fun i => hS i _ (by simp)), h2.kept hf (fun i => hS i _ (by simp))⟩
set_option maxHeartbeats 1600000 in
theorem do1_any {c : Nat → Option T.Col} {w : World} {bud p : Nat} {dos last : Int} {t : T.Tr} {mb : Nat} {f : Int → Nat} (h : Tf c w bud p dos last t mb f) (hl : Lo c w.heap.size) (hb : bud < 8000000000000) (hd0 : 0 ≤ dos) (hd1 : dos < 1000000000000000000) (ht : A.Up t) (h0 : A.get 0 t = none) (o : S.Op) (hi : o.in64) (hk : o.k = 1) (hm : T.may1 t o = true) (hfree : ∀ s, T.kids t o.n s = []) :
    Calls Tryz.prog 19 #[ptr p, .agg o.cs] w fun e w' => Fr (fun i => c i ≠ none) w w' ∧ ∃ d v c' f', e = .returned (.tuple #[.agg #[ptr d], .bool true]) ∧ More c c' w.heap.size ∧ Lo c' w'.heap.size ∧ Tf c' w' (bud + 2) p (dos + 1) (dos + 1) (A.put o.n ⟨o.p, o.a, []⟩ t) mb f' ∧ T.UndoPut c' w' p o.n v ∧ w'.heap[d]? = some (.cells #[ptr p, .int .i64 (dos + 1), .int .i64 last, v] 115 (0, 0)) ∧ c' d = none := by
  have hm' := hm
  simp only [T.may1, Bool.and_eq_true, decide_eq_true_eq] at hm'
  obtain ⟨hn2, hx, hy, hnm⟩ := hm'
  have hx9 : A.get o.n t = none := by cases hg : A.get o.n t with | none => rfl | some z => rw [hg] at hx; simp at hx
  obtain ⟨y, hy9⟩ := Option.isSome_iff_exists.1 hy
  have hs : o.a.size ≤ 255 := by simp only [T.nam, T.txt, Bool.and_eq_true, decide_eq_true_eq] at hnm; exact hnm.1.1.1.2
  obtain ⟨W, hW⟩ : ∃ W, (w.alloc (.cells o.cs 35)).alloc (.cells #[.pointer none] 53) = W := ⟨_, rfl⟩
  have fW : Fr (fun _ => False) w W := by rw [← hW]; exact Fr.alloc (Fr.alloc (Fr.refl _ _) _) _
  have hbx : W.heap[w.heap.size]? = some (.cells o.cs 35 (0, 0)) := by
    rw [← hW]
    exact (Fr.alloc (Fr.refl (fun _ => False) _) _).cells (Go.heap_alloc_new w _) (fun h => h)
  have hbr : W.heap[w.heap.size + 1]? = some (.cells #[.pointer none] 53 (0, 0)) := by
    rw [← hW]
    have := Go.heap_alloc_new (w.alloc (.cells o.cs 35)) (.cells #[.pointer none] 53)
    rw [alloc_size] at this
    exact this
  have LP := hid (show ∀ V, Fr (fun _ => False) W V → (Instr.loadAt 35 (.pointer (some ⟨w.heap.size, 0, none⟩))).run Tryz.prog V = .ok (.agg o.cs) V from fun V hf => load_whole (hf.cells hbx (fun h => h)) Tryz.underlying35 rfl (by kernel_rfl))
  have lo : ∀ V, Fr (fun _ => False) W V → Lo c V.heap.size := fun V hf i hi => Nat.lt_of_lt_of_le (hl i hi) (fW.trans hf (fun _ _ h => h)).size
  have KM := hid (may1_any (w := W) (h.kept fW (fun _ _ h => h)) (lo W (Fr.refl _ _)) o hi hk)
  rw [hm] at KM
  have KC := hid (show ∀ V, Fr (fun _ => False) W V → _ from fun V hf => change1_any (w := V) (h.kept (fW.trans hf (fun _ _ h => h)) (fun _ _ h => h)) (lo V hf) hb ht h0 o hi hk hn2 hs hx9 hfree hy9)
  have HW := hid hW
  have FW := hid fW
  have HBR := hid (show W.heap[w.heap.size + 1]? = some (.cells #[.pointer none] 53 (0, 0)) ∧ ¬ (c (w.heap.size + 1) ≠ none) ∧ p < w.heap.size ∧ c p = some .tree ∧ w.heap.size + 2 ≤ W.heap.size from ⟨hbr, fun e => by have := hl _ e; omega, hl p (by rw [h.cp]; simp), h.cp, by rw [← hW, alloc_size, alloc_size]; omega⟩)
  have n1 : (-9223372036854775808 : Int) ≤ dos + 1 := by omega
  have n2 : dos + 1 ≤ 9223372036854775807 := by omega
  clear hW h hl hb hd0 hd1 ht h0 hi hk hm hfree hn2 hx hy hx9 hy9 hs hnm hbx hbr lo fW
  go_enter Tryz.func19, Tryz.ntmps19
  go_wp2_with (first
    | (rw [HW.out]; refine wpList_load_v (LP.out W (Fr.refl _ _)) (by exact ⟨_, rfl, rfl⟩) (by kernel_rfl) ?_)
    | (refine wpList_load_v (LP.out w1 F1.out) (by exact ⟨_, rfl, rfl⟩) (by kernel_rfl) ?_)
    | (go_at_call 40; refine KM.out.mono ?_; rintro e w1 ⟨rfl, fx⟩; have F1 := hid fx; clear fx)
    | (go_at_call 56; refine (KC.out w1 F1.out).mono ?_; rintro e w2 ⟨fx, v, c', f', rfl, k1, k2, k3, k4⟩; have F2 := hid fx; have P1 := hid k1; have P2 := hid k2; have P3 := hid k3; obtain ⟨fn, fa, fb, rfl⟩ : ∃ fn fa fb, v = .func fn fa fb := (by obtain ⟨_, _, h, _⟩ := k4.1; exact ⟨_, _, _, h⟩); have P4 := hid k4.1; have c1 : w2.cell? ⟨p, 1, none⟩ = some (.int .i64 dos) := cellA (j := 1) k3.cells rfl; have z1 : w2.frozen? ⟨p, 1, none⟩ = false := frozen_of_row k3.cells; have r1 : w2.heap[p]? = some (.cells #[.map (some mb), .int .i64 dos, .int .i64 last] 83 (0, 0)) := k3.cells; have B2 := hid r1; clear r1; clear fx k1 k2 k3 k4))
  obtain ⟨W3, hW3⟩ : ∃ W3, w2.setCell ⟨p, 1, none⟩ (.int .i64 (dos + 1)) = W3 := ⟨_, rfl⟩
  have b3 : W3.heap[p]? = some (.cells #[.map (some mb), .int .i64 (dos + 1), .int .i64 last] 83 (0, 0)) := by
    rw [← hW3]
    exact setCell_row (j := 1) B2.out _
  have f3 : Fr (fun i => i = p) w2 W3 := by rw [← hW3]; exact Fr.setCell (p := ⟨p, 1, none⟩) (Fr.refl (fun i => i = p) _) (fun _ => rfl) _
  have C3 := hid (show ∀ V, Fr (fun _ => False) W3 V → V.cell? ⟨p, 1, none⟩ = some (.int .i64 (dos + 1)) ∧ V.cell? ⟨p, 2, none⟩ = some (.int .i64 last) from fun V hf => ⟨cellA (j := 1) (hf.cells b3 (fun h => h)) rfl, cellA (j := 2) (hf.cells b3 (fun h => h)) rfl⟩)
  have F3 := hid f3
  have B3 := hid b3
  rw [hW3]
  clear hW3 b3 f3 c1 z1
  have hmx : Tryz.prog.follows .mixedOrders = true := by kernel_rfl
  refine wp_region_held (S := fun V => Fr (fun _ => False) W3 V) hmx ?_
  have hS := (Fr.drew (Fr.refl (fun _ => False) W3))
  simp only [List.size_toArray, List.length_cons, List.length_nil, Nat.reduceAdd, Array.replicate_succ, Array.replicate_zero, List.push_toArray, List.nil_append, List.cons_append]
  refine wpAnyH_take (i := 0) (v := ?_) rfl (by kernel_rfl) (by kernel_rfl) (by kernel_rfl) (fun _ _ _ h => h) (Or.inl ⟨by kernel_rfl, ?_⟩) hS ?_
  rotate_left 1
  · (intro w' hS'; clear hS'; go_simp; try with_reducible rfl)
  simp only [List.getElem_toArray, List.getElem_cons_zero, List.getElem_cons_succ, Act.put, List.setIfInBounds_toArray, List.set_cons_zero, List.set_cons_succ]
  refine wpAnyH_take (i := 1) (v := ?_) rfl (by kernel_rfl) (by kernel_rfl) (by kernel_rfl) (fun _ _ _ h => h) (Or.inl ⟨by kernel_rfl, ?_⟩) hS ?_
  rotate_left 1
  · (intro w' hS'; clear hS'; go_simp; try with_reducible rfl)
  simp only [List.getElem_toArray, List.getElem_cons_zero, List.getElem_cons_succ, Act.put, List.setIfInBounds_toArray, List.set_cons_zero, List.set_cons_succ]
  refine wpAnyH_take (i := 2) (v := ?_) rfl (by kernel_rfl) (by kernel_rfl) (by kernel_rfl) (fun _ _ _ h => h) (Or.inl ⟨by kernel_rfl, ?_⟩) hS ?_
  rotate_left 1
  · (intro w' hS'; clear hS'; go_simp; try with_reducible rfl)
  simp only [List.getElem_toArray, List.getElem_cons_zero, List.getElem_cons_succ, Act.put, List.setIfInBounds_toArray, List.set_cons_zero, List.set_cons_succ]
  refine wpAnyH_take (i := 3) (v := ?_) rfl (by kernel_rfl) (by kernel_rfl) (by kernel_rfl) (fun _ _ _ h => h) (Or.inl ⟨by kernel_rfl, ?_⟩) hS ?_
  rotate_left 1
  · (intro w' hS'; clear hS'; go_simp; try with_reducible rfl)
  simp only [List.getElem_toArray, List.getElem_cons_zero, List.getElem_cons_succ, Act.put, List.setIfInBounds_toArray, List.set_cons_zero, List.set_cons_succ]
  refine wpAnyH_take (i := 4) (v := ?_) rfl (by kernel_rfl) (by kernel_rfl) (by kernel_rfl) (fun _ _ _ h => h) (Or.inl ⟨by kernel_rfl, ?_⟩) hS ?_
  rotate_left 1
  · (intro w' hS'; have h1 := (C3.out w' hS').1; clear hS'; go_simp; try with_reducible rfl)
  simp only [List.getElem_toArray, List.getElem_cons_zero, List.getElem_cons_succ, Act.put, List.setIfInBounds_toArray, List.set_cons_zero, List.set_cons_succ]
  refine wpAnyH_take (i := 5) (v := ?_) rfl (by kernel_rfl) (by kernel_rfl) (by kernel_rfl) (fun _ _ _ h => h) (Or.inl ⟨by kernel_rfl, ?_⟩) hS ?_
  rotate_left 1
  · (intro w' hS'; clear hS'; go_simp; try with_reducible rfl)
  simp only [List.getElem_toArray, List.getElem_cons_zero, List.getElem_cons_succ, Act.put, List.setIfInBounds_toArray, List.set_cons_zero, List.set_cons_succ]
  refine wpAnyH_take (i := 6) (v := ?_) rfl (by kernel_rfl) (by kernel_rfl) (by kernel_rfl) (fun _ _ _ h => h) (Or.inl ⟨by kernel_rfl, ?_⟩) hS ?_
  rotate_left 1
  · (intro w' hS'; clear hS'; go_simp; try with_reducible rfl)
  simp only [List.getElem_toArray, List.getElem_cons_zero, List.getElem_cons_succ, Act.put, List.setIfInBounds_toArray, List.set_cons_zero, List.set_cons_succ]
  refine wpAnyH_take (i := 7) (v := ?_) rfl (by kernel_rfl) (by kernel_rfl) (by kernel_rfl) (fun _ _ _ h => h) (Or.inl ⟨by kernel_rfl, ?_⟩) hS ?_
  rotate_left 1
  · (intro w' hS'; clear hS'; go_simp; try with_reducible rfl)
  simp only [List.getElem_toArray, List.getElem_cons_zero, List.getElem_cons_succ, Act.put, List.setIfInBounds_toArray, List.set_cons_zero, List.set_cons_succ]
  refine wpAnyH_take (i := 8) (v := ?_) rfl (by kernel_rfl) (by kernel_rfl) (by kernel_rfl) (fun _ _ _ h => h) (Or.inl ⟨by kernel_rfl, ?_⟩) hS ?_
  rotate_left 1
  · (intro w' hS'; have h1 := (C3.out w' hS').2; clear hS'; go_simp; try with_reducible rfl)
  simp only [List.getElem_toArray, List.getElem_cons_zero, List.getElem_cons_succ, Act.put, List.setIfInBounds_toArray, List.set_cons_zero, List.set_cons_succ]
  refine wpAnyH_take (i := 9) (v := ?_) rfl (by kernel_rfl) (by kernel_rfl) (by kernel_rfl) (fun _ _ _ h => h) (Or.inl ⟨by kernel_rfl, ?_⟩) hS ?_
  rotate_left 1
  · (intro w' hS'; clear hS'; go_simp; try with_reducible rfl)
  simp only [List.getElem_toArray, List.getElem_cons_zero, List.getElem_cons_succ, Act.put, List.setIfInBounds_toArray, List.set_cons_zero, List.set_cons_succ]
  refine wpAnyH_take (i := 10) (v := ?_) rfl (by kernel_rfl) (by kernel_rfl) (by kernel_rfl) (fun _ _ _ h => h) (Or.inl ⟨by kernel_rfl, ?_⟩) hS ?_
  rotate_left 1
  · (intro w' hS'; clear hS'; go_simp; try with_reducible rfl)
  simp only [List.getElem_toArray, List.getElem_cons_zero, List.getElem_cons_succ, Act.put, List.setIfInBounds_toArray, List.set_cons_zero, List.set_cons_succ]
  refine wpAnyH_ready (rs := [11, 13]) (by kernel_rfl) (by simp) ?_
  refine AllReadyH.cons rfl (fun K1 hK1 => ?_) (AllReadyH.cons rfl (fun K1 hK1 => ?_) (AllReadyH.nil))
  · go_simp
    refine hK1.out _ _ (by first | exact Fr.alloc hS _ | exact Fr.drew (Fr.alloc (Fr.refl _ _) _) | exact Fr.drew (Fr.alloc (Fr.alloc (Fr.refl _ _) _) _)) (fun hS => ?_)
    clear hK1 K1
    simp only [List.getElem_toArray, List.getElem_cons_zero, List.getElem_cons_succ, Act.put, List.setIfInBounds_toArray, List.set_cons_zero, List.set_cons_succ]
    refine wpAnyH_take (i := 12) (v := ?_) rfl (by kernel_rfl) (by kernel_rfl) (by kernel_rfl) (fun _ _ _ h => h) (Or.inl ⟨by kernel_rfl, ?_⟩) hS ?_
    rotate_left 1
    · (intro w' hS'; clear hS'; go_simp; try with_reducible rfl)
    simp only [List.getElem_toArray, List.getElem_cons_zero, List.getElem_cons_succ, Act.put, List.setIfInBounds_toArray, List.set_cons_zero, List.set_cons_succ]
    refine wpAnyH_ready (rs := [13]) (by kernel_rfl) (by simp) ?_
    refine AllReadyH.cons rfl (fun K1 hK1 => ?_) (AllReadyH.nil)
    go_simp
    refine hK1.out _ _ (by first | exact Fr.alloc hS _ | exact Fr.drew (Fr.alloc (Fr.refl _ _) _) | exact Fr.drew (Fr.alloc (Fr.alloc (Fr.refl _ _) _) _)) (fun hS => ?_)
    clear hK1 K1
    simp only [List.getElem_toArray, List.getElem_cons_zero, List.getElem_cons_succ, Act.put, List.setIfInBounds_toArray, List.set_cons_zero, List.set_cons_succ]
    refine wpAnyH_ready (rs := [14]) (by kernel_rfl) (by simp) ?_
    refine AllReadyH.cons rfl (fun K1 hK1 => ?_) (AllReadyH.nil)
    have x1 := Go.heap_alloc_new W3 (.cells #[ptr p, .int .i64 (dos + 1), .int .i64 last, .func fn fa fb] 115)
    have x2 := Go.heap_alloc_new (W3.alloc (.cells #[ptr p, .int .i64 (dos + 1), .int .i64 last, .func fn fa fb] 115)) (.cells #[.pointer none] 53)
    rw [alloc_size] at x2
    have x1 := (Fr.alloc (Fr.refl (fun _ => False) _) (.cells #[.pointer none] 53)).cells x1 (fun h => h)
    obtain ⟨w6, st, hb6, f6⟩ := box_whole (V := ((W3.alloc (.cells #[ptr p, .int .i64 (dos + 1), .int .i64 last, .func fn fa fb] 115)).alloc (.cells #[.pointer none] 53)).drew) (b := (W3.heap.size + 1)) (ty := 53) (c := #[ptr W3.heap.size]) x2 rfl (by kernel_rfl) (by simp [Value.oneCell'])
    have hd6 : w6.heap[W3.heap.size]? = some (.cells #[ptr p, .int .i64 (dos + 1), .int .i64 last, .func fn fa fb] 115 (0, 0)) := f6.cells (show (((W3.alloc (.cells #[ptr p, .int .i64 (dos + 1), .int .i64 last, .func fn fa fb] 115)).alloc (.cells #[.pointer none] 53)).drew).heap[W3.heap.size]? = _ from x1) (by omega)
    refine tstep_store (by kernel_rfl) st (by exact ⟨_, _, rfl, rfl, rfl⟩) ?_
    have hz6 := f6.size
    rw [show (((W3.alloc (.cells #[ptr p, .int .i64 (dos + 1), .int .i64 last, .func fn fa fb] 115)).alloc (.cells #[.pointer none] 53)).drew).heap.size = W3.heap.size + 2 by show ((W3.alloc _).alloc _).heap.size = _; rw [alloc_size, alloc_size]] at hz6
    refine hK1.out _ _ (hS.trans f6 (fun i hi e => by omega)) (fun hS => ?_)
    clear x1 x2 st f6
    clear hK1 K1
    simp only [List.getElem_toArray, List.getElem_cons_zero, List.getElem_cons_succ, Act.put, List.setIfInBounds_toArray, List.set_cons_zero, List.set_cons_succ]
    refine wpAnyH_done (by kernel_rfl) ?_ _
    have g1 : w6.cell? ⟨p, 1, none⟩ = some (.int .i64 (dos + 1)) := (C3.out w6 hS).1
    have g2 : w6.cell? ⟨p, 2, none⟩ = some (.int .i64 last) := (C3.out w6 hS).2
    have B6 := hid (hS.cells B3.out (fun h => h))
    have g3 : w6.frozen? ⟨p, 2, none⟩ = false := frozen_of_row B6.out
    have HU6 := hid hb6
    have HD6 := hid hd6
    have HZ6 := hid hz6
    have FS := hid hS
    clear hb6 hd6 hz6 hS
    have hpz := lt_of_row B3.out
    have f67 : Fr (fun i => i = p) w6 (w6.setCell ⟨p, 2, none⟩ (.int .i64 (dos + 1))) := Fr.setCell (p := ⟨p, 2, none⟩) (Fr.refl (fun i => i = p) _) (fun _ => rfl) _
    have hu7 : (w6.setCell ⟨p, 2, none⟩ (.int .i64 (dos + 1))).heap[(W3.heap.size + 1)]? = some (.cells #[ptr W3.heap.size] 53 (0, 0)) := f67.cells HU6.out (by omega)
    have h26 : Fr (fun i => c i ≠ none ∨ i = p) W w6 := (((F1.out.mono (fun _ _ h => h.elim)).trans F2.out (fun _ _ h => .inl h)).trans F3.out (fun _ _ h => .inr h)).trans FS.out (fun _ _ h => h.elim)
    have hr7 : (w6.setCell ⟨p, 2, none⟩ (.int .i64 (dos + 1))).heap[w.heap.size + 1]? = some (.cells #[.pointer none] 53 (0, 0)) := f67.cells (h26.cells HBR.out.1 (fun e => e.elim HBR.out.2.1 (by have := HBR.out.2.2.1; omega))) (by have := HBR.out.2.2.1; omega)
    have g4 : (w6.setCell ⟨p, 2, none⟩ (.int .i64 (dos + 1))).cell? ⟨(W3.heap.size + 1), 0, none⟩ = some (ptr W3.heap.size) := cellA (j := 0) hu7 rfl
    have g5 : (w6.setCell ⟨p, 2, none⟩ (.int .i64 (dos + 1))).cell? ⟨w.heap.size + 1, 0, none⟩ = some (.pointer none) := cellA (j := 0) hr7 rfl
    have g6 : (w6.setCell ⟨p, 2, none⟩ (.int .i64 (dos + 1))).frozen? ⟨w.heap.size + 1, 0, none⟩ = false := frozen_of_row hr7
    have F67 := hid f67
    have H26 := hid h26
    have HR7 := hid hr7
    have HPZ := hid hpz
    clear f67 h26 hr7 hu7 hpz
    go_wp2_with fail
    obtain ⟨X7, hX7⟩ : ∃ X7, w6.setCell ⟨p, 2, none⟩ (.int .i64 (dos + 1)) = X7 := ⟨_, rfl⟩
    rw [hX7] at F67 HR7 ⊢
    have b8 : (X7.setCell ⟨w.heap.size + 1, 0, none⟩ (ptr W3.heap.size)).heap[w.heap.size + 1]? = some (.cells #[ptr W3.heap.size] 53 (0, 0)) := setCell_row (j := 0) HR7.out _
    have f8 : Fr (fun i => i = w.heap.size + 1) X7 (X7.setCell ⟨w.heap.size + 1, 0, none⟩ (ptr W3.heap.size)) := Fr.setCell (p := ⟨w.heap.size + 1, 0, none⟩) (Fr.refl (fun i => i = w.heap.size + 1) _) (fun _ => rfl) _
    have p7 : X7.heap[p]? = some (.cells #[.map (some mb), .int .i64 (dos + 1), .int .i64 (dos + 1)] 83 (0, 0)) := by rw [← hX7]; exact setCell_row (j := 2) B6.out _
    obtain ⟨W8, hW8⟩ : ∃ W8, X7.setCell ⟨w.heap.size + 1, 0, none⟩ (ptr W3.heap.size) = W8 := ⟨_, rfl⟩
    rw [hW8] at b8 f8
    have LR := loadVar_whole b8 Tryz.underlying53 rfl (by kernel_rfl)
    have z1 := FW.out.size
    have z2 := F1.out.size
    have z3 := F2.out.size
    have z4 := F3.out.size
    have z5 := FS.out.size
    have z6 := F67.out.size
    have z7 := f8.size
    have z8 := HZ6.out
    have z9 := HBR.out.2.2.1
    have z10 := HPZ.out
    have z11 := HBR.out.2.2.2.2
    have cr : c' (w.heap.size + 1) = none := by rw [P1.out _ (by omega)]; cases hc : c (w.heap.size + 1) with | none => rfl | some col => exact absurd (by rw [hc]; simp) HBR.out.2.1
    have r2 : w2.heap[w.heap.size + 1]? = some (.cells #[.pointer none] 53 (0, 0)) := F2.out.cells (F1.out.cells HBR.out.1 (fun h => h)) HBR.out.2.1
    have f28 : Fr (fun i => i = p ∨ i = w.heap.size + 1) w2 W8 := (((F3.out.mono (fun _ _ h => .inl h)).trans FS.out (fun _ _ h => h.elim)).trans F67.out (fun _ _ h => .inl h)).trans f8 (fun _ _ h => .inr h)
    have fin : Fr (fun i => c i ≠ none) w W8 := (((FW.out.mono (fun _ _ h => h.elim)).trans H26.out (fun i _ h => h.elim id (fun e => by rw [e, HBR.out.2.2.2.1]; simp))).trans F67.out (fun i _ e => by rw [e, HBR.out.2.2.2.1]; simp)).trans f8 (fun i hi e => by omega)
    have dn : c' W3.heap.size = none := by cases hc : c' W3.heap.size with | none => rfl | some col => exact absurd (P2.out _ (by rw [hc]; simp)) (by omega)
    rw [hW8]
    refine bodyPost_ret (v := .tuple #[.agg #[ptr W3.heap.size], .bool true]) (results_cell2 Tryz.results19 _ _ _ _ _ _ (by rfl) LR (by rfl)) rfl ⟨fin, W3.heap.size, _, c', f', rfl, fun i hi => P1.out i (by omega), fun i hi => Nat.lt_of_lt_of_le (P2.out i hi) (by omega), ?_, P4.out.kept f28 (fun i x hx hn hy e => ?_), f8.cells (F67.out.cells HD6.out (by omega)) (by omega), dn⟩
    · have t3 := P3.out.count F3.out B3.out
      have t6 := t3.kept FS.out (fun _ _ h => h)
      have t7 := t6.count F67.out p7
      exact t7.kept f8 (fun i hi e => by rw [e, cr] at hi; exact hi rfl)
    · rcases e with e | e
      · rw [e, P3.out.cp] at hn; cases hn
      · obtain ⟨ty, hy⟩ := hy; rw [e, r2] at hy; cases hy; exact hx rfl
  · go_simp
    refine hK1.out _ _ (by first | exact Fr.alloc hS _ | exact Fr.drew (Fr.alloc (Fr.refl _ _) _) | exact Fr.drew (Fr.alloc (Fr.alloc (Fr.refl _ _) _) _)) (fun hS => ?_)
    clear hK1 K1
    simp only [List.getElem_toArray, List.getElem_cons_zero, List.getElem_cons_succ, Act.put, List.setIfInBounds_toArray, List.set_cons_zero, List.set_cons_succ]
    refine wpAnyH_ready (rs := [11]) (by kernel_rfl) (by simp) ?_
    refine AllReadyH.cons rfl (fun K1 hK1 => ?_) (AllReadyH.nil)
    go_simp
    refine hK1.out _ _ (by first | exact Fr.alloc hS _ | exact Fr.drew (Fr.alloc (Fr.refl _ _) _) | exact Fr.drew (Fr.alloc (Fr.alloc (Fr.refl _ _) _) _)) (fun hS => ?_)
    clear hK1 K1
    simp only [List.getElem_toArray, List.getElem_cons_zero, List.getElem_cons_succ, Act.put, List.setIfInBounds_toArray, List.set_cons_zero, List.set_cons_succ]
    refine wpAnyH_take (i := 12) (v := ?_) rfl (by kernel_rfl) (by kernel_rfl) (by kernel_rfl) (fun _ _ _ h => h) (Or.inl ⟨by kernel_rfl, ?_⟩) hS ?_
    rotate_left 1
    · (intro w' hS'; clear hS'; go_simp; try with_reducible rfl)
    simp only [List.getElem_toArray, List.getElem_cons_zero, List.getElem_cons_succ, Act.put, List.setIfInBounds_toArray, List.set_cons_zero, List.set_cons_succ]
    refine wpAnyH_ready (rs := [14]) (by kernel_rfl) (by simp) ?_
    refine AllReadyH.cons rfl (fun K1 hK1 => ?_) (AllReadyH.nil)
    have x1 := Go.heap_alloc_new W3 (.cells #[.pointer none] 53)
    have x2 := Go.heap_alloc_new (W3.alloc (.cells #[.pointer none] 53)) (.cells #[ptr p, .int .i64 (dos + 1), .int .i64 last, .func fn fa fb] 115)
    rw [alloc_size] at x2
    have x1 := (Fr.alloc (Fr.refl (fun _ => False) _) (.cells #[ptr p, .int .i64 (dos + 1), .int .i64 last, .func fn fa fb] 115)).cells x1 (fun h => h)
    obtain ⟨w6, st, hb6, f6⟩ := box_whole (V := ((W3.alloc (.cells #[.pointer none] 53)).alloc (.cells #[ptr p, .int .i64 (dos + 1), .int .i64 last, .func fn fa fb] 115)).drew) (b := W3.heap.size) (ty := 53) (c := #[ptr (W3.heap.size + 1)]) x1 rfl (by kernel_rfl) (by simp [Value.oneCell'])
    have hd6 : w6.heap[(W3.heap.size + 1)]? = some (.cells #[ptr p, .int .i64 (dos + 1), .int .i64 last, .func fn fa fb] 115 (0, 0)) := f6.cells (show (((W3.alloc (.cells #[.pointer none] 53)).alloc (.cells #[ptr p, .int .i64 (dos + 1), .int .i64 last, .func fn fa fb] 115)).drew).heap[(W3.heap.size + 1)]? = _ from x2) (by omega)
    refine tstep_store (by kernel_rfl) st (by exact ⟨_, _, rfl, rfl, rfl⟩) ?_
    have hz6 := f6.size
    rw [show (((W3.alloc (.cells #[.pointer none] 53)).alloc (.cells #[ptr p, .int .i64 (dos + 1), .int .i64 last, .func fn fa fb] 115)).drew).heap.size = W3.heap.size + 2 by show ((W3.alloc _).alloc _).heap.size = _; rw [alloc_size, alloc_size]] at hz6
    refine hK1.out _ _ (hS.trans f6 (fun i hi e => by omega)) (fun hS => ?_)
    clear x1 x2 st f6
    clear hK1 K1
    simp only [List.getElem_toArray, List.getElem_cons_zero, List.getElem_cons_succ, Act.put, List.setIfInBounds_toArray, List.set_cons_zero, List.set_cons_succ]
    refine wpAnyH_done (by kernel_rfl) ?_ _
    have g1 : w6.cell? ⟨p, 1, none⟩ = some (.int .i64 (dos + 1)) := (C3.out w6 hS).1
    have g2 : w6.cell? ⟨p, 2, none⟩ = some (.int .i64 last) := (C3.out w6 hS).2
    have B6 := hid (hS.cells B3.out (fun h => h))
    have g3 : w6.frozen? ⟨p, 2, none⟩ = false := frozen_of_row B6.out
    have HU6 := hid hb6
    have HD6 := hid hd6
    have HZ6 := hid hz6
    have FS := hid hS
    clear hb6 hd6 hz6 hS
    have hpz := lt_of_row B3.out
    have f67 : Fr (fun i => i = p) w6 (w6.setCell ⟨p, 2, none⟩ (.int .i64 (dos + 1))) := Fr.setCell (p := ⟨p, 2, none⟩) (Fr.refl (fun i => i = p) _) (fun _ => rfl) _
    have hu7 : (w6.setCell ⟨p, 2, none⟩ (.int .i64 (dos + 1))).heap[W3.heap.size]? = some (.cells #[ptr (W3.heap.size + 1)] 53 (0, 0)) := f67.cells HU6.out (by omega)
    have h26 : Fr (fun i => c i ≠ none ∨ i = p) W w6 := (((F1.out.mono (fun _ _ h => h.elim)).trans F2.out (fun _ _ h => .inl h)).trans F3.out (fun _ _ h => .inr h)).trans FS.out (fun _ _ h => h.elim)
    have hr7 : (w6.setCell ⟨p, 2, none⟩ (.int .i64 (dos + 1))).heap[w.heap.size + 1]? = some (.cells #[.pointer none] 53 (0, 0)) := f67.cells (h26.cells HBR.out.1 (fun e => e.elim HBR.out.2.1 (by have := HBR.out.2.2.1; omega))) (by have := HBR.out.2.2.1; omega)
    have g4 : (w6.setCell ⟨p, 2, none⟩ (.int .i64 (dos + 1))).cell? ⟨W3.heap.size, 0, none⟩ = some (ptr (W3.heap.size + 1)) := cellA (j := 0) hu7 rfl
    have g5 : (w6.setCell ⟨p, 2, none⟩ (.int .i64 (dos + 1))).cell? ⟨w.heap.size + 1, 0, none⟩ = some (.pointer none) := cellA (j := 0) hr7 rfl
    have g6 : (w6.setCell ⟨p, 2, none⟩ (.int .i64 (dos + 1))).frozen? ⟨w.heap.size + 1, 0, none⟩ = false := frozen_of_row hr7
    have F67 := hid f67
    have H26 := hid h26
    have HR7 := hid hr7
    have HPZ := hid hpz
    clear f67 h26 hr7 hu7 hpz
    go_wp2_with fail
    obtain ⟨X7, hX7⟩ : ∃ X7, w6.setCell ⟨p, 2, none⟩ (.int .i64 (dos + 1)) = X7 := ⟨_, rfl⟩
    rw [hX7] at F67 HR7 ⊢
    have b8 : (X7.setCell ⟨w.heap.size + 1, 0, none⟩ (ptr (W3.heap.size + 1))).heap[w.heap.size + 1]? = some (.cells #[ptr (W3.heap.size + 1)] 53 (0, 0)) := setCell_row (j := 0) HR7.out _
    have f8 : Fr (fun i => i = w.heap.size + 1) X7 (X7.setCell ⟨w.heap.size + 1, 0, none⟩ (ptr (W3.heap.size + 1))) := Fr.setCell (p := ⟨w.heap.size + 1, 0, none⟩) (Fr.refl (fun i => i = w.heap.size + 1) _) (fun _ => rfl) _
    have p7 : X7.heap[p]? = some (.cells #[.map (some mb), .int .i64 (dos + 1), .int .i64 (dos + 1)] 83 (0, 0)) := by rw [← hX7]; exact setCell_row (j := 2) B6.out _
    obtain ⟨W8, hW8⟩ : ∃ W8, X7.setCell ⟨w.heap.size + 1, 0, none⟩ (ptr (W3.heap.size + 1)) = W8 := ⟨_, rfl⟩
    rw [hW8] at b8 f8
    have LR := loadVar_whole b8 Tryz.underlying53 rfl (by kernel_rfl)
    have z1 := FW.out.size
    have z2 := F1.out.size
    have z3 := F2.out.size
    have z4 := F3.out.size
    have z5 := FS.out.size
    have z6 := F67.out.size
    have z7 := f8.size
    have z8 := HZ6.out
    have z9 := HBR.out.2.2.1
    have z10 := HPZ.out
    have z11 := HBR.out.2.2.2.2
    have cr : c' (w.heap.size + 1) = none := by rw [P1.out _ (by omega)]; cases hc : c (w.heap.size + 1) with | none => rfl | some col => exact absurd (by rw [hc]; simp) HBR.out.2.1
    have r2 : w2.heap[w.heap.size + 1]? = some (.cells #[.pointer none] 53 (0, 0)) := F2.out.cells (F1.out.cells HBR.out.1 (fun h => h)) HBR.out.2.1
    have f28 : Fr (fun i => i = p ∨ i = w.heap.size + 1) w2 W8 := (((F3.out.mono (fun _ _ h => .inl h)).trans FS.out (fun _ _ h => h.elim)).trans F67.out (fun _ _ h => .inl h)).trans f8 (fun _ _ h => .inr h)
    have fin : Fr (fun i => c i ≠ none) w W8 := (((FW.out.mono (fun _ _ h => h.elim)).trans H26.out (fun i _ h => h.elim id (fun e => by rw [e, HBR.out.2.2.2.1]; simp))).trans F67.out (fun i _ e => by rw [e, HBR.out.2.2.2.1]; simp)).trans f8 (fun i hi e => by omega)
    have dn : c' (W3.heap.size + 1) = none := by cases hc : c' (W3.heap.size + 1) with | none => rfl | some col => exact absurd (P2.out _ (by rw [hc]; simp)) (by omega)
    rw [hW8]
    refine bodyPost_ret (v := .tuple #[.agg #[ptr (W3.heap.size + 1)], .bool true]) (results_cell2 Tryz.results19 _ _ _ _ _ _ (by rfl) LR (by rfl)) rfl ⟨fin, (W3.heap.size + 1), _, c', f', rfl, fun i hi => P1.out i (by omega), fun i hi => Nat.lt_of_lt_of_le (P2.out i hi) (by omega), ?_, P4.out.kept f28 (fun i x hx hn hy e => ?_), f8.cells (F67.out.cells HD6.out (by omega)) (by omega), dn⟩
    · have t3 := P3.out.count F3.out B3.out
      have t6 := t3.kept FS.out (fun _ _ h => h)
      have t7 := t6.count F67.out p7
      exact t7.kept f8 (fun i hi e => by rw [e, cr] at hi; exact hi rfl)
    · rcases e with e | e
      · rw [e, P3.out.cp] at hn; cases hn
      · obtain ⟨ty, hy⟩ := hy; rw [e, r2] at hy; cases hy; exact hx rfl
end Go.Proofs.YtilbdpnioajkoaaGreat

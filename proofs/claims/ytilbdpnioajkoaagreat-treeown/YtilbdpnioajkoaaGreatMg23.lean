/-
  Back, of what others follow or what is taken back already.
  What is not done, and what can't be taken back.
  A tree, and what was done to it, as it can be taken back.
-/
import Derived.Test.YtilbdpnioajkoaaGreatTBack2Q
import Derived.Test.YtilbdpnioajkoaaGreatMg20
namespace Go.Proofs.YtilbdpnioajkoaaGreat
open Go.RowKit Go.Maps
set_option linter.unusedVariables false
set_option maxRecDepth 100000
set_option linter.unusedSimpArgs false
set_option maxHeartbeats 1600000 in
theorem back_not {c : Nat → Option T.Col} {w : World} {bud p : Nat} {dos last : Int} {t : T.Tr} {mb : Nat} {f : Int → Nat} (h : Tf c w bud p dos last t mb f) {d : Nat} {num bf : Int} {v : Value} (hd : w.heap[d]? = some (.cells #[ptr p, .int .i64 num, .int .i64 bf, v] 115 (0, 0))) (hn : num ≠ last) :
    Calls Tryz.prog 61 #[ptr p, .agg #[ptr d]] w fun e w' => e = .returned (.int .i64 120) ∧ Fr (fun _ => False) w w' := by
  obtain ⟨W, hW⟩ : ∃ W, w.alloc (.cells #[ptr d] 53) = W := ⟨_, rfl⟩
  have fW : Fr (fun _ => False) w W := by rw [← hW]; exact Fr.alloc (Fr.refl _ _) _
  have hTW := h.kept fW (fun _ _ h => h)
  have hdW := fW.cells hd (fun h => h)
  have KM := hid (tmade_any hTW)
  have u0 : W.cell? ⟨w.heap.size, 0, none⟩ = some (ptr d) := by rw [← hW]; exact cellA (j := 0) (Go.heap_alloc_new w _) rfl
  have d0 : W.cell? ⟨d, 0, none⟩ = some (ptr p) := cellA (j := 0) hdW rfl
  have d1 : W.cell? ⟨d, 1, none⟩ = some (.int .i64 num) := cellA (j := 1) hdW rfl
  have p2 : W.cell? ⟨p, 2, none⟩ = some (.int .i64 last) := cellA (j := 2) hTW.cells rfl
  have C0 := hid (show ∀ V, Fr (fun _ => False) W V → V.cell? ⟨w.heap.size, 0, none⟩ = some (ptr d) ∧ V.cell? ⟨d, 0, none⟩ = some (ptr p) ∧ V.cell? ⟨d, 1, none⟩ = some (.int .i64 num) ∧ V.cell? ⟨p, 2, none⟩ = some (.int .i64 last) from fun V hf => ⟨cellFr hf (fun h => h) u0, cellFr hf (fun h => h) d0, cellFr hf (fun h => h) d1, cellFr hf (fun h => h) p2⟩)
  have e1 : (num == last) = false := by simp [hn]
  have FW := hid (show Fr (fun _ => False) w W.drew from fW.trans (Fr.drew (Fr.refl (fun _ => False) W)) (fun _ _ h => h))
  have HW := hid hW
  clear h hd hTW hdW fW hW
  go_enter Tryz.func61, Tryz.ntmps61
  go_wp2_with (go_at_call 42; rw [HW.out]; refine KM.out.mono ?_; rintro e wx ⟨rfl, rfl⟩)
  have hmx : Tryz.prog.follows .mixedOrders = true := by kernel_rfl
  refine wp_region_held (S := fun V => Fr (fun _ => False) W V) hmx ?_
  have hS := (Fr.drew (Fr.refl (fun _ => False) W))
  simp only [List.size_toArray, List.length_cons, List.length_nil, Nat.reduceAdd, Array.replicate_succ, Array.replicate_zero, List.push_toArray, List.nil_append, List.cons_append]
  refine wpAnyH_take (i := 0) (v := ?_) rfl (by kernel_rfl) (by kernel_rfl) (by kernel_rfl) (fun _ _ _ h => h) (Or.inl ⟨by kernel_rfl, ?_⟩) hS ?_
  rotate_left 1
  · (intro w' hS'; clear hS'; go_simp; try with_reducible rfl)
  simp only [List.getElem_toArray, List.getElem_cons_zero, List.getElem_cons_succ, Act.put, List.setIfInBounds_toArray, List.set_cons_zero, List.set_cons_succ]
  refine wpAnyH_take (i := 1) (v := ?_) rfl (by kernel_rfl) (by kernel_rfl) (by kernel_rfl) (fun _ _ _ h => h) (Or.inl ⟨by kernel_rfl, ?_⟩) hS ?_
  rotate_left 1
  · (intro w' hS'; have h1 := (C0.out w' hS').1; clear hS'; go_simp; try with_reducible rfl)
  simp only [List.getElem_toArray, List.getElem_cons_zero, List.getElem_cons_succ, Act.put, List.setIfInBounds_toArray, List.set_cons_zero, List.set_cons_succ]
  refine wpAnyH_take (i := 2) (v := ?_) rfl (by kernel_rfl) (by kernel_rfl) (by kernel_rfl) (fun _ _ _ h => h) (Or.inl ⟨by kernel_rfl, ?_⟩) hS ?_
  rotate_left 1
  · (intro w' hS'; clear hS'; go_simp; try with_reducible rfl)
  simp only [List.getElem_toArray, List.getElem_cons_zero, List.getElem_cons_succ, Act.put, List.setIfInBounds_toArray, List.set_cons_zero, List.set_cons_succ]
  refine wpAnyH_take (i := 3) (v := ?_) rfl (by kernel_rfl) (by kernel_rfl) (by kernel_rfl) (fun _ _ _ h => h) (Or.inl ⟨by kernel_rfl, ?_⟩) hS ?_
  rotate_left 1
  · (intro w' hS'; clear hS'; go_simp; try with_reducible rfl)
  simp only [List.getElem_toArray, List.getElem_cons_zero, List.getElem_cons_succ, Act.put, List.setIfInBounds_toArray, List.set_cons_zero, List.set_cons_succ]
  refine wpAnyH_take (i := 4) (v := ?_) rfl (by kernel_rfl) (by kernel_rfl) (by kernel_rfl) (fun _ _ _ h => h) (Or.inl ⟨by kernel_rfl, ?_⟩) hS ?_
  rotate_left 1
  · (intro w' hS'; have h1 := (C0.out w' hS').2.1; clear hS'; go_simp; try with_reducible rfl)
  simp only [List.getElem_toArray, List.getElem_cons_zero, List.getElem_cons_succ, Act.put, List.setIfInBounds_toArray, List.set_cons_zero, List.set_cons_succ]
  refine wpAnyH_take (i := 5) (v := ?_) rfl (by kernel_rfl) (by kernel_rfl) (by kernel_rfl) (fun _ _ _ h => h) (Or.inl ⟨by kernel_rfl, ?_⟩) hS ?_
  rotate_left 1
  · (intro w' hS'; clear hS'; go_simp; try with_reducible rfl)
  simp only [List.getElem_toArray, List.getElem_cons_zero, List.getElem_cons_succ, Act.put, List.setIfInBounds_toArray, List.set_cons_zero, List.set_cons_succ]
  refine wpAnyH_take (i := 6) (v := .bool false) rfl (by kernel_rfl) (by kernel_rfl) (by kernel_rfl) (fun _ _ _ h => h) (Or.inl ⟨by kernel_rfl, fun w' hS' => by (clear hS'; go_simp; rw [ptr_self]; rfl)⟩) hS ?_
  simp only [List.getElem_toArray, List.getElem_cons_zero, List.getElem_cons_succ, Act.put, List.setIfInBounds_toArray, List.set_cons_zero, List.set_cons_succ]
  refine wpAnyH_take (i := 7) (v := ?_) rfl (by kernel_rfl) (by kernel_rfl) (by kernel_rfl) (fun _ _ _ h => h) (Or.inl ⟨by kernel_rfl, ?_⟩) hS ?_
  rotate_left 1
  · (intro w' hS'; clear hS'; go_simp; try with_reducible rfl)
  simp only [List.getElem_toArray, List.getElem_cons_zero, List.getElem_cons_succ, Act.put, List.setIfInBounds_toArray, List.set_cons_zero, List.set_cons_succ]
  refine wpAnyH_take (i := 8) (v := ?_) rfl (by kernel_rfl) (by kernel_rfl) (by kernel_rfl) (fun _ _ _ h => h) (Or.inl ⟨by kernel_rfl, ?_⟩) hS ?_
  rotate_left 1
  · (intro w' hS'; clear hS'; go_simp; try with_reducible rfl)
  simp only [List.getElem_toArray, List.getElem_cons_zero, List.getElem_cons_succ, Act.put, List.setIfInBounds_toArray, List.set_cons_zero, List.set_cons_succ]
  refine wpAnyH_take (i := 9) (v := ?_) rfl (by kernel_rfl) (by kernel_rfl) (by kernel_rfl) (fun _ _ _ h => h) (Or.inl ⟨by kernel_rfl, ?_⟩) hS ?_
  rotate_left 1
  · (intro w' hS'; have h1 := (C0.out w' hS').1; clear hS'; go_simp; try with_reducible rfl)
  simp only [List.getElem_toArray, List.getElem_cons_zero, List.getElem_cons_succ, Act.put, List.setIfInBounds_toArray, List.set_cons_zero, List.set_cons_succ]
  refine wpAnyH_take (i := 10) (v := ?_) rfl (by kernel_rfl) (by kernel_rfl) (by kernel_rfl) (fun _ _ _ h => h) (Or.inl ⟨by kernel_rfl, ?_⟩) hS ?_
  rotate_left 1
  · (intro w' hS'; clear hS'; go_simp; try with_reducible rfl)
  simp only [List.getElem_toArray, List.getElem_cons_zero, List.getElem_cons_succ, Act.put, List.setIfInBounds_toArray, List.set_cons_zero, List.set_cons_succ]
  refine wpAnyH_take (i := 11) (v := ?_) rfl (by kernel_rfl) (by kernel_rfl) (by kernel_rfl) (fun _ _ _ h => h) (Or.inl ⟨by kernel_rfl, ?_⟩) hS ?_
  rotate_left 1
  · (intro w' hS'; clear hS'; go_simp; try with_reducible rfl)
  simp only [List.getElem_toArray, List.getElem_cons_zero, List.getElem_cons_succ, Act.put, List.setIfInBounds_toArray, List.set_cons_zero, List.set_cons_succ]
  refine wpAnyH_take (i := 12) (v := ?_) rfl (by kernel_rfl) (by kernel_rfl) (by kernel_rfl) (fun _ _ _ h => h) (Or.inl ⟨by kernel_rfl, ?_⟩) hS ?_
  rotate_left 1
  · (intro w' hS'; have h1 := (C0.out w' hS').2.2.1; clear hS'; go_simp; try with_reducible rfl)
  simp only [List.getElem_toArray, List.getElem_cons_zero, List.getElem_cons_succ, Act.put, List.setIfInBounds_toArray, List.set_cons_zero, List.set_cons_succ]
  refine wpAnyH_take (i := 13) (v := ?_) rfl (by kernel_rfl) (by kernel_rfl) (by kernel_rfl) (fun _ _ _ h => h) (Or.inl ⟨by kernel_rfl, ?_⟩) hS ?_
  rotate_left 1
  · (intro w' hS'; clear hS'; go_simp; try with_reducible rfl)
  simp only [List.getElem_toArray, List.getElem_cons_zero, List.getElem_cons_succ, Act.put, List.setIfInBounds_toArray, List.set_cons_zero, List.set_cons_succ]
  refine wpAnyH_take (i := 14) (v := ?_) rfl (by kernel_rfl) (by kernel_rfl) (by kernel_rfl) (fun _ _ _ h => h) (Or.inl ⟨by kernel_rfl, ?_⟩) hS ?_
  rotate_left 1
  · (intro w' hS'; clear hS'; go_simp; try with_reducible rfl)
  simp only [List.getElem_toArray, List.getElem_cons_zero, List.getElem_cons_succ, Act.put, List.setIfInBounds_toArray, List.set_cons_zero, List.set_cons_succ]
  refine wpAnyH_take (i := 15) (v := ?_) rfl (by kernel_rfl) (by kernel_rfl) (by kernel_rfl) (fun _ _ _ h => h) (Or.inl ⟨by kernel_rfl, ?_⟩) hS ?_
  rotate_left 1
  · (intro w' hS'; clear hS'; go_simp; try with_reducible rfl)
  simp only [List.getElem_toArray, List.getElem_cons_zero, List.getElem_cons_succ, Act.put, List.setIfInBounds_toArray, List.set_cons_zero, List.set_cons_succ]
  refine wpAnyH_take (i := 16) (v := ?_) rfl (by kernel_rfl) (by kernel_rfl) (by kernel_rfl) (fun _ _ _ h => h) (Or.inl ⟨by kernel_rfl, ?_⟩) hS ?_
  rotate_left 1
  · (intro w' hS'; have h1 := (C0.out w' hS').2.2.2; clear hS'; go_simp; try with_reducible rfl)
  simp only [List.getElem_toArray, List.getElem_cons_zero, List.getElem_cons_succ, Act.put, List.setIfInBounds_toArray, List.set_cons_zero, List.set_cons_succ]
  refine wpAnyH_take (i := 17) (v := ?_) rfl (by kernel_rfl) (by kernel_rfl) (by kernel_rfl) (fun _ _ _ h => h) (Or.inl ⟨by kernel_rfl, ?_⟩) hS ?_
  rotate_left 1
  · (intro w' hS'; clear hS'; go_simp; try with_reducible rfl)
  simp only [List.getElem_toArray, List.getElem_cons_zero, List.getElem_cons_succ, Act.put, List.setIfInBounds_toArray, List.set_cons_zero, List.set_cons_succ]
  refine wpAnyH_take (i := 18) (v := ?_) rfl (by kernel_rfl) (by kernel_rfl) (by kernel_rfl) (fun _ _ _ h => h) (Or.inl ⟨by kernel_rfl, ?_⟩) hS ?_
  rotate_left 1
  · (intro w' hS'; clear hS'; go_simp; try with_reducible rfl)
  simp only [List.getElem_toArray, List.getElem_cons_zero, List.getElem_cons_succ, Act.put, List.setIfInBounds_toArray, List.set_cons_zero, List.set_cons_succ]
  refine wpAnyH_take (i := 19) (v := ?_) rfl (by kernel_rfl) (by kernel_rfl) (by kernel_rfl) (fun _ _ _ h => h) (Or.inl ⟨by kernel_rfl, ?_⟩) hS ?_
  rotate_left 1
  · (intro w' hS'; clear hS'; go_simp; try with_reducible rfl)
  simp only [List.getElem_toArray, List.getElem_cons_zero, List.getElem_cons_succ, Act.put, List.setIfInBounds_toArray, List.set_cons_zero, List.set_cons_succ]
  refine wpAnyH_done (by kernel_rfl) ?_ _
  clear hS
  go_wp2
  go_ret
  exact ⟨rfl, FW.out⟩
end Go.Proofs.YtilbdpnioajkoaaGreat

namespace Go.Proofs.YtilbdpnioajkoaaGreat
open Go.RowKit Go.Maps
set_option linter.unusedVariables false
set_option maxRecDepth 100000
set_option linter.unusedSimpArgs false
set_option maxHeartbeats 1600000 in
theorem do_no {w : World} {v : Value} (o : S.Op) (hmay : ∀ V, Fr (fun _ => False) w V → Calls Tryz.prog 40 #[v, .agg o.cs] V fun e w' => e = .returned (.bool false) ∧ Fr (fun _ => False) V w') : Calls Tryz.prog 19 #[v, .agg o.cs] w fun e w' => e = .returned (.tuple #[.agg #[.pointer none], .bool false]) ∧ Fr (fun _ => False) w w' := by
  obtain ⟨W, hW⟩ : ∃ W, (w.alloc (.cells o.cs 35)).alloc (.cells #[.pointer none] 53) = W := ⟨_, rfl⟩
  have fW : Fr (fun _ => False) w W := by rw [← hW]; exact Fr.alloc (Fr.alloc (Fr.refl _ _) _) _
  have hbx : W.heap[w.heap.size]? = some (.cells o.cs 35 (0, 0)) := by
    rw [← hW]
    exact (Fr.alloc (Fr.refl (fun _ => False) _) _).cells (Go.heap_alloc_new w _) (fun h => h)
  have hbr : W.heap[w.heap.size + 1]? = some (.cells #[.pointer none] 53 (0, 0)) := by
    rw [← hW]
    have := Go.heap_alloc_new (w.alloc (.cells o.cs 35)) (.cells #[.pointer none] 53)
    rw [alloc_size] at this
    exact this
  have LP := hid (load_whole hbx (ty := 35) Tryz.underlying35 rfl (by kernel_rfl))
  have KM := hid (hmay W fW)
  have HW := hid hW
  have FW := hid fW
  have HBR := hid hbr
  clear hW fW hbx hbr hmay
  go_enter Tryz.func19, Tryz.ntmps19
  go_wp2_with (first
    | (rw [HW.out]; refine wpList_load_v LP.out (by exact ⟨_, rfl, rfl⟩) (by kernel_rfl) ?_)
    | (go_at_call 40; refine KM.out.mono ?_; rintro e w1 ⟨rfl, fx⟩; have F1 := hid fx; have r1 : w1.cell? ⟨w.heap.size + 1, 0, none⟩ = some (.pointer none) := cellA (j := 0) (fx.cells HBR.out (fun h => h)) rfl; have r2 : w1.frozen? ⟨w.heap.size + 1, 0, none⟩ = false := frozen_of_row (fx.cells HBR.out (fun h => h)); have R1 := hid (fx.cells HBR.out (fun h => h)); clear fx))
  have b8 := setCell_row (j := 0) R1.out (.pointer none)
  have LR := loadVar_whole b8 (ty := 53) Tryz.underlying53 rfl (by kernel_rfl)
  have f8 : Fr (fun _ => False) w (w1.setCell ⟨w.heap.size + 1, 0, none⟩ (.pointer none)) := Fr.setCell (p := ⟨w.heap.size + 1, 0, none⟩) (FW.out.trans F1.out (fun _ _ h => h)) (fun h => by simp only at h; omega) _
  exact bodyPost_ret (v := .tuple #[.agg #[.pointer none], .bool false]) (results_cell2 Tryz.results19 _ _ _ _ _ _ (by rfl) LR (by rfl)) rfl ⟨rfl, f8⟩
set_option maxHeartbeats 1600000 in
theorem back_zero {c : Nat → Option T.Col} {w : World} {bud p : Nat} {dos last : Int} {t : T.Tr} {mb : Nat} {f : Int → Nat} (h : Tf c w bud p dos last t mb f) :
    Calls Tryz.prog 61 #[ptr p, .agg #[.pointer none]] w fun e w' => e = .returned (.int .i64 0) ∧ Fr (fun _ => False) w w' := by
  have K := hid (tmade_any (h.kept (Fr.alloc (Fr.refl (fun _ => False) w) (.cells #[.pointer none] 53)) (fun _ _ h => h)))
  clear h
  go_enter Tryz.func61, Tryz.ntmps61
  go_wp2_with (go_at_call 42; refine K.out.mono ?_; rintro e wx ⟨rfl, rfl⟩)
  go_ret
  exact ⟨rfl, Fr.alloc (Fr.refl _ _) _⟩
end Go.Proofs.YtilbdpnioajkoaaGreat

namespace Go.Proofs.YtilbdpnioajkoaaGreat
open Go.RowKit Go.Maps
set_option linter.unusedVariables false
set_option maxRecDepth 100000
set_option linter.unusedSimpArgs false
namespace T
/-- a Do, in memory and in plain words -/
structure U where
  d : Nat
  num : Int
  bf : Int
  v : Value
  un : T.Un
/-- what taking back may cost -/
def U.sp (e : U) : Nat := match e.un with | .put _ => 0 | _ => 1
def sps : List U → Nat
  | [] => 0
  | e :: r => e.sp + sps r
/-- it lies in memory -/
def Held (c : Nat → Option Col) (w : World) (p : Nat) (e : U) : Prop :=
  w.heap[e.d]? = some (.cells #[ptr p, .int .i64 e.num, .int .i64 e.bf, e.v] 115 (0, 0)) ∧ c e.d = none ∧ UndoAt c w p e.v e.un
/-- it takes t' back to t -/
def Undoes (f : Int → Nat) (un : T.Un) (t' t : Tr) : Prop := match un with
  | .put n => 2 < n ∧ A.get n t = none ∧ ∃ x, t' = A.put n x t
  | .move n par nm => 2 < n ∧ ∃ x x0, A.get n t = some x0 ∧ x0.par = par ∧ x0.nm = nm ∧ t' = A.put n x t ∧ x.ats = x0.ats
  | .attr b k bf => k.size ≤ 255 ∧ ∃ n x l, A.get n t = some x ∧ b = f n ∧ t' = A.put n ⟨x.par, x.nm, l⟩ t ∧ aset k bf l = x.ats
/-- what was done since t0, the last one first -/
inductive Stk (f : Int → Nat) (t0 : Tr) (l0 : Int) : Tr → List U → Int → Prop where
  | nil : Stk f t0 l0 t0 [] l0
  | cons {t t' : Tr} {e : U} {es : List U} {l : Int} (hw : Wf t) (hu : Undoes f e.un t' t) (hs : Stk f t0 l0 t es l) (hb : e.bf = l) (hn : l < e.num) : Stk f t0 l0 t' (e :: es) e.num
end T
/-- a tree, whole -/
structure Gd (c : Nat → Option T.Col) (w : World) (bud p : Nat) (dos last : Int) (t : T.Tr) (mb : Nat) (f : Int → Nat) : Prop where
  tf : Tf c w bud p dos last t mb f
  lo : Lo c w.heap.size
  wf : T.Wf t
  few : ∀ n x, A.get n t = some x → x.ats.length ≤ bud
  d0 : 0 ≤ dos
theorem Gd.kept {c : Nat → Option T.Col} {w w' : World} {bud p : Nat} {dos last : Int} {t : T.Tr} {mb : Nat} {f : Int → Nat} (h : Gd c w bud p dos last t mb f) {S : Nat → Prop} (hf : Fr S w w') (hS : ∀ i, c i ≠ none → ¬ S i) : Gd c w' bud p dos last t mb f :=
  ⟨h.tf.kept hf hS, fun i hi => Nat.lt_of_lt_of_le (h.lo i hi) hf.size, h.wf, h.few, h.d0⟩
theorem Tf.ext {c : Nat → Option T.Col} {w : World} {bud bud' p : Nat} {dos last : Int} {t : T.Tr} {mb : Nat} {f : Int → Nat} (h : Tf c w bud p dos last t mb f) (hb : bud ≤ bud') : Tf c w bud' p dos last t mb f :=
  ⟨h.cells, h.cp, h.cm, h.map, by have := h.few; omega, fun n x hx => (h.node n x hx).ext (fun _ _ e => e) hb⟩
theorem T.Box.more {c c' : Nat → Option T.Col} {w : World} {b : Nat} {v : Value} (h : T.Box c w b v) (hM : More c c' w.heap.size) : T.Box c' w b v := by
  obtain ⟨⟨ty, h1⟩, h2⟩ := h
  exact ⟨⟨ty, h1⟩, by rw [hM b (lt_of_row h1)]; exact h2⟩
theorem T.UndoAt.more {c c' : Nat → Option T.Col} {w : World} {p : Nat} {v : Value} {u : T.Un} (h : T.UndoAt c w p v u) (hM : More c c' w.heap.size) : T.UndoAt c' w p v u := by
  cases u with
  | put n =>
    obtain ⟨bt, bn, e, h1, h2⟩ := h
    exact ⟨bt, bn, e, h1.more hM, h2.more hM⟩
  | move n par nm =>
    obtain ⟨bt, bn, bf, e, h1, h2, ⟨ty, h3⟩, h4⟩ := h
    exact ⟨bt, bn, bf, e, h1.more hM, h2.more hM, ⟨ty, h3⟩, by rw [hM bf (lt_of_row h3)]; exact h4⟩
  | attr b k bf =>
    obtain ⟨bx, bk, bb, e, h1, h2, h3⟩ := h
    exact ⟨bx, bk, bb, e, h1.more hM, h2.more hM, h3.more hM⟩
theorem T.Held.kept {S : Nat → Prop} {c : Nat → Option T.Col} {w w' : World} {p : Nat} {e : T.U} (h : T.Held c w p e) (hf : Fr S w w') (hS : ∀ i, c i = none → i < w.heap.size → ¬ S i) : T.Held c w' p e :=
  ⟨hf.cells h.1 (hS _ h.2.1 (lt_of_row h.1)), h.2.1, h.2.2.kept hf (fun i cs _ hn ⟨ty, hy⟩ => hS i hn (lt_of_row hy))⟩
/-- it stays through what writes the tree's own blocks alone -/
theorem T.Held.goes {c c' : Nat → Option T.Col} {w w' : World} {p : Nat} {e : T.U} (h : T.Held c w p e) (hf : Fr (fun i => c i ≠ none) w w') (hM : More c c' w.heap.size) : T.Held c' w' p e := by
  have h1 : T.Held c' w p e := ⟨h.1, by rw [hM _ (lt_of_row h.1)]; exact h.2.1, h.2.2.more hM⟩
  exact h1.kept hf (fun i hn hi e => e (by rw [← hM i hi]; exact hn))
theorem T.Undoes.some {f : Int → Nat} {un : T.Un} {t' t : T.Tr} (h : T.Undoes f un t' t) (ht : A.Up t) {k : Int} (hk : (A.get k t).isSome = true) : (A.get k t').isSome = true := by
  have key : ∀ n x, t' = A.put n x t → (A.get k t').isSome = true := fun n x e => by
    rw [e, T.get_put ht]
    by_cases e : k = n
    · rw [if_pos e]; rfl
    · rw [if_neg e]; exact hk
  cases un with
  | put n => obtain ⟨_, _, x, e⟩ := h; exact key n x e
  | move n par nm => obtain ⟨_, x, x0, _, _, _, e, _⟩ := h; exact key n x e
  | attr b k bf => obtain ⟨_, n, x, l, _, _, e, _⟩ := h; exact key n _ e
theorem T.Stk.moves {f f' : Int → Nat} {t0 t : T.Tr} {l0 l : Int} {es : List T.U} (h : T.Stk f t0 l0 t es l) : (∀ k, (A.get k t).isSome = true → f' k = f k) → T.Stk f' t0 l0 t es l := by
  induction h with
  | nil => exact fun _ => .nil
  | @cons t t' e es l hw hu hs hb hn ih =>
    intro hf
    have hd := hu
    refine .cons hw ?_ (ih (fun k hk => hf k (hu.some hw.up hk))) hb hn
    cases hun : e.un with
    | put n => rw [hun] at hd; exact hd
    | move n par nm => rw [hun] at hd; exact hd
    | attr b k bf =>
      rw [hun] at hd hu
      obtain ⟨h1, n, x, l, h2, h3, h4, h5⟩ := hd
      exact ⟨h1, n, x, l, h2, by rw [hf n (hu.some hw.up (by rw [h2]; rfl))]; exact h3, h4, h5⟩
theorem T.Stk.nums {f : Int → Nat} {t0 t : T.Tr} {l0 l : Int} {es : List T.U} (h : T.Stk f t0 l0 t es l) : (∀ e ∈ es, e.num ≤ l) ∧ l0 ≤ l := by
  induction h with
  | nil => exact ⟨(fun e he => by cases he), Int.le_refl _⟩
  | @cons t t' e es l hw hu hs hb hn ih =>
    refine ⟨fun x hx => ?_, by have := ih.2; omega⟩
    rcases List.mem_cons.1 hx with rfl | hx
    · exact Int.le_refl _
    · have := ih.1 x hx; omega
theorem wfI {n : Int} (h : 0 ≤ n ∧ n ≤ 9223372036854775807) : (Lit.int .i64 n).wf = true := wfT (by omega) h.2
theorem T.Wf.parwf {t : T.Tr} (h : T.Wf t) (k : Int) (x : T.Nd) (hx : A.get k t = some x) : (Lit.int .i64 x.par).wf = true := by
  rcases h.par hx with e | e
  · rw [e]; decide
  · obtain ⟨y, hy⟩ := Option.isSome_iff_exists.1 e
    have := h.num _ _ hy
    exact wfI (by omega)
/-- the guard, whole -/
theorem tmay_any {c : Nat → Option T.Col} {w : World} {bud p : Nat} {dos last : Int} {t : T.Tr} {mb : Nat} {f : Int → Nat} (h : Gd c w bud p dos last t mb f) (o : S.Op) (hi : o.in64) :
    Calls Tryz.prog 40 #[ptr p, .agg o.cs] w fun e w' => e = .returned (.bool (T.guard t o)) ∧ Fr (fun _ => False) w w' := by
  obtain ⟨K, hK⟩ := h.wf.fin
  rw [← T.may_guard hK o]
  exact may_any h.tf h.lo h.wf.parwf hK o hi
theorem T.few_step {t : T.Tr} {bud : Nat} (hw : T.Wf t) (hf : ∀ n x, A.get n t = some x → x.ats.length ≤ bud) (o : S.Op) : ∀ n x, A.get n (T.doOp t o) = some x → x.ats.length ≤ bud + 1 := fun n x hx => by
  unfold T.doOp at hx
  by_cases hk : o.k = 3
  · rw [if_pos hk] at hx
    cases hg : A.get o.n t with
    | none => rw [hg] at hx; have := hf n x hx; omega
    | some y =>
      rw [hg] at hx
      simp only [] at hx
      rw [T.get_put hw.up] at hx
      by_cases e : n = o.n
      · rw [if_pos e] at hx
        cases hx
        have h1 := hf _ _ hg
        have h2 := T.length_aset (k := o.b) (v := o.c) (hw.ats _ _ hg).1
        simp only
        rw [h2]
        split <;> split <;> omega
      · rw [if_neg e] at hx
        have := hf n x hx; omega
  · rw [if_neg hk, T.get_put hw.up] at hx
    by_cases e : n = o.n
    · rw [if_pos e] at hx
      cases hx
      cases hg : A.get o.n t with
      | none => simp
      | some y => have := hf _ _ hg; simp; omega
    · rw [if_neg e] at hx
      have := hf n x hx; omega
set_option maxHeartbeats 1600000 in
/-- Do, of what the guard takes -/
theorem tdo_any {c : Nat → Option T.Col} {w : World} {bud p : Nat} {dos last : Int} {t : T.Tr} {mb : Nat} {f : Int → Nat} (h : Gd c w bud p dos last t mb f) (hb : bud < 8000000000000) (hd : dos < 1000000000000000000) (o : S.Op) (hi : o.in64) (hg : T.guard t o = true) :
    Calls Tryz.prog 19 #[ptr p, .agg o.cs] w fun e w' => Fr (fun i => c i ≠ none) w w' ∧ ∃ d v un c' f' bud', e = .returned (.tuple #[.agg #[ptr d], .bool true]) ∧ More c c' w.heap.size ∧ Gd c' w' bud' p (dos + 1) (dos + 1) (T.doOp t o) mb f' ∧ T.Held c' w' p ⟨d, dos + 1, last, v, un⟩ ∧ T.Undoes f' un (T.doOp t o) t ∧ (∀ k, (A.get k t).isSome = true → f' k = f k) ∧ bud' + T.U.sp ⟨d, dos + 1, last, v, un⟩ = bud + 2 := by
  have hm : ∀ V, Fr (fun _ => False) w V → Calls Tryz.prog 40 #[ptr p, .agg o.cs] V fun e w' => e = .returned (.bool true) ∧ Fr (fun _ => False) V w' := fun V hf => by
    have := tmay_any (h.kept hf (fun _ _ h => h)) o hi
    rw [hg] at this
    exact this
  have hstep := h.wf.step hi.1.2 hg
  have hfew := T.few_step h.wf h.few o
  have lo : ∀ V, Fr (fun _ => False) w V → Lo c V.heap.size := fun V hf i hi => Nat.lt_of_lt_of_le (h.lo i hi) hf.size
  rcases T.guard_k hg with hk | hk | hk
  · obtain ⟨h1, h2, h3, h4⟩ := T.guard1 hg hk
    obtain ⟨y, hy⟩ := Option.isSome_iff_exists.1 h3
    have e : T.doOp t o = A.put o.n ⟨o.p, o.a, []⟩ t := by unfold T.doOp; rw [if_neg (by omega), h2]; rfl
    rw [e] at hstep hfew ⊢
    refine (do_any (bud' := bud + 2) (t' := A.put o.n ⟨o.p, o.a, []⟩ t) (f' := f) (u := .put o.n) (R := fun f' => ∀ k, k ≠ o.n → f' k = f k) h.tf h.lo h.d0 hd o hm (fun V hf => ?_)).mono ?_
    · refine (change1_any (w := V) (h.tf.kept hf (fun _ _ h => h)) (lo V hf) hb h.wf.up h.wf.h0 o hi hk h1 (T.nam_ne h4) h2 (h.wf.kids_free h2 h1) hy).mono ?_
      rintro e w' ⟨k1, v, c', f', k2, k3, k4, k5, k6, k7⟩
      exact ⟨k1, v, c', k2, k3, k4, f', k5, k6, k7⟩
    · rintro e w' ⟨k1, d, v, c', f', k2, k3, k4, k5, k6, k7, k8, k9⟩
      refine ⟨k1, d, v, .put o.n, c', f', bud + 2, k2, k3, ⟨k5, k4, hstep, fun n x hx => by have := hfew n x hx; omega, by have := h.d0; omega⟩, ⟨k7, k8, k6⟩, ⟨h1, h2, _, rfl⟩, fun k hk => k9 k (fun e => by rw [e, h2] at hk; cases hk), rfl⟩
  · obtain ⟨h1, ⟨x, h2⟩, h3, h4, h5⟩ := T.guard2 hg hk
    obtain ⟨y, hy⟩ := Option.isSome_iff_exists.1 h3
    have hl := h.wf.low o.n x h2 h1
    obtain ⟨y0, hy0⟩ := Option.isSome_iff_exists.1 hl.1
    have hpn : o.p ≠ o.n := fun e => by
      have hu : T.below t o.p o.n = true := by
        rw [e]
        unfold T.below
        exact @decide_eq_true _ (Classical.propDecidable _) ⟨1, by unfold T.up; rw [h2]; simp⟩
      rw [h5] at hu; cases hu
    have e : T.doOp t o = A.put o.n ⟨o.p, o.a, x.ats⟩ t := by unfold T.doOp; rw [if_neg (by omega), h2]; rfl
    rw [e] at hstep hfew ⊢
    refine (do_any (bud' := bud + 1) (t' := A.put o.n ⟨o.p, o.a, x.ats⟩ t) (f' := f) (u := .move o.n x.par x.nm) (R := fun f' => ∀ k, f' k = f k) h.tf h.lo h.d0 hd o hm (fun V hf => ?_)).mono ?_
    · refine (change2_any (w := V) (h.tf.kept hf (fun _ _ h => h)) (lo V hf) hb h.wf.up h.wf.h0 o hi hk h1 (T.nam_ne h4) h2 (h.wf.parwf _ _ h2) (h.wf.own h2) (by have := T.nam_ne hl.2; unfold maxLen; omega) hy0 hpn hy).mono ?_
      rintro e w' ⟨k1, v, c', k2, k3, k4, k5, k6⟩
      exact ⟨k1, v, c', k2, k3, k4, f, k5, k6, fun _ => rfl⟩
    · rintro e w' ⟨k1, d, v, c', f', k2, k3, k4, k5, k6, k7, k8, k9⟩
      exact ⟨k1, d, v, .move o.n x.par x.nm, c', f', bud + 1, k2, k3, ⟨k5, k4, hstep, hfew, by have := h.d0; omega⟩, ⟨k7, k8, k6⟩, ⟨h1, _, x, h2, rfl, rfl, rfl, rfl⟩, fun k _ => k9 k, rfl⟩
  · obtain ⟨⟨x, h1⟩, h2, h3⟩ := T.guard3 hg hk
    have hat := h.wf.ats _ _ h1
    have e : T.doOp t o = A.put o.n ⟨x.par, x.nm, T.aset o.b o.c x.ats⟩ t := by unfold T.doOp; rw [if_pos hk, h1]
    rw [e] at hstep hfew ⊢
    have hk255 := (T.txt_ne h2).2
    refine (do_any (bud' := bud) (t' := A.put o.n ⟨x.par, x.nm, T.aset o.b o.c x.ats⟩ t) (f' := f) (u := .attr (f o.n) o.b ((T.aget o.b x.ats).getD ⟨#[]⟩)) (R := fun f' => ∀ k, f' k = f k) h.tf h.lo h.d0 hd o hm (fun V hf => ?_)).mono ?_
    · refine (change3_any (w := V) (h.tf.kept hf (fun _ _ h => h)) (lo V hf) h.wf.up o hi hk hk255 h3 h1 hat.1 (by have := h.few _ _ h1; omega)).mono ?_
      rintro e w' ⟨k1, v, c', k2, k3, k4, k5, k6⟩
      exact ⟨k1, v, c', k2, k3, k4, f, k5, k6, fun _ => rfl⟩
    · rintro e w' ⟨k1, d, v, c', f', k2, k3, k4, k5, k6, k7, k8, k9⟩
      refine ⟨k1, d, v, .attr (f o.n) o.b ((T.aget o.b x.ats).getD ⟨#[]⟩), c', f', bud + 1, k2, k3, ⟨k5.ext (by omega), k4, hstep, hfew, by have := h.d0; omega⟩, ⟨k7, k8, k6⟩, ⟨hk255, o.n, x, _, h1, by rw [k9], rfl, T.aset_back hat.1 (fun p hp => (T.txt_ne (hat.2 p hp).2).1) _ _⟩, fun k _ => k9 k, rfl⟩
set_option maxHeartbeats 1600000 in
/-- Back, of what was done last -/
theorem tback_any {c : Nat → Option T.Col} {w : World} {bud p : Nat} {dos : Int} {t t' : T.Tr} {mb : Nat} {f : Int → Nat} {e : T.U} (h : Gd c w bud p dos e.num t' mb f) (hb : bud < 8000000000000) (hH : T.Held c w p e) (hw : T.Wf t) (hu : T.Undoes f e.un t' t) :
    Calls Tryz.prog 61 #[ptr p, .agg #[ptr e.d]] w fun r w' => r = .returned (.int .i64 0) ∧ Fr (fun i => c i ≠ none) w w' ∧ ∃ c', More c c' w.heap.size ∧ Gd c' w' (bud + e.sp) p dos e.bf t mb f := by
  have lo : ∀ V, Fr (fun _ => False) w V → Lo c V.heap.size := fun V hf i hi => Nat.lt_of_lt_of_le (h.lo i hi) hf.size
  obtain ⟨d, num, bf, v, un⟩ := e
  obtain ⟨hd, hcd, hat⟩ := hH
  simp only at hd hcd hat hu h ⊢
  cases un with
  | put n =>
    obtain ⟨h2, h3, x, rfl⟩ := hu
    obtain ⟨bt, bn, rfl, b1, b2⟩ := hat
    have hx : A.get n (A.put n x t) = some x := A.get_put_same hw.up n x
    obtain ⟨y, hy⟩ := Option.isSome_iff_exists.1 (h.wf.low n x hx h2).1
    have ed : A.del n (A.put n x t) = t := by rw [A.del_put hw.up, A.del_get h3]
    refine (back_put (bud' := bud) (t' := t) (f' := f) h.tf h.lo hd hcd (fun V hf => ?_)).mono ?_
    · refine (put1_any (w := V) (h.tf.kept hf (fun _ _ h => h)) (by omega) h.wf.up h.wf.h0 (wfI (by have := h.wf.num _ _ hx; omega)) h2 hx (h.wf.parwf _ _ hx) (h.wf.own hx) (by have := T.nam_ne (h.wf.low n x hx h2).2; unfold maxLen; omega) hy (b1.kept hf (fun _ _ _ h => h)) (b2.kept hf (fun _ _ _ h => h))).mono ?_
      rintro e w' ⟨k1, k2, k3⟩
      rw [ed] at k3
      exact ⟨k1, k2, c, fun i _ => rfl, fun i hi => Nat.lt_of_lt_of_le (lo V hf i hi) k2.size, k3⟩
    · rintro e w' ⟨k1, k2, c', k3, k4, k5⟩
      refine ⟨k1, k2, c', k3, k5, k4, hw, fun m z hz => h.few m z ?_, h.d0⟩
      rw [T.get_put hw.up, if_neg (fun e => by rw [e, h3] at hz; cases hz)]
      exact hz
  | move n par nm =>
    obtain ⟨h2, x, x0, h3, rfl, rfl, rfl, hxa⟩ := hu
    obtain ⟨bt, bn, bf2, rfl, b1, b2, ⟨ty, b3⟩, b4⟩ := hat
    have hx : A.get n (A.put n x t) = some x := A.get_put_same hw.up n x
    obtain ⟨y, hy⟩ := Option.isSome_iff_exists.1 (h.wf.low n x hx h2).1
    have l0 := hw.low n x0 h3 h2
    obtain ⟨y0, hy0⟩ := Option.isSome_iff_exists.1 l0.1
    have hx0n := hw.own h3
    have eb : A.put n ⟨x0.par, x0.nm, x.ats⟩ (A.put n x t) = t := by rw [A.put_put hw.up, hxa, A.put_get hw.up h3]
    refine (back_move (bud' := bud + 1) (t' := t) (f' := f) h.tf h.lo hd hcd (fun V hf => ?_)).mono ?_
    · refine (move1_any (w := V) (par := x0.par) (nm := x0.nm) (y := y0) (h.tf.kept hf (fun _ _ h => h)) (lo V hf) hb h.wf.up h.wf.h0 (wfI (by have := h.wf.num _ _ hx; omega)) h2 (hw.parwf _ _ h3) (by have := T.nam_ne l0.2; unfold maxLen; omega) hx (h.wf.parwf _ _ hx) (h.wf.own hx) (by have := T.nam_ne (h.wf.low n x hx h2).2; unfold maxLen; omega) hy hx0n (by rw [A.get_put_other hw.up hx0n]; exact hy0) (b1.kept hf (fun _ _ _ h => h)) (b2.kept hf (fun _ _ _ h => h)) (hf.cells b3 (fun h => h)) b4).mono ?_
      rintro e w' ⟨k1, k2, c', k3, k4, k5⟩
      rw [eb] at k5
      exact ⟨k1, k2, c', k3, k4, k5⟩
    · rintro e w' ⟨k1, k2, c', k3, k4, k5⟩
      refine ⟨k1, k2, c', k3, k5, k4, hw, fun m z hz => ?_, h.d0⟩
      by_cases e : m = n
      · subst e
        rw [h3] at hz
        cases hz
        have := h.few _ _ hx
        rw [hxa] at this
        simp only [T.U.sp]
        omega
      · have := h.few m z (by rw [A.get_put_other hw.up e]; exact hz)
        simp only [T.U.sp]
        omega
  | attr b k bf2 =>
    obtain ⟨hk, n, x, l, h1, rfl, rfl, hl⟩ := hu
    obtain ⟨bx, bk, bb, rfl, b1, b2, b3⟩ := hat
    have hx : A.get n (A.put n ⟨x.par, x.nm, l⟩ t) = some ⟨x.par, x.nm, l⟩ := A.get_put_same hw.up n _
    have eb : A.put n ⟨x.par, x.nm, T.aset k bf2 l⟩ (A.put n ⟨x.par, x.nm, l⟩ t) = t := by rw [A.put_put hw.up, hl, A.put_get hw.up h1]
    refine (back_attr (bud' := bud) (t' := t) (f' := f) h.tf h.lo hd hcd (fun V hf => ?_)).mono ?_
    · have hV := h.tf.kept hf (fun _ _ h => h)
      refine (alter1_any (w := V) (v := bf2) (hV.node n _ hx) (lo V hf) (by unfold maxLen; omega) (h.wf.ats _ _ hx).1 (by have := h.few _ _ hx; simp only at this ⊢; omega) (b1.kept hf (fun _ _ _ h => h)) (b2.kept hf (fun _ _ _ h => h)) (b3.kept hf (fun _ _ _ h => h))).mono ?_
      rintro e w' ⟨k1, k2, c', k3, k4, k5⟩
      have k6 := hV.altered (lo V hf) h.wf.up hx k2 k3 k5
      simp only at k6
      rw [eb] at k6
      exact ⟨k1, k2.mono (fun i _ ⟨col, e1, _⟩ => by rw [e1]; simp), c', k3, k4, k6⟩
    · rintro e w' ⟨k1, k2, c', k3, k4, k5⟩
      refine ⟨k1, k2, c', k3, k5.ext (by simp [T.U.sp]), k4, hw, fun m z hz => ?_, h.d0⟩
      simp only [T.U.sp]
      by_cases e : m = n
      · subst e
        rw [h1] at hz
        cases hz
        have h6 := h.few _ _ hx
        have h7 := T.length_aset (k := k) (v := bf2) (h.wf.ats _ _ hx).1
        simp only at h6 h7
        rw [hl] at h7
        rw [h7]
        split <;> split <;> omega
      · have := h.few m z (by rw [A.get_put_other hw.up e]; exact hz)
        omega
end Go.Proofs.YtilbdpnioajkoaaGreat

/-
  New: the root and the trash alone.
  A node is made: put.
  A node is moved: move.
-/
import Derived.Test.YtilbdpnioajkoaaGreatMg4
import Derived.Test.YtilbdpnioajkoaaGreatTEnterQ
import Derived.Test.YtilbdpnioajkoaaGreatTLeaveQ
namespace Go.Proofs.YtilbdpnioajkoaaGreat
open Go.RowKit Go.Maps
set_option linter.unusedVariables false
set_option maxRecDepth 100000
set_option linter.unusedSimpArgs false

abbrev zNode : Obj := .cells #[.int .i64 0, .string ⟨#[]⟩, .map none, .map none] 80 (0, 0)
def T.newCol (w : World) (a b p : Nat) : Nat → Option T.Col := fun i => if i = w.heap.size then some .nodes else if i = a then some (.node 1) else if i = b then some (.node 2) else if i = p then some .tree else none
set_option maxHeartbeats 1600000 in
theorem tnew_any (w : World) : Calls Tryz.prog 6 #[] w fun e w' => ∃ p c, e = .returned (ptr p) ∧ Tm c w' 0 p 0 0 T.zero ∧ Fr (fun _ => False) w w' ∧ ∀ i, c i ≠ none → w.heap.size ≤ i ∧ i < w'.heap.size := by
  have hmm := @run_makeMap Tryz.prog
  obtain ⟨w1, r1, m1, f1⟩ := Mp.store (w := (w.alloc (.map #[] 0)).alloc zNode) (Mp.kept (Mp.made 2 litI w) (S := fun _ => False) (Fr.alloc (Fr.refl _ _) _) (fun h => h)) litI_inj keyI Tryz.underlying81 (by decide) (keyOfI (x := 1) (by decide)) (ptr (w.heap.size + 1))
  obtain ⟨w2, r2, m2, f2⟩ := Mp.store (w := w1.alloc zNode) (Mp.kept m1 (S := fun _ => False) (Fr.alloc (Fr.refl _ _) _) (fun h => h)) litI_inj keyI Tryz.underlying81 (by decide) (keyOfI (x := 2) (by decide)) (ptr w1.heap.size)
  have R1 := hid r1
  have R2 := hid r2
  clear r1 r2
  go_enter Tryz.func6, Tryz.ntmps6
  go_wp2_with (first
    | (refine wpList_ins_v R1.out (by exact ⟨_, _, _, rfl, rfl, rfl, rfl⟩) (by kernel_rfl) ?_)
    | (refine wpList_ins_v R2.out (by exact ⟨_, _, _, rfl, rfl, rfl, rfl⟩) (by kernel_rfl) ?_))
  have z1 : w.heap.size + 2 ≤ w1.heap.size := by have := f1.size; rw [alloc_size, alloc_size] at this; omega
  have z2 : w1.heap.size + 1 ≤ w2.heap.size := by have := f2.size; rw [alloc_size] at this; omega
  have f3 : Fr (fun _ => False) w2 (w2.alloc (.cells #[.map (some w.heap.size), .int .i64 0, .int .i64 0] 83 (0, 0))) := Fr.alloc (Fr.refl _ _) _
  have hF : Fr (fun i => i = w.heap.size) ((w.alloc (.map #[] 0)).alloc zNode) (w2.alloc (.cells #[.map (some w.heap.size), .int .i64 0, .int .i64 0] 83 (0, 0))) :=
    ((f1.trans (Fr.alloc (Fr.refl (fun i => i = w.heap.size) _) zNode) (fun i _ h => h)).trans f2 (fun i _ h => h)).trans f3 (fun i _ h => h.elim)
  go_ret
  refine ⟨w2.heap.size, T.newCol w (w.heap.size + 1) w1.heap.size w2.heap.size, rfl, ⟨w.heap.size, fun n => if n = 1 then w.heap.size + 1 else w1.heap.size, Go.heap_alloc_new w2 _, ?_, ?_, ?_, ?_, ?_⟩, ?_, ?_⟩
  · unfold T.newCol
    rw [if_neg (by omega), if_neg (by omega), if_neg (by omega), if_pos rfl]
  · unfold T.newCol
    rw [if_pos rfl]
  · have e : (fun n => (A.get n T.zero).map (fun _ => ptr (if n = 1 then w.heap.size + 1 else w1.heap.size))) = at_ (at_ (fun _ => none) 1 (some (ptr (w.heap.size + 1)))) 2 (some (ptr w1.heap.size)) := by
      funext n
      unfold at_ T.zero A.get
      by_cases h2 : n = 2
      · subst h2; rfl
      · by_cases h1 : n = 1
        · subst h1; rfl
        · have b1 : ((1 : Int) == n) = false := by simp; omega
          have b2 : ((2 : Int) == n) = false := by simp; omega
          simp [List.find?, b1, b2, h1, h2]
    rw [e]
    exact m2.kept f3 (fun h => h)
  · decide
  · intro n x hx
    have hm := A.get_mem hx
    simp only [T.zero, List.mem_cons, Prod.mk.injEq, List.not_mem_nil, or_false] at hm
    rcases hm with ⟨rfl, rfl⟩ | ⟨rfl, rfl⟩
    · refine Nm.fresh (hF.cells (p := w.heap.size + 1) ?_ (by omega)) ?_
      · have := Go.heap_alloc_new (w.alloc (.map #[] 0)) zNode
        rw [alloc_size] at this
        exact this
      · show T.newCol w (w.heap.size + 1) w1.heap.size w2.heap.size (w.heap.size + 1) = some (.node 1)
        unfold T.newCol
        rw [if_neg (by omega), if_pos rfl]
    · refine Nm.fresh ((f2.trans f3 (fun i _ h => h.elim)).cells (p := w1.heap.size) ?_ (by omega)) ?_
      · exact Go.heap_alloc_new w1 zNode
      · show T.newCol w (w.heap.size + 1) w1.heap.size w2.heap.size w1.heap.size = some (.node 2)
        unfold T.newCol
        rw [if_neg (by omega), if_neg (by omega), if_pos rfl]
  · exact ((Fr.alloc (Fr.alloc (Fr.refl _ w) _) _).trans hF (fun i h e => absurd e (by omega)))
  · intro i h
    rw [alloc_size]
    unfold T.newCol at h
    by_cases e1 : i = w.heap.size
    · omega
    · rw [if_neg e1] at h
      by_cases e2 : i = w.heap.size + 1
      · omega
      · rw [if_neg e2] at h
        by_cases e3 : i = w1.heap.size
        · omega
        · rw [if_neg e3] at h
          by_cases e4 : i = w2.heap.size
          · omega
          · rw [if_neg e4] at h
            exact absurd rfl h
end Go.Proofs.YtilbdpnioajkoaaGreat

namespace Go.Proofs.YtilbdpnioajkoaaGreat
open Go.RowKit Go.Maps
set_option linter.unusedVariables false
set_option maxRecDepth 100000
set_option linter.unusedSimpArgs false

/-- a variable of its own, of which the tree knows nothing -/
def T.Box (c : Nat → Option T.Col) (w : World) (b : Nat) (v : Value) : Prop := (∃ ty, w.heap[b]? = some (.cells #[v] ty (0, 0))) ∧ c b = none
/-- what takes a make back -/
def T.UndoPut (c : Nat → Option T.Col) (w : World) (p : Nat) (n : Int) (v : Value) : Prop := ∃ bt bn, v = .func (.func 109) #[] #[ptr bt, ptr bn] ∧ T.Box c w bt (ptr p) ∧ T.Box c w bn (.int .i64 n)
/-- a new node, that stands nowhere yet -/
theorem Tf.added {c : Nat → Option T.Col} {w w' : World} {bud p : Nat} {dos last : Int} {t : T.Tr} {mb : Nat} {f : Int → Nat} (h : Tf c w bud p dos last t mb f) (hl : Lo c w.heap.size) (ht : A.Up t) (h0 : A.get 0 t = none) {n : Int} (hn2 : 2 < n) (hn : A.get n t = none) (hfree : ∀ s, T.kids t n s = []) {b : Nat} (hb : w.heap.size ≤ b) (hbl : b < w'.heap.size)
    (hf : Fr (fun i => i = mb) w w') (hnew : w'.heap[b]? = some zNode) (hm : Mp 2 litI w' mb (at_ (fun k => (A.get k t).map (fun _ => ptr (f k))) n (some (ptr b))) (t.length + 1)) :
    Lo (fun i => if i = b then some (.node n) else c i) w'.heap.size ∧ More c (fun i => if i = b then some (.node n) else c i) w.heap.size ∧ Tf (fun i => if i = b then some (.node n) else c i) w' (bud + 1) p dos last (A.put n T.zn t) mb (fun k => if k = n then b else f k) := by
  have hc : ∀ i col, c i = some col → (fun i => if i = b then some (T.Col.node n) else c i) i = some col := fun i col e => by
    have : i ≠ b := fun e2 => by have := hl i (by rw [e]; simp); omega
    simp only [if_neg this]
    exact e
  have hpm : p ≠ mb := fun e => by have := h.cp; rw [e, h.cm] at this; cases this
  refine ⟨fun i hi => ?_, fun i hi => ?_, hf.cells h.cells hpm, hc _ _ h.cp, hc _ _ h.cm, ?_, ?_, fun k z hz => ?_⟩
  · by_cases e : i = b
    · omega
    · simp only [if_neg e] at hi
      exact Nat.lt_of_lt_of_le (hl i hi) hf.size
  · have : i ≠ b := by omega
    simp only [if_neg this]
  · rw [A.length_put_new hn]
    have e : (fun k => (A.get k (A.put n T.zn t)).map (fun _ => ptr (if k = n then b else f k))) = at_ (fun k => (A.get k t).map (fun _ => ptr (f k))) n (some (ptr b)) := by
      funext k
      unfold at_
      by_cases e : k = n
      · subst e
        rw [A.get_put_same ht, if_pos rfl, if_pos rfl]
        rfl
      · rw [A.get_put_other ht e, if_neg e, if_neg e]
    rw [e]
    exact hm
  · rw [A.length_put_new hn]
    have := h.few
    omega
  · have hkids : ∀ s, k ≠ 0 → T.kids (A.put n T.zn t) k s = T.kids t k s := fun s hk0 => by
      rw [T.kids_put ht hn2 T.zn s (fun z hz => by rw [hn] at hz; cases hz), if_neg (fun h => hk0 h.1)]
    by_cases e : k = n
    · subst e
      rw [A.get_put_same ht] at hz
      cases hz
      simp only [if_true]
      exact (Nm.fresh hnew (by simp)).kids (fun s => by rw [hkids s (by omega), hfree])
    · rw [A.get_put_other ht e] at hz
      have hk0 : k ≠ 0 := fun e => by rw [e, h0] at hz; cases hz
      simp only [if_neg e]
      exact (((h.node k z hz).kept hf (fun i col e1 e2 e3 => by rw [e3, h.cm] at e1; cases e1; cases e2)).ext hc (Nat.le_succ _)).kids (fun s => hkids s hk0)
set_option maxHeartbeats 1600000 in
theorem put_any {c : Nat → Option T.Col} {w : World} {bud p : Nat} {dos last : Int} {t : T.Tr} {mb : Nat} {f : Int → Nat} (h : Tf c w bud p dos last t mb f) (hl : Lo c w.heap.size) (hb : bud < 8000000000000) (ht : A.Up t) (h0 : A.get 0 t = none) {n par : Int} (hn : (Lit.int .i64 n).wf = true) (hn2 : 2 < n) (hp : (Lit.int .i64 par).wf = true) {nm : ByteArray} (hs : nm.size ≤ maxLen) {y : T.Nd} (hx : A.get n t = none) (hfree : ∀ s, T.kids t n s = []) (hy : A.get par t = some y) :
    Calls Tryz.prog 86 #[ptr p, .int .i64 n, .agg #[.int .i64 par, .string nm]] w fun e w' => Fr (fun i => c i ≠ none) w w' ∧ ∃ v c' f', e = .returned v ∧ More c c' w.heap.size ∧ Lo c' w'.heap.size ∧ Tf c' w' (bud + 2) p dos last (A.put n ⟨par, nm, []⟩ t) mb f' ∧ T.UndoPut c' w' p n v ∧ ∀ k, k ≠ n → f' k = f k := by
  obtain ⟨W, hW⟩ : ∃ W, ((w.alloc (.cells #[ptr p] 24)).alloc (.cells #[.int .i64 n] 2)).alloc (.cells #[.int .i64 par, .string nm] 76) = W := ⟨_, rfl⟩
  have fW : Fr (fun _ => False) w W := by rw [← hW]; exact Fr.alloc (Fr.alloc (Fr.alloc (Fr.refl _ _) _) _) _
  have b0 : W.heap[w.heap.size]? = some (.cells #[ptr p] 24 (0, 0)) := by
    rw [← hW]
    exact (Fr.alloc (Fr.alloc (Fr.refl (fun _ => False) _) _) _).cells (Go.heap_alloc_new w _) (fun h => h)
  have b1 : W.heap[w.heap.size + 1]? = some (.cells #[.int .i64 n] 2 (0, 0)) := by
    rw [← hW]
    have := (Fr.alloc (Fr.refl (fun _ => False) _) (.cells #[.int .i64 par, .string nm] 76)).cells (Go.heap_alloc_new (w.alloc (.cells #[ptr p] 24)) (.cells #[.int .i64 n] 2)) (fun h => h)
    rw [alloc_size] at this
    exact this
  have b2 : W.heap[w.heap.size + 1 + 1]? = some (.cells #[.int .i64 par, .string nm] 76 (0, 0)) := by
    rw [← hW]
    have := Go.heap_alloc_new ((w.alloc (.cells #[ptr p] 24)).alloc (.cells #[.int .i64 n] 2)) (.cells #[.int .i64 par, .string nm] 76)
    rw [alloc_size, alloc_size] at this
    exact this
  have zW : w.heap.size + 3 ≤ W.heap.size := by rw [← hW, alloc_size, alloc_size, alloc_size]; omega
  have hml : mb < w.heap.size := hl _ (by rw [h.cm]; simp)
  have hpm : p ≠ mb := fun e => by have := h.cp; rw [e, h.cm] at this; cases this
  have C0 := hid (show ∀ V, Fr (fun i => i = mb) W V → V.cell? ⟨w.heap.size, 0, none⟩ = some (ptr p) ∧ V.cell? ⟨w.heap.size + 1, 0, none⟩ = some (.int .i64 n) ∧ V.cell? ⟨p, 0, none⟩ = some (.map (some mb)) ∧ (Instr.loadAt 76 (.pointer (some ⟨w.heap.size + 1 + 1, 0, none⟩))).run Tryz.prog V = .ok (.agg #[.int .i64 par, .string nm]) V from fun V hf => ⟨cellA (j := 0) (hf.cells b0 (by omega)) rfl, cellA (j := 0) (hf.cells b1 (by omega)) rfl, cellA (j := 0) (hf.cells (fW.cells h.cells (fun h => h)) hpm) rfl, load_whole (hf.cells b2 (by omega)) Tryz.underlying76 rfl (by kernel_rfl)⟩)
  obtain ⟨w7, r7, m7, f7⟩ := Mp.store (w := (W.alloc zNode).drew) (h.map.kept (fW.trans (Fr.drew (Fr.alloc (Fr.refl (fun _ => False) W) zNode)) (fun _ _ h => h)) (fun h => h)) litI_inj keyI Tryz.underlying81 (by have := h.few; unfold maxLen; omega) (keyOfI hn) (ptr W.heap.size)
  rw [hx] at m7
  have hadd := Tf.added (w' := w7) h hl ht h0 hn2 hx hfree (b := W.heap.size) (by omega) (by have := f7.size; rw [show (W.alloc zNode).drew.heap.size = (W.alloc zNode).heap.size from rfl, alloc_size] at this; omega) (((fW.trans (Fr.drew (Fr.alloc (Fr.refl (fun _ => False) W) zNode)) (fun _ _ h => h)).mono (fun _ _ h => h.elim)).trans f7 (fun _ _ h => h)) (f7.cells (show (W.alloc zNode).drew.heap[W.heap.size]? = some zNode from Go.heap_alloc_new W zNode) (by omega)) m7
  have R7 := hid r7
  have F7 := hid f7
  have HW := hid hW
  have HADD := hid hadd
  clear r7 f7 hW hadd m7
  have hnp : par ≠ n := fun e => by rw [e, hx] at hy; cases hy
  have hp0 : par ≠ 0 := fun e => by rw [e, h0] at hy; cases hy
  have KE := hid (enter_any HADD.out.2.2 HADD.out.1 (by omega) (ht.put n T.zn) (by rw [A.get_put_other ht (by omega)]; exact h0) hn hn2 hp hs (x := T.zn) (A.get_put_same ht n T.zn) rfl (y := y) (by rw [A.get_put_other ht hnp]; exact hy))
  rw [A.put_put ht] at KE
  have fw7 : Fr (fun i => i = mb) w w7 := ((fW.trans (Fr.drew (Fr.alloc (Fr.refl (fun _ => False) W) zNode)) (fun _ _ h => h)).mono (fun _ _ h => h.elim)).trans F7.out (fun _ _ h => h)
  have HEND : Hid (∀ w8, Fr (fun i => (fun i => if i = W.heap.size then some (T.Col.node n) else c i) i ≠ none) w7 w8 → (∃ c', More (fun i => if i = W.heap.size then some (.node n) else c i) c' w7.heap.size ∧ Lo c' w8.heap.size ∧ Tf c' w8 (bud + 1 + 1) p dos last (A.put n ⟨par, nm, T.zn.ats⟩ t) mb (fun k => if k = n then W.heap.size else f k)) → Fr (fun i => c i ≠ none) w w8 ∧ ∃ v c' f', Ending.returned (.func (.func 109) #[] #[ptr w.heap.size, ptr (w.heap.size + 1)]) = .returned v ∧ More c c' w.heap.size ∧ Lo c' w8.heap.size ∧ Tf c' w8 (bud + 2) p dos last (A.put n ⟨par, nm, []⟩ t) mb f' ∧ T.UndoPut c' w8 p n v ∧ ∀ k, k ≠ n → f' k = f k) := hid (fun w8 fx ⟨c', k1, k2, k3⟩ => by
    have f79 : Fr (fun i => i = mb) W w7 := (((Fr.drew (Fr.alloc (Fr.refl (fun _ => False) W) zNode))).mono (fun _ _ h => h.elim)).trans F7.out (fun _ _ h => h)
    have hbox : ∀ i, w.heap.size ≤ i → i < W.heap.size → c i = none ∧ (if i = W.heap.size then some (T.Col.node n) else c i) = none := fun i h1 h2 => by
      have : c i = none := by
        cases hc : c i with
        | none => rfl
        | some col => have := hl i (by rw [hc]; simp); omega
      rw [if_neg (by omega)]
      exact ⟨this, this⟩
    have hun : T.UndoPut c' w8 p n (.func (.func 109) #[] #[ptr w.heap.size, ptr (w.heap.size + 1)]) := by
      have hz := f79.size
      refine ⟨_, _, rfl, ⟨⟨_, fx.cells (f79.cells b0 (by omega)) (fun e => e (hbox _ (by omega) (by omega)).2)⟩, ?_⟩, ⟨⟨_, fx.cells (f79.cells b1 (by omega)) (fun e => e (hbox _ (by omega) (by omega)).2)⟩, ?_⟩⟩
      · rw [k1 _ (by omega)]; exact (hbox _ (by omega) (by omega)).2
      · rw [k1 _ (by omega)]; exact (hbox _ (by omega) (by omega)).2
    refine ⟨(fw7.mono (fun i _ e => by rw [e, h.cm]; simp)).trans fx (fun i hi e => ?_), _, c', _, rfl, fun i hi => ?_, k2, k3, hun, fun k hk => by simp only [if_neg hk]⟩
    · have : i ≠ W.heap.size := by omega
      simp only [if_neg this] at e
      exact e
    · rw [k1 i (Nat.lt_of_lt_of_le hi fw7.size)]
      have : i ≠ W.heap.size := by omega
      simp only [if_neg this])
  clear h hl hb ht h0 hn hn2 hp hs hx hfree hy fW b0 b1 b2 hml hpm hnp hp0 fw7
  go_enter Tryz.func86, Tryz.ntmps86
  go_wp2_with fail
  rw [HW.out]
  have hmx : Tryz.prog.follows .mixedOrders = true := by kernel_rfl
  refine wp_region_held (S := fun V => Fr (fun i => i = mb) W V) hmx ?_
  have hS := (Fr.drew (Fr.refl (fun i => i = mb) W))
  simp only [List.size_toArray, List.length_cons, List.length_nil, Nat.reduceAdd, Array.replicate_succ, Array.replicate_zero, List.push_toArray, List.nil_append, List.cons_append]
  refine wpAnyH_take (i := 0) (v := ?_) rfl (by kernel_rfl) (by kernel_rfl) (by kernel_rfl) (fun _ _ _ h => h) (Or.inl ⟨by kernel_rfl, ?_⟩) hS ?_
  rotate_left 1
  · (intro w' hS'; have h1 := (C0.out w' hS').1; clear hS'; go_simp; try with_reducible rfl)
  simp only [List.getElem_toArray, List.getElem_cons_zero, List.getElem_cons_succ, Act.put, List.setIfInBounds_toArray, List.set_cons_zero, List.set_cons_succ]
  refine wpAnyH_take (i := 1) (v := ?_) rfl (by kernel_rfl) (by kernel_rfl) (by kernel_rfl) (fun _ _ _ h => h) (Or.inl ⟨by kernel_rfl, ?_⟩) hS ?_
  rotate_left 1
  · (intro w' hS'; clear hS'; go_simp; try with_reducible rfl)
  simp only [List.getElem_toArray, List.getElem_cons_zero, List.getElem_cons_succ, Act.put, List.setIfInBounds_toArray, List.set_cons_zero, List.set_cons_succ]
  refine wpAnyH_take (i := 2) (v := ?_) rfl (by kernel_rfl) (by kernel_rfl) (by kernel_rfl) (fun _ _ _ h => h) (Or.inl ⟨by kernel_rfl, ?_⟩) hS ?_
  rotate_left 1
  · (intro w' hS'; clear hS'; go_simp; try with_reducible rfl)
  simp only [List.getElem_toArray, List.getElem_cons_zero, List.getElem_cons_succ, Act.put, List.setIfInBounds_toArray, List.set_cons_zero, List.set_cons_succ]
  refine wpAnyH_take (i := 3) (v := ?_) rfl (by kernel_rfl) (by kernel_rfl) (by kernel_rfl) (fun _ _ _ h => h) (Or.inl ⟨by kernel_rfl, ?_⟩) hS ?_
  rotate_left 1
  · (intro w' hS'; have h1 := (C0.out w' hS').2.2.1; clear hS'; go_simp; try with_reducible rfl)
  simp only [List.getElem_toArray, List.getElem_cons_zero, List.getElem_cons_succ, Act.put, List.setIfInBounds_toArray, List.set_cons_zero, List.set_cons_succ]
  refine wpAnyH_take (i := 4) (v := ?_) rfl (by kernel_rfl) (by kernel_rfl) (by kernel_rfl) (fun _ _ _ h => h) (Or.inl ⟨by kernel_rfl, ?_⟩) hS ?_
  rotate_left 1
  · (intro w' hS'; have h1 := (C0.out w' hS').2.1; clear hS'; go_simp; try with_reducible rfl)
  simp only [List.getElem_toArray, List.getElem_cons_zero, List.getElem_cons_succ, Act.put, List.setIfInBounds_toArray, List.set_cons_zero, List.set_cons_succ]
  refine wpAnyH_take (i := 5) (v := ?_) rfl (by kernel_rfl) (by kernel_rfl) (by kernel_rfl) (fun _ _ _ h => h) (Or.inl ⟨by kernel_rfl, ?_⟩) hS ?_
  rotate_left 1
  · (intro w' hS'; clear hS'; go_simp; try with_reducible rfl)
  simp only [List.getElem_toArray, List.getElem_cons_zero, List.getElem_cons_succ, Act.put, List.setIfInBounds_toArray, List.set_cons_zero, List.set_cons_succ]
  refine wpAnyH_ready (rs := [6]) (by kernel_rfl) (by simp) ?_
  refine AllReadyH.cons rfl (fun K1 hK1 => ?_) (AllReadyH.nil)
  go_simp
  refine hK1.out _ _ (by first | exact Fr.drew (Fr.alloc (Fr.refl _ _) _) | exact Fr.alloc hS _) (fun hS => ?_)
  clear hK1 K1
  simp only [List.getElem_toArray, List.getElem_cons_zero, List.getElem_cons_succ, Act.put, List.setIfInBounds_toArray, List.set_cons_zero, List.set_cons_succ]
  refine wpAnyH_ready (rs := [7]) (by kernel_rfl) (by simp) ?_
  refine AllReadyH.cons rfl (fun K1 hK1 => ?_) (AllReadyH.nil)
  refine tstep_upd (by kernel_rfl) R7.out (by exact ⟨_, _, _, rfl, rfl, rfl, rfl⟩) ?_
  refine hK1.out _ _ (hS.trans F7.out (fun _ _ h => h)) (fun hS => ?_)
  clear hK1 K1
  simp only [List.getElem_toArray, List.getElem_cons_zero, List.getElem_cons_succ, Act.put, List.setIfInBounds_toArray, List.set_cons_zero, List.set_cons_succ]
  refine wpAnyH_done (by kernel_rfl) ?_ _
  obtain ⟨e0, e1, e2, LP⟩ := C0.out w7 hS
  have HLP := hid LP
  clear LP hS
  go_wp2_with (first
    | (refine wpList_load_v HLP.out (by exact ⟨_, rfl, rfl⟩) (by kernel_rfl) ?_)
    | (go_at_call 83; refine KE.out.mono ?_; rintro e w8 ⟨rfl, fx, hfin⟩; have FX := hid fx; have HFIN := hid hfin; clear fx hfin))
  go_ret
  exact HEND.out _ FX.out HFIN.out
end Go.Proofs.YtilbdpnioajkoaaGreat

namespace Go.Proofs.YtilbdpnioajkoaaGreat
open Go.RowKit Go.Maps
set_option linter.unusedVariables false
set_option maxRecDepth 100000
set_option linter.unusedSimpArgs false

/-- what takes a move back -/
def T.UndoMove (c : Nat → Option T.Col) (w : World) (p : Nat) (n par : Int) (nm : ByteArray) (v : Value) : Prop := ∃ bt bn bf, v = .func (.func 111) #[] #[ptr bt, ptr bn, ptr bf] ∧ T.Box c w bt (ptr p) ∧ T.Box c w bn (.int .i64 n) ∧ (∃ ty, w.heap[bf]? = some (.cells #[.int .i64 par, .string nm] ty (0, 0))) ∧ c bf = none
set_option maxHeartbeats 1600000 in
theorem move_any {c : Nat → Option T.Col} {w : World} {bud p : Nat} {dos last : Int} {t : T.Tr} {mb : Nat} {f : Int → Nat} (h : Tf c w bud p dos last t mb f) (hl : Lo c w.heap.size) (hb : bud < 8000000000000) (ht : A.Up t) (h0 : A.get 0 t = none) {n par : Int} (hn : (Lit.int .i64 n).wf = true) (hn2 : 2 < n) (hp : (Lit.int .i64 par).wf = true) {nm : ByteArray} (hs : nm.size ≤ maxLen) {x y y0 : T.Nd} (hx : A.get n t = some x) (hxp : (Lit.int .i64 x.par).wf = true) (hxn : x.par ≠ n) (hxs : x.nm.size ≤ maxLen) (hx0 : A.get x.par t = some y0) (hpn : par ≠ n) (hy : A.get par t = some y) :
    Calls Tryz.prog 88 #[ptr p, .int .i64 n, .agg #[.int .i64 par, .string nm]] w fun e w' => Fr (fun i => c i ≠ none) w w' ∧ ∃ v c', e = .returned v ∧ More c c' w.heap.size ∧ Lo c' w'.heap.size ∧ Tf c' w' (bud + 1) p dos last (A.put n ⟨par, nm, x.ats⟩ t) mb f ∧ T.UndoMove c' w' p n x.par x.nm v := by
  obtain ⟨W, hW⟩ : ∃ W, ((w.alloc (.cells #[ptr p] 24)).alloc (.cells #[.int .i64 n] 2)).alloc (.cells #[.int .i64 par, .string nm] 76) = W := ⟨_, rfl⟩
  have fW : Fr (fun _ => False) w W := by rw [← hW]; exact Fr.alloc (Fr.alloc (Fr.alloc (Fr.refl _ _) _) _) _
  have b0 : W.heap[w.heap.size]? = some (.cells #[ptr p] 24 (0, 0)) := by
    rw [← hW]
    exact (Fr.alloc (Fr.alloc (Fr.refl (fun _ => False) _) _) _).cells (Go.heap_alloc_new w _) (fun h => h)
  have b1 : W.heap[w.heap.size + 1]? = some (.cells #[.int .i64 n] 2 (0, 0)) := by
    rw [← hW]
    have := (Fr.alloc (Fr.refl (fun _ => False) _) (.cells #[.int .i64 par, .string nm] 76)).cells (Go.heap_alloc_new (w.alloc (.cells #[ptr p] 24)) (.cells #[.int .i64 n] 2)) (fun h => h)
    rw [alloc_size] at this
    exact this
  have b2 : W.heap[w.heap.size + 1 + 1]? = some (.cells #[.int .i64 par, .string nm] 76 (0, 0)) := by
    rw [← hW]
    have := Go.heap_alloc_new ((w.alloc (.cells #[ptr p] 24)).alloc (.cells #[.int .i64 n] 2)) (.cells #[.int .i64 par, .string nm] 76)
    rw [alloc_size, alloc_size] at this
    exact this
  have zW : W.heap.size = w.heap.size + 3 := by rw [← hW, alloc_size, alloc_size, alloc_size]
  obtain ⟨av, uv, g, m, hN⟩ := h.node n x hx
  have C0 := hid (show ∀ V, Fr (fun _ => False) W V → V.cell? ⟨w.heap.size, 0, none⟩ = some (ptr p) ∧ V.cell? ⟨w.heap.size + 1, 0, none⟩ = some (.int .i64 n) ∧ V.cell? ⟨p, 0, none⟩ = some (.map (some mb)) from fun V hf => ⟨cellA (j := 0) (hf.cells b0 (fun h => h)) rfl, cellA (j := 0) (hf.cells b1 (fun h => h)) rfl, cellA (j := 0) (hf.cells (fW.cells h.cells (fun h => h)) (fun h => h)) rfl⟩)
  have L1 := hid (show ∀ V, Fr (fun _ => False) W V → (Instr.lookup 81 (.map (some mb)) (.int .i64 n) false).run Tryz.prog V = .ok (ptr (f n)) V from fun V hf => by
    have := (h.kept (fW.trans hf (fun _ _ h => h)) (fun _ _ h => h)).look hn
    rw [T.loc_some hx] at this
    exact this)
  have LF := hid (show ∀ V, Fr (fun _ => False) W V → (Instr.loadAt 76 (.pointer (some ⟨f n, 0, none⟩))).run Tryz.prog V = .ok (.agg #[.int .i64 x.par, .string x.nm]) V from fun V hf =>
    run_loadAt_mid (P := Tryz.prog) V (f n) 0 76 [.int .i64 x.par, .string x.nm] _ (rangeAt_of (hf.cells (fW.cells hN.cells (fun h => h)) (fun h => h)) 0 _ rfl) Tryz.underlying76 rfl (by kernel_rfl))
  obtain ⟨w10, st, b10, f10⟩ := box_whole (V := (W.alloc (.cells #[.int .i64 0, .string ⟨#[]⟩] 76)).drew) (b := W.heap.size) (ty := 76) (c := #[.int .i64 x.par, .string x.nm]) (show (W.alloc _).drew.heap[W.heap.size]? = _ from Go.heap_alloc_new W _) rfl (by kernel_rfl) (by simp [Value.oneCell'])
  have fW10 : Fr (fun _ => False) W w10 := (Fr.drew (Fr.alloc (Fr.refl (fun _ => False) W) _)).trans f10 (fun i hi e => by omega)
  have fw10 : Fr (fun _ => False) w w10 := fW.trans fW10 (fun _ _ h => h)
  have z10 := fW10.size
  have z10b := lt_of_row b10
  have hT10 := h.kept fw10 (fun _ _ h => h)
  have KL := hid (leave_any hT10 (by omega) ht h0 hn hn2 hx hxp hxn hxs hx0)
  have lo10 : Lo c w10.heap.size := fun i hi => by have := hl i hi; omega
  have hcn : ∀ i, w.heap.size ≤ i → c i = none := fun i hi => by
    cases hc : c i with
    | none => rfl
    | some col => have := hl i (by rw [hc]; simp); omega
  have C1 := hid (show ∀ V, Fr (fun i => c i ≠ none) w10 V → V.heap[w.heap.size]? = some (.cells #[ptr p] 24 (0, 0)) ∧ V.heap[w.heap.size + 1]? = some (.cells #[.int .i64 n] 2 (0, 0)) ∧ V.heap[W.heap.size]? = some (.cells #[.int .i64 x.par, .string x.nm] 76 (0, 0)) ∧ (Instr.loadAt 76 (.pointer (some ⟨w.heap.size + 1 + 1, 0, none⟩))).run Tryz.prog V = .ok (.agg #[.int .i64 par, .string nm]) V from fun V hf => ⟨hf.cells (fW10.cells b0 (fun h => h)) (fun e => e (hcn _ (by omega))), hf.cells (fW10.cells b1 (fun h => h)) (fun e => e (hcn _ (by omega))), hf.cells b10 (fun e => e (hcn _ (by omega))), load_whole (hf.cells (fW10.cells b2 (fun h => h)) (fun e => e (hcn _ (by omega)))) Tryz.underlying76 rfl (by kernel_rfl)⟩)
  have KE := hid (show ∀ V, Fr (fun i => c i ≠ none) w10 V → Tf c V bud p dos last (A.put n ⟨0, ⟨#[]⟩, x.ats⟩ t) mb f → _ from fun V hf hT => enter_any (nm := nm) hT (fun i hi => Nat.lt_of_lt_of_le (lo10 i hi) hf.size) (by omega) (ht.put n _) (by rw [A.get_put_other ht (by omega)]; exact h0) hn hn2 hp hs (x := ⟨0, ⟨#[]⟩, x.ats⟩) (A.get_put_same ht n _) rfl (y := y) (by rw [A.get_put_other ht hpn]; exact hy))
  rw [A.put_put ht] at KE
  have HEND : Hid (∀ w11 w12, Fr (fun i => c i ≠ none) w10 w11 → Fr (fun i => c i ≠ none) w11 w12 → (∃ c', More c c' w11.heap.size ∧ Lo c' w12.heap.size ∧ Tf c' w12 (bud + 1) p dos last (A.put n ⟨par, nm, x.ats⟩ t) mb f) → Fr (fun i => c i ≠ none) w w12 ∧ ∃ v c', Ending.returned (.func (.func 111) #[] #[ptr w.heap.size, ptr (w.heap.size + 1), ptr W.heap.size]) = .returned v ∧ More c c' w.heap.size ∧ Lo c' w12.heap.size ∧ Tf c' w12 (bud + 1) p dos last (A.put n ⟨par, nm, x.ats⟩ t) mb f ∧ T.UndoMove c' w12 p n x.par x.nm v) := hid (fun w11 w12 f11 f12 ⟨c', k1, k2, k3⟩ => by
    have g1 := f11.size
    have hcc : ∀ i, w.heap.size ≤ i → i < w10.heap.size → c' i = none := fun i h1 h2 => by rw [k1 i (by omega)]; exact hcn i h1
    obtain ⟨m0, m1, m2, _⟩ := C1.out w12 (f11.trans f12 (fun _ _ h => h))
    exact ⟨((fw10.mono (fun _ _ h => h.elim)).trans f11 (fun _ _ h => h)).trans f12 (fun _ _ h => h), _, c', rfl, fun i hi => k1 i (by omega), k2, k3, _, _, _, rfl, ⟨⟨_, m0⟩, hcc _ (by omega) (by omega)⟩, ⟨⟨_, m1⟩, hcc _ (by omega) (by omega)⟩, ⟨_, m2⟩, hcc _ (by omega) (by omega)⟩)
  have ST := hid st
  have F10 := hid fW10
  have HW := hid hW
  clear h hl hb ht h0 hn hn2 hp hs hx hxp hxn hxs hx0 hpn hy fW b0 b1 b2 zW hN st b10 f10 fW10 fw10 z10 z10b hT10 lo10 hcn hW
  go_enter Tryz.func88, Tryz.ntmps88
  go_wp2_with fail
  rw [HW.out]
  have hmx : Tryz.prog.follows .mixedOrders = true := by kernel_rfl
  refine wp_region_held (S := fun V => Fr (fun _ => False) W V) hmx ?_
  have hS := (Fr.drew (Fr.refl (fun _ => False) W))
  simp only [List.size_toArray, List.length_cons, List.length_nil, Nat.reduceAdd, Array.replicate_succ, Array.replicate_zero, List.push_toArray, List.nil_append, List.cons_append]
  refine wpAnyH_take (i := 0) (v := ?_) rfl (by kernel_rfl) (by kernel_rfl) (by kernel_rfl) (fun _ _ _ h => h) (Or.inl ⟨by kernel_rfl, ?_⟩) hS ?_
  rotate_left 1
  · (intro w' hS'; have h1 := (C0.out w' hS').1; clear hS'; go_simp; try with_reducible rfl)
  simp only [List.getElem_toArray, List.getElem_cons_zero, List.getElem_cons_succ, Act.put, List.setIfInBounds_toArray, List.set_cons_zero, List.set_cons_succ]
  refine wpAnyH_take (i := 1) (v := ?_) rfl (by kernel_rfl) (by kernel_rfl) (by kernel_rfl) (fun _ _ _ h => h) (Or.inl ⟨by kernel_rfl, ?_⟩) hS ?_
  rotate_left 1
  · (intro w' hS'; clear hS'; go_simp; try with_reducible rfl)
  simp only [List.getElem_toArray, List.getElem_cons_zero, List.getElem_cons_succ, Act.put, List.setIfInBounds_toArray, List.set_cons_zero, List.set_cons_succ]
  refine wpAnyH_take (i := 2) (v := ?_) rfl (by kernel_rfl) (by kernel_rfl) (by kernel_rfl) (fun _ _ _ h => h) (Or.inl ⟨by kernel_rfl, ?_⟩) hS ?_
  rotate_left 1
  · (intro w' hS'; clear hS'; go_simp; try with_reducible rfl)
  simp only [List.getElem_toArray, List.getElem_cons_zero, List.getElem_cons_succ, Act.put, List.setIfInBounds_toArray, List.set_cons_zero, List.set_cons_succ]
  refine wpAnyH_take (i := 3) (v := ?_) rfl (by kernel_rfl) (by kernel_rfl) (by kernel_rfl) (fun _ _ _ h => h) (Or.inl ⟨by kernel_rfl, ?_⟩) hS ?_
  rotate_left 1
  · (intro w' hS'; have h1 := (C0.out w' hS').2.2; clear hS'; go_simp; try with_reducible rfl)
  simp only [List.getElem_toArray, List.getElem_cons_zero, List.getElem_cons_succ, Act.put, List.setIfInBounds_toArray, List.set_cons_zero, List.set_cons_succ]
  refine wpAnyH_take (i := 4) (v := ?_) rfl (by kernel_rfl) (by kernel_rfl) (by kernel_rfl) (fun _ _ _ h => h) (Or.inl ⟨by kernel_rfl, ?_⟩) hS ?_
  rotate_left 1
  · (intro w' hS'; have h1 := (C0.out w' hS').2.1; clear hS'; go_simp; try with_reducible rfl)
  simp only [List.getElem_toArray, List.getElem_cons_zero, List.getElem_cons_succ, Act.put, List.setIfInBounds_toArray, List.set_cons_zero, List.set_cons_succ]
  refine wpAnyH_take (i := 5) rfl (by kernel_rfl) (by kernel_rfl) (by kernel_rfl) (fun _ _ _ h => h) (tylook (by kernel_rfl) (by exact ⟨_, _, rfl, rfl, rfl⟩) (fun w' hS' => L1.out w' hS')) hS ?_
  simp only [List.getElem_toArray, List.getElem_cons_zero, List.getElem_cons_succ, Act.put, List.setIfInBounds_toArray, List.set_cons_zero, List.set_cons_succ]
  refine wpAnyH_take (i := 6) (v := ?_) rfl (by kernel_rfl) (by kernel_rfl) (by kernel_rfl) (fun _ _ _ h => h) (Or.inl ⟨by kernel_rfl, ?_⟩) hS ?_
  rotate_left 1
  · (intro w' hS'; clear hS'; go_simp; try with_reducible rfl)
  simp only [List.getElem_toArray, List.getElem_cons_zero, List.getElem_cons_succ, Act.put, List.setIfInBounds_toArray, List.set_cons_zero, List.set_cons_succ]
  refine wpAnyH_take (i := 7) (v := ?_) rfl (by kernel_rfl) (by kernel_rfl) (by kernel_rfl) (fun _ _ _ h => h) (Or.inl ⟨by kernel_rfl, ?_⟩) hS ?_
  rotate_left 1
  · (intro w' hS'; clear hS'; go_simp; try with_reducible rfl)
  simp only [List.getElem_toArray, List.getElem_cons_zero, List.getElem_cons_succ, Act.put, List.setIfInBounds_toArray, List.set_cons_zero, List.set_cons_succ]
  refine wpAnyH_take (i := 8) rfl (by kernel_rfl) (by kernel_rfl) (by kernel_rfl) (fun _ _ _ h => h) (tyload (by kernel_rfl) (by exact ⟨_, rfl, rfl⟩) (fun w' hS' => LF.out w' hS')) hS ?_
  simp only [List.getElem_toArray, List.getElem_cons_zero, List.getElem_cons_succ, Act.put, List.setIfInBounds_toArray, List.set_cons_zero, List.set_cons_succ]
  refine wpAnyH_ready (rs := [9]) (by kernel_rfl) (by simp) ?_
  refine AllReadyH.cons rfl (fun K1 hK1 => ?_) (AllReadyH.nil)
  go_simp
  refine hK1.out _ _ (by first | exact Fr.drew (Fr.alloc (Fr.refl _ _) _) | exact Fr.alloc hS _) (fun hS => ?_)
  clear hK1 K1
  simp only [List.getElem_toArray, List.getElem_cons_zero, List.getElem_cons_succ, Act.put, List.setIfInBounds_toArray, List.set_cons_zero, List.set_cons_succ]
  refine wpAnyH_ready (rs := [10]) (by kernel_rfl) (by simp) ?_
  refine AllReadyH.cons rfl (fun K1 hK1 => ?_) (AllReadyH.nil)
  refine tstep_store (by kernel_rfl) ST.out (by exact ⟨_, _, rfl, rfl, rfl⟩) ?_
  refine hK1.out _ _ F10.out (fun hS => ?_)
  clear hK1 K1
  simp only [List.getElem_toArray, List.getElem_cons_zero, List.getElem_cons_succ, Act.put, List.setIfInBounds_toArray, List.set_cons_zero, List.set_cons_succ]
  refine wpAnyH_done (by kernel_rfl) ?_ _
  clear hS
  obtain ⟨m0, m1, _, _⟩ := C1.out w10 (Fr.refl _ _)
  have e0 : w10.cell? ⟨w.heap.size, 0, none⟩ = some (ptr p) := cellA (j := 0) m0 rfl
  have e1 : w10.cell? ⟨w.heap.size + 1, 0, none⟩ = some (.int .i64 n) := cellA (j := 0) m1 rfl
  clear m0 m1
  go_wp2_with (first
    | (go_at_call 110; refine KL.out.mono ?_; rintro e w11 ⟨rfl, fx, hT⟩; have F11 := hid fx; have KE1 := hid (KE.out w11 fx hT); obtain ⟨m0, m1, _, lp⟩ := C1.out w11 fx; have g0 : w11.cell? ⟨w.heap.size, 0, none⟩ = some (ptr p) := cellA (j := 0) m0 rfl; have g1 : w11.cell? ⟨w.heap.size + 1, 0, none⟩ = some (.int .i64 n) := cellA (j := 0) m1 rfl; have LP := hid lp; clear fx hT m0 m1 lp)
    | (refine wpList_load_v LP.out (by exact ⟨_, rfl, rfl⟩) (by kernel_rfl) ?_)
    | (go_at_call 83; refine KE1.out.mono ?_; rintro e w12 ⟨rfl, fx, hfin⟩; have F12 := hid fx; have HFIN := hid hfin; clear fx hfin))
  go_ret
  exact HEND.out _ _ F11.out F12.out HFIN.out
end Go.Proofs.YtilbdpnioajkoaaGreat

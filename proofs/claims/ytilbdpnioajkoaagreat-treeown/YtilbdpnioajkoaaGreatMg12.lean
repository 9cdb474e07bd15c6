/-
  New: the root and the trash alone.
  A node is made: put.
  The library's contract on a copy of a text, laid at this dump.
  A make is done.
-/
import Derived.Test.YtilbdpnioajkoaaGreatMg4
import Derived.Test.YtilbdpnioajkoaaGreatTEnterQ
import Derived.Test.YtilbdpnioajkoaaGreatRows
import Derived.Shelf.LaysM
import Derived.Shelf.Strconv.Clone
import Derived.Ground.NamesProg
import Derived.Test.YtilbdpnioajkoaaGreatMg7
namespace Go.Proofs.YtilbdpnioajkoaaGreat
open Go.RowKit Go.Maps
set_option linter.unusedVariables false
set_option maxRecDepth 100000
set_option linter.unusedSimpArgs false

abbrev zNode : Obj := .cells #[.int .i64 0, .string ⟨#[]⟩, .map none, .map none] 80 (0, 0)
def T.newCol (w : World) (a b p : Nat) : Nat → Option T.Col := fun i => if i = w.heap.size then some .nodes else if i = a then some (.node 1) else if i = b then some (.node 2) else if i = p then some .tree else none
set_option maxHeartbeats 1600000 in
theorem tnew_any (w : World) : Calls Tryz.prog 6 #[] w fun e w' => ∃ p c, e = .returned (ptr p) ∧ Tm c w' 0 p 0 0 T.zero ∧ Fr (fun _ => False) w w' ∧ ∀ i, c i ≠ none → w.heap.size ≤ i ∧ i < w'.heap.size := by
  have hmm := @run_makeMap Tryz.prog
  obtain ⟨w1, r1, m1, f1⟩ := Mp.store (w := (w.alloc (.map #[] 0)).alloc zNode) (Mp.kept (Mp.made 2 litI w) (S := fun _ => False) (Fr.alloc (Fr.refl _ _) _) (fun h => h)) litI_inj keyI Tryz.underlying81 (by decide) (keyOfI (x := 1) (by decide)) (ptr (w.heap.size + 1))
  obtain ⟨w2, r2, m2, f2⟩ := Mp.store (w := w1.alloc zNode) (Mp.kept m1 (S := fun _ => False) (Fr.alloc (Fr.refl _ _) _) (fun h => h)) litI_inj keyI Tryz.underlying81 (by decide) (keyOfI (x := 2) (by decide)) (ptr w1.heap.size)
  have R1 := hid r1
  have R2 := hid r2
  clear r1 r2
  go_enter Tryz.func6, Tryz.ntmps6
  go_wp2_with (first
    | (refine wpList_ins_v R1.out (by exact ⟨_, _, _, rfl, rfl, rfl, rfl⟩) (by kernel_rfl) ?_)
    | (refine wpList_ins_v R2.out (by exact ⟨_, _, _, rfl, rfl, rfl, rfl⟩) (by kernel_rfl) ?_))
  have z1 : w.heap.size + 2 ≤ w1.heap.size := by have := f1.size; rw [alloc_size, alloc_size] at this; omega
  have z2 : w1.heap.size + 1 ≤ w2.heap.size := by have := f2.size; rw [alloc_size] at this; omega
  have f3 : Fr (fun _ => False) w2 (w2.alloc (.cells #[.map (some w.heap.size), .int .i64 0, .int .i64 0] 83 (0, 0))) := Fr.alloc (Fr.refl _ _) _
  have hF : Fr (fun i => i = w.heap.size) ((w.alloc (.map #[] 0)).alloc zNode) (w2.alloc (.cells #[.map (some w.heap.size), .int .i64 0, .int .i64 0] 83 (0, 0))) :=
    ((f1.trans (Fr.alloc (Fr.refl (fun i => i = w.heap.size) _) zNode) (fun i _ h => h)).trans f2 (fun i _ h => h)).trans f3 (fun i _ h => h.elim)
  go_ret
  refine ⟨w2.heap.size, T.newCol w (w.heap.size + 1) w1.heap.size w2.heap.size, rfl, ⟨w.heap.size, fun n => if n = 1 then w.heap.size + 1 else w1.heap.size, Go.heap_alloc_new w2 _, ?_, ?_, ?_, ?_, ?_⟩, ?_, ?_⟩
  · unfold T.newCol
    rw [if_neg (by omega), if_neg (by omega), if_neg (by omega), if_pos rfl]
  · unfold T.newCol
    rw [if_pos rfl]
  · have e : (fun n => (A.get n T.zero).map (fun _ => ptr (if n = 1 then w.heap.size + 1 else w1.heap.size))) = at_ (at_ (fun _ => none) 1 (some (ptr (w.heap.size + 1)))) 2 (some (ptr w1.heap.size)) := by
      funext n
      unfold at_ T.zero A.get
      by_cases h2 : n = 2
      · subst h2; rfl
      · by_cases h1 : n = 1
        · subst h1; rfl
        · have b1 : ((1 : Int) == n) = false := by simp; omega
          have b2 : ((2 : Int) == n) = false := by simp; omega
          simp [List.find?, b1, b2, h1, h2]
    rw [e]
    exact m2.kept f3 (fun h => h)
  · decide
  · intro n x hx
    have hm := A.get_mem hx
    simp only [T.zero, List.mem_cons, Prod.mk.injEq, List.not_mem_nil, or_false] at hm
    rcases hm with ⟨rfl, rfl⟩ | ⟨rfl, rfl⟩
    · refine Nm.fresh (hF.cells (p := w.heap.size + 1) ?_ (by omega)) ?_
      · have := Go.heap_alloc_new (w.alloc (.map #[] 0)) zNode
        rw [alloc_size] at this
        exact this
      · show T.newCol w (w.heap.size + 1) w1.heap.size w2.heap.size (w.heap.size + 1) = some (.node 1)
        unfold T.newCol
        rw [if_neg (by omega), if_pos rfl]
    · refine Nm.fresh ((f2.trans f3 (fun i _ h => h.elim)).cells (p := w1.heap.size) ?_ (by omega)) ?_
      · exact Go.heap_alloc_new w1 zNode
      · show T.newCol w (w.heap.size + 1) w1.heap.size w2.heap.size w1.heap.size = some (.node 2)
        unfold T.newCol
        rw [if_neg (by omega), if_neg (by omega), if_pos rfl]
  · exact ((Fr.alloc (Fr.alloc (Fr.refl _ w) _) _).trans hF (fun i h e => absurd e (by omega)))
  · intro i h
    rw [alloc_size]
    unfold T.newCol at h
    by_cases e1 : i = w.heap.size
    · omega
    · rw [if_neg e1] at h
      by_cases e2 : i = w.heap.size + 1
      · omega
      · rw [if_neg e2] at h
        by_cases e3 : i = w1.heap.size
        · omega
        · rw [if_neg e3] at h
          by_cases e4 : i = w2.heap.size
          · omega
          · rw [if_neg e4] at h
            exact absurd rfl h
end Go.Proofs.YtilbdpnioajkoaaGreat

namespace Go.Proofs.YtilbdpnioajkoaaGreat
open Go.RowKit Go.Maps
set_option linter.unusedVariables false
set_option maxRecDepth 100000
set_option linter.unusedSimpArgs false

/-- a variable of its own, of which the tree knows nothing -/
def T.Box (c : Nat → Option T.Col) (w : World) (b : Nat) (v : Value) : Prop := (∃ ty, w.heap[b]? = some (.cells #[v] ty (0, 0))) ∧ c b = none
/-- what takes a make back -/
def T.UndoPut (c : Nat → Option T.Col) (w : World) (p : Nat) (n : Int) (v : Value) : Prop := ∃ bt bn, v = .func (.func 109) #[] #[ptr bt, ptr bn] ∧ T.Box c w bt (ptr p) ∧ T.Box c w bn (.int .i64 n)
/-- a new node, that stands nowhere yet -/
theorem Tf.added {c : Nat → Option T.Col} {w w' : World} {bud p : Nat} {dos last : Int} {t : T.Tr} {mb : Nat} {f : Int → Nat} (h : Tf c w bud p dos last t mb f) (hl : Lo c w.heap.size) (ht : A.Up t) (h0 : A.get 0 t = none) {n : Int} (hn2 : 2 < n) (hn : A.get n t = none) (hfree : ∀ s, T.kids t n s = []) {b : Nat} (hb : w.heap.size ≤ b) (hbl : b < w'.heap.size)
    (hf : Fr (fun i => i = mb) w w') (hnew : w'.heap[b]? = some zNode) (hm : Mp 2 litI w' mb (at_ (fun k => (A.get k t).map (fun _ => ptr (f k))) n (some (ptr b))) (t.length + 1)) :
    Lo (fun i => if i = b then some (.node n) else c i) w'.heap.size ∧ More c (fun i => if i = b then some (.node n) else c i) w.heap.size ∧ Tf (fun i => if i = b then some (.node n) else c i) w' (bud + 1) p dos last (A.put n T.zn t) mb (fun k => if k = n then b else f k) := by
  have hc : ∀ i col, c i = some col → (fun i => if i = b then some (T.Col.node n) else c i) i = some col := fun i col e => by
    have : i ≠ b := fun e2 => by have := hl i (by rw [e]; simp); omega
    simp only [if_neg this]
    exact e
  have hpm : p ≠ mb := fun e => by have := h.cp; rw [e, h.cm] at this; cases this
  refine ⟨fun i hi => ?_, fun i hi => ?_, hf.cells h.cells hpm, hc _ _ h.cp, hc _ _ h.cm, ?_, ?_, fun k z hz => ?_⟩
  · by_cases e : i = b
    · omega
    · simp only [if_neg e] at hi
      exact Nat.lt_of_lt_of_le (hl i hi) hf.size
  · have : i ≠ b := by omega
    simp only [if_neg this]
  · rw [A.length_put_new hn]
    have e : (fun k => (A.get k (A.put n T.zn t)).map (fun _ => ptr (if k = n then b else f k))) = at_ (fun k => (A.get k t).map (fun _ => ptr (f k))) n (some (ptr b)) := by
      funext k
      unfold at_
      by_cases e : k = n
      · subst e
        rw [A.get_put_same ht, if_pos rfl, if_pos rfl]
        rfl
      · rw [A.get_put_other ht e, if_neg e, if_neg e]
    rw [e]
    exact hm
  · rw [A.length_put_new hn]
    have := h.few
    omega
  · have hkids : ∀ s, k ≠ 0 → T.kids (A.put n T.zn t) k s = T.kids t k s := fun s hk0 => by
      rw [T.kids_put ht hn2 T.zn s (fun z hz => by rw [hn] at hz; cases hz), if_neg (fun h => hk0 h.1)]
    by_cases e : k = n
    · subst e
      rw [A.get_put_same ht] at hz
      cases hz
      simp only [if_true]
      exact (Nm.fresh hnew (by simp)).kids (fun s => by rw [hkids s (by omega), hfree])
    · rw [A.get_put_other ht e] at hz
      have hk0 : k ≠ 0 := fun e => by rw [e, h0] at hz; cases hz
      simp only [if_neg e]
      exact (((h.node k z hz).kept hf (fun i col e1 e2 e3 => by rw [e3, h.cm] at e1; cases e1; cases e2)).ext hc (Nat.le_succ _)).kids (fun s => hkids s hk0)
set_option maxHeartbeats 1600000 in
theorem put_any {c : Nat → Option T.Col} {w : World} {bud p : Nat} {dos last : Int} {t : T.Tr} {mb : Nat} {f : Int → Nat} (h : Tf c w bud p dos last t mb f) (hl : Lo c w.heap.size) (hb : bud < 8000000000000) (ht : A.Up t) (h0 : A.get 0 t = none) {n par : Int} (hn : (Lit.int .i64 n).wf = true) (hn2 : 2 < n) (hp : (Lit.int .i64 par).wf = true) {nm : ByteArray} (hs : nm.size ≤ maxLen) {y : T.Nd} (hx : A.get n t = none) (hfree : ∀ s, T.kids t n s = []) (hy : A.get par t = some y) :
    Calls Tryz.prog 86 #[ptr p, .int .i64 n, .agg #[.int .i64 par, .string nm]] w fun e w' => Fr (fun i => c i ≠ none) w w' ∧ ∃ v c' f', e = .returned v ∧ More c c' w.heap.size ∧ Lo c' w'.heap.size ∧ Tf c' w' (bud + 2) p dos last (A.put n ⟨par, nm, []⟩ t) mb f' ∧ T.UndoPut c' w' p n v ∧ ∀ k, k ≠ n → f' k = f k := by
  obtain ⟨W, hW⟩ : ∃ W, ((w.alloc (.cells #[ptr p] 24)).alloc (.cells #[.int .i64 n] 2)).alloc (.cells #[.int .i64 par, .string nm] 76) = W := ⟨_, rfl⟩
  have fW : Fr (fun _ => False) w W := by rw [← hW]; exact Fr.alloc (Fr.alloc (Fr.alloc (Fr.refl _ _) _) _) _
  have b0 : W.heap[w.heap.size]? = some (.cells #[ptr p] 24 (0, 0)) := by
    rw [← hW]
    exact (Fr.alloc (Fr.alloc (Fr.refl (fun _ => False) _) _) _).cells (Go.heap_alloc_new w _) (fun h => h)
  have b1 : W.heap[w.heap.size + 1]? = some (.cells #[.int .i64 n] 2 (0, 0)) := by
    rw [← hW]
    have := (Fr.alloc (Fr.refl (fun _ => False) _) (.cells #[.int .i64 par, .string nm] 76)).cells (Go.heap_alloc_new (w.alloc (.cells #[ptr p] 24)) (.cells #[.int .i64 n] 2)) (fun h => h)
    rw [alloc_size] at this
    exact this
  have b2 : W.heap[w.heap.size + 1 + 1]? = some (.cells #[.int .i64 par, .string nm] 76 (0, 0)) := by
    rw [← hW]
    have := Go.heap_alloc_new ((w.alloc (.cells #[ptr p] 24)).alloc (.cells #[.int .i64 n] 2)) (.cells #[.int .i64 par, .string nm] 76)
    rw [alloc_size, alloc_size] at this
    exact this
  have zW : w.heap.size + 3 ≤ W.heap.size := by rw [← hW, alloc_size, alloc_size, alloc_size]; omega
  have hml : mb < w.heap.size := hl _ (by rw [h.cm]; simp)
  have hpm : p ≠ mb := fun e => by have := h.cp; rw [e, h.cm] at this; cases this
  have C0 := hid (show ∀ V, Fr (fun i => i = mb) W V → V.cell? ⟨w.heap.size, 0, none⟩ = some (ptr p) ∧ V.cell? ⟨w.heap.size + 1, 0, none⟩ = some (.int .i64 n) ∧ V.cell? ⟨p, 0, none⟩ = some (.map (some mb)) ∧ (Instr.loadAt 76 (.pointer (some ⟨w.heap.size + 1 + 1, 0, none⟩))).run Tryz.prog V = .ok (.agg #[.int .i64 par, .string nm]) V from fun V hf => ⟨cellA (j := 0) (hf.cells b0 (by omega)) rfl, cellA (j := 0) (hf.cells b1 (by omega)) rfl, cellA (j := 0) (hf.cells (fW.cells h.cells (fun h => h)) hpm) rfl, load_whole (hf.cells b2 (by omega)) Tryz.underlying76 rfl (by kernel_rfl)⟩)
  obtain ⟨w7, r7, m7, f7⟩ := Mp.store (w := (W.alloc zNode).drew) (h.map.kept (fW.trans (Fr.drew (Fr.alloc (Fr.refl (fun _ => False) W) zNode)) (fun _ _ h => h)) (fun h => h)) litI_inj keyI Tryz.underlying81 (by have := h.few; unfold maxLen; omega) (keyOfI hn) (ptr W.heap.size)
  rw [hx] at m7
  have hadd := Tf.added (w' := w7) h hl ht h0 hn2 hx hfree (b := W.heap.size) (by omega) (by have := f7.size; rw [show (W.alloc zNode).drew.heap.size = (W.alloc zNode).heap.size from rfl, alloc_size] at this; omega) (((fW.trans (Fr.drew (Fr.alloc (Fr.refl (fun _ => False) W) zNode)) (fun _ _ h => h)).mono (fun _ _ h => h.elim)).trans f7 (fun _ _ h => h)) (f7.cells (show (W.alloc zNode).drew.heap[W.heap.size]? = some zNode from Go.heap_alloc_new W zNode) (by omega)) m7
  have R7 := hid r7
  have F7 := hid f7
  have HW := hid hW
  have HADD := hid hadd
  clear r7 f7 hW hadd m7
  have hnp : par ≠ n := fun e => by rw [e, hx] at hy; cases hy
  have hp0 : par ≠ 0 := fun e => by rw [e, h0] at hy; cases hy
  have KE := hid (enter_any HADD.out.2.2 HADD.out.1 (by omega) (ht.put n T.zn) (by rw [A.get_put_other ht (by omega)]; exact h0) hn hn2 hp hs (x := T.zn) (A.get_put_same ht n T.zn) rfl (y := y) (by rw [A.get_put_other ht hnp]; exact hy))
  rw [A.put_put ht] at KE
  have fw7 : Fr (fun i => i = mb) w w7 := ((fW.trans (Fr.drew (Fr.alloc (Fr.refl (fun _ => False) W) zNode)) (fun _ _ h => h)).mono (fun _ _ h => h.elim)).trans F7.out (fun _ _ h => h)
  have HEND : Hid (∀ w8, Fr (fun i => (fun i => if i = W.heap.size then some (T.Col.node n) else c i) i ≠ none) w7 w8 → (∃ c', More (fun i => if i = W.heap.size then some (.node n) else c i) c' w7.heap.size ∧ Lo c' w8.heap.size ∧ Tf c' w8 (bud + 1 + 1) p dos last (A.put n ⟨par, nm, T.zn.ats⟩ t) mb (fun k => if k = n then W.heap.size else f k)) → Fr (fun i => c i ≠ none) w w8 ∧ ∃ v c' f', Ending.returned (.func (.func 109) #[] #[ptr w.heap.size, ptr (w.heap.size + 1)]) = .returned v ∧ More c c' w.heap.size ∧ Lo c' w8.heap.size ∧ Tf c' w8 (bud + 2) p dos last (A.put n ⟨par, nm, []⟩ t) mb f' ∧ T.UndoPut c' w8 p n v ∧ ∀ k, k ≠ n → f' k = f k) := hid (fun w8 fx ⟨c', k1, k2, k3⟩ => by
    have f79 : Fr (fun i => i = mb) W w7 := (((Fr.drew (Fr.alloc (Fr.refl (fun _ => False) W) zNode))).mono (fun _ _ h => h.elim)).trans F7.out (fun _ _ h => h)
    have hbox : ∀ i, w.heap.size ≤ i → i < W.heap.size → c i = none ∧ (if i = W.heap.size then some (T.Col.node n) else c i) = none := fun i h1 h2 => by
      have : c i = none := by
        cases hc : c i with
        | none => rfl
        | some col => have := hl i (by rw [hc]; simp); omega
      rw [if_neg (by omega)]
      exact ⟨this, this⟩
    have hun : T.UndoPut c' w8 p n (.func (.func 109) #[] #[ptr w.heap.size, ptr (w.heap.size + 1)]) := by
      have hz := f79.size
      refine ⟨_, _, rfl, ⟨⟨_, fx.cells (f79.cells b0 (by omega)) (fun e => e (hbox _ (by omega) (by omega)).2)⟩, ?_⟩, ⟨⟨_, fx.cells (f79.cells b1 (by omega)) (fun e => e (hbox _ (by omega) (by omega)).2)⟩, ?_⟩⟩
      · rw [k1 _ (by omega)]; exact (hbox _ (by omega) (by omega)).2
      · rw [k1 _ (by omega)]; exact (hbox _ (by omega) (by omega)).2
    refine ⟨(fw7.mono (fun i _ e => by rw [e, h.cm]; simp)).trans fx (fun i hi e => ?_), _, c', _, rfl, fun i hi => ?_, k2, k3, hun, fun k hk => by simp only [if_neg hk]⟩
    · have : i ≠ W.heap.size := by omega
      simp only [if_neg this] at e
      exact e
    · rw [k1 i (Nat.lt_of_lt_of_le hi fw7.size)]
      have : i ≠ W.heap.size := by omega
      simp only [if_neg this])
  clear h hl hb ht h0 hn hn2 hp hs hx hfree hy fW b0 b1 b2 hml hpm hnp hp0 fw7
  go_enter Tryz.func86, Tryz.ntmps86
  go_wp2_with fail
  rw [HW.out]
  have hmx : Tryz.prog.follows .mixedOrders = true := by kernel_rfl
  refine wp_region_held (S := fun V => Fr (fun i => i = mb) W V) hmx ?_
  have hS := (Fr.drew (Fr.refl (fun i => i = mb) W))
  simp only [List.size_toArray, List.length_cons, List.length_nil, Nat.reduceAdd, Array.replicate_succ, Array.replicate_zero, List.push_toArray, List.nil_append, List.cons_append]
  refine wpAnyH_take (i := 0) (v := ?_) rfl (by kernel_rfl) (by kernel_rfl) (by kernel_rfl) (fun _ _ _ h => h) (Or.inl ⟨by kernel_rfl, ?_⟩) hS ?_
  rotate_left 1
  · (intro w' hS'; have h1 := (C0.out w' hS').1; clear hS'; go_simp; try with_reducible rfl)
  simp only [List.getElem_toArray, List.getElem_cons_zero, List.getElem_cons_succ, Act.put, List.setIfInBounds_toArray, List.set_cons_zero, List.set_cons_succ]
  refine wpAnyH_take (i := 1) (v := ?_) rfl (by kernel_rfl) (by kernel_rfl) (by kernel_rfl) (fun _ _ _ h => h) (Or.inl ⟨by kernel_rfl, ?_⟩) hS ?_
  rotate_left 1
  · (intro w' hS'; clear hS'; go_simp; try with_reducible rfl)
  simp only [List.getElem_toArray, List.getElem_cons_zero, List.getElem_cons_succ, Act.put, List.setIfInBounds_toArray, List.set_cons_zero, List.set_cons_succ]
  refine wpAnyH_take (i := 2) (v := ?_) rfl (by kernel_rfl) (by kernel_rfl) (by kernel_rfl) (fun _ _ _ h => h) (Or.inl ⟨by kernel_rfl, ?_⟩) hS ?_
  rotate_left 1
  · (intro w' hS'; clear hS'; go_simp; try with_reducible rfl)
  simp only [List.getElem_toArray, List.getElem_cons_zero, List.getElem_cons_succ, Act.put, List.setIfInBounds_toArray, List.set_cons_zero, List.set_cons_succ]
  refine wpAnyH_take (i := 3) (v := ?_) rfl (by kernel_rfl) (by kernel_rfl) (by kernel_rfl) (fun _ _ _ h => h) (Or.inl ⟨by kernel_rfl, ?_⟩) hS ?_
  rotate_left 1
  · (intro w' hS'; have h1 := (C0.out w' hS').2.2.1; clear hS'; go_simp; try with_reducible rfl)
  simp only [List.getElem_toArray, List.getElem_cons_zero, List.getElem_cons_succ, Act.put, List.setIfInBounds_toArray, List.set_cons_zero, List.set_cons_succ]
  refine wpAnyH_take (i := 4) (v := ?_) rfl (by kernel_rfl) (by kernel_rfl) (by kernel_rfl) (fun _ _ _ h => h) (Or.inl ⟨by kernel_rfl, ?_⟩) hS ?_
  rotate_left 1
  · (intro w' hS'; have h1 := (C0.out w' hS').2.1; clear hS'; go_simp; try with_reducible rfl)
  simp only [List.getElem_toArray, List.getElem_cons_zero, List.getElem_cons_succ, Act.put, List.setIfInBounds_toArray, List.set_cons_zero, List.set_cons_succ]
  refine wpAnyH_take (i := 5) (v := ?_) rfl (by kernel_rfl) (by kernel_rfl) (by kernel_rfl) (fun _ _ _ h => h) (Or.inl ⟨by kernel_rfl, ?_⟩) hS ?_
  rotate_left 1
  · (intro w' hS'; clear hS'; go_simp; try with_reducible rfl)
  simp only [List.getElem_toArray, List.getElem_cons_zero, List.getElem_cons_succ, Act.put, List.setIfInBounds_toArray, List.set_cons_zero, List.set_cons_succ]
  refine wpAnyH_ready (rs := [6]) (by kernel_rfl) (by simp) ?_
  refine AllReadyH.cons rfl (fun K1 hK1 => ?_) (AllReadyH.nil)
  go_simp
  refine hK1.out _ _ (by first | exact Fr.drew (Fr.alloc (Fr.refl _ _) _) | exact Fr.alloc hS _) (fun hS => ?_)
  clear hK1 K1
  simp only [List.getElem_toArray, List.getElem_cons_zero, List.getElem_cons_succ, Act.put, List.setIfInBounds_toArray, List.set_cons_zero, List.set_cons_succ]
  refine wpAnyH_ready (rs := [7]) (by kernel_rfl) (by simp) ?_
  refine AllReadyH.cons rfl (fun K1 hK1 => ?_) (AllReadyH.nil)
  refine tstep_upd (by kernel_rfl) R7.out (by exact ⟨_, _, _, rfl, rfl, rfl, rfl⟩) ?_
  refine hK1.out _ _ (hS.trans F7.out (fun _ _ h => h)) (fun hS => ?_)
  clear hK1 K1
  simp only [List.getElem_toArray, List.getElem_cons_zero, List.getElem_cons_succ, Act.put, List.setIfInBounds_toArray, List.set_cons_zero, List.set_cons_succ]
  refine wpAnyH_done (by kernel_rfl) ?_ _
  obtain ⟨e0, e1, e2, LP⟩ := C0.out w7 hS
  have HLP := hid LP
  clear LP hS
  go_wp2_with (first
    | (refine wpList_load_v HLP.out (by exact ⟨_, rfl, rfl⟩) (by kernel_rfl) ?_)
    | (go_at_call 83; refine KE.out.mono ?_; rintro e w8 ⟨rfl, fx, hfin⟩; have FX := hid fx; have HFIN := hid hfin; clear fx hfin))
  go_ret
  exact HEND.out _ FX.out HFIN.out
end Go.Proofs.YtilbdpnioajkoaaGreat

namespace Go.Proofs.YtilbdpnioajkoaaGreat
open Go.Shelf Go.RowKit
set_option linter.unusedVariables false

def Lcln_ren : Go.Shelf.Ren := ⟨fun | 316 => 106 | n => n, fun | 9 => 9 | 3 => 3 | 4 => 4 | 37 => 188 | 0 => 0 | 127 => 189 | 5 => 5 | n => n, fun | n => n⟩
theorem Lcln : Go.Proofs.LaysM.n316 Tryz.prog Lcln_ren := {
  mixed := by kernel_rfl
  f316 := Tryz.func106.trans (congrArg some (by kernel_rfl))
  t0 := Tryz.underlying0
  a0 := Tryz.isAgg0
  z0 := Tryz.sizeOf0
  v0 := Tryz.zeroValue0
  t3 := Tryz.underlying3
  a3 := Tryz.isAgg3
  z3 := Tryz.sizeOf3
  v3 := Tryz.zeroValue3
  t4 := Tryz.underlying4
  a4 := Tryz.isAgg4
  z4 := Tryz.sizeOf4
  v4 := Tryz.zeroValue4
  t9 := Tryz.underlying9
  a9 := Tryz.isAgg9
  z9 := Tryz.sizeOf9
  v9 := Tryz.zeroValue9
  t37 := Tryz.underlying188
  a37 := Tryz.isAgg188
  z37 := Tryz.sizeOf188
  v37 := Tryz.zeroValue188
  t127 := Tryz.underlying189
  a127 := Tryz.isAgg189
  z127 := Tryz.sizeOf189
  v127 := Tryz.zeroValue189
  t5 := Tryz.underlying5
  a5 := Tryz.isAgg5
  z5 := Tryz.sizeOf5
  v5 := Tryz.zeroValue5
  i0 := by kernel_rfl
  i3 := by kernel_rfl
  i4 := by kernel_rfl
  i5 := by kernel_rfl
  i9 := by kernel_rfl
  i37 := by kernel_rfl
  i127 := by kernel_rfl }

/-- a copy of a text -/
theorem cln_any (s : ByteArray) (w : World) (h : s.size ≤ 281474976710656) : Calls Tryz.prog 106 #[.string s] w fun e w' => e = .returned (.string s) ∧ Below w.heap.size w w' := Any.stringslite_Clone Lcln s w h

end Go.Proofs.YtilbdpnioajkoaaGreat

namespace Go.Proofs.YtilbdpnioajkoaaGreat
open Go.RowKit Go.Maps
set_option linter.unusedVariables false
set_option maxRecDepth 100000
set_option linter.unusedSimpArgs false

theorem sclone_t (s : ByteArray) (hs : s.size ≤ 281474976710656) (w : World) : Calls Tryz.prog 81 #[.string s] w fun e w' => e = .returned (.string s) ∧ Fr (fun _ => False) w w' := by
  have K := hid (cln_any s w hs)
  go_enter Tryz.func81, Tryz.ntmps81
  go_wp2_with (go_at_call 106; refine K.out.mono ?_; rintro e wx ⟨rfl, hb⟩; have HB := hid (Fr.of_below hb); clear hb)
  go_ret
  exact ⟨rfl, HB.out⟩
set_option maxHeartbeats 1600000 in
theorem placeOf_any (o : S.Op) (hs : o.a.size ≤ 281474976710656) (w : World) : Calls Tryz.prog 87 #[.agg o.cs] w fun e w' => e = .returned (.agg #[.int .i64 o.p, .string o.a]) ∧ Fr (fun _ => False) w w' := by
  have K := hid (sclone_t o.a hs)
  obtain ⟨W, hW⟩ : ∃ W, (w.alloc (.cells o.cs 35)).alloc (.cells #[.int .i64 0, .string ⟨#[]⟩] 76) = W := ⟨_, rfl⟩
  have fW : Fr (fun _ => False) w W := by rw [← hW]; exact Fr.alloc (Fr.alloc (Fr.refl _ _) _) _
  have hbx : W.heap[w.heap.size]? = some (.cells o.cs 35 (0, 0)) := by
    rw [← hW]
    exact (Fr.alloc (Fr.refl (fun _ => False) _) _).cells (Go.heap_alloc_new w _) (fun h => h)
  have hbr : W.heap[w.heap.size + 1]? = some (.cells #[.int .i64 0, .string ⟨#[]⟩] 76 (0, 0)) := by
    rw [← hW]
    have := Go.heap_alloc_new (w.alloc (.cells o.cs 35)) (.cells #[.int .i64 0, .string ⟨#[]⟩] 76)
    rw [alloc_size] at this
    exact this
  have HC := hid (show ∀ V, Fr (fun i => i = w.heap.size + 1) W V → V.cell? ⟨w.heap.size, 4, none⟩ = some (.int .i64 o.p) ∧ V.cell? ⟨w.heap.size, 5, none⟩ = some (.string o.a) from fun V hf => ⟨cellA (j := 4) (hf.cells hbx (by omega)) rfl, cellA (j := 5) (hf.cells hbx (by omega)) rfl⟩)
  have ST := hid (show ∀ V, Fr (fun _ => False) W V → ∃ V', (Instr.storeAt 76 (.pointer (some ⟨w.heap.size + 1, 0, none⟩)) (.agg #[.int .i64 o.p, .string o.a])).run Tryz.prog V = .ok () V' ∧ V'.heap[w.heap.size + 1]? = some (.cells #[.int .i64 o.p, .string o.a] 76 (0, 0)) ∧ Fr (fun k => k = w.heap.size + 1) V V' from fun V hf => box_whole (hf.cells hbr (fun h => h)) rfl (by kernel_rfl) (by simp [Value.oneCell']))
  have FW := hid fW
  have HW := hid hW
  clear fW hW hbx hbr
  go_enter Tryz.func87, Tryz.ntmps87
  go_wp2_with fail
  rw [HW.out]
  have hmx : Tryz.prog.follows .mixedOrders = true := by kernel_rfl
  refine wp_region_held (S := fun V => Fr (fun i => i = w.heap.size + 1) W V) hmx ?_
  have hS := (Fr.drew (Fr.refl (fun i => i = w.heap.size + 1) W))
  simp only [List.size_toArray, List.length_cons, List.length_nil, Nat.reduceAdd, Array.replicate_succ, Array.replicate_zero, List.push_toArray, List.nil_append, List.cons_append]
  refine wpAnyH_take (i := 0) (v := ?_) rfl (by kernel_rfl) (by kernel_rfl) (by kernel_rfl) (fun _ _ _ h => h) (Or.inl ⟨by kernel_rfl, ?_⟩) hS ?_
  rotate_left 1
  · (intro w' hS'; clear hS'; go_simp; try with_reducible rfl)
  simp only [List.getElem_toArray, List.getElem_cons_zero, List.getElem_cons_succ, Act.put, List.setIfInBounds_toArray, List.set_cons_zero, List.set_cons_succ]
  refine wpAnyH_take (i := 1) (v := ?_) rfl (by kernel_rfl) (by kernel_rfl) (by kernel_rfl) (fun _ _ _ h => h) (Or.inl ⟨by kernel_rfl, ?_⟩) hS ?_
  rotate_left 1
  · (intro w' hS'; have h1 := (HC.out w' hS').1; clear hS'; go_simp; try with_reducible rfl)
  simp only [List.getElem_toArray, List.getElem_cons_zero, List.getElem_cons_succ, Act.put, List.setIfInBounds_toArray, List.set_cons_zero, List.set_cons_succ]
  refine wpAnyH_take (i := 2) (v := ?_) rfl (by kernel_rfl) (by kernel_rfl) (by kernel_rfl) (fun _ _ _ h => h) (Or.inl ⟨by kernel_rfl, ?_⟩) hS ?_
  rotate_left 1
  · (intro w' hS'; clear hS'; go_simp; try with_reducible rfl)
  simp only [List.getElem_toArray, List.getElem_cons_zero, List.getElem_cons_succ, Act.put, List.setIfInBounds_toArray, List.set_cons_zero, List.set_cons_succ]
  refine wpAnyH_take (i := 3) (v := ?_) rfl (by kernel_rfl) (by kernel_rfl) (by kernel_rfl) (fun _ _ _ h => h) (Or.inl ⟨by kernel_rfl, ?_⟩) hS ?_
  rotate_left 1
  · (intro w' hS'; have h1 := (HC.out w' hS').2; clear hS'; go_simp; try with_reducible rfl)
  simp only [List.getElem_toArray, List.getElem_cons_zero, List.getElem_cons_succ, Act.put, List.setIfInBounds_toArray, List.set_cons_zero, List.set_cons_succ]
  refine wpAnyH_ready (rs := [4]) (by kernel_rfl) (by simp) ?_
  refine AllReadyH.cons rfl (fun K1 hK1 => ?_) (AllReadyH.nil)
  go_simp
  refine (K.out _).mono ?_
  rintro e w4 ⟨rfl, fx⟩
  have F4 := hid ((Fr.drew (Fr.refl (fun _ => False) W)).trans fx (fun _ _ h => h))
  refine hK1.out _ _ (hS.trans fx (fun _ _ h => h.elim)) (fun hS => ?_)
  clear fx
  clear hK1 K1
  simp only [List.getElem_toArray, List.getElem_cons_zero, List.getElem_cons_succ, Act.put, List.setIfInBounds_toArray, List.set_cons_zero, List.set_cons_succ]
  refine wpAnyH_take (i := 5) (v := ?_) rfl (by kernel_rfl) (by kernel_rfl) (by kernel_rfl) (fun _ _ _ h => h) (Or.inl ⟨by kernel_rfl, ?_⟩) hS ?_
  rotate_left 1
  · (intro w' hS'; clear hS'; go_simp; try with_reducible rfl)
  simp only [List.getElem_toArray, List.getElem_cons_zero, List.getElem_cons_succ, Act.put, List.setIfInBounds_toArray, List.set_cons_zero, List.set_cons_succ]
  refine wpAnyH_ready (rs := [6]) (by kernel_rfl) (by simp) ?_
  refine AllReadyH.cons rfl (fun K1 hK1 => ?_) (AllReadyH.nil)
  obtain ⟨w6, st, hb6, f6⟩ := ST.out w4 F4.out
  refine tstep_store (by kernel_rfl) st (by exact ⟨_, _, rfl, rfl, rfl⟩) ?_
  refine hK1.out _ _ (hS.trans f6 (fun _ _ h => h)) (fun hS => ?_)
  clear hK1 K1
  simp only [List.getElem_toArray, List.getElem_cons_zero, List.getElem_cons_succ, Act.put, List.setIfInBounds_toArray, List.set_cons_zero, List.set_cons_succ]
  refine wpAnyH_done (by kernel_rfl) ?_ _
  have LR := hid (loadVar_whole (W := w6) (b := w.heap.size + 1) (ty := 76) hb6 Tryz.underlying76 rfl (by kernel_rfl))
  have FIN := hid (show Fr (fun _ => False) w w6 from (FW.out.trans hS (fun i hi e => by omega)))
  clear hS st hb6 f6
  go_wp2_with fail
  exact bodyPost_ret (v := .agg #[.int .i64 o.p, .string o.a]) (results_cell1 Tryz.results87 _ _ _ _ _ (by rfl) LR.out) rfl ⟨rfl, FIN.out⟩
set_option maxHeartbeats 1600000 in
theorem change1_any {c : Nat → Option T.Col} {w : World} {bud p : Nat} {dos last : Int} {t : T.Tr} {mb : Nat} {f : Int → Nat} (h : Tf c w bud p dos last t mb f) (hl : Lo c w.heap.size) (hb : bud < 8000000000000) (ht : A.Up t) (h0 : A.get 0 t = none) (o : S.Op) (hi : o.in64) (hk : o.k = 1) (hn2 : 2 < o.n) (hs : o.a.size ≤ 255) {y : T.Nd} (hx : A.get o.n t = none) (hfree : ∀ s, T.kids t o.n s = []) (hy : A.get o.p t = some y) :
    Calls Tryz.prog 56 #[ptr p, .agg o.cs] w fun e w' => Fr (fun i => c i ≠ none) w w' ∧ ∃ v c' f', e = .returned v ∧ More c c' w.heap.size ∧ Lo c' w'.heap.size ∧ Tf c' w' (bud + 2) p dos last (A.put o.n ⟨o.p, o.a, []⟩ t) mb f' ∧ T.UndoPut c' w' p o.n v ∧ ∀ k, k ≠ o.n → f' k = f k := by
  obtain ⟨W, hW⟩ : ∃ W, w.alloc (.cells o.cs 35) = W := ⟨_, rfl⟩
  have fW : Fr (fun _ => False) w W := by rw [← hW]; exact Fr.alloc (Fr.refl _ _) _
  have hbx : W.heap[w.heap.size]? = some (.cells o.cs 35 (0, 0)) := by rw [← hW]; exact Go.heap_alloc_new w _
  have hcn : ¬ (c w.heap.size ≠ none) := fun e => by have := hl _ e; omega
  have HC := hid (show ∀ V, Fr (fun i => c i ≠ none) W V → V.cell? ⟨w.heap.size, 3, none⟩ = some (.int .i64 o.n) ∧ (Instr.loadAt 35 (.pointer (some ⟨w.heap.size, 0, none⟩))).run Tryz.prog V = .ok (.agg o.cs) V from fun V hf => ⟨cellA (j := 3) (hf.cells hbx hcn) rfl, load_whole (hf.cells hbx hcn) Tryz.underlying35 rfl (by kernel_rfl)⟩)
  have KP := hid (placeOf_any o (by omega))
  have KQ := hid (show ∀ V, Fr (fun _ => False) W V → _ from fun V hf => put_any (w := V) (h.kept (fW.trans hf (fun _ _ h => h)) (fun _ _ h => h)) (fun i hi => Nat.lt_of_lt_of_le (hl i hi) (fW.trans hf (fun _ _ h => h)).size) hb ht h0 (wfT hi.1.1 hi.1.2) hn2 (wfT hi.2.1 hi.2.2) (show o.a.size ≤ maxLen by unfold maxLen; omega) hx hfree hy)
  have c2 : W.cell? ⟨w.heap.size, 2, none⟩ = some (.int .i64 1) := by rw [← hk]; exact cellA (j := 2) hbx rfl
  have FW := hid fW
  have HW := hid hW
  clear h hl hb ht h0 hi hn2 hs hx hfree hy fW hbx hcn
  clear hW
  go_enter Tryz.func56, Tryz.ntmps56
  go_wp2_with fail
  rw [HW.out]
  clear hk c2
  have hmx : Tryz.prog.follows .mixedOrders = true := by kernel_rfl
  refine wp_region_held (S := fun V => Fr (fun i => c i ≠ none) W V) hmx ?_
  have hS := (Fr.drew (Fr.refl (fun i => c i ≠ none) W))
  simp only [List.size_toArray, List.length_cons, List.length_nil, Nat.reduceAdd, Array.replicate_succ, Array.replicate_zero, List.push_toArray, List.nil_append, List.cons_append]
  refine wpAnyH_take (i := 0) (v := ?_) rfl (by kernel_rfl) (by kernel_rfl) (by kernel_rfl) (fun _ _ _ h => h) (Or.inl ⟨by kernel_rfl, ?_⟩) hS ?_
  rotate_left 1
  · (intro w' hS'; clear hS'; go_simp; try with_reducible rfl)
  simp only [List.getElem_toArray, List.getElem_cons_zero, List.getElem_cons_succ, Act.put, List.setIfInBounds_toArray, List.set_cons_zero, List.set_cons_succ]
  refine wpAnyH_take (i := 1) (v := ?_) rfl (by kernel_rfl) (by kernel_rfl) (by kernel_rfl) (fun _ _ _ h => h) (Or.inl ⟨by kernel_rfl, ?_⟩) hS ?_
  rotate_left 1
  · (intro w' hS'; clear hS'; go_simp; try with_reducible rfl)
  simp only [List.getElem_toArray, List.getElem_cons_zero, List.getElem_cons_succ, Act.put, List.setIfInBounds_toArray, List.set_cons_zero, List.set_cons_succ]
  refine wpAnyH_take (i := 2) (v := ?_) rfl (by kernel_rfl) (by kernel_rfl) (by kernel_rfl) (fun _ _ _ h => h) (Or.inl ⟨by kernel_rfl, ?_⟩) hS ?_
  rotate_left 1
  · (intro w' hS'; have h1 := (HC.out w' hS').1; clear hS'; go_simp; try with_reducible rfl)
  simp only [List.getElem_toArray, List.getElem_cons_zero, List.getElem_cons_succ, Act.put, List.setIfInBounds_toArray, List.set_cons_zero, List.set_cons_succ]
  refine wpAnyH_take (i := 3) rfl (by kernel_rfl) (by kernel_rfl) (by kernel_rfl) (fun _ _ _ h => h) (tyload (by kernel_rfl) (by exact ⟨_, rfl, rfl⟩) (fun w' hS' => (HC.out w' hS').2)) hS ?_
  simp only [List.getElem_toArray, List.getElem_cons_zero, List.getElem_cons_succ, Act.put, List.setIfInBounds_toArray, List.set_cons_zero, List.set_cons_succ]
  refine wpAnyH_ready (rs := [4]) (by kernel_rfl) (by simp) ?_
  refine AllReadyH.cons rfl (fun K1 hK1 => ?_) (AllReadyH.nil)
  go_simp
  refine (KP.out _).mono ?_
  rintro e w4 ⟨rfl, fx⟩
  have F4 := hid ((Fr.drew (Fr.refl (fun _ => False) W)).trans fx (fun _ _ h => h))
  refine hK1.out _ _ (hS.trans fx (fun _ _ h => h.elim)) (fun hS => ?_)
  clear fx
  clear hK1 K1
  simp only [List.getElem_toArray, List.getElem_cons_zero, List.getElem_cons_succ, Act.put, List.setIfInBounds_toArray, List.set_cons_zero, List.set_cons_succ]
  refine wpAnyH_ready (rs := [5]) (by kernel_rfl) (by simp) ?_
  refine AllReadyH.cons rfl (fun K1 hK1 => ?_) (AllReadyH.nil)
  go_simp
  refine (KQ.out w4 F4.out).mono ?_
  rintro e w5 ⟨fx, v, c', f', rfl, k1, k2, k3, k4⟩
  have P1 := hid k1
  have P2 := hid k2
  have P3 := hid k3
  have P4 := hid k4
  have FX := hid fx
  clear k1 k2 k3 k4
  refine hK1.out _ _ (hS.trans fx (fun _ _ h => h)) (fun hS => ?_)
  clear fx
  clear hK1 K1
  simp only [List.getElem_toArray, List.getElem_cons_zero, List.getElem_cons_succ, Act.put, List.setIfInBounds_toArray, List.set_cons_zero, List.set_cons_succ]
  refine wpAnyH_take (i := 6) (v := ?_) rfl (by kernel_rfl) (by kernel_rfl) (by kernel_rfl) (fun _ _ _ h => h) (Or.inl ⟨by kernel_rfl, ?_⟩) hS ?_
  rotate_left 1
  · (intro w' hS'; clear hS'; go_simp; try with_reducible rfl)
  simp only [List.getElem_toArray, List.getElem_cons_zero, List.getElem_cons_succ, Act.put, List.setIfInBounds_toArray, List.set_cons_zero, List.set_cons_succ]
  refine wpAnyH_done (by kernel_rfl) ?_ _
  clear hS
  go_wp2_with fail
  have FIN := hid (show Fr (fun i => c i ≠ none) w w5 from ((FW.out.trans F4.out (fun _ _ h => h)).mono (fun _ _ h => h.elim)).trans FX.out (fun _ _ h => h))
  have M := hid (show More c c' w.heap.size from fun i hi => P1.out i (Nat.lt_of_lt_of_le hi (FW.out.trans F4.out (fun _ _ h => h)).size))
  go_ret
  exact ⟨FIN.out, _, c', f', rfl, M.out, P2.out, P3.out, P4.out⟩
end Go.Proofs.YtilbdpnioajkoaaGreat

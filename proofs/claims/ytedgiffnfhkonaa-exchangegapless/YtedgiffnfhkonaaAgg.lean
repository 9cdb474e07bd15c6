/-
  Aggregates of many cells, as they are: loads, stores, comparisons by laws of one's own.
-/
import Derived.Test.YtedgiffnfhkonaaRow
import Derived.DeepKeys
import Derived.Deep.Cut
import Derived.Deep.CutRange
import Derived.Deep.MidRow
namespace Go.Proofs.Ytedgiffnfhkonaa
open Go.RowKit
set_option linter.unusedVariables false

theorem cell_at {w : World} {p j : Nat} {cs : Array Value} {t : TypeId} {m : Nat × Nat} (h : w.heap[p]? = some (.cells cs t m)) {v : Value} (hv : cs[j]? = some v) : w.cell? ⟨p, j, none⟩ = some v := by
  rw [cell_of_row w p j cs t m h]; exact hv
theorem cellFr {S : Nat → Prop} {w w' : World} (hf : Fr S w w') {p j : Nat} (hS : ¬ S p) {v : Value} (h : w.cell? ⟨p, j, none⟩ = some v) : w'.cell? ⟨p, j, none⟩ = some v := by
  rw [World.cell?_of_block (w := w) (w' := w') (hf.block _ (World.block_lt_of_cell? w _ h) hS)]
  exact h
theorem wpList_load_v {ops : Array Oper} {rest : List Oper} {o : Oper} {a : Act} {w : World} {Q : Exit → Act → World → Prop} {ty : TypeId} {u v : Value} (hl : (Instr.loadAt ty u).run Try.prog w = .ok v w) (h0 : ∃ x, o.op = .load ty x ∧ a.eval x = u) (hw : Region.wanted o (yielded ops a.tmps) = true)
    (h : wpList Try.prog ops Q rest (a.put o.dst v) w) : wpList Try.prog ops Q (o :: rest) a w :=
  wpList_step fun K hK => by
    obtain ⟨x, ho, hx⟩ := h0
    rw [if_pos hw]
    unfold Oper.wp execOp
    simp only [ho, hx, hl, Sem.run_bind, Result.andThen_ok]
    exact hK _ _ h
theorem wpList_eql_v {ops : Array Oper} {rest : List Oper} {o : Oper} {a : Act} {w : World} {Q : Exit → Act → World → Prop} {t : TypeId} {u v r : Value} (hr : (binOp .eql t u v).run Try.prog w = .ok r w) (h0 : ∃ x y ty, o.op = .binOp .eql t x y ty ∧ a.eval x = u ∧ a.eval y = v ∧ (eqGuard .eql t x y u v).run Try.prog w = .ok () w) (hw : Region.wanted o (yielded ops a.tmps) = true)
    (h : wpList Try.prog ops Q rest (a.put o.dst r) w) : wpList Try.prog ops Q (o :: rest) a w :=
  wpList_step fun K hK => by
    obtain ⟨x, y, ty, ho, hx, hy, hg⟩ := h0
    rw [if_pos hw]
    unfold Oper.wp execOp
    simp only [ho, hx, hy, hg, hr, Sem.run_bind, Result.andThen_ok]
    exact hK _ _ h
theorem eq_self {t : TypeId} (d m : Nat) (hk : Try.prog.keyTypeAt m t = true) (cs : Array Value) (la : List Lit) (D : Nat) (hf : (Value.agg cs).formed Try.prog t = true) (hl : Try.prog.keyLits D t cs.toList = some la) (W : World) : (Op.equalIn (d + m) t (.agg cs) (.agg cs)).run Try.prog W = .ok true W := by
  obtain ⟨r, hr, hi⟩ := run_equalIn_deep d m t hk W D D (.agg cs) (.agg cs) la la hf hf hl hl
  rw [hr, hi.2 rfl]
theorem eql_of {t : TypeId} {cs : Array Value} {W : World} (h : (Op.equalIn 10000 t (.agg cs) (.agg cs)).run Try.prog W = .ok true W) : (binOp .eql t (.agg cs) (.agg cs)).run Try.prog W = .ok (.bool true) W := by
  rw [run_eql_struct, h]
  rfl
theorem guard_of {t : TypeId} (h : Try.prog.eqGuardType Try.prog.depth t = false) (x y : Operand) (cs ds : Array Value) (W : World) : (eqGuard .eql t x y (.agg cs) (.agg ds)).run Try.prog W = .ok () W := by
  have e : ∀ W : World, (Sem.run Try.prog (Sem.program Sem.pure) W : Result Program) = .ok Try.prog W := fun _ => rfl
  unfold eqGuard
  simp [program, e, h]
theorem rangeAt_of {W : World} {g : Nat} {cs : Array Value} {t : TypeId} {m : Nat × Nat} (h : W.heap[g]? = some (.cells cs t m)) (o : Nat) (l : List Value) (hl : (cs.toList.drop o).take l.length = l) : W.rangeAt g o l := fun j v hv => by
  rw [← hl, List.getElem?_take] at hv
  split at hv
  · rw [List.getElem?_drop, Array.getElem?_toList] at hv
    exact cell_at h hv
  · cases hv
theorem Fr.setCells (w : World) (b o : Nat) (vs : List Value) : Fr (fun k => k = b) w (w.setCells b o vs) := by
  induction vs generalizing w o with
  | nil => exact Fr.refl _ _
  | cons v r ih => exact (Fr.setCell (p := ⟨b, o, none⟩) (S := fun k => k = b) (Fr.refl _ w) (fun _ => rfl) v).trans (ih _ (o + 1)) (fun _ _ h => h)
theorem results_cell1 {fn : Func} {a : Tmp} {t : TypeId} (h : fn.results = #[.cell a t]) (tmps : Array Value) (P : Program) (w : World) (ad : Addr) (v : Value) (h1 : tmps.getD a undef = .pointer (some ad)) (h2 : (loadVar t ad).run P w = .ok v w) : (results fn tmps).run P w = .ok v w := by
  have h3 : tmps[a]?.getD undef = .pointer (some ad) := by simpa using h1
  simp [results, h, h3, asAddr, h2]
theorem wpList_store_v {ops : Array Oper} {rest : List Oper} {o : Oper} {a : Act} {w w' : World} {Q : Exit → Act → World → Prop} {ty : TypeId} {u v : Value} (hl : (Instr.storeAt ty u v).run Try.prog w = .ok () w') (h0 : ∃ x y, o.op = .store ty x y ∧ a.eval x = u ∧ a.eval y = v) (hw : Region.wanted o (yielded ops a.tmps) = true)
    (h : wpList Try.prog ops Q rest (a.put o.dst undef) w') : wpList Try.prog ops Q (o :: rest) a w :=
  wpList_step fun K hK => by
    obtain ⟨x, y, ho, hx, hy⟩ := h0
    rw [if_pos hw]
    unfold Oper.wp execOp
    simp only [ho, hx, hy, hl, Sem.run_bind, Result.andThen_ok]
    exact hK _ _ h
theorem results_cell2 {fn : Func} {a b : Tmp} {t : TypeId} (h : fn.results = #[.cell a t, .tmp b]) (tmps : Array Value) (P : Program) (w : World) (ad : Addr) (v u : Value) (h1 : tmps.getD a undef = .pointer (some ad)) (h2 : (loadVar t ad).run P w = .ok v w) (h4 : tmps.getD b undef = u) : (results fn tmps).run P w = .ok (.tuple #[v, u]) w := by
  have h3 : tmps[a]?.getD undef = .pointer (some ad) := by simpa using h1
  have h5 : tmps[b]?.getD undef = u := by simpa using h4
  simp [results, h, h3, asAddr, h2, h5]
theorem rangeAt_kept {S : Nat → Prop} {w w' : World} {b o : Nat} {l : List Value} (h : w.rangeAt b o l) (hf : Fr S w w') (hb : ¬ S b) : w'.rangeAt b o l := fun j v hv => by
  have h1 := h j v hv
  have h2 := hf.block b (World.block_lt_of_cell? _ _ h1) hb
  unfold World.cell? at h1 ⊢
  dsimp only at h1 ⊢
  rw [h2]
  exact h1
theorem there_of {V : World} {g : Nat} {cs : Array Value} {t : TypeId} (bV : V.heap[g]? = some (.cells cs t (0, 0))) {n : Nat} (hn : n ≤ cs.size) : V.there g 0 n := fun j hj => by
  have hj : j < cs.size := Nat.lt_of_lt_of_le hj hn
  refine ⟨?_, frozen_of_row bV⟩
  rw [Nat.zero_add, cell_of_row V _ j _ _ _ bV]
  simp [hj]
theorem set_same {cs : Array Value} {j : Nat} {v : Value} (h : cs[j]? = some v) : cs.setIfInBounds j v = cs := by
  apply Array.ext_getElem?
  intro i
  rw [Array.getElem?_setIfInBounds]
  split
  · rename_i e
    subst e
    split
    · rw [h]
    · rename_i h2
      have := (Array.getElem?_eq_some_iff.1 h).1
      omega
  · rfl
theorem setCells_same {b : Nat} {cs : Array Value} {t : TypeId} : ∀ (vs : List Value) (V : World) (o : Nat), V.heap[b]? = some (.cells cs t (0, 0)) → (∀ j v, vs[j]? = some v → cs[o + j]? = some v) → (V.setCells b o vs).heap[b]? = some (.cells cs t (0, 0))
  | [], V, o, h, _ => h
  | v :: r, V, o, h, hv => by
    have h1 : (V.setCell ⟨b, o, none⟩ v).heap[b]? = some (.cells cs t (0, 0)) := by rw [setCell_row h, set_same (j := o) (hv 0 v rfl)]
    exact setCells_same r (V.setCell ⟨b, o, none⟩ v) (o + 1) h1 (fun j u hu => by rw [Nat.add_assoc, Nat.add_comm 1 j]; exact hv (j + 1) u (by simpa using hu))
theorem there_off {V : World} {g : Nat} {cs : Array Value} {t : TypeId} (bV : V.heap[g]? = some (.cells cs t (0, 0))) {o n : Nat} (hn : o + n ≤ cs.size) : V.there g o n := fun j hj => by
  have hj : o + j < cs.size := by omega
  refine ⟨?_, frozen_of_row bV⟩
  rw [cell_of_row V _ (o + j) _ _ _ bV]
  simp [hj]
/-- a new box, and what is stored into it -/
theorem fresh_box (w : World) (ty : TypeId) (z c : Array Value) (hs : c.size ≤ z.size) (hi : (Try.prog.info? ty).map (·.size) = some c.size) (h1 : c.all (·.oneCell') = true) :
    ∃ W', (Instr.storeAt ty (.pointer (some ⟨w.heap.size, 0, none⟩)) (.agg c)).run Try.prog (w.alloc (.cells z ty)) = .ok () W' ∧ W'.rangeAt w.heap.size 0 c.toList ∧ Fr (fun _ => False) w W' ∧ w.heap.size < W'.heap.size := by
  have b0 : (w.alloc (.cells z ty)).heap[w.heap.size]? = some (.cells z ty (0, 0)) := Go.heap_alloc_new w _
  have th : (w.alloc (.cells z ty)).there w.heap.size 0 c.size := there_of b0 hs
  have hz := (Fr.setCells (w.alloc (.cells z ty)) w.heap.size 0 c.toList).size
  rw [World.size_alloc] at hz
  exact ⟨_, run_storeAt_mid (P := Try.prog) _ _ 0 ty c th hi h1, World.rangeAt_setCells_same _ _ 0 c.toList th, ((Fr.alloc (Fr.refl (fun k => k = w.heap.size) w) (.cells z ty)).trans (Fr.setCells _ _ _ _) (fun _ _ h => h)).mono (fun i hi e => by omega), by omega⟩
/-- a row is stored into a box, and read there -/
theorem box_back {V : World} {b : Nat} {ty : TypeId} {z c : Array Value} {d : TypeDesc} (hb : V.heap[b]? = some (.cells z ty (0, 0))) (hs : c.size ≤ z.size) (hi : (Try.prog.info? ty).map (·.size) = some c.size) (h1 : c.all (·.oneCell') = true) (hu : Try.prog.underlying ty = some d) (hd : d.isRow = true) :
    ∃ V', (Instr.storeAt ty (.pointer (some ⟨b, 0, none⟩)) (.agg c)).run Try.prog V = .ok () V' ∧ (loadVar ty ⟨b, 0, none⟩).run Try.prog V' = .ok (.agg c) V' ∧ Fr (fun k => k = b) V V' := by
  have th : V.there b 0 c.size := there_of hb hs
  exact ⟨_, run_storeAt_mid (P := Try.prog) V _ 0 ty c th hi h1, run_loadVar_mid (P := Try.prog) _ _ 0 ty c.toList _ (World.rangeAt_setCells_same V _ 0 c.toList th) hu hd (by simpa using hi), Fr.setCells _ _ _ _⟩
theorem wpList_neq_v {ops : Array Oper} {rest : List Oper} {o : Oper} {a : Act} {w : World} {Q : Exit → Act → World → Prop} {t : TypeId} {u v r : Value} (hr : (binOp .neq t u v).run Try.prog w = .ok r w) (h0 : ∃ x y ty, o.op = .binOp .neq t x y ty ∧ a.eval x = u ∧ a.eval y = v ∧ (eqGuard .neq t x y u v).run Try.prog w = .ok () w) (hw : Region.wanted o (yielded ops a.tmps) = true)
    (h : wpList Try.prog ops Q rest (a.put o.dst r) w) : wpList Try.prog ops Q (o :: rest) a w :=
  wpList_step fun K hK => by
    obtain ⟨x, y, ty, ho, hx, hy, hg⟩ := h0
    rw [if_pos hw]
    unfold Oper.wp execOp
    simp only [ho, hx, hy, hg, hr, Sem.run_bind, Result.andThen_ok]
    exact hK _ _ h

/-- an aggregate laid into another one, cell by cell -/
theorem fold_set_list (n : Nat) : ∀ (l : List Value) (k : Nat) (cs : Array Value), n + k + l.length ≤ cs.size →
    ((l.zipIdx k).foldl (fun (cs : Array Value) x => cs.setIfInBounds (n + x.2) x.1) cs).toList = cs.toList.take (n + k) ++ l ++ cs.toList.drop (n + k + l.length)
  | [], k, cs, h => by simp
  | v :: r, k, cs, h => by
    simp only [List.length_cons] at h
    rw [List.zipIdx_cons, List.foldl_cons, fold_set_list n r (k + 1) _ (by simp; omega)]
    simp only [Array.toList_setIfInBounds]
    have e1 : (cs.toList.set (n + k) v).take (n + (k + 1)) = cs.toList.take (n + k) ++ [v] := by
      rw [← Nat.add_assoc, List.take_add_one, List.take_set, List.getElem?_set, List.set_eq_of_length_le (by rw [List.length_take]; omega), if_pos rfl, if_pos (by rw [Array.length_toList]; omega)]
      rfl
    have e2 : (cs.toList.set (n + k) v).drop (n + (k + 1) + r.length) = cs.toList.drop (n + k + (r.length + 1)) := by
      rw [List.drop_set, if_pos (by omega)]
      congr 1
      omega
    rw [e1, e2, List.length_cons]
    simp
theorem fold_set (n m : Nat) (es Z : Array Value) (hm : es.size = m) (hs : n + m = Z.size) :
    Array.foldl (fun (cs : Array Value) x => cs.setIfInBounds (n + x.2) x.1) Z es.zipIdx 0 m = (Z.toList.take n ++ es.toList).toArray := by
  have h := fold_set_list n es.toList 0 Z (by simp; omega)
  rw [← Array.toList_inj]
  have e : m = es.zipIdx.size := by simp [hm]
  rw [e, ← Array.foldl_toList, Array.toList_zipIdx, h, List.drop_eq_nil_of_le (by simp; omega)]
  simp
/-- a whole row is stored into a box -/
theorem box_whole {V : World} {b : Nat} {ty : TypeId} {z c : Array Value} (hb : V.heap[b]? = some (.cells z ty (0, 0))) (hs : c.size = z.size) (hi : (Try.prog.info? ty).map (·.size) = some c.size) (h1 : c.all (·.oneCell') = true) :
    ∃ V', (Instr.storeAt ty (.pointer (some ⟨b, 0, none⟩)) (.agg c)).run Try.prog V = .ok () V' ∧ V'.heap[b]? = some (.cells c ty (0, 0)) ∧ Fr (fun k => k = b) V V' := by
  have th : V.there b 0 c.size := there_of hb (by omega)
  refine ⟨_, run_storeAt_mid (P := Try.prog) V _ 0 ty c th hi h1, ?_, Fr.setCells _ _ _ _⟩
  have key : ∀ (vs : List Value) (V : World) (o : Nat) (z : Array Value), V.heap[b]? = some (.cells z ty (0, 0)) → o + vs.length = z.size → (V.setCells b o vs).heap[b]? = some (.cells (z.toList.take o ++ vs).toArray ty (0, 0)) := by
    intro vs
    induction vs with
    | nil =>
      intro V o z hz ho
      simp only [List.length_nil, Nat.add_zero] at ho
      simp only [World.setCells]
      rw [hz, List.append_nil, ho, List.take_of_length_le (by simp)]
    | cons v r ih =>
      intro V o z hz ho
      simp only [List.length_cons] at ho
      simp only [World.setCells]
      rw [ih _ (o + 1) _ (setCell_row hz v) (by simp; omega)]
      have e : (z.setIfInBounds o v).toList.take (o + 1) ++ r = z.toList.take o ++ v :: r := by
        rw [Array.toList_setIfInBounds, List.take_add_one, List.take_set, List.getElem?_set, List.set_eq_of_length_le (by rw [List.length_take]; omega), if_pos rfl, if_pos (by rw [Array.length_toList]; omega), List.append_assoc]
        rfl
      rw [e]
  have := key c.toList V 0 z hb (by simp [hs])
  simpa using this
/-- a box read whole -/
theorem load_whole {W : World} {b : Nat} {ty ty' : TypeId} {cs : Array Value} {d : TypeDesc} {m : Nat × Nat} (hb : W.heap[b]? = some (.cells cs ty' m)) (hu : Try.prog.underlying ty = some d) (hd : d.isRow = true) (hi : (Try.prog.info? ty).map (·.size) = some cs.size) :
    (Instr.loadAt ty (.pointer (some ⟨b, 0, none⟩))).run Try.prog W = .ok (.agg cs) W := by
  have := run_loadAt_mid (P := Try.prog) W b 0 ty cs.toList _ (rangeAt_of hb 0 cs.toList (by rw [List.drop_zero]; exact List.take_length)) hu hd (by rw [Array.length_toList]; exact hi)
  simpa using this
theorem loadVar_whole {W : World} {b : Nat} {ty ty' : TypeId} {cs : Array Value} {d : TypeDesc} {m : Nat × Nat} (hb : W.heap[b]? = some (.cells cs ty' m)) (hu : Try.prog.underlying ty = some d) (hd : d.isRow = true) (hi : (Try.prog.info? ty).map (·.size) = some cs.size) :
    (loadVar ty ⟨b, 0, none⟩).run Try.prog W = .ok (.agg cs) W := by
  have := run_loadVar_mid (P := Try.prog) W b 0 ty cs.toList _ (rangeAt_of hb 0 cs.toList (by rw [List.drop_zero]; exact List.take_length)) hu hd (by rw [Array.length_toList]; exact hi)
  simpa using this
end Go.Proofs.Ytedgiffnfhkonaa

/-
  Append onto an owned row of whatever elements: where the row then lies.
-/
import Derived.Test.YtedgiffnfhkonaaMem
namespace Go.Proofs.Ytedgiffnfhkonaa
open Go.RowKit
set_option linter.unusedVariables false

theorem run_append_x {P : Program} (w : World) (t ty e : TypeId) (i : TypeInfo) (z : Value) (size bytes : Nat) (ht : P.underlying t = some (.slice e)) (hi : P.info? e = some i) (hz : i.zero = some z)
    (hsize : i.size = size) (hby : i.bytes = bytes) (hzs : z.cells.size = size) (hsz : 0 < size)
    (a : Option Addr) (n c : Nat) (xs : List Value) (hown : w.ownsRow 0 e size (.slice a n c) n xs)
    (sa : Addr) (m sc : Nat) (news : List Value) (hl : news.length = m * size) (hnews : ∀ j u, news[j]? = some u → w.cell? (sa.add j) = some u) (h1 : ∀ u ∈ news, u.oneCell' = true) (hm : 0 < m)
    (h63 : n + m ≤ maxLen) (hbytes : ((n + m) + (n + m) / 4 + 192) * bytes ≤ 281474976710656) :
    ∃ a' c' w', (Builtin.append_ #[t, t] ty #[.slice a n c, .slice (some sa) m sc]).run P w = .ok (.slice a' (n + m) c') w' ∧ w'.ownsRow 0 e size (.slice a' (n + m) c') (n + m) (xs ++ news) ∧ w.grownBy w' (blk a) ∧
      ((a' = a ∧ c' = c) ∨ (a' = some ⟨w.heap.size, 0, none⟩ ∧ w.grownBy w' none)) := by
  obtain ⟨v', w', hr, h2, h3, h4⟩ := run_append_own_wide (P := P) w 0 t ty e i z size bytes ht hi hz hsize hby hzs hsz _ n xs hown sa m sc news hl hnews h1 h63 hbytes (Nat.zero_le _)
  have hob : (Value.slice a n c).ownBlock = blk a := by cases a <;> rfl
  rw [hob] at h3
  by_cases hroom : n + m ≤ c
  · rcases hown.2 with ⟨hv, h0⟩ | ⟨g, cap, cur, hv, hb, hg, hn, hmx, hcs, htk⟩
    · simp only [Value.slice.injEq] at hv
      omega
    · simp only [Value.slice.injEq] at hv
      obtain ⟨rfl, _, rfl⟩ := hv
      have hs : Src P size t (.slice (some sa) m sc) m news w := Src.ofSlice w ht sa m sc _ hl hnews h1
      have hst := run_storeCells_at (P := P) g (n * size) e news 0 cur w hg (by rw [hl, hcs, Nat.add_zero, ← Nat.add_mul]; exact Nat.mul_le_mul_right _ hroom) h1
      simp only [Nat.add_zero] at hst
      have hW : (Builtin.append_ #[t, t] ty #[.slice (some ⟨g, 0, none⟩) n c, .slice (some sa) m sc]).run P w = .ok (.slice (some ⟨g, 0, none⟩) (n + m) c) (w.setRow g (cur.toList.take (n * size) ++ news ++ cur.toList.drop (n * size + news.length)).toArray) := by
        simp [Builtin.append_, run_underlying ht, sizeOf, typeInfo, hi, hsize, hs.len, hroom, hs.cells, Addr.add_lit, hst]
      rw [hr] at hW
      simp only [Result.ok.injEq] at hW
      obtain ⟨rfl, _⟩ := hW
      exact ⟨_, _, w', hr, h2, h3, .inl ⟨rfl, rfl⟩⟩
  · have hs : Src P size t (.slice (some sa) m sc) m news w := Src.ofSlice w ht sa m sc _ hl hnews h1
    have hold : (Builtin.firstCells i.size n (.slice a n c)).run P w.drew = .ok xs.toArray w.drew := by
      rw [hsize]
      rcases hown.2 with ⟨hv, h0⟩ | ⟨g, cap, cur, hv, hb, hg, hn, hmx, hcs, htk⟩
      · simp only [Value.slice.injEq] at hv
        obtain ⟨rfl, _, rfl⟩ := hv
        have : xs = [] := List.eq_nil_of_length_eq_zero (by rw [hown.1, h0]; simp)
        subst this
        subst h0
        exact run_firstCells_none w.drew size 0 0 0
      · simp only [Value.slice.injEq] at hv
        obtain ⟨rfl, _, rfl⟩ := hv
        exact run_firstCells_some w.drew size n ⟨g, 0, none⟩ n c xs hown.1 (fun j u hu => by
          rw [Addr.add_lit, Nat.zero_add]
          rw [← htk, List.getElem?_take] at hu
          split at hu
          · exact cellA (w := w.drew) hg (by simpa using hu)
          · cases hu)
    have hg := run_append_grow_src (P := P) w t t ty e i z ht hi hz a n c xs hold (.slice (some sa) m sc) m news (by rw [hsize]; exact hs)
      (by omega) (by unfold maxLen at h63; omega) (by rw [hby]; exact growslice_fits_wide (by omega) hbytes)
    rw [hr] at hg
    simp only [Result.ok.injEq] at hg
    obtain ⟨rfl, rfl⟩ := hg
    exact ⟨_, _, _, hr, h2, h3, .inr ⟨rfl, ⟨rfl, rfl, rfl, by simp, fun k hk _ => Below.heap_alloc w.drew _ k hk⟩⟩⟩

/-- A ROW THAT LIES AT AN OFFSET in its block: the slice '.slice a n c'. -/
def Ro (w : World) (e : TypeId) (k : Nat) (a : Option Addr) (n c : Nat) (xs : List Value) : Prop :=
  xs.length = n * k ∧ ((a = none ∧ n = 0 ∧ c = 0) ∨ ∃ g o cur, a = some ⟨g, o * k, none⟩ ∧ w.heap[g]? = some (.cells cur e (0, 0)) ∧ n ≤ c ∧ c ≤ maxLen ∧ cur.size = (o + c) * k ∧ (cur.toList.drop (o * k)).take (n * k) = xs)
theorem Ro.nil (w : World) (e : TypeId) (k : Nat) : Ro w e k none 0 0 [] := ⟨by simp, .inl ⟨rfl, rfl, rfl⟩⟩
theorem Ro.le {w : World} {e : TypeId} {k : Nat} {a : Option Addr} {n c : Nat} {xs : List Value} (h : Ro w e k a n c xs) : n ≤ c ∧ n ≤ maxLen := by
  rcases h.2 with ⟨_, h1, h2⟩ | ⟨g, o, cur, _, _, h1, h2, _⟩
  · subst h1; subst h2; exact ⟨Nat.le_refl _, Nat.zero_le _⟩
  · exact ⟨h1, Nat.le_trans h1 h2⟩
theorem Ro.kept {S : Nat → Prop} {w w' : World} {e : TypeId} {k : Nat} {a : Option Addr} {n c : Nat} {xs : List Value} (h : Ro w e k a n c xs) (hf : Fr S w w') (hS : ∀ j, blk a = some j → ¬ S j) : Ro w' e k a n c xs := by
  refine ⟨h.1, ?_⟩
  rcases h.2 with h0 | ⟨g, o, cur, hv, hg, r⟩
  · exact .inl h0
  · exact .inr ⟨g, o, cur, hv, hf.cells hg (fun hs => hS g (by rw [hv]; rfl) hs), r⟩
theorem Ro.lt {w : World} {e : TypeId} {k : Nat} {a : Option Addr} {n c : Nat} {xs : List Value} (h : Ro w e k a n c xs) : ∀ j, blk a = some j → j < w.heap.size := fun j hj => by
  rcases h.2 with ⟨hv, _⟩ | ⟨g, o, cur, hv, hg, _⟩
  · rw [hv] at hj; simp [blk] at hj
  · rw [hv] at hj; simp [blk] at hj; subst hj; exact lt_of_row hg
theorem Ro.cell {w : World} {e : TypeId} {k g fo : Nat} {n c : Nat} {xs : List Value} (h : Ro w e k (some ⟨g, fo, none⟩) n c xs) {j : Nat} {u : Value} (hu : xs[j]? = some u) : w.cell? ⟨g, fo + j, none⟩ = some u := by
  rcases h.2 with ⟨hv, _⟩ | ⟨g', o, cur, hv, hg, _, _, _, h4⟩
  · cases hv
  · simp only [Option.some.injEq, Addr.mk.injEq, and_true] at hv
    obtain ⟨rfl, rfl⟩ := hv
    rw [← h4, List.getElem?_take] at hu
    split at hu
    · rw [List.getElem?_drop] at hu
      exact cellA hg (by simpa using hu)
    · cases hu
theorem Ro.some_of {w : World} {e : TypeId} {k : Nat} {a : Option Addr} {n c : Nat} {xs : List Value} (h : Ro w e k a n c xs) (hn : 0 < n) : ∃ g fo, a = some ⟨g, fo, none⟩ := by
  rcases h.2 with ⟨_, h1, _⟩ | ⟨g, o, cur, hv, _⟩
  · omega
  · exact ⟨g, _, hv⟩
theorem Ro.frozen {w : World} {e : TypeId} {k g fo : Nat} {n c : Nat} {xs : List Value} (h : Ro w e k (some ⟨g, fo, none⟩) n c xs) (j : Nat) : w.frozen? ⟨g, j, none⟩ = false := by
  rcases h.2 with ⟨hv, _⟩ | ⟨g', o, cur, hv, hg, _⟩
  · cases hv
  · simp only [Option.some.injEq, Addr.mk.injEq, and_true] at hv
    obtain ⟨rfl, rfl⟩ := hv
    exact frozen_of_row hg
theorem Ro.set {w : World} {e : TypeId} {k g fo n c : Nat} {xs xs' : List Value} (h : Ro w e k (some ⟨g, fo, none⟩) n c xs) {j : Nat} {v : Value} (hc : xs.set j v = xs') : Ro (w.setCell ⟨g, fo + j, none⟩ v) e k (some ⟨g, fo, none⟩) n c xs' := by
  rcases h.2 with ⟨hv, _⟩ | ⟨g', o, cur, hv, hg, h1, h2, h3, h4⟩
  · cases hv
  · simp only [Option.some.injEq, Addr.mk.injEq, and_true] at hv
    obtain ⟨rfl, rfl⟩ := hv
    refine ⟨by rw [← hc, List.length_set]; exact h.1, .inr ⟨g, o, cur.setIfInBounds (o * k + j) v, rfl, setCell_row hg v, h1, h2, by simpa using h3, ?_⟩⟩
    rw [Array.toList_setIfInBounds, List.drop_set, if_neg (by omega), List.take_set, h4, ← hc]
    congr 1
    omega
theorem run_append_o {P : Program} (w : World) (t ty e : TypeId) (i : TypeInfo) (z : Value) (size bytes : Nat) (ht : P.underlying t = some (.slice e)) (hi : P.info? e = some i) (hz : i.zero = some z)
    (hsize : i.size = size) (hby : i.bytes = bytes) (hzs : z.cells.size = size) (hsz : 0 < size)
    (a : Option Addr) (n c : Nat) (xs : List Value) (hown : Ro w e size a n c xs)
    (sa : Addr) (m sc : Nat) (news : List Value) (hl : news.length = m * size) (hnews : ∀ j u, news[j]? = some u → w.cell? (sa.add j) = some u) (h1 : ∀ u ∈ news, u.oneCell' = true) (hm : 0 < m)
    (h63 : n + m ≤ 1000000000000000) (hbytes : ((n + m) + (n + m) / 4 + 192) * bytes ≤ 281474976710656) :
    ∃ a' c' w', (Builtin.append_ #[t, t] ty #[.slice a n c, .slice (some sa) m sc]).run P w = .ok (.slice a' (n + m) c') w' ∧ Ro w' e size a' (n + m) c' (xs ++ news) ∧ w.grownBy w' (blk a) ∧
      ((a' = a ∧ c' = c) ∨ (a' = some ⟨w.heap.size, 0, none⟩ ∧ w.grownBy w' none)) := by
  have hs : Src P size t (.slice (some sa) m sc) m news w := Src.ofSlice w ht sa m sc _ hl hnews h1
  have hxl : (xs ++ news).length = (n + m) * size := by rw [List.length_append, hown.1, hl, Nat.add_mul]
  by_cases hroom : n + m ≤ c
  · rcases hown.2 with ⟨_, h0, h00⟩ | ⟨g, o, cur, rfl, hg, hn, hmx, hcs, htk⟩
    · omega
    · have hcsz : (o + n + m) * size ≤ cur.size := by rw [hcs]; exact Nat.mul_le_mul_right _ (by omega)
      have e1 : (o + n + m) * size = o * size + n * size + m * size := by rw [Nat.add_mul, Nat.add_mul]
      have hst := run_storeCells_at (P := P) g (o * size + n * size) e news 0 cur w hg (by rw [hl]; omega) h1
      simp only [Nat.add_zero] at hst
      have hW : (Builtin.append_ #[t, t] ty #[.slice (some ⟨g, o * size, none⟩) n c, .slice (some sa) m sc]).run P w = .ok (.slice (some ⟨g, o * size, none⟩) (n + m) c) (w.setRow g (cur.toList.take (o * size + n * size) ++ news ++ cur.toList.drop (o * size + n * size + news.length)).toArray) := by
        simp [Builtin.append_, run_underlying ht, sizeOf, typeInfo, hi, hsize, hs.len, hroom, hs.cells, Addr.add_lit, hst]
      refine ⟨_, c, _, hW, ⟨hxl, .inr ⟨g, o, _, rfl, setRow_heap w g cur _ e _ hg, hroom, hmx, ?_, ?_⟩⟩, ⟨rfl, rfl, rfl, by simp, fun k _ hk => setRow_other w g k _ (fun e => hk (by simp [blk, e]))⟩, .inl ⟨rfl, rfl⟩⟩
      · simp only [List.size_toArray, List.length_append, List.length_take, List.length_drop, Array.length_toList, hl]
        rw [← hcs]
        omega
      · have e2 : (cur.toList.take (o * size + n * size)).drop (o * size) = xs := by rw [List.drop_take, ← htk]; congr 1; omega
        rw [List.append_assoc, List.drop_append, e2, List.length_take, Array.length_toList, show o * size - min (o * size + n * size) cur.size = 0 by omega, List.drop_zero, ← List.append_assoc, ← hxl]
        exact List.take_left
  · have hold : (Builtin.firstCells i.size n (.slice a n c)).run P w.drew = .ok xs.toArray w.drew := by
      rw [hsize]
      rcases hown.2 with ⟨rfl, rfl, rfl⟩ | ⟨g, o, cur, rfl, hg, hn, hmx, hcs, htk⟩
      · have : xs = [] := List.eq_nil_of_length_eq_zero (by rw [hown.1]; simp)
        subst this
        exact run_firstCells_none w.drew size 0 0 0
      · exact run_firstCells_some w.drew size n ⟨g, o * size, none⟩ n c xs hown.1 (fun j u hu => by
          rw [Addr.add_lit]
          exact (Ro.cell (w := w.drew) (e := e) (k := size) (c := c) ⟨hown.1, .inr ⟨g, o, cur, rfl, hg, hn, hmx, hcs, htk⟩⟩ hu))
    have hr := run_append_grow_src (P := P) w t t ty e i z ht hi hz a n c xs hold (.slice (some sa) m sc) m news (by rw [hsize]; exact hs)
      (by omega) (by omega) (by rw [hby]; exact growslice_fits_wide (by omega) hbytes)
    have hge := grownCap_ge w (n + m) c e
    have hcm : grownCap w (n + m) c e ≤ maxLen := grownCap_le_maxLen w (n + m) c e (by unfold maxLen; omega)
    refine ⟨_, _, _, hr, ⟨hxl, .inr ⟨w.heap.size, 0, _, by simp, Go.heap_alloc_new w.drew _, hge, hcm, ?_, ?_⟩⟩, ⟨rfl, rfl, rfl, by simp, fun k hk _ => Below.heap_alloc w.drew _ k hk⟩, .inr ⟨rfl, ⟨rfl, rfl, rfl, by simp, fun k hk _ => Below.heap_alloc w.drew _ k hk⟩⟩⟩
    · simp only [Array.size_append, List.size_toArray, size_zeroCells, hzs]
      have := hxl
      rw [List.length_append] at this
      rw [Nat.zero_add, Nat.sub_mul]
      have h5 : (n + m) * size ≤ grownCap w (n + m) c e * size := Nat.mul_le_mul_right _ hge
      first | omega | (simp only [List.length_append]; omega)
    · simp only [Array.toList_append, Nat.zero_mul, List.drop_zero]
      rw [← hxl]
      first | exact List.take_left | (simp)

theorem wpList_append_eq (w w' : World) {ops : Array Oper} {rest : List Oper} {o : Oper} {a : Act} {Q : Exit → Act → World → Prop} (hgd : o.guard = none) (s x : Operand) (ts : Array TypeId)
    (ho : o.op = .call { callee := .builtin .append, args := #[s, x], argTypes := ts }) (sv xv v : Value) (hs : a.eval s = sv) (hx : a.eval x = xv) (hr : (Builtin.append_ ts o.type #[sv, xv]).run Try.prog w = .ok v w')
    (h : wpList Try.prog ops Q rest (a.put o.dst v) w') : wpList Try.prog ops Q (o :: rest) a w := by
  refine wpList_plain hgd fun K hK => ?_
  unfold Oper.wp execOp
  simp only [ho, resolve, invoke, builtin, Sem.run_bind, Sem.run_pure, Result.andThen_ok, List.map_toArray, List.map_cons, List.map_nil, hs, hx, hr]
  exact hK _ _ h
theorem wp_append_eq {o : Oper} {a : Act} {w w' : World} {K : Act → World → Prop} {Q : Exit → Act → World → Prop} (s x : Operand) (ts : Array TypeId) (ho : o.op = .call { callee := .builtin .append, args := #[s, x], argTypes := ts }) (sv xv v : Value) (hs : a.eval s = sv) (hx : a.eval x = xv)
    (hr : (Builtin.append_ ts o.type #[sv, xv]).run Try.prog w = .ok v w') (h : K (a.put o.dst v) w') : o.wp Try.prog a w K Q := by
  unfold Oper.wp execOp
  simp only [ho, resolve, invoke, builtin, Sem.run_bind, Sem.run_pure, Result.andThen_ok, List.map_toArray, List.map_cons, List.map_nil, hs, hx, hr]
  exact h

end Go.Proofs.Ytedgiffnfhkonaa

/-
  Lists of stamps and of vectors that are handed in; a vector, an operation.
-/
import Derived.Test.YtedgiffnfhkonaaSOpen
import Derived.Test.YtedgiffnfhkonaaSFold
import Derived.Test.YtedgiffnfhkonaaSOp
import Derived.Deep.Strs
namespace Go.Proofs.Ytedgiffnfhkonaa
open Go.ChangeShapes Go.WideShapes Go.ChangeAt Go.RowKit
set_option linter.unusedVariables false
set_option linter.unusedSimpArgs false

/-- the type of a cell of a type: a number's, a text's, a slice's -/
def leafAt (P : Program) : Nat → TypeId → Nat → Option TypeId
  | 0, _, _ => none
  | d + 1, t, j => match P.underlying t with
    | some (.struct fs) => fs.toList.findSome? (fun f => if f.offset ≤ j ∧ j < f.offset + P.cellsOf f.type then leafAt P d f.type (j - f.offset) else none)
    | some (.array n e) => if j / P.cellsOf e < n ∧ 0 < P.cellsOf e then leafAt P d e (j % P.cellsOf e) else none
    | some (.int _) => if j = 0 then some t else none
    | some .string => if j = 0 then some t else none
    | some (.slice _) => if j = 0 then some t else none
    | _ => none
theorem wt_all {H : Type} {P : Program} {e : TypeId} {d : DataW H} {m : Nat} : ∀ {l : List (DataW H)}, d ∈ l → m ∈ DataW.weights P e d → m ∈ DataW.weightsAll P e l
  | x :: r, h, hm => by
    simp only [DataW.weightsAll, List.mem_append]
    rcases List.mem_cons.1 h with rfl | h
    · exact .inl hm
    · exact .inr (wt_all h hm)
theorem wt_each {H : Type} {P : Program} {t : TypeId} {d : DataW H} {m : Nat} : ∀ {i : Nat} (ts : List TypeId) (l : List (DataW H)), ts[i]? = some t → l[i]? = some d → m ∈ DataW.weights P t d → m ∈ DataW.weightsEach P ts l
  | 0, t' :: ts, d' :: l, h1, h2, hm => by
    simp at h1 h2
    subst h1; subst h2
    simp only [DataW.weightsEach, List.mem_append]
    exact .inl hm
  | i + 1, t' :: ts, d' :: l, h1, h2, hm => by
    simp only [List.getElem?_cons_succ] at h1 h2
    simp only [DataW.weightsEach, List.mem_append]
    exact .inr (wt_each ts l h1 h2 hm)
  | _, [], _, h1, _, _ => by simp at h1
  | _, _ :: _, [], _, h2, _ => by simp at h2
theorem wt_slice {H : Type} {P : Program} {t e : TypeId} (ht : P.underlying t = some (.slice e)) (elems spare : List (DataW H)) : (elems.length + spare.length) * P.bytesOf e ∈ DataW.weights P t (.slice elems spare) := by
  simp only [DataW.weights, ht]
  exact List.mem_cons_self ..
theorem reach_of {H : Type} {P : Program} {ts : List TypeId} {l : List (DataW H)} (h : (DataW.weightsEach P ts l).all (· ≤ reachBytes) = true) {j : Nat} {t : TypeId} {d : DataW H} (h1 : ts[j]? = some t) (h2 : l[j]? = some d) {m : Nat} (hm : m ∈ DataW.weights P t d) : m ≤ reachBytes := by
  have := List.all_eq_true.1 h m (wt_each ts l h1 h2 hm)
  simpa using this
theorem trod_leafW {H : Type} {enc : TypeId × Value → H} {P : Program} {W : World} {base : Nat} {sp : Nat → Bool} {held : Bool} : ∀ (d : Nat) (t : TypeId) (j : Nat) (u : TypeId) (fuel : Nat) (cs : List Value) (x : DataW H × List MemPlace),
    leafAt P d t j = some u → DataW.trod enc P W base sp held fuel t cs = some x → ∃ v n y, cs[j]? = some v ∧ DataW.trod enc P W base sp held n u [v] = some y ∧ ∀ m ∈ DataW.weights P u y.1, m ∈ DataW.weights P t x.1
  | 0, t, j, u, fuel, cs, x, h, hx => by simp [leafAt] at h
  | d + 1, t, j, u, fuel, cs, x, h, hx => by
    unfold leafAt at h
    cases ht : P.underlying t with
    | none => rw [ht] at h; simp at h
    | some desc =>
      rw [ht] at h
      cases desc with
      | struct fs =>
        simp only at h
        obtain ⟨f, hf, hif⟩ := List.exists_of_findSome?_eq_some h
        by_cases hc : f.offset ≤ j ∧ j < f.offset + P.cellsOf f.type
        · rw [if_pos hc] at hif
          obtain ⟨xs, n, rfl, rfl, hl, hlen, hfs⟩ := DataW.trod_struct ht hx
          obtain ⟨i, hi⟩ := List.getElem?_of_mem hf
          have hi' : i < xs.length := by
            have := (List.getElem?_eq_some_iff.1 hi).1
            simpa [hlen] using this
          have h1 := hfs i f (by simpa using hi)
          rw [List.getElem?_eq_getElem hi'] at h1
          obtain ⟨v, n', z, h2, h3, h4⟩ := trod_leafW d f.type (j - f.offset) u n _ _ hif h1
          refine ⟨v, n', z, ?_, h3, ?_⟩
          · rw [List.getElem?_take, if_pos (by omega), List.getElem?_drop] at h2
            rwa [show f.offset + (j - f.offset) = j by omega] at h2
          · intro m hm
            have h5 := h4 m hm
            simp only [DataW.weights, ht]
            exact wt_each (i := i) (t := f.type) (d := (xs[i]).1) _ _ (by rw [List.getElem?_map]; simp at hi; simp [hi]) (by rw [List.getElem?_map, List.getElem?_eq_getElem hi']; rfl) h5
        · rw [if_neg hc] at hif; cases hif
      | array m e =>
        simp only at h
        by_cases hc : j / P.cellsOf e < m ∧ 0 < P.cellsOf e
        · rw [if_pos hc] at h
          obtain ⟨xs, n, rfl, rfl, hl, hlen, hfs⟩ := DataW.trod_array ht hx
          have h1 := hfs (j / P.cellsOf e) hc.1
          have hi' : j / P.cellsOf e < xs.length := by omega
          rw [List.getElem?_eq_getElem hi'] at h1
          obtain ⟨v, n', z, h2, h3, h4⟩ := trod_leafW d e (j % P.cellsOf e) u n _ _ h h1
          refine ⟨v, n', z, ?_, h3, ?_⟩
          · rw [List.getElem?_take, if_pos (Nat.mod_lt _ hc.2), List.getElem?_drop] at h2
            have e1 : j / P.cellsOf e * P.cellsOf e + j % P.cellsOf e = j := by rw [Nat.mul_comm]; exact Nat.div_add_mod j _
            rwa [e1] at h2
          · intro m hm
            have h5 := h4 m hm
            simp only [DataW.weights, ht]
            exact wt_all (List.mem_map.2 ⟨xs[j / P.cellsOf e], List.getElem_mem hi', rfl⟩) h5
        · rw [if_neg hc] at h; cases h
      | int k =>
        simp only at h
        split at h
        · rename_i hj
          cases h
          subst hj
          obtain ⟨z, rfl, _, _⟩ := DataW.trod_int ht hx
          exact ⟨_, fuel, x, rfl, hx, fun _ h => h⟩
        · cases h
      | string =>
        simp only at h
        split at h
        · rename_i hj
          cases h
          subst hj
          obtain ⟨z, rfl, _, _⟩ := DataW.trod_string ht hx
          exact ⟨_, fuel, x, rfl, hx, fun _ h => h⟩
        · cases h
      | slice e =>
        simp only at h
        split at h
        · rename_i hj
          cases h
          subst hj
          rcases Go.Deep.open_slice ht hx with ⟨rfl, _⟩ | ⟨a, l, c, m, n, D, Pl, rfl, _⟩
          · exact ⟨_, fuel, x, rfl, hx, fun _ h => h⟩
          · exact ⟨_, fuel, x, rfl, hx, fun _ h => h⟩
        · cases h
      | _ => simp at h
theorem S.cellI {H : Type} {enc : TypeId × Value → H} {W : World} {t : TypeId} {j : Nat} {fuel : Nat} {cs : List Value} {x : DataW H × List MemPlace} {u : TypeId} (hl : leafAt Try.prog 5 t j = some u) (hu : Try.prog.underlying u = some (.int .i64)) (h : DataW.trod enc Try.prog W 0 (fun _ => true) true fuel t cs = some x) : ∃ n, cs[j]? = some (.int .i64 n) := by
  obtain ⟨v, n, y, h1, h2, _⟩ := trod_leafW 5 t j u fuel cs x hl h
  obtain ⟨z, hz, _⟩ := DataW.trod_int hu h2
  simp at hz
  exact ⟨z, by rw [h1, hz]⟩
/-- a list whose elements are k numbers each -/
theorem open_ri {H : Type} {enc : TypeId × Value → H} {W : World} {a : Option Addr} {len cap : Nat} {d : DataW H} {p : List MemPlace} {t e : TypeId} {k bytes : Nat} (ht : Try.prog.underlying t = some (.slice e)) (hk : Try.prog.cellsOf e = k) (hby : Try.prog.bytesOf e = bytes) (hk1 : 1 ≤ k) (hb1 : 1 ≤ bytes) (hleaf : ∀ j, j < k → ∃ u, leafAt Try.prog 5 e j = some u ∧ Try.prog.underlying u = some (.int .i64))
    (h : DataW.Trod enc Try.prog W 0 (fun _ => true) true t (.slice a len cap) d p) (hb : ∀ m ∈ DataW.weights Try.prog t d, m ≤ reachBytes) :
    ∃ z, Ri W k a len z ∧ len ≤ cap ∧ cap * bytes ≤ reachBytes := by
  obtain ⟨fuel, hf⟩ := h
  rcases Go.Deep.open_slice ht hf with ⟨hcs, hx⟩ | ⟨x, l, c, m, n, D, Pl, hcs, _, hl, hm, hmm, hx, hr⟩
  · simp [Value.cells] at hcs
    obtain ⟨rfl, rfl, rfl⟩ := hcs
    exact ⟨fun _ _ => 0, .inl rfl, Nat.le_refl _, by simp⟩
  · simp [Value.cells] at hcs
    obtain ⟨rfl, rfl, rfl⟩ := hcs
    simp only [if_true] at hmm
    subst hmm
    simp only [Prod.mk.injEq] at hx
    rw [hk] at hr
    rw [hx.1] at hb
    have hlb : m * bytes ≤ reachBytes := by
      have h1 := hb _ (wt_slice ht _ _)
      rw [hby] at h1
      simp only [List.length_map, List.length_range] at h1
      refine Nat.le_trans (Nat.mul_le_mul_right _ ?_) h1
      omega
    have each : ∀ i, i < len → ∃ o : Nat → Int, ∀ j, j < k → W.cell? ((x.add (i * k)).add j) = some (.int .i64 (o j)) := by
      intro i hi
      obtain ⟨cs', h1, h2⟩ := hr i (by omega)
      obtain ⟨_, hlen, hcell⟩ := World.cells?_some h1
      have each2 : ∀ j, j < k → ∃ n, cs'[j]? = some (.int .i64 n) := fun j hj => by
        obtain ⟨u, hu1, hu2⟩ := hleaf j hj
        exact S.cellI hu1 hu2 h2
      obtain ⟨o, ho⟩ := Go.Deep.choose_lt (α := Int) each2
      refine ⟨o, fun j hj => ?_⟩
      have h3 := ho j hj
      rw [hcell j (by omega), ← h3, List.getElem?_eq_getElem (by omega)]
    haveI : Inhabited (Nat → Int) := ⟨fun _ => 0⟩
    obtain ⟨Q, hQ⟩ := Go.Deep.choose_lt (α := Nat → Int) each
    refine ⟨Q, ?_, hl, hlb⟩
    by_cases hz : len = 0
    · exact .inl hz
    · right
      · obtain ⟨b, off, spot⟩ := x
        have hc0 := hQ 0 (by omega) 0 (by omega)
        have hspot : spot = none := by simpa [Addr.add] using World.cell?_spot hc0
        subst hspot
        refine ⟨b, off, rfl, fun i j hi hj => ?_⟩
        have h5 := hQ i hi j hj
        rw [Addr.add_lit, Addr.add_lit] at h5
        exact h5
theorem leafVc0 : ((List.range 8).all (fun j => leafAt Try.prog 5 24 j == some 2)) = true := by kernel_rfl
theorem leafVc : ∀ j, j < 8 → ∃ u, leafAt Try.prog 5 24 j = some u ∧ Try.prog.underlying u = some (.int .i64) := fun j hj => by
  have := List.all_eq_true.1 leafVc0 j (List.mem_range.2 hj)
  exact ⟨2, by simpa using this, Try.underlying2⟩
theorem leafSt0 : leafAt Try.prog 5 41 0 = some 2 := by kernel_rfl
theorem leafSt1 : leafAt Try.prog 5 41 1 = some 3 := by kernel_rfl
theorem leafSt : ∀ j, j < 2 → ∃ u, leafAt Try.prog 5 41 j = some u ∧ Try.prog.underlying u = some (.int .i64) := fun j hj => by
  match j, hj with
  | 0, _ => exact ⟨2, leafSt0, Try.underlying2⟩
  | 1, _ => exact ⟨3, leafSt1, Try.underlying3⟩
theorem ctVc : Try.prog.cellTypes Try.prog.depth 24 = some [2, 2, 2, 2, 2, 2, 2, 2] := by kernel_rfl
theorem arr_open {P : Program} {W : World} {r : Reach} {b : Nat} {t e : TypeId} {n : Nat} {v : Value} {ts : List TypeId} (hu : P.underlying t = some (.array n e)) (hct : P.cellTypes P.depth t = some ts) (h : Value.okWide P W r b t v) : ∃ cs, v = .agg cs ∧ cs.size = P.cellsOf t ∧ ∀ i v, cs[i]? = some v → ∃ u, ts[i % ts.length]? = some u ∧ Cell.okWide P W r b u v := by
  simp only [Value.okWide, hu] at h
  obtain ⟨cs, hv, hs, ts', ht, _, hc⟩ := h
  rw [hct] at ht
  obtain rfl := Option.some.inj ht
  exact ⟨cs, hv, hs, hc⟩
theorem len8s {α : Type} {l : List α} (h : l.length = 8) : ∃ a b c d e f g i, l = [a, b, c, d, e, f, g, i] := by
  match l, h with
  | [a, b, c, d, e, f, g, i], _ => exact ⟨a, b, c, d, e, f, g, i, rfl⟩
set_option maxRecDepth 100000 in
theorem open_vc {W : World} {r : Reach} {b : Nat} {v : Value} (h : Value.okWide Try.prog W r b 24 v) : ∃ f, v = .agg (V8 f) := by
  obtain ⟨cs, rfl, hs, hc⟩ := arr_open (P := Try.prog) (W := W) (r := r) (b := b) (t := 24) (v := v) Try.underlying24 ctVc h
  clear h
  have c8 : Try.prog.cellsOf 24 = 8 := by kernel_rfl
  rw [c8] at hs
  clear c8
  obtain ⟨l⟩ := cs
  obtain ⟨x0, x1, x2, x3, x4, x5, x6, x7, rfl⟩ := len8s (l := l) hs
  obtain ⟨u0, e0, k0⟩ := hc 0 x0 rfl
  obtain ⟨u1, e1, k1⟩ := hc 1 x1 rfl
  obtain ⟨u2, e2, k2⟩ := hc 2 x2 rfl
  obtain ⟨u3, e3, k3⟩ := hc 3 x3 rfl
  obtain ⟨u4, e4, k4⟩ := hc 4 x4 rfl
  obtain ⟨u5, e5, k5⟩ := hc 5 x5 rfl
  obtain ⟨u6, e6, k6⟩ := hc 6 x6 rfl
  obtain ⟨u7, e7, k7⟩ := hc 7 x7 rfl
  cases e0; cases e1; cases e2; cases e3; cases e4; cases e5; cases e6; cases e7
  obtain ⟨n0, rfl⟩ := cell_int Try.underlying2 k0
  obtain ⟨n1, rfl⟩ := cell_int Try.underlying2 k1
  obtain ⟨n2, rfl⟩ := cell_int Try.underlying2 k2
  obtain ⟨n3, rfl⟩ := cell_int Try.underlying2 k3
  obtain ⟨n4, rfl⟩ := cell_int Try.underlying2 k4
  obtain ⟨n5, rfl⟩ := cell_int Try.underlying2 k5
  obtain ⟨n6, rfl⟩ := cell_int Try.underlying2 k6
  obtain ⟨n7, rfl⟩ := cell_int Try.underlying2 k7
  exact ⟨fun j => if j = 0 then n0 else if j = 1 then n1 else if j = 2 then n2 else if j = 3 then n3 else if j = 4 then n4 else if j = 5 then n5 else if j = 6 then n6 else n7, rfl⟩
theorem ctOps : Try.prog.cellTypes Try.prog.depth 43 = some [2, 3, 3, 2, 2, 9, 9, 9] := by kernel_rfl
set_option maxRecDepth 100000 in
theorem open_op {W : World} {r : Reach} {b : Nat} {v : Value} (h : Value.okWide Try.prog W r b 43 v) : ∃ o : S.Op, v = .agg o.cs ∧ o.in64 := by
  obtain ⟨cs, rfl, hs, hc⟩ := row_open (P := Try.prog) (W := W) (r := r) (b := b) (t := 43) (v := v) Try.underlying43 ctOps h
  clear h
  have c8 : Try.prog.cellsOf 43 = 8 := by kernel_rfl
  rw [c8] at hs
  clear c8
  obtain ⟨l⟩ := cs
  obtain ⟨x0, x1, x2, x3, x4, x5, x6, x7, rfl⟩ := len8s (l := l) hs
  obtain ⟨u0, e0, k0⟩ := hc 0 x0 rfl
  obtain ⟨u1, e1, k1⟩ := hc 1 x1 rfl
  obtain ⟨u2, e2, k2⟩ := hc 2 x2 rfl
  obtain ⟨u3, e3, k3⟩ := hc 3 x3 rfl
  obtain ⟨u4, e4, k4⟩ := hc 4 x4 rfl
  obtain ⟨u5, e5, k5⟩ := hc 5 x5 rfl
  obtain ⟨u6, e6, k6⟩ := hc 6 x6 rfl
  obtain ⟨u7, e7, k7⟩ := hc 7 x7 rfl
  cases e0; cases e1; cases e2; cases e3; cases e4; cases e5; cases e6; cases e7
  obtain ⟨n0, rfl⟩ := cell_int Try.underlying2 k0
  obtain ⟨n1, rfl⟩ := cell_int Try.underlying3 k1
  obtain ⟨n2, rfl⟩ := cell_int Try.underlying3 k2
  obtain ⟨n3, rfl, b3⟩ := cell_i64 Try.underlying2 k3
  obtain ⟨n4, rfl, b4⟩ := cell_i64 Try.underlying2 k4
  obtain ⟨n5, rfl⟩ := cell_str Try.underlying9 k5
  obtain ⟨n6, rfl⟩ := cell_str Try.underlying9 k6
  obtain ⟨n7, rfl⟩ := cell_str Try.underlying9 k7
  exact ⟨⟨n0, n1, n2, n3, n4, n5, n6, n7⟩, rfl, b3, b4⟩
end Go.Proofs.Ytedgiffnfhkonaa

/-
  Lists of structs that are handed in, whatever their elements' shape: the cells of an element, the list.
-/
import Derived.Test.YtedgiffnfhkonaaKOpen0
import Derived.Test.YtedgiffnfhkonaaOpenRow
import Derived.Test.YtedgiffnfhkonaaRowRd
import Derived.Deep.Strs
import Derived.ChangeArms
namespace Go.Proofs.Ytedgiffnfhkonaa
open Go.ChangeShapes Go.WideShapes Go.ChangeAt Go.RowKit
set_option linter.unusedVariables false
set_option linter.unusedSimpArgs false
set_option maxRecDepth 100000
namespace O
/-- the type of a cell of a type: a number's, a text's, a bool's, a slice's -/
def leaf (P : Program) : Nat → TypeId → Nat → Option TypeId
  | 0, _, _ => none
  | d + 1, t, j => match P.underlying t with
    | some (.struct fs) => fs.toList.findSome? (fun f => if f.offset ≤ j ∧ j < f.offset + P.cellsOf f.type then leaf P d f.type (j - f.offset) else none)
    | some (.array n e) => if j / P.cellsOf e < n ∧ 0 < P.cellsOf e then leaf P d e (j % P.cellsOf e) else none
    | some (.int _) => if j = 0 then some t else none
    | some .string => if j = 0 then some t else none
    | some .bool => if j = 0 then some t else none
    | some (.slice _) => if j = 0 then some t else none
    | _ => none
theorem wt_all {H : Type} {P : Program} {e : TypeId} {d : DataW H} {m : Nat} : ∀ {l : List (DataW H)}, d ∈ l → m ∈ DataW.weights P e d → m ∈ DataW.weightsAll P e l
  | x :: r, h, hm => by
    simp only [DataW.weightsAll, List.mem_append]
    rcases List.mem_cons.1 h with rfl | h
    · exact .inl hm
    · exact .inr (wt_all h hm)
theorem wt_each {H : Type} {P : Program} {t : TypeId} {d : DataW H} {m : Nat} : ∀ {i : Nat} (ts : List TypeId) (l : List (DataW H)), ts[i]? = some t → l[i]? = some d → m ∈ DataW.weights P t d → m ∈ DataW.weightsEach P ts l
  | 0, t' :: ts, d' :: l, h1, h2, hm => by
    simp at h1 h2
    subst h1; subst h2
    simp only [DataW.weightsEach, List.mem_append]
    exact .inl hm
  | i + 1, t' :: ts, d' :: l, h1, h2, hm => by
    simp only [List.getElem?_cons_succ] at h1 h2
    simp only [DataW.weightsEach, List.mem_append]
    exact .inr (wt_each ts l h1 h2 hm)
  | _, [], _, h1, _, _ => by simp at h1
  | _, _ :: _, [], _, h2, _ => by simp at h2
theorem wt_slice {H : Type} {P : Program} {t e : TypeId} (ht : P.underlying t = some (.slice e)) (elems spare : List (DataW H)) : (elems.length + spare.length) * P.bytesOf e ∈ DataW.weights P t (.slice elems spare) := by
  simp only [DataW.weights, ht]
  exact List.mem_cons_self ..
theorem reach_of {H : Type} {P : Program} {ts : List TypeId} {l : List (DataW H)} (h : (DataW.weightsEach P ts l).all (· ≤ reachBytes) = true) {j : Nat} {t : TypeId} {d : DataW H} (h1 : ts[j]? = some t) (h2 : l[j]? = some d) {m : Nat} (hm : m ∈ DataW.weights P t d) : m ≤ reachBytes := by
  have := List.all_eq_true.1 h m (wt_each ts l h1 h2 hm)
  simpa using this
theorem trod_leaf {H : Type} {enc : TypeId × Value → H} {P : Program} {W : World} {base : Nat} {sp : Nat → Bool} {held : Bool} : ∀ (d : Nat) (t : TypeId) (j : Nat) (u : TypeId) (fuel : Nat) (cs : List Value) (x : DataW H × List MemPlace),
    leaf P d t j = some u → DataW.trod enc P W base sp held fuel t cs = some x → ∃ v n y, cs[j]? = some v ∧ DataW.trod enc P W base sp held n u [v] = some y ∧ ∀ m ∈ DataW.weights P u y.1, m ∈ DataW.weights P t x.1
  | 0, t, j, u, fuel, cs, x, h, hx => by simp [leaf] at h
  | d + 1, t, j, u, fuel, cs, x, h, hx => by
    unfold leaf at h
    cases ht : P.underlying t with
    | none => rw [ht] at h; simp at h
    | some desc =>
      rw [ht] at h
      cases desc with
      | struct fs =>
        simp only at h
        obtain ⟨f, hf, hif⟩ := List.exists_of_findSome?_eq_some h
        by_cases hc : f.offset ≤ j ∧ j < f.offset + P.cellsOf f.type
        · rw [if_pos hc] at hif
          obtain ⟨xs, n, rfl, rfl, hl, hlen, hfs⟩ := DataW.trod_struct ht hx
          obtain ⟨i, hi⟩ := List.getElem?_of_mem hf
          have hi' : i < xs.length := by
            have := (List.getElem?_eq_some_iff.1 hi).1
            simpa [hlen] using this
          have h1 := hfs i f (by simpa using hi)
          rw [List.getElem?_eq_getElem hi'] at h1
          obtain ⟨v, n', z, h2, h3, h4⟩ := trod_leaf d f.type (j - f.offset) u n _ _ hif h1
          refine ⟨v, n', z, ?_, h3, ?_⟩
          · rw [List.getElem?_take, if_pos (by omega), List.getElem?_drop] at h2
            rwa [show f.offset + (j - f.offset) = j by omega] at h2
          · intro m hm
            have h5 := h4 m hm
            simp only [DataW.weights, ht]
            exact wt_each (i := i) (t := f.type) (d := (xs[i]).1) _ _ (by rw [List.getElem?_map]; simp at hi; simp [hi]) (by rw [List.getElem?_map, List.getElem?_eq_getElem hi']; rfl) h5
        · rw [if_neg hc] at hif; cases hif
      | array m e =>
        simp only at h
        by_cases hc : j / P.cellsOf e < m ∧ 0 < P.cellsOf e
        · rw [if_pos hc] at h
          obtain ⟨xs, n, rfl, rfl, hl, hlen, hfs⟩ := DataW.trod_array ht hx
          have h1 := hfs (j / P.cellsOf e) hc.1
          have hi' : j / P.cellsOf e < xs.length := by omega
          rw [List.getElem?_eq_getElem hi'] at h1
          obtain ⟨v, n', z, h2, h3, h4⟩ := trod_leaf d e (j % P.cellsOf e) u n _ _ h h1
          refine ⟨v, n', z, ?_, h3, ?_⟩
          · rw [List.getElem?_take, if_pos (Nat.mod_lt _ hc.2), List.getElem?_drop] at h2
            have e1 : j / P.cellsOf e * P.cellsOf e + j % P.cellsOf e = j := by rw [Nat.mul_comm]; exact Nat.div_add_mod j _
            rwa [e1] at h2
          · intro m hm
            have h5 := h4 m hm
            simp only [DataW.weights, ht]
            exact wt_all (List.mem_map.2 ⟨xs[j / P.cellsOf e], List.getElem_mem hi', rfl⟩) h5
        · rw [if_neg hc] at h; cases h
      | int k =>
        simp only at h
        split at h
        · rename_i hj
          cases h
          subst hj
          obtain ⟨z, rfl, _, _⟩ := DataW.trod_int ht hx
          exact ⟨_, fuel, x, rfl, hx, fun _ h => h⟩
        · cases h
      | string =>
        simp only at h
        split at h
        · rename_i hj
          cases h
          subst hj
          obtain ⟨z, rfl, _, _⟩ := DataW.trod_string ht hx
          exact ⟨_, fuel, x, rfl, hx, fun _ h => h⟩
        · cases h
      | bool =>
        simp only at h
        split at h
        · rename_i hj
          cases h
          subst hj
          obtain ⟨z, rfl, _⟩ := DataW.trod_bool ht hx
          exact ⟨_, fuel, x, rfl, hx, fun _ h => h⟩
        · cases h
      | slice e =>
        simp only at h
        split at h
        · rename_i hj
          cases h
          subst hj
          rcases Go.Deep.open_slice ht hx with ⟨rfl, _⟩ | ⟨a, l, c, m, n, D, Pl, rfl, _⟩
          · exact ⟨_, fuel, x, rfl, hx, fun _ h => h⟩
          · exact ⟨_, fuel, x, rfl, hx, fun _ h => h⟩
        · cases h
      | _ => simp at h
section
variable {H : Type} {enc : TypeId × Value → H} {W : World} {t u : TypeId} {j : Nat} {fuel : Nat} {cs : List Value} {x : DataW H × List MemPlace}
theorem cellI (hl : leaf Try.prog 5 t j = some u) (hu : Try.prog.underlying u = some (.int .i64)) (h : DataW.trod enc Try.prog W 0 (fun _ => true) true fuel t cs = some x) : ∃ n, cs[j]? = some (.int .i64 n) ∧ (Lit.int .i64 n).wf = true := by
  obtain ⟨v, n, y, h1, h2, _⟩ := trod_leaf 5 t j u fuel cs x hl h
  obtain ⟨z, hz, _, hw⟩ := DataW.trod_int hu h2
  simp at hz
  exact ⟨z, by rw [h1, hz], hw⟩
theorem cellB (hl : leaf Try.prog 5 t j = some u) (hu : Try.prog.underlying u = some .bool) (h : DataW.trod enc Try.prog W 0 (fun _ => true) true fuel t cs = some x) : ∃ b, cs[j]? = some (.bool b) := by
  obtain ⟨v, n, y, h1, h2, _⟩ := trod_leaf 5 t j u fuel cs x hl h
  obtain ⟨z, hz, _⟩ := DataW.trod_bool hu h2
  simp at hz
  exact ⟨z, by rw [h1, hz]⟩
end
theorem flatK_len {α : Type} (f : α → List Value) (k : Nat) (hf : ∀ a, (f a).length = k) : ∀ l : List α, ((l.map f).flatten).length = l.length * k
  | [] => by simp
  | x :: r => by
    have := flatK_len f k hf r
    simp only [List.map_cons, List.flatten_cons, List.length_append, this, hf, List.length_cons, Nat.add_mul]
    omega
theorem flatK_get {α : Type} (f : α → List Value) (k : Nat) (hf : ∀ a, (f a).length = k) {l : List α} {i : Nat} {x : α} (h : l[i]? = some x) {j : Nat} (hj : j < k) : ((l.map f).flatten)[i * k + j]? = (f x)[j]? := by
  have e : l = l.take i ++ x :: l.drop (i + 1) := by
    rw [← (List.getElem?_eq_some_iff.1 h).2, ← List.drop_eq_getElem_cons (List.getElem?_eq_some_iff.1 h).1, List.take_append_drop]
  have hi := (List.getElem?_eq_some_iff.1 h).1
  rw [e, List.map_append, List.flatten_append, List.getElem?_append_right (by rw [flatK_len f k hf, List.length_take, show min i l.length = i by omega]; omega), flatK_len f k hf, List.length_take, show min i l.length = i by omega, Nat.add_sub_cancel_left]
  rw [List.map_cons, List.flatten_cons, List.getElem?_append_left (by rw [hf]; exact hj)]
/-- A LIST WHOSE ELEMENTS ARE READ AS α: k cells each -/
theorem open_list {H : Type} {enc : TypeId × Value → H} {W : World} {α : Type} [Inhabited α] (f : α → List Value) (Q : α → Prop) {a : Option Addr} {len cap : Nat} {d : DataW H} {p : List MemPlace} {t e : TypeId} {k bytes : Nat} (ht : Try.prog.underlying t = some (.slice e)) (hk : Try.prog.cellsOf e = k) (hby : Try.prog.bytesOf e = bytes) (hk1 : 1 ≤ k) (hf : ∀ a, (f a).length = k)
    (each : ∀ (cs : List Value) (fuel : Nat) (x : DataW H × List MemPlace), DataW.trod enc Try.prog W 0 (fun _ => true) true fuel e cs = some x → cs.length = k → ∃ a, cs = f a ∧ Q a)
    (h : DataW.Trod enc Try.prog W 0 (fun _ => true) true t (.slice a len cap) d p) (hb : ∀ m ∈ DataW.weights Try.prog t d, m ≤ reachBytes) :
    ∃ os : List α, Rw (fun g => g < W.heap.size) W k a os.length ((os.map f).flatten) ∧ os.length = len ∧ len ≤ cap ∧ cap * bytes ≤ reachBytes ∧ ∀ o ∈ os, Q o := by
  obtain ⟨fuel, hfu⟩ := h
  rcases Go.Deep.open_slice ht hfu with ⟨hcs, hx⟩ | ⟨x, l, c, m, n, D, Pl, hcs, _, hl, hm, hmm, hx, hr⟩
  · simp [Value.cells] at hcs
    obtain ⟨rfl, rfl, rfl⟩ := hcs
    exact ⟨[], Rw.nil _ _ _ _, rfl, Nat.le_refl _, by simp, by simp⟩
  · simp [Value.cells] at hcs
    obtain ⟨rfl, rfl, rfl⟩ := hcs
    simp only [if_true] at hmm
    subst hmm
    simp only [Prod.mk.injEq] at hx
    rw [hk] at hr
    rw [hx.1] at hb
    have hlb : m * bytes ≤ reachBytes := by
      have h1 := hb _ (wt_slice ht _ _)
      rw [hby] at h1
      simp only [List.length_map, List.length_range] at h1
      refine Nat.le_trans (Nat.mul_le_mul_right _ ?_) h1
      omega
    have each2 : ∀ i, i < len → ∃ o : α, (∀ (j : Nat) v, (f o)[j]? = some v → W.cell? ((x.add (i * k)).add j) = some v) ∧ Q o := by
      intro i hi
      obtain ⟨cs', h1, h2⟩ := hr i (by omega)
      obtain ⟨_, hlen, hcell⟩ := World.cells?_some h1
      obtain ⟨o, rfl, hq⟩ := each _ _ _ h2 hlen
      refine ⟨o, fun j v hv => ?_, hq⟩
      have hj : j < (f o).length := (List.getElem?_eq_some_iff.1 hv).1
      rw [hcell j (by omega), ← hv, List.getElem?_eq_getElem hj]
    obtain ⟨G, hG⟩ := Go.Deep.choose_lt (α := α) each2
    refine ⟨(List.range len).map G, ⟨by rw [flatK_len f k hf], ?_⟩, by simp, hl, hlb, fun o ho => ?_⟩
    · by_cases hz : len = 0
      · exact .inl (by simp [hz])
      · right
        obtain ⟨b, off, spot⟩ := x
        have hf0 : (f (G 0))[0]? = some ((f (G 0))[0]'(by rw [hf]; omega)) := List.getElem?_eq_getElem (by rw [hf]; omega)
        have hc0 := (hG 0 (by omega)).1 0 _ hf0
        have hspot : spot = none := by simpa [Addr.add] using World.cell?_spot hc0
        subst hspot
        refine ⟨b, off, rfl, ?_, fun j v hv => ?_⟩
        · have := World.block_lt_of_cell? W _ hc0
          simpa [Addr.add_lit] using this
        · have hjl : j < len * k := by
            have h1 := (List.getElem?_eq_some_iff.1 hv).1
            rw [flatK_len f k hf, List.length_map, List.length_range] at h1
            exact h1
          have hjk : j % k < k := Nat.mod_lt _ (by omega)
          have hdv : j / k < len := (Nat.div_lt_iff_lt_mul (by omega)).2 hjl
          have ej : j / k * k + j % k = j := by rw [Nat.mul_comm]; exact Nat.div_add_mod j k
          have h2 := flatK_get f k hf (l := (List.range len).map G) (i := j / k) (x := G (j / k)) (by rw [List.getElem?_map, List.getElem?_range hdv]; rfl) hjk
          rw [ej, hv] at h2
          have h3 := (hG (j / k) hdv).1 (j % k) v h2.symm
          rw [Addr.add_lit, Addr.add_lit] at h3
          rwa [show off + j / k * k + j % k = off + j by omega] at h3
    · obtain ⟨i, hi, rfl⟩ := List.mem_map.1 ho
      exact (hG i (List.mem_range.1 hi)).2
end O
end Go.Proofs.Ytedgiffnfhkonaa

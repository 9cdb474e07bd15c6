/-
  A state and operations that are handed in.
-/
import Derived.Test.YtedgiffnfhkonaaOpenList
import Derived.Test.YtedgiffnfhkonaaXCnt
namespace Go.Proofs.Ytedgiffnfhkonaa
open Go.ChangeShapes Go.WideShapes Go.ChangeAt Go.RowKit
set_option linter.unusedVariables false
set_option linter.unusedSimpArgs false
set_option maxRecDepth 100000
theorem X.wf64 {x : Int} (h : (Lit.int .i64 x).wf = true) : -9223372036854775808 ≤ x ∧ x ≤ 9223372036854775807 := by
  simp [Lit.wf, IntKind.min, IntKind.max, IntKind.signed, IntKind.bits] at h
  omega
theorem X.open_opcells {H : Type} {enc : TypeId × Value → H} {W : World} (cs : List Value) (fuel : Nat) (x : DataW H × List MemPlace) (h : DataW.trod enc Try.prog W 0 (fun _ => true) true fuel 43 cs = some x) (hl : cs.length = 8) : ∃ o : S.Op, cs = o.cs.toList ∧ o.in64 := by
  have ks : ∀ j, O.leaf Try.prog 5 43 j = some 9 → ∃ s, cs[j]? = some (.string s) := fun j ht => by
    obtain ⟨u, n, y, h1, h2, _⟩ := O.trod_leaf 5 _ j _ fuel cs x ht h
    obtain ⟨z, hz, _⟩ := DataW.trod_string Try.underlying9 h2
    simp at hz
    exact ⟨z, by rw [h1, hz]⟩
  obtain ⟨n0, e0, w0⟩ := O.cellI (u := 2) (j := 0) (by kernel_rfl) Try.underlying2 h
  obtain ⟨n1, e1, w1⟩ := O.cellI (u := 3) (j := 1) (by kernel_rfl) Try.underlying3 h
  obtain ⟨n2, e2, w2⟩ := O.cellI (u := 3) (j := 2) (by kernel_rfl) Try.underlying3 h
  obtain ⟨n3, e3, w3⟩ := O.cellI (u := 2) (j := 3) (by kernel_rfl) Try.underlying2 h
  obtain ⟨n4, e4, w4⟩ := O.cellI (u := 2) (j := 4) (by kernel_rfl) Try.underlying2 h
  obtain ⟨s5, e5⟩ := ks 5 (by kernel_rfl)
  obtain ⟨s6, e6⟩ := ks 6 (by kernel_rfl)
  obtain ⟨s7, e7⟩ := ks 7 (by kernel_rfl)
  refine ⟨⟨n0, n1, n2, n3, n4, s5, s6, s7⟩, ?_, X.wf64 w3, X.wf64 w4⟩
  match cs, hl with
  | [x0, x1, x2, x3, x4, x5, x6, x7], _ =>
    simp at e0 e1 e2 e3 e4 e5 e6 e7
    subst e0 e1 e2 e3 e4 e5 e6 e7
    rfl
theorem open_xops {H : Type} {enc : TypeId × Value → H} {W : World} {a : Option Addr} {len cap : Nat} {d : DataW H} {p : List MemPlace}
    (h : DataW.Trod enc Try.prog W 0 (fun _ => true) true 28 (.slice a len cap) d p) (hb : ∀ m ∈ DataW.weights Try.prog 28 d, m ≤ reachBytes) :
    ∃ os : List S.Op, X.Ops (fun g => g < W.heap.size) W a os ∧ os.length = len ∧ (len ≤ cap ∧ len ≤ 1599289640401) ∧ ∀ o ∈ os, o.in64 := by
  haveI : Inhabited S.Op := ⟨⟨0, 0, 0, 0, 0, ⟨#[]⟩, ⟨#[]⟩, ⟨#[]⟩⟩⟩
  obtain ⟨os, h1, h2, h3, h4, h5⟩ := O.open_list (fun x : S.Op => x.cs.toList) S.Op.in64 (k := 8) (bytes := 88) Try.underlying28 (by kernel_rfl) (by kernel_rfl) (by omega) (fun a => rfl) X.open_opcells h hb
  refine ⟨os, h1, h2, ⟨h3, ?_⟩, h5⟩
  unfold reachBytes at h4
  omega
theorem X.leaf_all : ((List.range 154).all (fun j => if j = 2 then O.leaf Try.prog 5 34 j == some 4 else if X.sl j = true then true else (O.leaf Try.prog 5 34 j == some 3 || O.leaf Try.prog 5 34 j == some 2))) = true := by kernel_rfl
theorem X.cells_snap : Try.prog.cellsOf 34 = 154 := by kernel_rfl
/-- a cell's number -/
def X.numOf (l : List Value) (j : Nat) : Int := match l[j]? with
  | some (.int _ z) => z
  | _ => 0
theorem open_xsnap {H : Type} {enc : TypeId × Value → H} {W : World} {v : Value} {d : DataW H} {p : List MemPlace} {base : Nat} (hv : Value.okWide Try.prog W .any base 34 v)
    (h : DataW.Trod enc Try.prog W 0 (fun _ => true) true 34 v d p) : ∃ g b vs, v = .agg (X.cs g b vs) ∧ X.in64 g := by
  obtain ⟨fuel, hf⟩ := h
  obtain ⟨cs, rfl, hs⟩ := okWide_struct Try.underlying34 hv
  rw [X.cells_snap] at hs
  obtain ⟨l⟩ := cs
  have hl : l.length = 154 := by simpa using hs
  have hf' : DataW.trod enc Try.prog W 0 (fun _ => true) true fuel 34 l = some (d, p) := by simpa [Value.cells] using hf
  have key : ∀ j, j < 154 → j ≠ 2 → X.sl j = false → ∃ z, l[j]? = some (.int .i64 z) ∧ (Lit.int .i64 z).wf = true := fun j hj h2 hsl => by
    have := List.all_eq_true.1 X.leaf_all j (List.mem_range.2 hj)
    rw [if_neg h2, if_neg (by simp [hsl]), Bool.or_eq_true] at this
    rcases this with h | h
    · exact O.cellI (eq_of_beq h) Try.underlying3 hf'
    · exact O.cellI (eq_of_beq h) Try.underlying2 hf'
  have hb2 : O.leaf Try.prog 5 34 2 = some 4 := by
    have := List.all_eq_true.1 X.leaf_all 2 (List.mem_range.2 (by omega))
    rw [if_pos rfl] at this
    exact eq_of_beq this
  obtain ⟨b, hb⟩ := O.cellB hb2 Try.underlying4 hf'
  refine ⟨fun j => if X.sl j = true ∨ j = 2 then 0 else X.numOf l j, b, fun j => (l[j]?).getD (.bool false), ?_, fun j => ?_⟩
  · congr 1
    refine Array.ext_getElem? (fun j => ?_)
    by_cases hj : j < 154
    · rw [X.cs_at _ _ _ hj, List.getElem?_toArray]
      unfold X.cell
      by_cases h2 : j = 2
      · subst h2; rw [if_pos rfl]; exact hb
      · rw [if_neg h2]
        cases hsl : X.sl j with
        | true =>
          rw [if_pos rfl]
          show l[j]? = some ((l[j]?).getD (.bool false))
          rw [List.getElem?_eq_getElem (by omega)]
          rfl
        | false =>
          obtain ⟨z, hz, _⟩ := key j hj h2 hsl
          rw [if_neg (by simp)]
          show l[j]? = some (.int .i64 (if X.sl j = true ∨ j = 2 then 0 else X.numOf l j))
          rw [if_neg (by simp [h2, hsl])]
          unfold X.numOf
          rw [hz]
    · rw [List.getElem?_toArray, List.getElem?_eq_none (by omega), Array.getElem?_eq_none (by rw [X.cs_size]; omega)]
  · show _ ≤ (if X.sl j = true ∨ j = 2 then 0 else X.numOf l j) ∧ (if X.sl j = true ∨ j = 2 then 0 else X.numOf l j) ≤ _
    split
    · omega
    · rename_i hn
      by_cases hj : j < 154
      · obtain ⟨z, hz, hw⟩ := key j hj (fun h => hn (.inr h)) (by cases h : X.sl j <;> simp [h] at hn ⊢)
        unfold X.numOf
        rw [hz]
        exact X.wf64 hw
      · unfold X.numOf
        rw [List.getElem?_eq_none (by omega)]
        simp
end Go.Proofs.Ytedgiffnfhkonaa

/-
  An entry that is handed in by itself, within the form's own reach.
-/
import Derived.Test.YtedhmhlhjonloaaAEntW
namespace Go.Proofs.Ytedhmhlhjonloaa
open Go.ChangeShapes Go.WideShapes Go.ChangeAt Go.RowKit
set_option linter.unusedVariables false
set_option linter.unusedSimpArgs false

theorem leafEn : ((List.range 56).all (fun j => leafAt Try.prog 8 46 j == some (entTy j))) = true := by kernel_rfl
theorem cellsEn : Try.prog.cellsOf 46 = 56 := by kernel_rfl
set_option maxRecDepth 100000 in
/-- AN ARGUMENT THAT IS AN ENTRY. -/
theorem open_en {H : Type} {enc : TypeId × Value → H} {W : World} {v : Value} {d : DataW H} {p : List MemPlace} {base : Nat} (hv : Value.okWide Try.prog W .any base 46 v)
    (h : DataW.Trod enc Try.prog W 0 (fun _ => true) true 46 v d p) (hb : ∀ m ∈ DataW.weights Try.prog 46 d, m ≤ reachBytes) :
    ∃ ec en, v = .agg (List.toArray ec) ∧ Re (fun g => g < W.heap.size) W ec en := by
  obtain ⟨fuel, hf⟩ := h
  obtain ⟨cs, rfl, hs⟩ := okWide_struct Try.underlying46 hv
  rw [cellsEn] at hs
  obtain ⟨l⟩ := cs
  have hl : l.length = 56 := by simpa using hs
  have hf' : DataW.trod enc Try.prog W 0 (fun _ => true) true fuel 46 l = some (d, p) := by simpa [Value.cells] using hf
  obtain ⟨en, hre, _, _⟩ := entry_open (enc := enc) hl (fun j v hv => by
    have hj : j < 56 := by have := (List.getElem?_eq_some_iff.1 hv).1; omega
    have hlf : leafAt Try.prog 8 46 j = some (entTy j) := by
      have := List.all_eq_true.1 leafEn j (List.mem_range.2 hj)
      simpa using this
    obtain ⟨v', n, y, h1, h2, h3⟩ := trod_leafW 8 _ j _ fuel l _ hlf hf'
    rw [hv] at h1
    cases h1
    exact ⟨n, y, h2, fun m hm => hb m (h3 m hm)⟩)
  exact ⟨l, en, rfl, hre⟩
end Go.Proofs.Ytedhmhlhjonloaa

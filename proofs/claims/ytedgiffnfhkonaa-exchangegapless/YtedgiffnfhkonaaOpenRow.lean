/-
  The cells of a struct that is handed in.
-/
import Derived.Test.YtedgiffnfhkonaaMem
import Derived.ProofKit
import Derived.OpenShut
namespace Go.Proofs.Ytedgiffnfhkonaa
open Go.ChangeShapes Go.WideShapes Go.ChangeAt Go.RowKit
set_option linter.unusedVariables false

theorem cell_int {P : Program} {W : World} {r : Reach} {b : Nat} {u : TypeId} {v : Value} {k : IntKind} (hu : P.underlying u = some (.int k)) (h : Cell.okWide P W r b u v) : ∃ n, v = .int k n := okWide_int (P := P) (t := u) hu (by simp only [Value.okWide, hu]; exact h)
theorem cell_str {P : Program} {W : World} {r : Reach} {b : Nat} {u : TypeId} {v : Value} (hu : P.underlying u = some .string) (h : Cell.okWide P W r b u v) : ∃ s, v = .string s := okWide_string (P := P) (t := u) hu (by simp only [Value.okWide, hu]; exact h)
theorem row_open {P : Program} {W : World} {r : Reach} {b : Nat} {t : TypeId} {v : Value} {fs : Array Field} {ts : List TypeId} (hu : P.underlying t = some (.struct fs)) (hct : P.cellTypes P.depth t = some ts) (h : Value.okWide P W r b t v) : ∃ cs, v = .agg cs ∧ cs.size = P.cellsOf t ∧ ∀ i v, cs[i]? = some v → ∃ u, ts[i % ts.length]? = some u ∧ Cell.okWide P W r b u v := by
  simp only [Value.okWide, hu] at h
  obtain ⟨cs, hv, hs, ts', ht, _, hc⟩ := h
  rw [hct] at ht
  obtain rfl := Option.some.inj ht
  exact ⟨cs, hv, hs, hc⟩

end Go.Proofs.Ytedgiffnfhkonaa

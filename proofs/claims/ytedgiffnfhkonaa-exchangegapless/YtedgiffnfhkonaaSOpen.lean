/-
  Stamps, vectors and operations that are handed in.
-/
import Derived.Test.YtedgiffnfhkonaaKOpen0
import Derived.Test.YtedgiffnfhkonaaOpenRow
namespace Go.Proofs.Ytedgiffnfhkonaa
open Go.ChangeShapes Go.WideShapes Go.ChangeAt Go.RowKit
set_option linter.unusedVariables false

theorem cell_i64 {P : Program} {W : World} {r : Reach} {b : Nat} {u : TypeId} {v : Value} (hu : P.underlying u = some (.int .i64)) (h : Cell.okWide P W r b u v) : ∃ n, v = .int .i64 n ∧ -9223372036854775808 ≤ n ∧ n ≤ 9223372036854775807 := by
  obtain ⟨n, rfl⟩ := cell_int hu h
  refine ⟨n, rfl, ?_⟩
  simp only [Cell.okWide, hu, Cell.ok, IntKind.has] at h
  simpa [IntKind.min, IntKind.max, IntKind.signed, IntKind.bits] using h
theorem ctSt : Try.prog.cellTypes Try.prog.depth 41 = some [2, 3] := by kernel_rfl
set_option maxRecDepth 100000 in
theorem open_st {W : World} {r : Reach} {b : Nat} {v : Value} (h : Value.okWide Try.prog W r b 41 v) : ∃ x y : Int, v = .agg #[.int .i64 x, .int .i64 y] := by
  obtain ⟨cs, rfl, hs, hc⟩ := row_open (P := Try.prog) (W := W) (r := r) (b := b) (t := 41) (v := v) Try.underlying41 ctSt h
  clear h
  have c8 : Try.prog.cellsOf 41 = 2 := by kernel_rfl
  rw [c8] at hs
  clear c8
  obtain ⟨l⟩ := cs
  match l, hs with
  | [x0, x1], _ =>
    obtain ⟨u0, e0, k0⟩ := hc 0 x0 rfl
    obtain ⟨u1, e1, k1⟩ := hc 1 x1 rfl
    cases e0; cases e1
    obtain ⟨n0, rfl⟩ := cell_int Try.underlying2 k0
    obtain ⟨n1, rfl⟩ := cell_int Try.underlying3 k1
    exact ⟨n0, n1, rfl⟩
end Go.Proofs.Ytedgiffnfhkonaa

/-
  Ballots that are handed in.
-/
import Derived.Test.YtedhmhlhjonloaaKOpen0
import Derived.Test.YtedhmhlhjonloaaOpenRow
namespace Go.Proofs.Ytedhmhlhjonloaa
open Go.ChangeShapes Go.WideShapes Go.ChangeAt Go.RowKit
set_option linter.unusedVariables false

theorem ctBl : Try.prog.cellTypes Try.prog.depth 27 = some [2, 3] := by kernel_rfl
set_option maxRecDepth 100000 in
theorem open_bl {W : World} {r : Reach} {b : Nat} {v : Value} (h : Value.okWide Try.prog W r b 27 v) : ∃ x y : Int, v = .agg #[.int .i64 x, .int .i64 y] := by
  obtain ⟨cs, rfl, hs, hc⟩ := row_open (P := Try.prog) (W := W) (r := r) (b := b) (t := 27) (v := v) Try.underlying27 ctBl h
  clear h
  have c8 : Try.prog.cellsOf 27 = 2 := by kernel_rfl
  rw [c8] at hs
  clear c8
  obtain ⟨l⟩ := cs
  match l, hs with
  | [x0, x1], _ =>
    obtain ⟨u0, e0, k0⟩ := hc 0 x0 rfl
    obtain ⟨u1, e1, k1⟩ := hc 1 x1 rfl
    cases e0; cases e1
    obtain ⟨n0, rfl⟩ := cell_int Try.underlying2 k0
    obtain ⟨n1, rfl⟩ := cell_int Try.underlying3 k1
    exact ⟨n0, n1, rfl⟩
end Go.Proofs.Ytedhmhlhjonloaa

/-
  A reply that is handed in.
-/
import Derived.Test.YtffjekhlloippaaOpenList
import Derived.Test.YtffjekhlloippaaYMem
namespace Go.Proofs.Ytffjekhlloippaa
open Go.ChangeShapes Go.WideShapes Go.ChangeAt Go.RowKit
set_option linter.unusedVariables false
set_option linter.unusedSimpArgs false
set_option maxRecDepth 100000
theorem Y.len4 {α : Type} {l : List α} (h : l.length = 4) : ∃ x0 x1 x2 x3, l = [x0, x1, x2, x3] := by
  match l, h with
  | [x0, x1, x2, x3], _ => exact ⟨x0, x1, x2, x3, rfl⟩
theorem Y.ctRp : Try.prog.cellTypes Try.prog.depth 34 = some [30, 2, 3, 2] := by kernel_rfl
theorem open_yrp {W : World} {r : Reach} {b : Nat} {v : Value} (h : Value.okWide Try.prog W r b 34 v) : ∃ x : Y.Rp, v = Y.rpv x ∧ True := by
  obtain ⟨cs, rfl, hs, hc⟩ := row_open (P := Try.prog) (W := W) (r := r) (b := b) (t := 34) (v := v) Try.underlying34 Y.ctRp h
  clear h
  have c4 : Try.prog.cellsOf 34 = 4 := by kernel_rfl
  rw [c4] at hs
  clear c4
  obtain ⟨l⟩ := cs
  obtain ⟨x0, x1, x2, x3, rfl⟩ := Y.len4 (l := l) hs
  obtain ⟨u0, e0, k0⟩ := hc 0 x0 rfl
  obtain ⟨u1, e1, k1⟩ := hc 1 x1 rfl
  obtain ⟨u2, e2, k2⟩ := hc 2 x2 rfl
  obtain ⟨u3, e3, k3⟩ := hc 3 x3 rfl
  cases e0; cases e1; cases e2; cases e3
  obtain ⟨n0, rfl⟩ := cell_int Try.underlying30 k0
  obtain ⟨n1, rfl⟩ := cell_int Try.underlying2 k1
  obtain ⟨n2, rfl⟩ := cell_int Try.underlying3 k2
  obtain ⟨n3, rfl⟩ := cell_int Try.underlying2 k3
  exact ⟨(n0, n1, n2, n3), rfl, trivial⟩
end Go.Proofs.Ytffjekhlloippaa

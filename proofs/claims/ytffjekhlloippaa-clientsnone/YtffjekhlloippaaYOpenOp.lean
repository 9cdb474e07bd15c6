/-
  What clients' statements are handed: scripts, rows, an operation, a reply.
-/
import Derived.Test.YtffjekhlloippaaOpenList
import Derived.Test.YtffjekhlloippaaYSt
namespace Go.Proofs.Ytffjekhlloippaa
open Go.ChangeShapes Go.WideShapes Go.ChangeAt Go.RowKit
set_option linter.unusedVariables false
set_option linter.unusedSimpArgs false
set_option maxRecDepth 100000
theorem Y.len9 {α : Type} {l : List α} (h : l.length = 9) : ∃ x0 x1 x2 x3 x4 x5 x6 x7 x8, l = [x0, x1, x2, x3, x4, x5, x6, x7, x8] := by
  match l, h with
  | [x0, x1, x2, x3, x4, x5, x6, x7, x8], _ => exact ⟨x0, x1, x2, x3, x4, x5, x6, x7, x8, rfl⟩
theorem Y.cell_bool {P : Program} {W : World} {r : Reach} {b : Nat} {u : TypeId} {v : Value} (hu : P.underlying u = some .bool) (h : Cell.okWide P W r b u v) : ∃ n, v = .bool n := okWide_bool (P := P) (t := u) hu (by simp only [Value.okWide, hu]; exact h)
theorem Y.ctSop : Try.prog.cellTypes Try.prog.depth 36 = some [2, 2, 4, 4, 30, 2, 3, 2, 3] := by kernel_rfl
theorem open_yop {W : World} {r : Reach} {b : Nat} {v : Value} (h : Value.okWide Try.prog W r b 36 v) : ∃ x : Y.Sop, v = .agg x.cs ∧ True := by
  obtain ⟨cs, rfl, hs, hc⟩ := row_open (P := Try.prog) (W := W) (r := r) (b := b) (t := 36) (v := v) Try.underlying36 Y.ctSop h
  clear h
  have c9 : Try.prog.cellsOf 36 = 9 := by kernel_rfl
  rw [c9] at hs
  clear c9
  obtain ⟨l⟩ := cs
  obtain ⟨x0, x1, x2, x3, x4, x5, x6, x7, x8, rfl⟩ := Y.len9 (l := l) hs
  obtain ⟨u0, e0, k0⟩ := hc 0 x0 rfl
  obtain ⟨u1, e1, k1⟩ := hc 1 x1 rfl
  obtain ⟨u2, e2, k2⟩ := hc 2 x2 rfl
  obtain ⟨u3, e3, k3⟩ := hc 3 x3 rfl
  obtain ⟨u4, e4, k4⟩ := hc 4 x4 rfl
  obtain ⟨u5, e5, k5⟩ := hc 5 x5 rfl
  obtain ⟨u6, e6, k6⟩ := hc 6 x6 rfl
  obtain ⟨u7, e7, k7⟩ := hc 7 x7 rfl
  obtain ⟨u8, e8, k8⟩ := hc 8 x8 rfl
  cases e0; cases e1; cases e2; cases e3; cases e4; cases e5; cases e6; cases e7; cases e8
  obtain ⟨n0, rfl⟩ := cell_int Try.underlying2 k0
  obtain ⟨n1, rfl⟩ := cell_int Try.underlying2 k1
  obtain ⟨n2, rfl⟩ := Y.cell_bool Try.underlying4 k2
  obtain ⟨n3, rfl⟩ := Y.cell_bool Try.underlying4 k3
  obtain ⟨n4, rfl⟩ := cell_int Try.underlying30 k4
  obtain ⟨n5, rfl⟩ := cell_int Try.underlying2 k5
  obtain ⟨n6, rfl⟩ := cell_int Try.underlying3 k6
  obtain ⟨n7, rfl⟩ := cell_int Try.underlying2 k7
  obtain ⟨n8, rfl⟩ := cell_int Try.underlying3 k8
  exact ⟨⟨n0, n1, n2, n3, (n4, n5, n6, n7), n8⟩, rfl, trivial⟩
end Go.Proofs.Ytffjekhlloippaa

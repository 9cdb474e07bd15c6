/-
  An operation of a script that is handed in.
-/
import Derived.Test.YtldldmgpjhokgabGreatOpenRow
import Derived.Test.YtldldmgpjhokgabGreatLTNone
namespace Go.Proofs.YtldldmgpjhokgabGreat
open Go.ChangeShapes Go.WideShapes Go.ChangeAt Go.RowKit
set_option linter.unusedVariables false
set_option linter.unusedSimpArgs false

theorem cell_i64t {P : Program} {W : World} {r : Reach} {b : Nat} {u : TypeId} {v : Value} (hu : P.underlying u = some (.int .i64)) (h : Cell.okWide P W r b u v) : ∃ n, v = .int .i64 n ∧ -9223372036854775808 ≤ n ∧ n ≤ 9223372036854775807 := by
  obtain ⟨n, rfl⟩ := cell_int hu h
  refine ⟨n, rfl, ?_⟩
  simp only [Cell.okWide, Cell.ok, hu] at h
  have h2 := h.2
  simp [IntKind.has, IntKind.min, IntKind.max, IntKind.signed, IntKind.bits] at h2
  omega
theorem len14 {α : Type} {l : List α} (h : l.length = 14) : ∃ x0 x1 x2 x3 x4 x5 x6 x7 x8 x9 x10 x11 x12 x13, l = [x0, x1, x2, x3, x4, x5, x6, x7, x8, x9, x10, x11, x12, x13] := by
  match l, h with
  | [x0, x1, x2, x3, x4, x5, x6, x7, x8, x9, x10, x11, x12, x13], _ => exact ⟨x0, x1, x2, x3, x4, x5, x6, x7, x8, x9, x10, x11, x12, x13, rfl⟩
theorem ctSop : Tryz.prog.cellTypes Tryz.prog.depth 58 = some [3, 2, 3, 3, 2, 2, 9, 9, 9, 3, 2, 2, 9, 3] := by kernel_rfl
set_option maxRecDepth 100000 in
theorem open_top {W : World} {r : Reach} {b : Nat} {v : Value} (h : Value.okWide Tryz.prog W r b 58 v) : ∃ x : T.Sop, v = .agg x.cs ∧ x.o.in64 ∧ (Lit.int .i64 x.n).wf = true := by
  obtain ⟨cs, rfl, hs, hc⟩ := row_open (P := Tryz.prog) (W := W) (r := r) (b := b) (t := 58) (v := v) Tryz.underlying58 ctSop h
  clear h
  have c14 : Tryz.prog.cellsOf 58 = 14 := by kernel_rfl
  rw [c14] at hs
  clear c14
  obtain ⟨l⟩ := cs
  obtain ⟨x0, x1, x2, x3, x4, x5, x6, x7, x8, x9, x10, x11, x12, x13, rfl⟩ := len14 (l := l) hs
  obtain ⟨u0, e0, k0⟩ := hc 0 x0 rfl
  obtain ⟨u1, e1, k1⟩ := hc 1 x1 rfl
  obtain ⟨u2, e2, k2⟩ := hc 2 x2 rfl
  obtain ⟨u3, e3, k3⟩ := hc 3 x3 rfl
  obtain ⟨u4, e4, k4⟩ := hc 4 x4 rfl
  obtain ⟨u5, e5, k5⟩ := hc 5 x5 rfl
  obtain ⟨u6, e6, k6⟩ := hc 6 x6 rfl
  obtain ⟨u7, e7, k7⟩ := hc 7 x7 rfl
  obtain ⟨u8, e8, k8⟩ := hc 8 x8 rfl
  obtain ⟨u9, e9, k9⟩ := hc 9 x9 rfl
  obtain ⟨u10, e10, k10⟩ := hc 10 x10 rfl
  obtain ⟨u11, e11, k11⟩ := hc 11 x11 rfl
  obtain ⟨u12, e12, k12⟩ := hc 12 x12 rfl
  obtain ⟨u13, e13, k13⟩ := hc 13 x13 rfl
  cases e0; cases e1; cases e2; cases e3; cases e4; cases e5; cases e6; cases e7; cases e8; cases e9; cases e10; cases e11; cases e12; cases e13
  obtain ⟨n0, rfl⟩ := cell_int Tryz.underlying3 k0
  obtain ⟨n1, rfl⟩ := cell_int Tryz.underlying2 k1
  obtain ⟨n2, rfl⟩ := cell_int Tryz.underlying3 k2
  obtain ⟨n3, rfl⟩ := cell_int Tryz.underlying3 k3
  obtain ⟨n4, rfl, b4⟩ := cell_i64t Tryz.underlying2 k4
  obtain ⟨n5, rfl, b5⟩ := cell_i64t Tryz.underlying2 k5
  obtain ⟨n6, rfl⟩ := cell_str Tryz.underlying9 k6
  obtain ⟨n7, rfl⟩ := cell_str Tryz.underlying9 k7
  obtain ⟨n8, rfl⟩ := cell_str Tryz.underlying9 k8
  obtain ⟨n9, rfl⟩ := cell_int Tryz.underlying3 k9
  obtain ⟨n10, rfl, b10⟩ := cell_i64t Tryz.underlying2 k10
  obtain ⟨n11, rfl⟩ := cell_int Tryz.underlying2 k11
  obtain ⟨n12, rfl⟩ := cell_str Tryz.underlying9 k12
  obtain ⟨n13, rfl⟩ := cell_int Tryz.underlying3 k13
  exact ⟨⟨n0, ⟨n1, n2, n3, n4, n5, n6, n7, n8⟩, n9, n10, n11, n12, n13⟩, rfl, ⟨b4, b5⟩, wfT b10.1 b10.2⟩
end Go.Proofs.YtldldmgpjhokgabGreat

/-
  An operation or a configuration as an argument: the shape of its cells.
-/
import Derived.Test.YtfkddpcadgidgaaDoorQOp
import Derived.Test.YtfkddpcadgidgaaDoorQEp
import Derived.Test.YtfkddpcadgidgaaDoorOpenRow
namespace Go.Proofs.YtfkddpcadgidgaaDoor
open Go.ChangeShapes Go.WideShapes Go.ChangeAt Go.RowKit
set_option linter.unusedVariables false

theorem ctOp : Tryd.prog.cellTypes Tryd.prog.depth 25 = some [2, 3, 3, 2, 2, 9, 9, 9] := by kernel_rfl
theorem ctEp : Tryd.prog.cellTypes Tryd.prog.depth 31 = some [2, 3, 3, 3, 3, 3, 3, 3, 3, 2, 2, 2, 2, 2, 2, 2, 2, 3, 3, 3, 3, 3, 3, 3, 3] := by kernel_rfl
theorem len8 {α : Type} {l : List α} (h : l.length = 8) : ∃ a b c d e f g i, l = [a, b, c, d, e, f, g, i] := by
  match l, h with
  | [a, b, c, d, e, f, g, i], _ => exact ⟨a, b, c, d, e, f, g, i, rfl⟩
set_option maxRecDepth 100000 in
theorem opShape {W : World} {r : Reach} {b : Nat} {v : Value} (h : Value.okWide Tryd.prog W r b 25 v) : ∃ o : M.Op, v = .agg o.cs := by
  obtain ⟨cs, rfl, hs, hc⟩ := row_open (P := Tryd.prog) (W := W) (r := r) (b := b) (t := 25) (v := v) Tryd.underlying25 ctOp h
  clear h
  have c8 : Tryd.prog.cellsOf 25 = 8 := by kernel_rfl
  rw [c8] at hs
  clear c8
  obtain ⟨l⟩ := cs
  obtain ⟨x0, x1, x2, x3, x4, x5, x6, x7, rfl⟩ := len8 (l := l) hs
  obtain ⟨u0, e0, k0⟩ := hc 0 x0 rfl
  obtain ⟨u1, e1, k1⟩ := hc 1 x1 rfl
  obtain ⟨u2, e2, k2⟩ := hc 2 x2 rfl
  obtain ⟨u3, e3, k3⟩ := hc 3 x3 rfl
  obtain ⟨u4, e4, k4⟩ := hc 4 x4 rfl
  obtain ⟨u5, e5, k5⟩ := hc 5 x5 rfl
  obtain ⟨u6, e6, k6⟩ := hc 6 x6 rfl
  obtain ⟨u7, e7, k7⟩ := hc 7 x7 rfl
  cases e0; cases e1; cases e2; cases e3; cases e4; cases e5; cases e6; cases e7
  obtain ⟨n0, rfl⟩ := cell_int Tryd.underlying2 k0
  obtain ⟨n1, rfl⟩ := cell_int Tryd.underlying3 k1
  obtain ⟨n2, rfl⟩ := cell_int Tryd.underlying3 k2
  obtain ⟨n3, rfl⟩ := cell_int Tryd.underlying2 k3
  obtain ⟨n4, rfl⟩ := cell_int Tryd.underlying2 k4
  obtain ⟨n5, rfl⟩ := cell_str Tryd.underlying9 k5
  obtain ⟨n6, rfl⟩ := cell_str Tryd.underlying9 k6
  obtain ⟨n7, rfl⟩ := cell_str Tryd.underlying9 k7
  exact ⟨⟨n0, n1, n2, n3, n4, n5, n6, n7⟩, rfl⟩
theorem epCs_get (f : Nat → Int) : ∀ i, i < 25 → (M.epCs f)[i]? = some (.int .i64 (f i)) := fun i h => by
  match i, h with
  | 0, _ | 1, _ | 2, _ | 3, _ | 4, _ | 5, _ | 6, _ | 7, _ | 8, _ | 9, _ | 10, _ | 11, _ | 12, _ | 13, _ | 14, _ | 15, _ | 16, _ | 17, _ | 18, _ | 19, _ | 20, _ | 21, _ | 22, _ | 23, _ | 24, _ => rfl
  | n + 25, h => omega
theorem ep_types : ∀ u ∈ ([2, 3, 3, 3, 3, 3, 3, 3, 3, 2, 2, 2, 2, 2, 2, 2, 2, 3, 3, 3, 3, 3, 3, 3, 3] : List TypeId), u = 2 ∨ u = 3 := by decide
set_option maxRecDepth 100000 in
theorem epShape {W : World} {r : Reach} {b : Nat} {v : Value} (h : Value.okWide Tryd.prog W r b 31 v) : ∃ x : Nat → Int, v = .agg (M.epCs x) := by
  obtain ⟨cs, rfl, hs, hc⟩ := row_open (P := Tryd.prog) (W := W) (r := r) (b := b) (t := 31) (v := v) Tryd.underlying31 ctEp h
  clear h
  have c8 : Tryd.prog.cellsOf 31 = 25 := by kernel_rfl
  rw [c8] at hs
  clear c8
  have hi : ∀ i (h : i < cs.size), ∃ n, cs[i] = .int .i64 n := fun i h => by
    obtain ⟨u, hu, hk⟩ := hc i cs[i] (Array.getElem?_eq_getElem h)
    rcases ep_types u (List.mem_of_getElem? hu) with rfl | rfl
    · exact cell_int Tryd.underlying2 hk
    · exact cell_int Tryd.underlying3 hk
  refine ⟨fun i => intOf (cs.getD i undef), congrArg Value.agg (Array.ext (hs.trans rfl) fun i h1 h2 => ?_)⟩
  obtain ⟨n, hn⟩ := hi i h1
  have hx : intOf (cs.getD i undef) = n := by simp [Array.getD, h1, hn, intOf]
  have e1 := epCs_get (fun i => intOf (cs.getD i undef)) i (by omega)
  rw [Array.getElem?_eq_getElem h2] at e1
  have e2 := Option.some.inj e1
  rw [e2, hn]
  exact congrArg (Value.int .i64) hx.symm
end Go.Proofs.YtfkddpcadgidgaaDoor

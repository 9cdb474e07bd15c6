/-
  An operation of a script, as it is handed in.
-/
import Derived.Test.YtnfpceeacfdldaaKOpen0
namespace Go.Proofs.Ytnfpceeacfdldaa
open Go.ChangeShapes Go.WideShapes Go.ChangeAt Go.RowKit
set_option linter.unusedVariables false

theorem row_of_struct {P : Program} {W : World} {r : Reach} {b0 : Nat} {t : TypeId} {fs : Array Field} {v : Value} (hu : P.underlying t = some (.struct fs)) (hv : Value.okWide P W r b0 t v) : ∃ cs, v = .agg cs ∧ cs.size = P.cellsOf t ∧ Row.okWide P W r b0 t cs := by
  unfold Value.okWide at hv
  rw [hu] at hv
  exact hv
theorem val_of_cell {P : Program} {W : World} {r : Reach} {b0 : Nat} {t : TypeId} {v : Value} {d : TypeDesc} (hu : P.underlying t = some d) (h1 : ∀ fs, d ≠ .struct fs) (h2 : ∀ e n, d ≠ .array e n) (h : Cell.okWide P W r b0 t v) : Value.okWide P W r b0 t v := by
  unfold Value.okWide
  rw [hu]
  split
  · rename_i e; cases e; exact absurd rfl (h1 _)
  · rename_i e; cases e; exact absurd rfl (h2 _ _)
  · exact h
theorem cell_int {P : Program} {W : World} {r : Reach} {b0 : Nat} {t : TypeId} {v : Value} {k : IntKind} (hu : P.underlying t = some (.int k)) (h : Cell.okWide P W r b0 t v) : ∃ n, v = .int k n := okWide_int hu (val_of_cell hu (by simp) (by simp) h)
theorem cell_str {P : Program} {W : World} {r : Reach} {b0 : Nat} {t : TypeId} {v : Value} (hu : P.underlying t = some .string) (h : Cell.okWide P W r b0 t v) : ∃ s, v = .string s := okWide_string hu (val_of_cell hu (by simp) (by simp) h)
theorem cell_sl {P : Program} {W : World} {r : Reach} {b0 : Nat} {t e : TypeId} {v : Value} (hu : P.underlying t = some (.slice e)) (h : Cell.okWide P W r b0 t v) : ∃ a l c, v = .slice a l c := okWide_slice hu (val_of_cell hu (by simp) (by simp) h)
theorem six {P : Program} {W : World} {r : Reach} {b0 : Nat} {cs : Array Value} {t t0 t1 t2 t3 t4 t5 : TypeId} (hts : P.cellTypes P.depth t = some [t0, t1, t2, t3, t4, t5]) (h6 : cs.size = 6) (h : Row.okWide P W r b0 t cs) :
    ∃ c0 c1 c2 c3 c4 c5, cs = #[c0, c1, c2, c3, c4, c5] ∧ Cell.okWide P W r b0 t0 c0 ∧ Cell.okWide P W r b0 t1 c1 ∧ Cell.okWide P W r b0 t2 c2 ∧ Cell.okWide P W r b0 t3 c3 ∧ Cell.okWide P W r b0 t4 c4 ∧ Cell.okWide P W r b0 t5 c5 := by
  obtain ⟨ts, hts', _, hc⟩ := h
  rw [hts] at hts'
  cases hts'
  obtain ⟨l⟩ := cs
  match l, h6 with
  | [c0, c1, c2, c3, c4, c5], _ =>
    obtain ⟨u0, e0, k0⟩ := hc 0 c0 rfl
    obtain ⟨u1, e1, k1⟩ := hc 1 c1 rfl
    obtain ⟨u2, e2, k2⟩ := hc 2 c2 rfl
    obtain ⟨u3, e3, k3⟩ := hc 3 c3 rfl
    obtain ⟨u4, e4, k4⟩ := hc 4 c4 rfl
    obtain ⟨u5, e5, k5⟩ := hc 5 c5 rfl
    cases e0; cases e1; cases e2; cases e3; cases e4; cases e5
    exact ⟨c0, c1, c2, c3, c4, c5, rfl, k0, k1, k2, k3, k4, k5⟩
theorem op_types : Try.prog.cellTypes Try.prog.depth 33 = some [3, 9, 9, 31, 3, 3] := by kernel_rfl
theorem op_six : Try.prog.cellsOf 33 = 6 := by kernel_rfl
set_option maxRecDepth 100000 in
theorem op_cells {W : World} {b0 : Nat} {v : Value} (hv : Value.okWide Try.prog W .any b0 33 v) :
    ∃ (o : Int) (s t : ByteArray) (ba : Option Addr) (bm bc : Nat) (k keep : Int), v = .agg #[.int .i64 o, .string s, .string t, .slice ba bm bc, .int .i64 k, .int .i64 keep] := by
  obtain ⟨cs, rfl, hsz, hr⟩ := row_of_struct Try.underlying33 hv
  obtain ⟨c0, c1, c2, c3, c4, c5, rfl, k0, k1, k2, k3, k4, k5⟩ := six op_types (hsz.trans op_six) hr
  obtain ⟨o, rfl⟩ := cell_int Try.underlying3 k0
  obtain ⟨s, rfl⟩ := cell_str Try.underlying9 k1
  obtain ⟨t, rfl⟩ := cell_str Try.underlying9 k2
  obtain ⟨ba, bm, bc, rfl⟩ := cell_sl Try.underlying31 k3
  obtain ⟨k, rfl⟩ := cell_int Try.underlying3 k4
  obtain ⟨keep, rfl⟩ := cell_int Try.underlying3 k5
  exact ⟨o, s, t, ba, bm, bc, k, keep, rfl⟩

end Go.Proofs.Ytnfpceeacfdldaa

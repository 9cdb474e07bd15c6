/-
  Proved: whatever operation and whatever configuration are handed in, RecordNone answers true and leaves them as they were. The row, and its tied card.
-/
import Derived.Test.YtfkddpcadgidgaaDoorRows
import Derived.Test.YtfkddpcadgidgaaDoorQTab
import Derived.ProofKit
import Derived.LaidMore
import Derived.OpenShut
import Derived.Stop.Joined
import Derived.SizedLaws
namespace Go.Proofs.YtfkddpcadgidgaaDoor
open Go.ChangeShapes Go.WideShapes Go.ChangeAt Go.RowKit
set_option linter.unusedVariables false

theorem ownR : ownKnob Tryd.prog.godebug = none := by kernel_rfl
theorem laidOutR : laidOutB Tryd.prog = true := by kernel_rfl
theorem gRows : Tryd.prog.globalNamed "orchard/record.entryRows" = some 0 := by kernel_rfl
theorem tRows : (Tryd.prog.globals[0]?).map (·.type) = some 153 := by kernel_rfl
abbrev laidR (H : Type) : List (String × DataW H) := [("orchard/record.entryRows", Rows.laid_orchard_record_entryRows)]
theorem len4 {α : Type} {l : List α} (h : l.length = 4) : ∃ a b c d, l = [a, b, c, d] := by
  match l, h with
  | [a, b, c, d], _ => exact ⟨a, b, c, d, rfl⟩
theorem row4 {H : Type} {enc : TypeId × Value → H} {W : World} {base : Nat} {sp : TypeId → Bool} {held : Bool} {fuel : Nat} {cs : List Value} {a b c d : Int} {ps : List MemPlace} (h : DataW.trod enc Tryd.prog W base sp held fuel 130 cs = some (.agg [.lit (.int .i64 a), .lit (.int .i64 b), .lit (.int .i64 c), .lit (.int .i64 d)], ps)) : cs = [.int .i64 a, .int .i64 b, .int .i64 c, .int .i64 d] := by
  obtain ⟨xs, m, rfl, hx, hl, hn, hel⟩ := DataW.trod_array Tryd.underlying130 h
  have c4 : Tryd.prog.cellsOf 130 = 4 := by kernel_rfl
  have c1 : Tryd.prog.cellsOf 128 = 1 := by kernel_rfl
  rw [c4] at hl
  rw [c1] at hel
  have h0 := hel 0 (by decide)
  have h1 := hel 1 (by decide)
  have h2 := hel 2 (by decide)
  have h3 := hel 3 (by decide)
  clear hel c4 c1 h
  obtain ⟨x0, x1, x2, x3, rfl⟩ := len4 hn
  obtain ⟨k0, k1, k2, k3, rfl⟩ := len4 hl
  simp only [Prod.mk.injEq, DataW.agg.injEq, List.map_cons, List.map_nil, List.cons.injEq] at hx
  obtain ⟨n0, e0, f0, _⟩ := DataW.trod_int Tryd.underlying128 (x := x0) h0
  obtain ⟨n1, e1, f1, _⟩ := DataW.trod_int Tryd.underlying128 (x := x1) h1
  obtain ⟨n2, e2, f2, _⟩ := DataW.trod_int Tryd.underlying128 (x := x2) h2
  obtain ⟨n3, e3, f3, _⟩ := DataW.trod_int Tryd.underlying128 (x := x3) h3
  clear h0 h1 h2 h3
  simp at e0 e1 e2 e3
  rw [f0, f1, f2, f3] at hx
  simp at hx
  rw [e0, e1, e2, e3, hx.1.1, hx.1.2.1, hx.1.2.2.1, hx.1.2.2.2]
theorem len9 {α : Type} {l : List α} (h : l.length = 9) : ∃ a b c d e f g i j, l = [a, b, c, d, e, f, g, i, j] := by
  match l, h with
  | [a, b, c, d, e, f, g, i, j], _ => exact ⟨a, b, c, d, e, f, g, i, j, rfl⟩
theorem of_part {cs : List Value} {o : Nat} {a b c d : Value} (h : (cs.drop o).take 4 = [a, b, c, d]) : cs[o]? = some a ∧ cs[o + 1]? = some b ∧ cs[o + 2]? = some c ∧ cs[o + 3]? = some d := by
  have g : ∀ k, k < 4 → cs[o + k]? = ([a, b, c, d] : List Value)[k]? := fun k hk => by rw [← h, List.getElem?_take, if_pos hk, List.getElem?_drop]
  exact ⟨g 0 (by decide), g 1 (by decide), g 2 (by decide), g 3 (by decide)⟩
theorem tb_of_laid {W : World} (h : laidMetH Tryd.prog (laidR Unit) W) : Tb W := by
  rw [MakeChecks.laidMetH_plain _ _ _ (by kernel_rfl)] at h
  obtain ⟨ps, ⟨g0, t0, cs0, f0, p0, q0, hg0, ht0, hv0, hd0, _, _⟩, _, _⟩ := h
  obtain rfl := Option.some.inj (gRows.symm.trans hg0)
  obtain rfl := Option.some.inj (tRows.symm.trans ht0)
  have hc := fun i => World.var?_cell hg0 hv0 i
  obtain ⟨xs, m, _, hx, hl, hn, hel⟩ := DataW.trod_array Tryd.underlying153 hd0
  have c4 : Tryd.prog.cellsOf 130 = 4 := by kernel_rfl
  rw [c4] at hel
  have e0 := hel 0 (by decide)
  have e1 := hel 1 (by decide)
  have e2 := hel 2 (by decide)
  have e3 := hel 3 (by decide)
  have e4 := hel 4 (by decide)
  have e5 := hel 5 (by decide)
  have e6 := hel 6 (by decide)
  have e7 := hel 7 (by decide)
  have e8 := hel 8 (by decide)
  clear hel c4 hd0 hv0 ht0 hg0 hl
  obtain ⟨x0, x1, x2, x3, x4, x5, x6, x7, x8, rfl⟩ := len9 hn
  simp only [Rows.laid_orchard_record_entryRows, Prod.mk.injEq, DataW.agg.injEq, List.map_cons, List.map_nil, List.cons.injEq] at hx
  obtain ⟨⟨i0, i1, i2, i3, i4, i5, i6, i7, i8, _⟩, _⟩ := hx
  have r0 := of_part (row4 (ps := x0.2) (e0.trans (congrArg some (Prod.ext i0.symm rfl))))
  have r1 := of_part (row4 (ps := x1.2) (e1.trans (congrArg some (Prod.ext i1.symm rfl))))
  have r2 := of_part (row4 (ps := x2.2) (e2.trans (congrArg some (Prod.ext i2.symm rfl))))
  have r3 := of_part (row4 (ps := x3.2) (e3.trans (congrArg some (Prod.ext i3.symm rfl))))
  have r4 := of_part (row4 (ps := x4.2) (e4.trans (congrArg some (Prod.ext i4.symm rfl))))
  have r5 := of_part (row4 (ps := x5.2) (e5.trans (congrArg some (Prod.ext i5.symm rfl))))
  have r6 := of_part (row4 (ps := x6.2) (e6.trans (congrArg some (Prod.ext i6.symm rfl))))
  have r7 := of_part (row4 (ps := x7.2) (e7.trans (congrArg some (Prod.ext i7.symm rfl))))
  have r8 := of_part (row4 (ps := x8.2) (e8.trans (congrArg some (Prod.ext i8.symm rfl))))
  clear e0 e1 e2 e3 e4 e5 e6 e7 e8 i0 i1 i2 i3 i4 i5 i6 i7 i8
  intro i x hx
  rw [hc i]
  have hi : i < 36 := (List.getElem?_eq_some_iff.1 hx).1
  rw [← Array.getElem?_toList]
  match i, hi, hx with
  | 0, _, hx => cases hx; exact r0.1
  | 1, _, hx => cases hx; exact r0.2.1
  | 2, _, hx => cases hx; exact r0.2.2.1
  | 3, _, hx => cases hx; exact r0.2.2.2
  | 4, _, hx => cases hx; exact r1.1
  | 5, _, hx => cases hx; exact r1.2.1
  | 6, _, hx => cases hx; exact r1.2.2.1
  | 7, _, hx => cases hx; exact r1.2.2.2
  | 8, _, hx => cases hx; exact r2.1
  | 9, _, hx => cases hx; exact r2.2.1
  | 10, _, hx => cases hx; exact r2.2.2.1
  | 11, _, hx => cases hx; exact r2.2.2.2
  | 12, _, hx => cases hx; exact r3.1
  | 13, _, hx => cases hx; exact r3.2.1
  | 14, _, hx => cases hx; exact r3.2.2.1
  | 15, _, hx => cases hx; exact r3.2.2.2
  | 16, _, hx => cases hx; exact r4.1
  | 17, _, hx => cases hx; exact r4.2.1
  | 18, _, hx => cases hx; exact r4.2.2.1
  | 19, _, hx => cases hx; exact r4.2.2.2
  | 20, _, hx => cases hx; exact r5.1
  | 21, _, hx => cases hx; exact r5.2.1
  | 22, _, hx => cases hx; exact r5.2.2.1
  | 23, _, hx => cases hx; exact r5.2.2.2
  | 24, _, hx => cases hx; exact r6.1
  | 25, _, hx => cases hx; exact r6.2.1
  | 26, _, hx => cases hx; exact r6.2.2.1
  | 27, _, hx => cases hx; exact r6.2.2.2
  | 28, _, hx => cases hx; exact r7.1
  | 29, _, hx => cases hx; exact r7.2.1
  | 30, _, hx => cases hx; exact r7.2.2.1
  | 31, _, hx => cases hx; exact r7.2.2.2
  | 32, _, hx => cases hx; exact r8.1
  | 33, _, hx => cases hx; exact r8.2.1
  | 34, _, hx => cases hx; exact r8.2.2.1
  | 35, _, hx => cases hx; exact r8.2.2.2

end Go.Proofs.YtfkddpcadgidgaaDoor

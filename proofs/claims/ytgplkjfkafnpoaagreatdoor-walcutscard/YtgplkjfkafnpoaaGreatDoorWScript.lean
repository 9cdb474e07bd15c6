/-
  A script for logs, as it is read.
-/
import Derived.Test.YtgplkjfkafnpoaaGreatDoorLWCuts
import Derived.Test.YtgplkjfkafnpoaaGreatDoorWLaid
import Derived.Test.YtgplkjfkafnpoaaGreatDoorKOpen0
import Derived.Deep.Strs
namespace Go.Proofs.YtgplkjfkafnpoaaGreatDoor
open Go.ChangeShapes Go.WideShapes Go.ChangeAt Go.RowKit
set_option linter.unusedVariables false

theorem cells5O : Tryz.prog.cellsOf 30 = 5 := by kernel_rfl
theorem cells5I : Tryz.prog.cellsOf 3 = 1 := by kernel_rfl
theorem cells5J : Tryz.prog.cellsOf 2 = 1 := by kernel_rfl
theorem cells5B : Tryz.prog.cellsOf 50 = 1 := by kernel_rfl
theorem cells5R : Tryz.prog.cellsOf 28 = 1 := by kernel_rfl

/-- a struct of five fields, field by field -/
theorem five_fields {H : Type} {enc : TypeId × Value → H} {P : Program} {W : World} {base : Nat} {sp : Nat → Bool} {held : Bool} {t : TypeId} {f0 f1 f2 f3 f4 : Field} {fuel : Nat} {cs : List Value} {x : DataW H × List MemPlace} (ht : P.underlying t = some (.struct #[f0, f1, f2, f3, f4])) (h : DataW.trod enc P W base sp held fuel t cs = some x) :
    ∃ y0 y1 y2 y3 y4 n, cs.length = P.cellsOf t ∧ DataW.trod enc P W base sp held n f0.type ((cs.drop f0.offset).take (P.cellsOf f0.type)) = some y0 ∧ DataW.trod enc P W base sp held n f1.type ((cs.drop f1.offset).take (P.cellsOf f1.type)) = some y1 ∧
      DataW.trod enc P W base sp held n f2.type ((cs.drop f2.offset).take (P.cellsOf f2.type)) = some y2 ∧ DataW.trod enc P W base sp held n f3.type ((cs.drop f3.offset).take (P.cellsOf f3.type)) = some y3 ∧ DataW.trod enc P W base sp held n f4.type ((cs.drop f4.offset).take (P.cellsOf f4.type)) = some y4 := by
  obtain ⟨xs, n, _, rfl, hl, hlen, hf⟩ := DataW.trod_struct ht h
  match xs, hlen with
  | [y0, y1, y2, y3, y4], _ => exact ⟨y0, y1, y2, y3, y4, n, hl, by simpa using hf 0 f0 rfl, by simpa using hf 1 f1 rfl, by simpa using hf 2 f2 rfl, by simpa using hf 3 f3 rfl, by simpa using hf 4 f4 rfl⟩
/-- records, as they are read -/
theorem open_recs {H : Type} {enc : TypeId × Value → H} {W : World} {fuel : Nat} {cs : List Value} {x : DataW H × List MemPlace} (h : DataW.trod enc Tryz.prog W 0 (fun _ => true) true fuel 28 cs = some x) :
    ∃ (A : Option Addr) (L C : Nat) (bss : List (List UInt8)), cs = [.slice A L C] ∧ Rq (fun k => k < W.heap.size) W A L bss ∧ L ≤ 9223372036854775807 := by
  rcases Go.Deep.open_slice Tryz.underlying28 h with ⟨hcs, hx⟩ | ⟨x, l, c, m, n, D, Pl, hcs, _, hl, hm, hmm, hx, hr⟩
  · exact ⟨none, 0, 0, [], hcs, ⟨rfl, .inl rfl⟩, by omega⟩
  · simp only [if_true] at hmm
    subst hmm
    rw [cells5B] at hr
    have hmx : m ≤ 9223372036854775807 := by unfold maxLen at hm; omega
    have each : ∀ i, i < l → ∃ bs : List UInt8, ∃ A C, W.cell? ((x.add (i * 1)).add 0) = some (.slice A bs.length C) ∧ Sl W A bs.length bs ∧ bs.length ≤ 9223372036854775807 ∧ (0 < bs.length → ∀ j, blk A = some j → j < W.heap.size) := by
      intro i hi
      obtain ⟨cs', h1, h2⟩ := hr i (by omega)
      obtain ⟨_, hlen, hcell⟩ := World.cells?_some h1
      rcases open_ints Tryz.underlying50 Tryz.underlying5 cells5 h2 with ⟨hcs, hy⟩ | ⟨x', l', c', zs, hcs, _, hl', hm', hz, hy, hcell', hwz⟩
      · subst hcs
        exact ⟨[], none, 0, hcell 0 (by simp), Sl.nil _ _, by simp, fun h => by simp at h⟩
      · subst hcs
        simp only [if_true] at hz
        have hmx : c' ≤ 9223372036854775807 := hm'
        have e : (byts (zs.take l')).length = l' := by rw [byts_length, List.length_take]; omega
        refine ⟨byts (zs.take l'), some x', c', by rw [e]; exact hcell 0 (by simp), by rw [e]; exact sl_of (by omega) hcell' hwz, by omega, fun hp j hj => ?_⟩
        have h3 := World.block_lt_of_cell? _ _ (hcell' 0 (by omega))
        simp [blk] at hj
        subst hj
        simpa [Addr.add] using h3
    obtain ⟨Q, hQ⟩ := Go.Deep.choose_lt (α := List UInt8) each
    refine ⟨some x, l, _, (List.range l).map Q, hcs, ⟨by simp, ?_⟩, by omega⟩
    by_cases hz : l = 0
    · exact .inl hz
    · right
      obtain ⟨b, off, spot⟩ := x
      obtain ⟨_, _, hc, _⟩ := hQ 0 (by omega)
      have hspot : spot = none := by simpa [Addr.add] using World.cell?_spot hc
      subst hspot
      have hb := World.block_lt_of_cell? _ _ hc
      refine ⟨b, off, rfl, by simpa [Addr.add] using hb, fun i q hq => ?_⟩
      have hil : i < l := by have := (List.getElem?_eq_some_iff.1 hq).1; simpa using this
      simp [hil] at hq
      subst hq
      obtain ⟨A, C, r0, r1, r2, r3⟩ := hQ i hil
      simp only [Addr.add_lit, Nat.add_zero, Nat.mul_one] at r0
      exact ⟨A, C, r0, r1, r2, r3⟩
instance : Inhabited Op5 := ⟨⟨0, []⟩⟩
set_option maxRecDepth 20000 in
/-- one operation, as it is read -/
theorem open_op5 {H : Type} {enc : TypeId × Value → H} {W : World} {fuel : Nat} {cs : List Value} {x : DataW H × List MemPlace} (h : DataW.trod enc Tryz.prog W 0 (fun _ => true) true fuel 30 cs = some x) :
    ∃ (o : Op5) (A : Option Addr) (L C : Nat) (n keep stop : Int), cs = [.int .i64 o.do_, .slice A L C, .int .i64 n, .int .i64 keep, .int .i64 stop] ∧ Rq (fun k => k < W.heap.size) W A L o.rs ∧ L ≤ 9223372036854775807 := by
  obtain ⟨y0, y1, y2, y3, y4, n, hl, f0, f1, f2, f3, f4⟩ := five_fields Tryz.underlying30 h
  rw [cells5O] at hl
  match cs, hl with
  | [v0, v1, v2, v3, v4], _ =>
    simp only [cells5I, cells5J, cells5R, List.drop_zero, List.drop_succ_cons, List.take_succ_cons, List.take_zero] at f0 f1 f2 f3 f4
    obtain ⟨z0, e0, g0, w0⟩ := DataW.trod_int Tryz.underlying3 f0
    obtain ⟨A, L, C, bss, e1, hrq, hL⟩ := open_recs f1
    obtain ⟨z2, e2, g2, w2⟩ := DataW.trod_int Tryz.underlying2 f2
    obtain ⟨z3, e3, g3, w3⟩ := DataW.trod_int Tryz.underlying3 f3
    obtain ⟨z4, e4, g4, w4⟩ := DataW.trod_int Tryz.underlying3 f4
    simp only [List.cons.injEq, and_true] at e0 e1 e2 e3 e4
    subst e0 e1 e2 e3 e4
    exact ⟨⟨z0, bss⟩, A, L, C, z2, z3, z4, rfl, hrq, hL⟩
/-- AN ARGUMENT THAT IS A SCRIPT. -/
theorem open_ops5 {H : Type} {enc : TypeId × Value → H} {W : World} {a : Option Addr} {len cap : Nat} {d : DataW H} {p : List MemPlace}
    (h : DataW.Trod enc Tryz.prog W 0 (fun _ => true) true 22 (.slice a len cap) d p) :
    ∃ ops, Sc5 (fun k => k < W.heap.size) W a len ops ∧ len ≤ 9223372036854775807 := by
  obtain ⟨fuel, hf⟩ := h
  rcases Go.Deep.open_slice Tryz.underlying22 hf with ⟨hcs, hx⟩ | ⟨x, l, c, m, n, D, Pl, hcs, _, hl, hm, hmm, hx, hr⟩
  · simp [Value.cells] at hcs
    obtain ⟨rfl, rfl, rfl⟩ := hcs
    exact ⟨[], ⟨rfl, .inl rfl⟩, by omega⟩
  · simp [Value.cells] at hcs
    obtain ⟨rfl, rfl, rfl⟩ := hcs
    simp only [if_true] at hmm
    subst hmm
    rw [cells5O] at hr
    have each : ∀ i, i < len → ∃ o : Op5, ∃ A L C n keep stop, W.cell? ((x.add (i * 5)).add 0) = some (.int .i64 o.do_) ∧ W.cell? ((x.add (i * 5)).add 1) = some (.slice A L C) ∧ W.cell? ((x.add (i * 5)).add 2) = some (.int .i64 n) ∧ W.cell? ((x.add (i * 5)).add 3) = some (.int .i64 keep) ∧ W.cell? ((x.add (i * 5)).add 4) = some (.int .i64 stop) ∧ Rq (fun k => k < W.heap.size) W A L o.rs ∧ L ≤ 9223372036854775807 := by
      intro i hi
      obtain ⟨cs', h1, h2⟩ := hr i (by omega)
      obtain ⟨_, hlen, hcell⟩ := World.cells?_some h1
      obtain ⟨o, A, L, C, z2, z3, z4, rfl, h6, h7⟩ := open_op5 h2
      exact ⟨o, A, L, C, z2, z3, z4, hcell 0 (by simp), hcell 1 (by simp), hcell 2 (by simp), hcell 3 (by simp), hcell 4 (by simp), h6, h7⟩
    obtain ⟨Q, hQ⟩ := Go.Deep.choose_lt (α := Op5) each
    refine ⟨(List.range len).map Q, ⟨by simp, ?_⟩, by unfold maxLen at hm; omega⟩
    by_cases hz : len = 0
    · exact .inl hz
    · right
      obtain ⟨b, off, spot⟩ := x
      obtain ⟨_, _, _, _, _, _, hc, _⟩ := hQ 0 (by omega)
      have hspot : spot = none := by simpa [Addr.add] using World.cell?_spot hc
      subst hspot
      have hb := World.block_lt_of_cell? _ _ hc
      refine ⟨b, off, rfl, by simpa [Addr.add] using hb, fun i q hq => ?_⟩
      have hil : i < len := by have := (List.getElem?_eq_some_iff.1 hq).1; simpa using this
      simp [hil] at hq
      subst hq
      obtain ⟨A, L, C, z2, z3, z4, r0, r1, r2, r3, r4, r6, r7⟩ := hQ i hil
      simp only [Addr.add_lit, Nat.add_zero] at r0 r1 r2 r3 r4
      exact ⟨A, L, C, z2, z3, z4, r0, r1, r2, r3, r4, r6, r7⟩

end Go.Proofs.YtgplkjfkafnpoaaGreatDoor

/-
  A script, as it is read, and as it is handed in.
-/
import Derived.Test.YtnfpceeacfdldaaKRun
import Derived.Test.YtnfpceeacfdldaaKOpen0
import Derived.Deep.Strs
namespace Go.Proofs.Ytnfpceeacfdldaa
open Go.ChangeShapes Go.WideShapes Go.ChangeAt Go.RowKit
set_option linter.unusedVariables false

/-- one operation in memory -/
def Oat (w : World) (b x : Nat) (o : K.Op) : Prop :=
  ∃ s t A L C, w.cell? ⟨b, x, none⟩ = some (.int .i64 o.do_) ∧ w.cell? ⟨b, x + 1, none⟩ = some (.string s) ∧ w.cell? ⟨b, x + 2, none⟩ = some (.string t) ∧ w.cell? ⟨b, x + 3, none⟩ = some (.slice A L C) ∧
    w.cell? ⟨b, x + 4, none⟩ = some (.int .i64 o.k) ∧ w.cell? ⟨b, x + 5, none⟩ = some (.int .i64 o.keep) ∧ O6 w o s t A L
theorem Oat.kept {w w' : World} {b x : Nat} {o : K.Op} (h : Oat w b x o) (hf : Fr (fun _ => False) w w') : Oat w' b x o := by
  obtain ⟨s, t, A, L, C, h0, h1, h2, h3, h4, h5, h6⟩ := h
  exact ⟨s, t, A, L, C, cell_fr hf (fun h => h) h0, cell_fr hf (fun h => h) h1, cell_fr hf (fun h => h) h2, cell_fr hf (fun h => h) h3, cell_fr hf (fun h => h) h4, cell_fr hf (fun h => h) h5, h6.kept hf⟩
/-- WHAT A SCRIPT READS AS. -/
def Sc (w : World) (a : Option Addr) (len : Nat) (ops : List K.Op) : Prop :=
  ops.length = len ∧ (len = 0 ∨ ∃ b off, a = some ⟨b, off, none⟩ ∧ ∀ i o, ops[i]? = some o → Oat w b (off + i * 6) o)
theorem Sc.at {w w' : World} {a : Option Addr} {len : Nat} {ops : List K.Op} (h : Sc w a len ops) (hf : Fr (fun _ => False) w w') {i : Nat} (hi : i < len) : ∃ b off o, a = some ⟨b, off, none⟩ ∧ ops[i]? = some o ∧ Oat w' b (off + i * 6) o := by
  obtain ⟨hl, h⟩ := h
  rcases h with h | ⟨b, off, ha, hc⟩
  · omega
  · have hx : ops[i]? = some ops[i] := by simp [hl, hi]
    exact ⟨b, off, ops[i], ha, hx, (hc i _ hx).kept hf⟩

theorem cellsO : Try.prog.cellsOf 33 = 6 := by kernel_rfl
theorem cellsI : Try.prog.cellsOf 3 = 1 := by kernel_rfl
theorem cellsS : Try.prog.cellsOf 9 = 1 := by kernel_rfl
theorem bulk_lits {H : Type} (k : IntKind) (zs : List Int) : Rows.uptoBulkAll (lits (H := H) k zs) = zs.length := by
  induction zs with
  | nil => simp [lits, Rows.uptoBulkAll]
  | cons z zs ih => simp only [lits, List.map_cons, Rows.uptoBulkAll, Rows.uptoBulk, List.length_cons] at ih ⊢; omega
theorem bulk_map {H : Type} (f : Nat → DataW H) (g : Nat → Nat) (l : List Nat) (h : ∀ i ∈ l, g i ≤ Rows.uptoBulk (f i)) : (l.map g).sum ≤ Rows.uptoBulkAll (l.map f) := by
  induction l with
  | nil => simp [Rows.uptoBulkAll]
  | cons x l ih =>
    simp only [List.map_cons, List.sum_cons, Rows.uptoBulkAll]
    have := h x (by simp)
    have := ih (fun i hi => h i (by simp [hi]))
    omega
theorem wf_i64 {n : Int} (h : (Lit.int .i64 n).wf = true) : -9223372036854775808 ≤ n ∧ n ≤ 9223372036854775807 := by
  simpa [Lit.wf, IntKind.min, IntKind.max, IntKind.signed, IntKind.bits] using h

/-- a struct of six fields, field by field -/
theorem six_fields {H : Type} {enc : TypeId × Value → H} {P : Program} {W : World} {base : Nat} {sp : Nat → Bool} {held : Bool} {t : TypeId} {f0 f1 f2 f3 f4 f5 : Field} {fuel : Nat} {cs : List Value} {x : DataW H × List MemPlace} (ht : P.underlying t = some (.struct #[f0, f1, f2, f3, f4, f5])) (h : DataW.trod enc P W base sp held fuel t cs = some x) :
    ∃ y0 y1 y2 y3 y4 y5 n, x.1 = .agg [y0.1, y1.1, y2.1, y3.1, y4.1, y5.1] ∧ cs.length = P.cellsOf t ∧ DataW.trod enc P W base sp held n f0.type ((cs.drop f0.offset).take (P.cellsOf f0.type)) = some y0 ∧ DataW.trod enc P W base sp held n f1.type ((cs.drop f1.offset).take (P.cellsOf f1.type)) = some y1 ∧
      DataW.trod enc P W base sp held n f2.type ((cs.drop f2.offset).take (P.cellsOf f2.type)) = some y2 ∧ DataW.trod enc P W base sp held n f3.type ((cs.drop f3.offset).take (P.cellsOf f3.type)) = some y3 ∧ DataW.trod enc P W base sp held n f4.type ((cs.drop f4.offset).take (P.cellsOf f4.type)) = some y4 ∧ DataW.trod enc P W base sp held n f5.type ((cs.drop f5.offset).take (P.cellsOf f5.type)) = some y5 := by
  obtain ⟨xs, n, _, rfl, hl, hlen, hf⟩ := DataW.trod_struct ht h
  match xs, hlen with
  | [y0, y1, y2, y3, y4, y5], _ => exact ⟨y0, y1, y2, y3, y4, y5, n, by simp, hl, by simpa using hf 0 f0 rfl, by simpa using hf 1 f1 rfl, by simpa using hf 2 f2 rfl, by simpa using hf 3 f3 rfl, by simpa using hf 4 f4 rfl, by simpa using hf 5 f5 rfl⟩
instance : Inhabited K.Op := ⟨⟨0, [], [], [], 0, 0⟩⟩
set_option maxRecDepth 20000 in
/-- one operation, as it is read -/
theorem open_op {H : Type} {enc : TypeId × Value → H} {W : World} {fuel : Nat} {cs : List Value} {x : DataW H × List MemPlace} (h : DataW.trod enc Try.prog W 0 (fun _ => true) true fuel 33 cs = some x) :
    ∃ (o : K.Op) (s t : ByteArray) (A : Option Addr) (L C : Nat), cs = [.int .i64 o.do_, .string s, .string t, .slice A L C, .int .i64 o.k, .int .i64 o.keep] ∧ O6 W o s t A L ∧ o.b.length + 1 ≤ Rows.uptoBulk x.1 := by
  obtain ⟨y0, y1, y2, y3, y4, y5, n, hX, hl, f0, f1, f2, f3, f4, f5⟩ := six_fields Try.underlying33 h
  rw [cellsO] at hl
  rw [hX]
  clear hX
  · match cs, hl with
    | [v0, v1, v2, v3, v4, v5], _ =>
      simp only [cellsI, cellsS, cells31, List.drop_zero, List.drop_succ_cons, List.take_succ_cons, List.take_zero] at f0 f1 f2 f3 f4 f5
      obtain ⟨z0, e0, g0, w0⟩ := DataW.trod_int Try.underlying3 f0
      obtain ⟨s, e1, g1, w1⟩ := DataW.trod_string Try.underlying9 f1
      obtain ⟨t, e2, g2, w2⟩ := DataW.trod_string Try.underlying9 f2
      obtain ⟨z4, e4, g4, w4⟩ := DataW.trod_int Try.underlying3 f4
      obtain ⟨z5, e5, g5, w5⟩ := DataW.trod_int Try.underlying3 f5
      simp only [List.cons.injEq, and_true] at e0 e1 e2 e4 e5
      subst e0 e1 e2 e4 e5
      have b4 := wf_i64 w4
      have b5 := wf_i64 w5
      rcases open_ints Try.underlying31 Try.underlying5 cells5 f3 with ⟨hcs, hy⟩ | ⟨x', l', c', zs, hcs, _, hl', hm', hz, hy, hcell', hwz⟩
      · simp only [List.cons.injEq, and_true] at hcs
        subst hcs
        refine ⟨⟨z0, s.data.toList, t.data.toList, [], z4, z5⟩, s, t, none, 0, 0, rfl, ⟨rfl, rfl, w1, w2, Sl.nil _ _, by omega, b4.1, b4.2, b5.1, b5.2⟩, ?_⟩
        simp [Rows.uptoBulk]
      · simp only [List.cons.injEq, and_true] at hcs
        subst hcs
        simp only [if_true] at hz
        have hmx : c' ≤ 9223372036854775807 := hm'
        refine ⟨⟨z0, s.data.toList, t.data.toList, byts (zs.take l'), z4, z5⟩, s, t, some x', l', c', rfl, ⟨rfl, rfl, w1, w2, sl_of (by omega) hcell' hwz, by omega, b4.1, b4.2, b5.1, b5.2⟩, ?_⟩
        have hy := congrArg Prod.fst hy
        simp only at hy
        simp only [Rows.uptoBulk, Rows.uptoBulkAll, hy, bulk_lits, byts_length, List.length_take, List.length_drop]
        omega
/-- AN ARGUMENT THAT IS A SCRIPT. -/
theorem open_ops {H : Type} {enc : TypeId × Value → H} {W : World} {a : Option Addr} {len cap : Nat} {d : DataW H} {p : List MemPlace}
    (h : DataW.Trod enc Try.prog W 0 (fun _ => true) true 22 (.slice a len cap) d p) :
    ∃ ops, Sc W a len ops ∧ len ≤ 9223372036854775807 ∧ (ops.map (fun o => o.b.length + 1)).sum ≤ Rows.uptoBulk d := by
  obtain ⟨fuel, hf⟩ := h
  rcases Go.Deep.open_slice Try.underlying22 hf with ⟨hcs, hx⟩ | ⟨x, l, c, m, n, D, Pl, hcs, _, hl, hm, hmm, hx, hr⟩
  · simp [Value.cells] at hcs
    obtain ⟨rfl, rfl, rfl⟩ := hcs
    exact ⟨[], ⟨rfl, .inl rfl⟩, by omega, by simp⟩
  · simp [Value.cells] at hcs
    obtain ⟨rfl, rfl, rfl⟩ := hcs
    simp only [if_true] at hmm
    subst hmm
    simp only [Prod.mk.injEq] at hx
    rw [cellsO] at hr
    have each : ∀ i, i < len → ∃ o : K.Op, (∃ s t A L C, W.cell? ((x.add (i * 6)).add 0) = some (.int .i64 o.do_) ∧ W.cell? ((x.add (i * 6)).add 1) = some (.string s) ∧ W.cell? ((x.add (i * 6)).add 2) = some (.string t) ∧ W.cell? ((x.add (i * 6)).add 3) = some (.slice A L C) ∧
        W.cell? ((x.add (i * 6)).add 4) = some (.int .i64 o.k) ∧ W.cell? ((x.add (i * 6)).add 5) = some (.int .i64 o.keep) ∧ O6 W o s t A L) ∧ o.b.length + 1 ≤ Rows.uptoBulk (D i) := by
      intro i hi
      obtain ⟨cs', h1, h2⟩ := hr i (by omega)
      obtain ⟨_, hlen, hcell⟩ := World.cells?_some h1
      obtain ⟨o, s, t, A, L, C, rfl, h6, hbk⟩ := open_op h2
      exact ⟨o, ⟨s, t, A, L, C, hcell 0 (by omega), hcell 1 (by omega), hcell 2 (by omega), hcell 3 (by omega), hcell 4 (by omega), hcell 5 (by omega), h6⟩, hbk⟩
    obtain ⟨Q, hQ⟩ := Go.Deep.choose_lt (α := K.Op) each
    refine ⟨(List.range len).map Q, ⟨by simp, ?_⟩, by unfold maxLen at hm; omega, ?_⟩
    · by_cases hz : len = 0
      · exact .inl hz
      · right
        obtain ⟨b, off, spot⟩ := x
        obtain ⟨⟨_, _, _, _, _, hc, _⟩, _⟩ := hQ 0 (by omega)
        have hspot : spot = none := by simpa [Addr.add] using World.cell?_spot hc
        subst hspot
        refine ⟨b, off, rfl, fun i q hq => ?_⟩
        have hil : i < len := by have := (List.getElem?_eq_some_iff.1 hq).1; simpa using this
        simp [hil] at hq
        subst hq
        obtain ⟨⟨s, t, A, L, C, r0, r1, r2, r3, r4, r5, r6⟩, _⟩ := hQ i hil
        simp only [Addr.add_lit, Nat.add_zero] at r0 r1 r2 r3 r4 r5
        exact ⟨s, t, A, L, C, r0, r1, r2, r3, r4, r5, r6⟩
    · rw [hx.1]
      simp only [Rows.uptoBulk]
      have hb := bulk_map (H := H) D (fun i => (Q i).b.length + 1) (List.range len) (fun i hi => (hQ i (List.mem_range.1 hi)).2)
      have e : ((List.range len).map Q).map (fun o => o.b.length + 1) = (List.range len).map (fun i => (Q i).b.length + 1) := by rw [List.map_map]; rfl
      rw [e]
      omega

end Go.Proofs.Ytnfpceeacfdldaa

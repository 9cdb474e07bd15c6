/-
  A script of ckpt's laws, as it is read, and as it is handed in.
  Both disks, the program's and the document's, apart.
-/
import Derived.Test.YtogdjhhabcejgaaGreatCMaths
import Derived.Test.YtogdjhhabcejgaaGreatMg11
import Derived.Test.YtogdjhhabcejgaaGreatMg47
import Derived.Deep.Strs
import Derived.Test.YtogdjhhabcejgaaGreatRMemQ
namespace Go.Proofs.YtogdjhhabcejgaaGreat
open Go.ChangeShapes Go.WideShapes Go.ChangeAt Go.RowKit
set_option linter.unusedVariables false

/-- one operation -/
structure C.Op where
  do_ : Int
  slot : Int
  b : List UInt8
  k : Int
  keep : Int
  nm : K.Nm
/-- its parts, as they lie -/
structure O7 (w : World) (o : C.Op) (s : ByteArray) (ba : Option Addr) (bm : Nat) : Prop where
  nm : s.data.toList = o.nm
  nz : s.size ≤ maxLen
  sl : Sl w ba bm o.b
  bm_ : bm ≤ 9223372036854775807
  s0 : -9223372036854775808 ≤ o.slot
  s1 : o.slot ≤ 9223372036854775807
  k0 : -9223372036854775808 ≤ o.k
  k1 : o.k ≤ 9223372036854775807
  p0 : -9223372036854775808 ≤ o.keep
  p1 : o.keep ≤ 9223372036854775807
theorem O7.kept {w w' : World} {o : C.Op} {s : ByteArray} {ba : Option Addr} {bm : Nat} (h : O7 w o s ba bm) (hf : Fr (fun _ => False) w w') : O7 w' o s ba bm :=
  ⟨h.nm, h.nz, h.sl.kept hf (fun _ _ _ h => h), h.bm_, h.s0, h.s1, h.k0, h.k1, h.p0, h.p1⟩
/-- one operation in memory -/
def Oat7 (w : World) (b x : Nat) (o : C.Op) : Prop :=
  ∃ s A L C, w.cell? ⟨b, x, none⟩ = some (.int .i64 o.do_) ∧ w.cell? ⟨b, x + 1, none⟩ = some (.int .i64 o.slot) ∧ w.cell? ⟨b, x + 2, none⟩ = some (.slice A L C) ∧ w.cell? ⟨b, x + 3, none⟩ = some (.int .i64 o.k) ∧
    w.cell? ⟨b, x + 4, none⟩ = some (.int .i64 o.keep) ∧ w.cell? ⟨b, x + 5, none⟩ = some (.string s) ∧ O7 w o s A L
theorem Oat7.kept {w w' : World} {b x : Nat} {o : C.Op} (h : Oat7 w b x o) (hf : Fr (fun _ => False) w w') : Oat7 w' b x o := by
  obtain ⟨s, A, L, C, h0, h1, h2, h3, h4, h5, h6⟩ := h
  exact ⟨s, A, L, C, cell_fr hf (fun h => h) h0, cell_fr hf (fun h => h) h1, cell_fr hf (fun h => h) h2, cell_fr hf (fun h => h) h3, cell_fr hf (fun h => h) h4, cell_fr hf (fun h => h) h5, h6.kept hf⟩
/-- WHAT A SCRIPT READS AS. -/
def Sc7 (w : World) (a : Option Addr) (len : Nat) (ops : List C.Op) : Prop :=
  ops.length = len ∧ (len = 0 ∨ ∃ b off, a = some ⟨b, off, none⟩ ∧ ∀ i o, ops[i]? = some o → Oat7 w b (off + i * 6) o)
theorem Sc7.at {w w' : World} {a : Option Addr} {len : Nat} {ops : List C.Op} (h : Sc7 w a len ops) (hf : Fr (fun _ => False) w w') {i : Nat} (hi : i < len) : ∃ b off o, a = some ⟨b, off, none⟩ ∧ ops[i]? = some o ∧ Oat7 w' b (off + i * 6) o := by
  obtain ⟨hl, h⟩ := h
  rcases h with h | ⟨b, off, ha, hc⟩
  · omega
  · have hx : ops[i]? = some ops[i] := by simp [hl, hi]
    exact ⟨b, off, ops[i], ha, hx, (hc i _ hx).kept hf⟩

theorem cellsO7 : Tryz.prog.cellsOf 33 = 6 := by kernel_rfl
theorem cellsI7 : Tryz.prog.cellsOf 3 = 1 := by kernel_rfl
theorem cellsJ7 : Tryz.prog.cellsOf 2 = 1 := by kernel_rfl
theorem cellsS7 : Tryz.prog.cellsOf 9 = 1 := by kernel_rfl
theorem bulk_lits7 {H : Type} (k : IntKind) (zs : List Int) : Rows.uptoBulkAll (lits (H := H) k zs) = zs.length := by
  induction zs with
  | nil => simp [lits, Rows.uptoBulkAll]
  | cons z zs ih => simp only [lits, List.map_cons, Rows.uptoBulkAll, Rows.uptoBulk, List.length_cons] at ih ⊢; omega
theorem bulk_map7 {H : Type} (f : Nat → DataW H) (g : Nat → Nat) (l : List Nat) (h : ∀ i ∈ l, g i ≤ Rows.uptoBulk (f i)) : (l.map g).sum ≤ Rows.uptoBulkAll (l.map f) := by
  induction l with
  | nil => simp [Rows.uptoBulkAll]
  | cons x l ih =>
    simp only [List.map_cons, List.sum_cons, Rows.uptoBulkAll]
    have := h x (by simp)
    have := ih (fun i hi => h i (by simp [hi]))
    omega

/-- a struct of six fields, field by field -/
theorem six_fields7 {H : Type} {enc : TypeId × Value → H} {P : Program} {W : World} {base : Nat} {sp : Nat → Bool} {held : Bool} {t : TypeId} {f0 f1 f2 f3 f4 f5 : Field} {fuel : Nat} {cs : List Value} {x : DataW H × List MemPlace} (ht : P.underlying t = some (.struct #[f0, f1, f2, f3, f4, f5])) (h : DataW.trod enc P W base sp held fuel t cs = some x) :
    ∃ y0 y1 y2 y3 y4 y5 n, x.1 = .agg [y0.1, y1.1, y2.1, y3.1, y4.1, y5.1] ∧ cs.length = P.cellsOf t ∧ DataW.trod enc P W base sp held n f0.type ((cs.drop f0.offset).take (P.cellsOf f0.type)) = some y0 ∧ DataW.trod enc P W base sp held n f1.type ((cs.drop f1.offset).take (P.cellsOf f1.type)) = some y1 ∧
      DataW.trod enc P W base sp held n f2.type ((cs.drop f2.offset).take (P.cellsOf f2.type)) = some y2 ∧ DataW.trod enc P W base sp held n f3.type ((cs.drop f3.offset).take (P.cellsOf f3.type)) = some y3 ∧ DataW.trod enc P W base sp held n f4.type ((cs.drop f4.offset).take (P.cellsOf f4.type)) = some y4 ∧ DataW.trod enc P W base sp held n f5.type ((cs.drop f5.offset).take (P.cellsOf f5.type)) = some y5 := by
  obtain ⟨xs, n, _, rfl, hl, hlen, hf⟩ := DataW.trod_struct ht h
  match xs, hlen with
  | [y0, y1, y2, y3, y4, y5], _ => exact ⟨y0, y1, y2, y3, y4, y5, n, by simp, hl, by simpa using hf 0 f0 rfl, by simpa using hf 1 f1 rfl, by simpa using hf 2 f2 rfl, by simpa using hf 3 f3 rfl, by simpa using hf 4 f4 rfl, by simpa using hf 5 f5 rfl⟩
instance : Inhabited C.Op := ⟨⟨0, 0, [], 0, 0, []⟩⟩
set_option maxRecDepth 20000 in
/-- one operation, as it is read -/
theorem open_op7 {H : Type} {enc : TypeId × Value → H} {W : World} {fuel : Nat} {cs : List Value} {x : DataW H × List MemPlace} (h : DataW.trod enc Tryz.prog W 0 (fun _ => true) true fuel 33 cs = some x) :
    ∃ (o : C.Op) (s : ByteArray) (A : Option Addr) (L C : Nat), cs = [.int .i64 o.do_, .int .i64 o.slot, .slice A L C, .int .i64 o.k, .int .i64 o.keep, .string s] ∧ O7 W o s A L ∧ o.b.length + 1 ≤ Rows.uptoBulk x.1 := by
  obtain ⟨y0, y1, y2, y3, y4, y5, n, hX, hl, f0, f1, f2, f3, f4, f5⟩ := six_fields7 Tryz.underlying33 h
  rw [cellsO7] at hl
  rw [hX]
  clear hX
  · match cs, hl with
    | [v0, v1, v2, v3, v4, v5], _ =>
      simp only [cellsI7, cellsJ7, cellsS7, cells31, List.drop_zero, List.drop_succ_cons, List.take_succ_cons, List.take_zero] at f0 f1 f2 f3 f4 f5
      obtain ⟨z0, e0, g0, w0⟩ := DataW.trod_int Tryz.underlying3 f0
      obtain ⟨z1, e1, g1, w1⟩ := DataW.trod_int Tryz.underlying2 f1
      obtain ⟨z3, e3, g3, w3⟩ := DataW.trod_int Tryz.underlying3 f3
      obtain ⟨z4, e4, g4, w4⟩ := DataW.trod_int Tryz.underlying3 f4
      obtain ⟨s, e5, g5, w5⟩ := DataW.trod_string Tryz.underlying9 f5
      simp only [List.cons.injEq, and_true] at e0 e1 e3 e4 e5
      subst e0 e1 e3 e4 e5
      have b1 := wf_i64 w1
      have b3 := wf_i64 w3
      have b4 := wf_i64 w4
      rcases open_ints Tryz.underlying31 Tryz.underlying5 cells5 f2 with ⟨hcs, hy⟩ | ⟨x', l', c', zs, hcs, _, hl', hm', hz, hy, hcell', hwz⟩
      · simp only [List.cons.injEq, and_true] at hcs
        subst hcs
        refine ⟨⟨z0, z1, [], z3, z4, s.data.toList⟩, s, none, 0, 0, rfl, ⟨rfl, w5, Sl.nil _ _, by omega, b1.1, b1.2, b3.1, b3.2, b4.1, b4.2⟩, ?_⟩
        simp [Rows.uptoBulk]
      · simp only [List.cons.injEq, and_true] at hcs
        subst hcs
        simp only [if_true] at hz
        have hmx : c' ≤ 9223372036854775807 := hm'
        refine ⟨⟨z0, z1, byts (zs.take l'), z3, z4, s.data.toList⟩, s, some x', l', c', rfl, ⟨rfl, w5, sl_of (by omega) hcell' hwz, by omega, b1.1, b1.2, b3.1, b3.2, b4.1, b4.2⟩, ?_⟩
        have hy := congrArg Prod.fst hy
        simp only at hy
        simp only [Rows.uptoBulk, Rows.uptoBulkAll, hy, bulk_lits7, byts_length, List.length_take, List.length_drop]
        omega
/-- AN ARGUMENT THAT IS A SCRIPT. -/
theorem open_ops7 {H : Type} {enc : TypeId × Value → H} {W : World} {a : Option Addr} {len cap : Nat} {d : DataW H} {p : List MemPlace}
    (h : DataW.Trod enc Tryz.prog W 0 (fun _ => true) true 22 (.slice a len cap) d p) :
    ∃ ops, Sc7 W a len ops ∧ len ≤ 9223372036854775807 ∧ (ops.map (fun o => o.b.length + 1)).sum ≤ Rows.uptoBulk d := by
  obtain ⟨fuel, hf⟩ := h
  rcases Go.Deep.open_slice Tryz.underlying22 hf with ⟨hcs, hx⟩ | ⟨x, l, c, m, n, D, Pl, hcs, _, hl, hm, hmm, hx, hr⟩
  · simp [Value.cells] at hcs
    obtain ⟨rfl, rfl, rfl⟩ := hcs
    exact ⟨[], ⟨rfl, .inl rfl⟩, by omega, by simp⟩
  · simp [Value.cells] at hcs
    obtain ⟨rfl, rfl, rfl⟩ := hcs
    simp only [if_true] at hmm
    subst hmm
    simp only [Prod.mk.injEq] at hx
    rw [cellsO7] at hr
    have each : ∀ i, i < len → ∃ o : C.Op, (∃ s A L C, W.cell? ((x.add (i * 6)).add 0) = some (.int .i64 o.do_) ∧ W.cell? ((x.add (i * 6)).add 1) = some (.int .i64 o.slot) ∧ W.cell? ((x.add (i * 6)).add 2) = some (.slice A L C) ∧ W.cell? ((x.add (i * 6)).add 3) = some (.int .i64 o.k) ∧
        W.cell? ((x.add (i * 6)).add 4) = some (.int .i64 o.keep) ∧ W.cell? ((x.add (i * 6)).add 5) = some (.string s) ∧ O7 W o s A L) ∧ o.b.length + 1 ≤ Rows.uptoBulk (D i) := by
      intro i hi
      obtain ⟨cs', h1, h2⟩ := hr i (by omega)
      obtain ⟨_, hlen, hcell⟩ := World.cells?_some h1
      obtain ⟨o, s, A, L, C, rfl, h6, hbk⟩ := open_op7 h2
      exact ⟨o, ⟨s, A, L, C, hcell 0 (by omega), hcell 1 (by omega), hcell 2 (by omega), hcell 3 (by omega), hcell 4 (by omega), hcell 5 (by omega), h6⟩, hbk⟩
    obtain ⟨Q, hQ⟩ := Go.Deep.choose_lt (α := C.Op) each
    refine ⟨(List.range len).map Q, ⟨by simp, ?_⟩, by unfold maxLen at hm; omega, ?_⟩
    · by_cases hz : len = 0
      · exact .inl hz
      · right
        obtain ⟨b, off, spot⟩ := x
        obtain ⟨⟨_, _, _, _, hc, _⟩, _⟩ := hQ 0 (by omega)
        have hspot : spot = none := by simpa [Addr.add] using World.cell?_spot hc
        subst hspot
        refine ⟨b, off, rfl, fun i q hq => ?_⟩
        have hil : i < len := by have := (List.getElem?_eq_some_iff.1 hq).1; simpa using this
        simp [hil] at hq
        subst hq
        obtain ⟨⟨s, A, L, C, r0, r1, r2, r3, r4, r5, r6⟩, _⟩ := hQ i hil
        simp only [Addr.add_lit, Nat.add_zero] at r0 r1 r2 r3 r4 r5
        exact ⟨s, A, L, C, r0, r1, r2, r3, r4, r5, r6⟩
    · rw [hx.1]
      simp only [Rows.uptoBulk]
      have hb := bulk_map7 (H := H) D (fun i => (Q i).b.length + 1) (List.range len) (fun i hi => (hQ i (List.mem_range.1 hi)).2)
      have e : ((List.range len).map Q).map (fun o => o.b.length + 1) = (List.range len).map (fun i => (Q i).b.length + 1) := by rw [List.map_map]; rfl
      rw [e]
      omega

end Go.Proofs.YtogdjhhabcejgaaGreat

namespace Go.Proofs.YtogdjhhabcejgaaGreat
open Go.RowKit Go.Maps
set_option linter.unusedVariables false

/-- both disks, apart, above all that was there -/
structure DD (w0 w : World) (p q : Nat) (Sd Sr : Nat → Prop) (d r : K.DK) : Prop where
  dk : Dk Sd w p d
  rk : Rk Sr w q r
  ap : ∀ j, Sd j → ¬ Sr j
  ged : ∀ j, Sd j → w0.heap.size ≤ j
  ger : ∀ j, Sr j → w0.heap.size ≤ j
  fr : Fr (fun _ => False) w0 w
theorem DD.keptS {w0 w w' : World} {p q : Nat} {Sd Sr T : Nat → Prop} {d r : K.DK} (h : DD w0 w p q Sd Sr d r) (hf : Fr T w w') (h1 : ∀ j, T j → w0.heap.size ≤ j) (h2 : ∀ j, Sd j → ¬ T j) (h3 : ∀ j, Sr j → ¬ T j) : DD w0 w' p q Sd Sr d r :=
  ⟨h.dk.kept hf h2, h.rk.kept hf h3, h.ap, h.ged, h.ger, h.fr.trans hf (fun i hi ht => by have := h1 i ht; omega)⟩
theorem DD.kept {w0 w w' : World} {p q : Nat} {Sd Sr : Nat → Prop} {d r : K.DK} (h : DD w0 w p q Sd Sr d r) (hf : Fr (fun _ => False) w w') : DD w0 w' p q Sd Sr d r :=
  h.keptS hf (fun _ h => h.elim) (fun _ _ h => h) (fun _ _ h => h)
theorem DD.d {w0 w w' : World} {p q : Nat} {Sd Sr : Nat → Prop} {d r d' : K.DK} (h : DD w0 w p q Sd Sr d r) (ht : Td Sd w p d' w') : DD w0 w' p q (Nx Sd w w') Sr d' r := by
  have hz := h.fr.size
  refine ⟨ht.1, h.rk.kept ht.2 (fun k hk hs => h.ap k hs hk), fun j hj hr => ?_, fun j hj => ?_, h.ger, h.fr.trans ht.2 (fun i hi hs => by have := h.ged i hs; omega)⟩
  · rcases hj.1 with hs | hs
    · exact h.ap j hs hr
    · have := h.rk.1 j hr
      omega
  · rcases hj.1 with hs | hs
    · exact h.ged j hs
    · omega
theorem DD.r {w0 w w' : World} {p q : Nat} {Sd Sr : Nat → Prop} {d r r' : K.DK} (h : DD w0 w p q Sd Sr d r) (ht : Rt Sr w q r' w') : DD w0 w' p q Sd (Nx Sr w w') d r' := by
  have hz := h.fr.size
  refine ⟨h.dk.kept ht.2 (fun k hk hs => h.ap k hk hs), ht.1, fun j hj hr => ?_, h.ged, fun j hj => ?_, h.fr.trans ht.2 (fun i hi hs => by have := h.ger i hs; omega)⟩
  · rcases hr.1 with hs | hs
    · exact h.ap j hj hs
    · have := h.dk.1 j hj
      omega
  · rcases hj.1 with hs | hs
    · exact h.ger j hs
    · omega
theorem Rk.sp {S : Nat → Prop} {w : World} {p : Nat} {d : K.DK} (h : Rk S w p d) : S p := by
  obtain ⟨_, _, _, _, _, _, _, h4, _⟩ := h
  exact h4

end Go.Proofs.YtogdjhhabcejgaaGreat

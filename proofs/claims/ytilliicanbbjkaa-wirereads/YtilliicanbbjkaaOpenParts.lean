/-
  An argument that is a list of parts, as it is read.
-/
import Derived.Test.YtilliicanbbjkaaOpen
import Derived.Deep.Strs
namespace Go.Proofs.Ytilliicanbbjkaa
open Go.ChangeShapes Go.WideShapes Go.ChangeAt Go.RowKit
set_option linter.unusedVariables false

/-- a part: its kind, its number, its bytes -/
abbrev Pt := Int × Int × List UInt8
/-- WHAT A LIST OF PARTS READS AS. -/
def Ps (w : World) (a : Option Addr) (len : Nat) (ps : List Pt) : Prop :=
  ps.length = len ∧ (len = 0 ∨ ∃ b off, a = some ⟨b, off, none⟩ ∧ ∀ i (q : Pt), ps[i]? = some q → ∃ A L C, w.cell? ⟨b, off + i * 3, none⟩ = some (.int .i64 q.1) ∧ w.cell? ⟨b, off + i * 3 + 1, none⟩ = some (.int .i64 q.2.1) ∧
    w.cell? ⟨b, off + i * 3 + 2, none⟩ = some (.slice A L C) ∧ Sl w A L q.2.2 ∧ L ≤ C ∧ L ≤ 140737488351232 ∧ -9223372036854775808 ≤ q.2.1 ∧ q.2.1 ≤ 9223372036854775807)
theorem Ps.at {w : World} {a : Option Addr} {len : Nat} {ps : List Pt} (h : Ps w a len ps) {i : Nat} (hi : i < len) :
    ∃ b off k n bs A L C, a = some ⟨b, off, none⟩ ∧ ps[i]? = some (k, n, bs) ∧ w.cell? ⟨b, off + i * 3, none⟩ = some (.int .i64 k) ∧ w.cell? ⟨b, off + i * 3 + 1, none⟩ = some (.int .i64 n) ∧
    w.cell? ⟨b, off + i * 3 + 2, none⟩ = some (.slice A L C) ∧ Sl w A L bs ∧ L ≤ C ∧ L ≤ 140737488351232 ∧ -9223372036854775808 ≤ n ∧ n ≤ 9223372036854775807 := by
  obtain ⟨hl, h⟩ := h
  rcases h with h | ⟨b, off, ha, hc⟩
  · omega
  · have hx : ps[i]? = some ps[i] := by simp [hl, hi]
    obtain ⟨A, L, C, r⟩ := hc i _ hx
    exact ⟨b, off, ps[i].1, ps[i].2.1, ps[i].2.2, A, L, C, ha, hx, r⟩
theorem Ps.kept {w w' : World} {a : Option Addr} {len : Nat} {ps : List Pt} (h : Ps w a len ps) (hf : Fr (fun _ => False) w w') : Ps w' a len ps := by
  obtain ⟨hl, h0⟩ := h
  refine ⟨hl, ?_⟩
  rcases h0 with h0 | ⟨b, off, rfl, hc⟩
  · exact .inl h0
  · refine .inr ⟨b, off, rfl, fun k q hk => ?_⟩
    obtain ⟨A, L, C, h1, h2, h3, h4, h5⟩ := hc k q hk
    have kk : ∀ {o : Nat} {v : Value}, w.cell? ⟨b, o, none⟩ = some v → w'.cell? ⟨b, o, none⟩ = some v := fun {o v} h => by
      rw [World.cell?_of_block (w := w) (w' := w') (hf.block b (World.block_lt_of_cell? w _ h) (fun h => h))]; exact h
    exact ⟨A, L, C, kk h1, kk h2, kk h3, h4.kept hf (fun _ _ _ h => h), h5⟩

theorem cells28 : Try.prog.cellsOf 28 = 3 := by kernel_rfl
theorem cellsI : Try.prog.cellsOf 3 = 1 := by kernel_rfl
theorem cellsJ : Try.prog.cellsOf 2 = 1 := by kernel_rfl
theorem bytesU : Try.prog.bytesOf 5 = 1 := by kernel_rfl

theorem weightsAll_mem {H : Type} {P : Program} {e : TypeId} : ∀ {l : List (DataW H)} {d : DataW H}, d ∈ l → ∀ n ∈ d.weights P e, n ∈ DataW.weightsAll P e l
  | x :: l, d, hd, n, hn => by
    simp only [DataW.weightsAll, List.mem_append]
    rcases List.mem_cons.1 hd with rfl | h
    · exact .inl hn
    · exact .inr (weightsAll_mem h n hn)

theorem open_parts {H : Type} {enc : TypeId × Value → H} {W : World} {a : Option Addr} {len cap : Nat} {d : DataW H} {p : List MemPlace} {ts : List TypeId} {ds : List (DataW H)} {j : Nat}
    (h : DataW.Trod enc Try.prog W 0 (fun _ => true) true 22 (.slice a len cap) d p) (hsz : (DataW.weightsEach Try.prog ts ds).all (· ≤ reachBytes) = true) (hts : ts[j]? = some 22) (hds : ds[j]? = some d) :
    ∃ ps, Ps W a len ps ∧ len ≤ 9223372036854775807 := by
  obtain ⟨fuel, hf⟩ := h
  rcases Go.Deep.open_slice Try.underlying22 hf with ⟨hcs, hx⟩ | ⟨x, l, c, m, n, D, Pl, hcs, _, hl, hm, hmm, hx, hr⟩
  · simp [Value.cells] at hcs
    obtain ⟨rfl, rfl, rfl⟩ := hcs
    exact ⟨[], ⟨rfl, .inl rfl⟩, by omega⟩
  · simp [Value.cells] at hcs
    obtain ⟨rfl, rfl, rfl⟩ := hcs
    simp only [if_true] at hmm
    subst hmm
    simp only [Prod.mk.injEq] at hx
    rw [cells28] at hr
    have each : ∀ i, i < len → ∃ q : Pt, ∃ A L C, W.cell? ((x.add (i * 3)).add 0) = some (.int .i64 q.1) ∧ W.cell? ((x.add (i * 3)).add 1) = some (.int .i64 q.2.1) ∧
        W.cell? ((x.add (i * 3)).add 2) = some (.slice A L C) ∧ Sl W A L q.2.2 ∧ L ≤ C ∧ L ≤ 140737488351232 ∧ -9223372036854775808 ≤ q.2.1 ∧ q.2.1 ≤ 9223372036854775807 := by
      intro i hi
      obtain ⟨cs', h1, h2⟩ := hr i (by omega)
      obtain ⟨_, hlen, hcell⟩ := World.cells?_some h1
      obtain ⟨y0, y1, y2, n', hD, _, t0, t1, t2⟩ := Go.Deep.trod_struct3 Try.underlying28 h2
      match cs', hlen with
      | [v0, v1, v2], _ =>
        simp only [cellsI, cellsJ, cells26, List.drop_zero, List.drop_succ_cons, List.take_succ_cons, List.take_zero] at t0 t1 t2
        obtain ⟨k, e0, _, _⟩ := DataW.trod_int Try.underlying3 t0
        obtain ⟨nn, e1, _, wn⟩ := DataW.trod_int Try.underlying2 t1
        simp only [List.cons.injEq, and_true] at e0 e1
        subst e0 e1
        have hb : -9223372036854775808 ≤ nn ∧ nn ≤ 9223372036854775807 := by simpa [Lit.wf, IntKind.min, IntKind.max, IntKind.signed, IntKind.bits] using wn
        rcases open_ints Try.underlying26 Try.underlying5 cells5 t2 with ⟨hcs, hy⟩ | ⟨x', l', c', zs, hcs, _, hl', hm', hz, hy, hcell', hwz⟩
        · simp only [List.cons.injEq, and_true] at hcs
          subst hcs
          exact ⟨(k, nn, []), none, 0, 0, hcell 0 (by omega), hcell 1 (by omega), hcell 2 (by omega), Sl.nil _ _, Nat.le_refl _, by omega, hb.1, hb.2⟩
        · simp only [List.cons.injEq, and_true] at hcs
          subst hcs
          simp only [if_true] at hz
          refine ⟨(k, nn, byts (zs.take l')), some x', l', c', hcell 0 (by omega), hcell 1 (by omega), hcell 2 (by omega), sl_of (by omega) hcell' hwz, hl', ?_, hb.1, hb.2⟩
          have hmem : ((zs.take l').length + (zs.drop l').length) * 1 ∈ y2.1.weights Try.prog 26 := by
            rw [hy]
            simp [DataW.weights, Try.underlying26, bytesU, lits]
          have h3 : ((zs.take l').length + (zs.drop l').length) * 1 ∈ (D i).weights Try.prog 28 := by
            simp only [Prod.mk.injEq] at hD
            rw [hD.1]
            simp only [DataW.weights, Try.underlying28]
            exact DataW.weights_mem_each (j := 2) rfl rfl _ hmem
          have h4 : ((zs.take l').length + (zs.drop l').length) * 1 ∈ d.weights Try.prog 22 := by
            rw [hx.1]
            simp only [DataW.weights, Try.underlying22, List.mem_cons, List.mem_append]
            exact .inr (.inl (weightsAll_mem (List.mem_map.2 ⟨i, List.mem_range.2 hi, rfl⟩) _ h3))
          have h5 := List.all_eq_true.1 hsz _ (DataW.weights_mem_each hts hds _ h4)
          simp only [List.length_take, List.length_drop, decide_eq_true_eq] at h5
          unfold reachBytes at h5
          omega
    obtain ⟨Q, hQ⟩ := Go.Deep.choose_lt (α := Pt) each
    refine ⟨(List.range len).map Q, ⟨by simp, ?_⟩, by unfold maxLen at hm; omega⟩
    by_cases hz : len = 0
    · exact .inl hz
    · right
      obtain ⟨b, off, spot⟩ := x
      obtain ⟨_, _, _, hc, _⟩ := hQ 0 (by omega)
      have hspot : spot = none := by simpa [Addr.add] using World.cell?_spot hc
      subst hspot
      refine ⟨b, off, rfl, fun i q hq => ?_⟩
      have hil : i < len := by have := (List.getElem?_eq_some_iff.1 hq).1; simpa using this
      simp [hil] at hq
      subst hq
      obtain ⟨A, L, C, r1, r2, r3, r4⟩ := hQ i hil
      simp only [Addr.add_lit, Nat.add_zero] at r1 r2 r3
      exact ⟨A, L, C, r1, r2, r3, r4⟩
/-- a part, read in a later world -/
theorem Ps.later {w w' : World} {a : Option Addr} {len : Nat} {ps : List Pt} (h : Ps w a len ps) (hf : Fr (fun _ => False) w w') {i : Nat} (hi : i < len) :
    ∃ b off k n bs A L C, a = some ⟨b, off, none⟩ ∧ ps[i]? = some (k, n, bs) ∧ w'.cell? ⟨b, off + i * 3, none⟩ = some (.int .i64 k) ∧ w'.cell? ⟨b, off + i * 3 + 1, none⟩ = some (.int .i64 n) ∧
    w'.cell? ⟨b, off + i * 3 + 2, none⟩ = some (.slice A L C) ∧ Sl w' A L bs ∧ L ≤ C ∧ L ≤ 140737488351232 ∧ -9223372036854775808 ≤ n ∧ n ≤ 9223372036854775807 ∧ (0 < L → ∀ k, blk A = some k → k < w.heap.size) := by
  obtain ⟨b, off, k, n, bs, A, L, C, ha, hx, h1, h2, h3, h4, h5, h6, h7, h8⟩ := h.at hi
  have kk : ∀ {o : Nat} {v : Value}, w.cell? ⟨b, o, none⟩ = some v → w'.cell? ⟨b, o, none⟩ = some v := fun {o v} h => by
    rw [World.cell?_of_block (w := w) (w' := w') (hf.block b (World.block_lt_of_cell? w _ h) (fun h => h))]; exact h
  exact ⟨b, off, k, n, bs, A, L, C, ha, hx, kk h1, kk h2, kk h3, h4.kept hf (fun _ _ _ h => h), h5, h6, h7, h8, fun hz => h4.lt hz⟩
end Go.Proofs.Ytilliicanbbjkaa

/-
  Leaders that are handed in: their numbers, and whom they reach.
-/
import Derived.Test.YtedhmhlhjonloaaAEntOpen
import Derived.Deep.Grids
namespace Go.Proofs.Ytedhmhlhjonloaa
open Go.ChangeShapes Go.WideShapes Go.ChangeAt Go.RowKit
set_option linter.unusedVariables false
set_option linter.unusedSimpArgs false

/-- A LEADER: its replica, whom it asks for promises and for acceptance, what it would say -/
structure A.Ld where
  rep : Int
  pa : Option Addr
  pn : Nat
  pc : Nat
  ps : List Bool
  aa : Option Addr
  an : Nat
  ac : Nat
  qs : List Bool
  en : Int
abbrev A.Ld.cells (d : A.Ld) : Array Value := #[.int .i64 d.rep, .slice d.pa d.pn d.pc, .slice d.aa d.an d.ac, .int .i64 d.en]
/-- in memory, its rows in blocks of E -/
structure Rld (E : Nat → Prop) (w : World) (d : A.Ld) : Prop where
  p : Rw E w 1 d.pa d.pn (d.ps.map Value.bool)
  a : Rw E w 1 d.aa d.an (d.qs.map Value.bool)
  r : -9223372036854775808 ≤ d.rep ∧ d.rep ≤ 9223372036854775807
  e : -9223372036854775808 ≤ d.en ∧ d.en ≤ 9223372036854775807
theorem Rld.kept {E S : Nat → Prop} {w w' : World} {d : A.Ld} (h : Rld E w d) (hf : Fr S w w') (hS : ∀ i, E i → ¬ S i) : Rld E w' d := ⟨h.p.kept hf hS, h.a.kept hf hS, h.r, h.e⟩
/-- LEADERS, in blocks of E. -/
structure Lds (E : Nat → Prop) (w : World) (a : Option Addr) (os : List A.Ld) : Prop where
  row : Rw E w 4 a os.length ((os.map (fun x => x.cells.toList)).flatten)
  el : ∀ x ∈ os, Rld E w x
theorem Lds.fr {E : Nat → Prop} {w w' : World} {a : Option Addr} {os : List A.Ld} (h : Lds E w a os) (hf : Fr (fun _ => False) w w') : Lds E w' a os := ⟨h.row.kept hf (fun _ _ h => h), fun x hx => (h.el x hx).kept hf (fun _ _ h => h)⟩
theorem leafLd0 : leafAt Try.prog 8 77 0 = some 3 := by kernel_rfl
theorem leafLd1 : leafAt Try.prog 8 77 1 = some 75 := by kernel_rfl
theorem leafLd2 : leafAt Try.prog 8 77 2 = some 75 := by kernel_rfl
theorem leafLd3 : leafAt Try.prog 8 77 3 = some 2 := by kernel_rfl
theorem cellsLd : Try.prog.cellsOf 77 = 4 := by kernel_rfl
theorem cellsBool : Try.prog.cellsOf 4 = 1 := by kernel_rfl
theorem open_brow {H : Type} {enc : TypeId × Value → H} {W : World} {n : Nat} {v : Value} {y : DataW H × List MemPlace} (h : DataW.trod enc Try.prog W 0 (fun _ => true) true n 75 [v] = some y) :
    ∃ a len cap bs, v = .slice a len cap ∧ Rw (fun g => g < W.heap.size) W 1 a len (List.map Value.bool bs) := by
  rcases Go.Deep.open_bools Try.underlying75 Try.underlying4 cellsBool h with ⟨h1, _⟩ | ⟨a, len, cap, B, h1, _, h2, _, _, h3⟩
  · simp at h1
    subst h1
    exact ⟨none, 0, 0, [], rfl, Rw.nil _ _ _ _⟩
  · simp at h1
    subst h1
    refine ⟨some a, len, cap, (List.range len).map B, rfl, by simp, ?_⟩
    by_cases hz : len = 0
    · exact .inl hz
    · right
      obtain ⟨b, off, spot⟩ := a
      have hc0 := h3 0 (by omega)
      have hspot : spot = none := by simpa [Addr.add] using World.cell?_spot hc0
      subst hspot
      refine ⟨b, off, rfl, ?_, fun j u hu => ?_⟩
      · have := World.block_lt_of_cell? W _ hc0
        simpa [Addr.add_lit] using this
      · simp only [List.map_map, List.getElem?_map, Option.map_eq_some_iff] at hu
        obtain ⟨i, hi, rfl⟩ := hu
        have hj : j < len := by have := (List.getElem?_eq_some_iff.1 hi).1; simpa using this
        rw [List.getElem?_range hj] at hi
        cases hi
        have := h3 j (by omega)
        rw [Addr.add_lit] at this
        exact this
theorem split4 {cs : List Value} (h : cs.length = 4) : ∃ c0 c1 c2 c3, cs = [c0, c1, c2, c3] := by
  match cs, h with
  | [c0, c1, c2, c3], _ => exact ⟨c0, c1, c2, c3, rfl⟩
theorem open_ld {H : Type} {enc : TypeId × Value → H} {W : World} {fuel : Nat} {cs : List Value} {x : DataW H × List MemPlace} (h : DataW.trod enc Try.prog W 0 (fun _ => true) true fuel 77 cs = some x) (hl : cs.length = 4) :
    ∃ d : A.Ld, cs = d.cells.toList ∧ Rld (fun g => g < W.heap.size) W d := by
  obtain ⟨c0, c1, c2, c3, rfl⟩ := split4 hl
  obtain ⟨v0, n0, y0, e0, t0, _⟩ := trod_leaf 8 _ 0 _ fuel _ x leafLd0 h
  obtain ⟨v1, n1, y1, e1, t1, _⟩ := trod_leaf 8 _ 1 _ fuel _ x leafLd1 h
  obtain ⟨v2, n2, y2, e2, t2, _⟩ := trod_leaf 8 _ 2 _ fuel _ x leafLd2 h
  obtain ⟨v3, n3, y3, e3, t3, _⟩ := trod_leaf 8 _ 3 _ fuel _ x leafLd3 h
  simp at e0 e1 e2 e3
  subst e0 e1 e2 e3
  obtain ⟨z0, hz0, _, w0⟩ := DataW.trod_int Try.underlying3 t0
  obtain ⟨z3, hz3, _, w3⟩ := DataW.trod_int Try.underlying2 t3
  simp at hz0 hz3
  subst hz0 hz3
  obtain ⟨pa, pn, pc, ps, rfl, rp⟩ := open_brow t1
  obtain ⟨aa, an, ac, qs, rfl, ra⟩ := open_brow t2
  exact ⟨⟨z0, pa, pn, pc, ps, aa, an, ac, qs, z3⟩, rfl, ⟨rp, ra, wf_i64 w0, wf_i64 w3⟩⟩
/-- AN ARGUMENT THAT IS A LIST OF LEADERS. -/
theorem open_lds {H : Type} {enc : TypeId × Value → H} {W : World} {a : Option Addr} {len cap : Nat} {d : DataW H} {p : List MemPlace}
    (h : DataW.Trod enc Try.prog W 0 (fun _ => true) true 72 (.slice a len cap) d p) (hb : Rows.uptoBulk d ≤ 1048576) :
    ∃ os, Lds (fun g => g < W.heap.size) W a os ∧ os.length = len ∧ len ≤ 1048576 := by
  obtain ⟨fuel, hf⟩ := h
  rcases Go.Deep.open_slice Try.underlying72 hf with ⟨hcs, hx⟩ | ⟨x, l, c, m, n, D, Pl, hcs, _, hl, hm, hmm, hx, hr⟩
  · simp [Value.cells] at hcs
    obtain ⟨rfl, rfl, rfl⟩ := hcs
    exact ⟨[], ⟨Rw.nil _ _ _ _, by simp⟩, rfl, by omega⟩
  · simp [Value.cells] at hcs
    obtain ⟨rfl, rfl, rfl⟩ := hcs
    simp only [if_true] at hmm
    subst hmm
    simp only [Prod.mk.injEq] at hx
    rw [cellsLd] at hr
    rw [hx.1] at hb
    simp only [Rows.uptoBulk] at hb
    have hlb : len ≤ 1048576 := by
      have h1 := bulkAll_len ((List.range len).map D) (fun d _ => bulk_pos d)
      rw [List.length_map, List.length_range] at h1
      omega
    have each : ∀ i, i < len → ∃ o : A.Ld, (∀ j u, o.cells.toList[j]? = some u → W.cell? ((x.add (i * 4)).add j) = some u) ∧ Rld (fun g => g < W.heap.size) W o := by
      intro i hi
      obtain ⟨cs', h1, h2⟩ := hr i (by omega)
      obtain ⟨_, hlen, hcell⟩ := World.cells?_some h1
      obtain ⟨o, rfl, ho⟩ := open_ld h2 hlen
      refine ⟨o, fun j u hu => ?_, ho⟩
      have hj : j < o.cells.toList.length := (List.getElem?_eq_some_iff.1 hu).1
      rw [hcell j (by omega), ← hu, List.getElem?_eq_getElem hj]
    haveI : Inhabited A.Ld := ⟨⟨0, none, 0, 0, [], none, 0, 0, [], 0⟩⟩
    obtain ⟨Q, hQ⟩ := Go.Deep.choose_lt (α := A.Ld) each
    have hall : ∀ o ∈ (List.range len).map Q, ∃ i, i < len ∧ o = Q i := fun o ho => by
      obtain ⟨i, hi, rfl⟩ := List.mem_map.1 ho
      exact ⟨i, List.mem_range.1 hi, rfl⟩
    have h4 : ∀ o ∈ ((List.range len).map Q).map (fun x => x.cells.toList), o.length = 4 := fun o ho => by
      obtain ⟨y, hy, rfl⟩ := List.mem_map.1 ho
      rfl
    refine ⟨(List.range len).map Q, ⟨⟨?_, ?_⟩, fun o ho => ?_⟩, by simp, hlb⟩
    · rw [flat_len h4]; simp
    · by_cases hz : len = 0
      · exact .inl (by simp [hz])
      · right
        obtain ⟨b, off, spot⟩ := x
        have hc0 := (hQ 0 (by omega)).1 0 _ rfl
        have hspot : spot = none := by simpa [Addr.add] using World.cell?_spot hc0
        subst hspot
        refine ⟨b, off, rfl, ?_, fun j u hu => ?_⟩
        · have := World.block_lt_of_cell? W _ hc0
          simpa [Addr.add_lit] using this
        · obtain ⟨i, o, h1, h2, h3⟩ := flat_get h4 hu
          have hil : i < len := by have := (List.getElem?_eq_some_iff.1 h1).1; simpa using this
          simp [hil] at h1
          subst h1
          have h5 := (hQ i hil).1 _ u h3
          rw [Addr.add_lit, Addr.add_lit] at h5
          rwa [show off + i * 4 + (j - i * 4) = off + j by omega] at h5
    · obtain ⟨i, hi, rfl⟩ := hall o ho
      exact (hQ i hi).2
end Go.Proofs.Ytedhmhlhjonloaa

/-
  Lists of slotted entries that are handed in.
-/
import Derived.Test.YtedhmhlhjonloaaAOpen2
namespace Go.Proofs.Ytedhmhlhjonloaa
open Go.ChangeShapes Go.WideShapes Go.ChangeAt Go.RowKit
set_option linter.unusedVariables false
set_option linter.unusedSimpArgs false

theorem leafSd : ((List.range 56).all (fun j => leafAt Try.prog 8 79 (3 + j) == some (entTy j))) = true := by kernel_rfl
theorem leafSd0 : leafAt Try.prog 8 79 0 = some 2 := by kernel_rfl
theorem leafSd1 : leafAt Try.prog 8 79 1 = some 2 := by kernel_rfl
theorem leafSd2 : leafAt Try.prog 8 79 2 = some 3 := by kernel_rfl
theorem cellsSd : Try.prog.cellsOf 79 = 59 := by kernel_rfl
theorem split59 {cs : List Value} (h : cs.length = 59) : ∃ c0 c1 c2 ec, cs = c0 :: c1 :: c2 :: ec ∧ ec.length = 56 := by
  match cs, h with
  | c0 :: c1 :: c2 :: rest, h => exact ⟨c0, c1, c2, rest, rfl, by simpa using h⟩
theorem open_sd {H : Type} {enc : TypeId × Value → H} {W : World} {fuel : Nat} {cs : List Value} {x : DataW H × List MemPlace} (h : DataW.trod enc Try.prog W 0 (fun _ => true) true fuel 79 cs = some x) (hl : cs.length = 59) (hb : ∀ m ∈ DataW.weights Try.prog 79 x.1, m ≤ reachBytes) :
    ∃ o, Rs (fun g => g < W.heap.size) W cs.toArray o ∧ -9223372036854775808 ≤ o.slot ∧ o.slot ≤ 9223372036854775807 := by
  obtain ⟨c0, c1, c2, ec, rfl, he⟩ := split59 hl
  obtain ⟨z0, rfl, b0⟩ := (lf_of h hb leafSd0 (v := c0) rfl).int Try.underlying2
  obtain ⟨z1, rfl, _⟩ := (lf_of h hb leafSd1 (v := c1) rfl).int Try.underlying2
  obtain ⟨z2, rfl, _⟩ := (lf_of h hb leafSd2 (v := c2) rfl).int Try.underlying3
  obtain ⟨en, hre, _, _⟩ := entry_open (enc := enc) he (fun j v hv => by
    have hj : j < 56 := by have := (List.getElem?_eq_some_iff.1 hv).1; omega
    have hlf : leafAt Try.prog 8 79 (3 + j) = some (entTy j) := by
      have := List.all_eq_true.1 leafSd j (List.mem_range.2 hj)
      simpa using this
    refine lf_of h hb hlf ?_
    rw [show 3 + j = j + 1 + 1 + 1 by omega]
    simp only [List.getElem?_cons_succ]
    exact hv)
  exact ⟨⟨z0, (z1, z2), en⟩, ⟨ec, rfl, hre⟩, b0.1, b0.2⟩
/-- AN ARGUMENT THAT IS A LIST OF SLOTTED ENTRIES. -/
theorem open_sds {H : Type} {enc : TypeId × Value → H} {W : World} {a : Option Addr} {len cap : Nat} {d : DataW H} {p : List MemPlace}
    (h : DataW.Trod enc Try.prog W 0 (fun _ => true) true 28 (.slice a len cap) d p) (hb : ∀ m ∈ DataW.weights Try.prog 28 d, m ≤ reachBytes) :
    ∃ os : List El, Ls (fun g => g < W.heap.size) W a os ∧ os.length = len ∧ len ≤ 270000000000 ∧ ∀ x ∈ os, -9223372036854775808 ≤ x.2.slot ∧ x.2.slot ≤ 9223372036854775807 := by
  obtain ⟨fuel, hf⟩ := h
  rcases Go.Deep.open_slice Try.underlying28 hf with ⟨hcs, hx⟩ | ⟨x, l, c, m, n, D, Pl, hcs, _, hl, hm, hmm, hx, hr⟩
  · simp [Value.cells] at hcs
    obtain ⟨rfl, rfl, rfl⟩ := hcs
    exact ⟨[], Ls.nil _ _ _, rfl, by omega, by simp⟩
  · simp [Value.cells] at hcs
    obtain ⟨rfl, rfl, rfl⟩ := hcs
    simp only [if_true] at hmm
    subst hmm
    simp only [Prod.mk.injEq] at hx
    rw [cellsSd] at hr
    rw [hx.1] at hb
    simp only [DataW.weights, Try.underlying28] at hb
    have hlb : len ≤ 270000000000 := by
      have h1 := hb _ (List.mem_cons_self ..)
      have h2 : Try.prog.bytesOf 79 = 528 := by kernel_rfl
      rw [h2] at h1
      unfold reachBytes at h1
      simp only [List.length_map, List.length_range] at h1
      omega
    have hD : ∀ i, i < len → ∀ m ∈ DataW.weights Try.prog 79 (D i), m ≤ reachBytes := fun i hi m hm =>
      hb m (List.mem_cons_of_mem _ (List.mem_append_left _ (wt_all (List.mem_map.2 ⟨i, List.mem_range.2 hi, rfl⟩) hm)))
    have each : ∀ i, i < len → ∃ o : El, o.1.size = 59 ∧ (∀ j u, o.1[j]? = some u → W.cell? ((x.add (i * 59)).add j) = some u) ∧ Rs (fun g => g < W.heap.size) W o.1 o.2 ∧ -9223372036854775808 ≤ o.2.slot ∧ o.2.slot ≤ 9223372036854775807 := by
      intro i hi
      obtain ⟨cs', h1, h2⟩ := hr i (by omega)
      obtain ⟨_, hlen, hcell⟩ := World.cells?_some h1
      obtain ⟨o, ho⟩ := open_sd h2 hlen (hD i hi)
      refine ⟨(cs'.toArray, o), by simpa using hlen, fun j u hu => ?_, ho⟩
      simp only [List.getElem?_toArray] at hu
      have hj : j < cs'.length := (List.getElem?_eq_some_iff.1 hu).1
      rw [hcell j (by omega), ← hu, List.getElem?_eq_getElem hj]
    haveI : Inhabited El := ⟨(#[], A.zsd)⟩
    obtain ⟨Q, hQ⟩ := Go.Deep.choose_lt (α := El) each
    have hall : ∀ o ∈ (List.range len).map Q, ∃ i, i < len ∧ o = Q i := fun o ho => by
      obtain ⟨i, hi, rfl⟩ := List.mem_map.1 ho
      exact ⟨i, List.mem_range.1 hi, rfl⟩
    have h59 : ∀ o ∈ ((List.range len).map Q).map (fun x => x.1.toList), o.length = 59 := fun o ho => by
      obtain ⟨y, hy, rfl⟩ := List.mem_map.1 ho
      obtain ⟨i, hi, rfl⟩ := hall y hy
      rw [Array.length_toList]
      exact (hQ i hi).1
    refine ⟨(List.range len).map Q, ⟨⟨?_, ?_⟩, fun o ho => ?_⟩, by simp, hlb, fun o ho => ?_⟩
    · unfold flatE; rw [flat_len h59]; simp
    · by_cases hz : len = 0
      · exact .inl (by simp [hz])
      · right
        obtain ⟨b, off, spot⟩ := x
        obtain ⟨u0, hu0⟩ : ∃ u, (Q 0).1[0]? = some u := ⟨_, Array.getElem?_eq_getElem (by have := (hQ 0 (by omega)).1; omega)⟩
        have hc0 := (hQ 0 (by omega)).2.1 0 u0 hu0
        have hspot : spot = none := by simpa [Addr.add] using World.cell?_spot hc0
        subst hspot
        refine ⟨b, off, rfl, ?_, fun j u hu => ?_⟩
        · have := World.block_lt_of_cell? W _ hc0
          simpa [Addr.add_lit] using this
        · unfold flatE at hu
          obtain ⟨i, o, h1, h2, h3⟩ := flat_get h59 hu
          have hil : i < len := by have := (List.getElem?_eq_some_iff.1 h1).1; simpa using this
          simp [hil] at h1
          subst h1
          rw [Array.getElem?_toList] at h3
          have h4 := (hQ i hil).2.1 _ u h3
          rw [Addr.add_lit, Addr.add_lit] at h4
          rwa [show off + i * 59 + (j - i * 59) = off + j by omega] at h4
    · obtain ⟨i, hi, rfl⟩ := hall o ho
      exact (hQ i hi).2.2.1
    · obtain ⟨i, hi, rfl⟩ := hall o ho
      exact (hQ i hi).2.2.2
end Go.Proofs.Ytedhmhlhjonloaa

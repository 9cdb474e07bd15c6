/-
  Scripts, lists of slotted entries and entries that are handed in.
-/
import Derived.Test.YtedhmhlhjonloaaAEntW
import Derived.Test.YtedhmhlhjonloaaALaw
namespace Go.Proofs.Ytedhmhlhjonloaa
open Go.ChangeShapes Go.WideShapes Go.ChangeAt Go.RowKit
set_option linter.unusedVariables false
set_option linter.unusedSimpArgs false

theorem leafLop : ((List.range 56).all (fun j => leafAt Try.prog 8 48 (4 + j) == some (entTy j))) = true := by kernel_rfl
theorem leafLop0 : leafAt Try.prog 8 48 0 = some 3 := by kernel_rfl
theorem leafLop1 : leafAt Try.prog 8 48 1 = some 2 := by kernel_rfl
theorem leafLop2 : leafAt Try.prog 8 48 2 = some 3 := by kernel_rfl
theorem leafLop3 : leafAt Try.prog 8 48 3 = some 2 := by kernel_rfl
theorem leafLop60 : leafAt Try.prog 8 48 60 = some 3 := by kernel_rfl
theorem cellsLop : Try.prog.cellsOf 48 = 61 := by kernel_rfl
/-- what trod says of a cell -/
theorem lf_of {H : Type} {enc : TypeId × Value → H} {W : World} {fuel : Nat} {t u : TypeId} {cs : List Value} {x : DataW H × List MemPlace} (h : DataW.trod enc Try.prog W 0 (fun _ => true) true fuel t cs = some x) (hb : ∀ m ∈ DataW.weights Try.prog t x.1, m ≤ reachBytes) {d j : Nat} (hl : leafAt Try.prog d t j = some u) {v : Value} (hv : cs[j]? = some v) : Lf enc W u v := by
  obtain ⟨v', n, y, h1, h2, h3⟩ := trod_leafW d t j u fuel cs x hl h
  rw [hv] at h1
  cases h1
  exact ⟨n, y, h2, fun m hm => hb m (h3 m hm)⟩
theorem split61 {cs : List Value} (h : cs.length = 61) : ∃ c0 c1 c2 c3 ec c60, cs = c0 :: c1 :: c2 :: c3 :: (ec ++ [c60]) ∧ ec.length = 56 := by
  match cs, h with
  | c0 :: c1 :: c2 :: c3 :: rest, h =>
    have hr : rest.length = 57 := by simpa using h
    refine ⟨c0, c1, c2, c3, rest.take 56, rest[56]'(by omega), ?_, by rw [List.length_take]; omega⟩
    congr 4
    have h1 : rest = rest.take 56 ++ rest.drop 56 := (List.take_append_drop 56 rest).symm
    have h2 : rest.drop 56 = [rest[56]'(by omega)] := by
      rw [List.drop_eq_getElem_cons (by omega), List.drop_eq_nil_of_le (by omega)]
    rw [h2] at h1
    exact h1
theorem open_lop {H : Type} {enc : TypeId × Value → H} {W : World} {fuel : Nat} {cs : List Value} {x : DataW H × List MemPlace} (h : DataW.trod enc Try.prog W 0 (fun _ => true) true fuel 48 cs = some x) (hl : cs.length = 61) (hb : ∀ m ∈ DataW.weights Try.prog 48 x.1, m ≤ reachBytes) :
    ∃ o, Rl (fun g => g < W.heap.size) W cs.toArray o := by
  obtain ⟨c0, c1, c2, c3, ec, c60, rfl, he⟩ := split61 hl
  obtain ⟨z0, rfl, _⟩ := (lf_of h hb leafLop0 (v := c0) rfl).int Try.underlying3
  obtain ⟨z1, rfl, _⟩ := (lf_of h hb leafLop1 (v := c1) rfl).int Try.underlying2
  obtain ⟨z2, rfl, _⟩ := (lf_of h hb leafLop2 (v := c2) rfl).int Try.underlying3
  obtain ⟨z3, rfl, b3⟩ := (lf_of h hb leafLop3 (v := c3) rfl).int Try.underlying2
  obtain ⟨z60, rfl, _⟩ := (lf_of h hb leafLop60 (v := c60) (by
    simp only [List.getElem?_cons_succ]
    rw [List.getElem?_append_right (by omega), he]
    rfl)).int Try.underlying3
  obtain ⟨en, hre, _, _⟩ := entry_open (enc := enc) he (fun j v hv => by
    have hj : j < 56 := by have := (List.getElem?_eq_some_iff.1 hv).1; omega
    have hlf : leafAt Try.prog 8 48 (4 + j) = some (entTy j) := by
      have := List.all_eq_true.1 leafLop j (List.mem_range.2 hj)
      simpa using this
    refine lf_of h hb hlf ?_
    rw [show 4 + j = j + 1 + 1 + 1 + 1 by omega]
    simp only [List.getElem?_cons_succ]
    rw [List.getElem?_append_left (by omega)]
    exact hv)
  exact ⟨⟨z0, (z1, z2), z3, en, z60⟩, ec, rfl, hre, b3.1, b3.2⟩
/-- AN ARGUMENT THAT IS A SCRIPT. -/
theorem open_lops {H : Type} {enc : TypeId × Value → H} {W : World} {a : Option Addr} {len cap : Nat} {d : DataW H} {p : List MemPlace}
    (h : DataW.Trod enc Try.prog W 0 (fun _ => true) true 22 (.slice a len cap) d p) (hb : ∀ m ∈ DataW.weights Try.prog 22 d, m ≤ reachBytes) :
    ∃ os, Lz (fun g => g < W.heap.size) W a os ∧ os.length = len ∧ len ≤ 270000000000 := by
  obtain ⟨fuel, hf⟩ := h
  rcases Go.Deep.open_slice Try.underlying22 hf with ⟨hcs, hx⟩ | ⟨x, l, c, m, n, D, Pl, hcs, _, hl, hm, hmm, hx, hr⟩
  · simp [Value.cells] at hcs
    obtain ⟨rfl, rfl, rfl⟩ := hcs
    exact ⟨[], ⟨Rw.nil _ _ _ _, by simp⟩, rfl, by omega⟩
  · simp [Value.cells] at hcs
    obtain ⟨rfl, rfl, rfl⟩ := hcs
    simp only [if_true] at hmm
    subst hmm
    simp only [Prod.mk.injEq] at hx
    rw [cellsLop] at hr
    rw [hx.1] at hb
    simp only [DataW.weights, Try.underlying22] at hb
    have hlb : len ≤ 270000000000 := by
      have h1 := hb _ (List.mem_cons_self ..)
      have h2 : Try.prog.bytesOf 48 = 544 := by kernel_rfl
      rw [h2] at h1
      unfold reachBytes at h1
      simp only [List.length_map, List.length_range] at h1
      omega
    have hD : ∀ i, i < len → ∀ m ∈ DataW.weights Try.prog 48 (D i), m ≤ reachBytes := fun i hi m hm =>
      hb m (List.mem_cons_of_mem _ (List.mem_append_left _ (wt_all (List.mem_map.2 ⟨i, List.mem_range.2 hi, rfl⟩) hm)))
    have each : ∀ i, i < len → ∃ o : Lo, o.1.size = 61 ∧ (∀ j u, o.1[j]? = some u → W.cell? ((x.add (i * 61)).add j) = some u) ∧ Rl (fun g => g < W.heap.size) W o.1 o.2 := by
      intro i hi
      obtain ⟨cs', h1, h2⟩ := hr i (by omega)
      obtain ⟨_, hlen, hcell⟩ := World.cells?_some h1
      obtain ⟨o, ho⟩ := open_lop h2 hlen (hD i hi)
      refine ⟨(cs'.toArray, o), by simpa using hlen, fun j u hu => ?_, ho⟩
      simp only [List.getElem?_toArray] at hu
      have hj : j < cs'.length := (List.getElem?_eq_some_iff.1 hu).1
      rw [hcell j (by omega), ← hu, List.getElem?_eq_getElem hj]
    haveI : Inhabited Lo := ⟨(#[], ⟨0, (0, 0), 0, A.zen, 0⟩)⟩
    obtain ⟨Q, hQ⟩ := Go.Deep.choose_lt (α := Lo) each
    have hall : ∀ o ∈ (List.range len).map Q, ∃ i, i < len ∧ o = Q i := fun o ho => by
      obtain ⟨i, hi, rfl⟩ := List.mem_map.1 ho
      exact ⟨i, List.mem_range.1 hi, rfl⟩
    have h61 : ∀ o ∈ ((List.range len).map Q).map (fun x => x.1.toList), o.length = 61 := fun o ho => by
      obtain ⟨y, hy, rfl⟩ := List.mem_map.1 ho
      obtain ⟨i, hi, rfl⟩ := hall y hy
      rw [Array.length_toList]
      exact (hQ i hi).1
    refine ⟨(List.range len).map Q, ⟨⟨?_, ?_⟩, fun o ho => ?_⟩, by simp, hlb⟩
    · rw [flat_len h61]; simp
    · by_cases hz : len = 0
      · exact .inl (by simp [hz])
      · right
        obtain ⟨b, off, spot⟩ := x
        obtain ⟨u0, hu0⟩ : ∃ u, (Q 0).1[0]? = some u := ⟨_, Array.getElem?_eq_getElem (by have := (hQ 0 (by omega)).1; omega)⟩
        have hc0 := (hQ 0 (by omega)).2.1 0 u0 hu0
        have hspot : spot = none := by simpa [Addr.add] using World.cell?_spot hc0
        subst hspot
        refine ⟨b, off, rfl, ?_, fun j u hu => ?_⟩
        · have := World.block_lt_of_cell? W _ hc0
          simpa [Addr.add_lit] using this
        · obtain ⟨i, o, h1, h2, h3⟩ := flat_get h61 hu
          have hil : i < len := by have := (List.getElem?_eq_some_iff.1 h1).1; simpa using this
          simp [hil] at h1
          subst h1
          rw [Array.getElem?_toList] at h3
          have h4 := (hQ i hil).2.1 _ u h3
          rw [Addr.add_lit, Addr.add_lit] at h4
          rwa [show off + i * 61 + (j - i * 61) = off + j by omega] at h4
    · obtain ⟨i, hi, rfl⟩ := hall o ho
      exact (hQ i hi).2.2
end Go.Proofs.Ytedhmhlhjonloaa

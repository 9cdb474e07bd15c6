/-
  Operations that are handed in.
-/
import Derived.Test.YtenengkeckanmaaGreatAReachQ
import Derived.Test.YtenengkeckanmaaGreatLTMadeQ
namespace Go.Proofs.YtenengkeckanmaaGreat
open Go.ChangeShapes Go.WideShapes Go.ChangeAt Go.RowKit
set_option linter.unusedVariables false
set_option linter.unusedSimpArgs false
set_option maxRecDepth 100000
theorem T.wf64 {x : Int} (h : (Lit.int .i64 x).wf = true) : -9223372036854775808 ≤ x ∧ x ≤ 9223372036854775807 := by
  simp [Lit.wf, IntKind.min, IntKind.max, IntKind.signed, IntKind.bits] at h
  omega
theorem T.open_opcells {H : Type} {enc : TypeId × Value → H} {W : World} {fuel : Nat} {cs : List Value} {x : DataW H × List MemPlace} (h : DataW.trod enc Tryz.prog W 0 (fun _ => true) true fuel 35 cs = some x) (hl : cs.length = 8) : ∃ o : S.Op, cs = o.cs.toList ∧ o.in64 := by
  have key : ∀ j t, leafAt Tryz.prog 5 35 j = some t → ∃ u n y, cs[j]? = some u ∧ DataW.trod enc Tryz.prog W 0 (fun _ => true) true n t [u] = some y := fun j t ht => by
    obtain ⟨v, n'', z, h3, h4, _⟩ := trod_leafW 5 _ j t _ _ _ ht h
    exact ⟨v, n'', z, h3, h4⟩
  have ki : ∀ j t, leafAt Tryz.prog 5 35 j = some t → Tryz.prog.underlying t = some (.int .i64) → ∃ z, cs[j]? = some (.int .i64 z) ∧ (Lit.int .i64 z).wf = true := fun j t ht hu => by
    obtain ⟨u, n, y, h1, h2⟩ := key j t ht
    obtain ⟨z, hz, _, hw⟩ := DataW.trod_int hu h2
    simp at hz
    exact ⟨z, by rw [h1, hz], hw⟩
  have ks : ∀ j, leafAt Tryz.prog 5 35 j = some 9 → ∃ s, cs[j]? = some (.string s) := fun j ht => by
    obtain ⟨u, n, y, h1, h2⟩ := key j _ ht
    obtain ⟨z, hz, _⟩ := DataW.trod_string Tryz.underlying9 h2
    simp at hz
    exact ⟨z, by rw [h1, hz]⟩
  obtain ⟨n0, e0, w0⟩ := ki 0 2 (by kernel_rfl) Tryz.underlying2
  obtain ⟨n1, e1, w1⟩ := ki 1 3 (by kernel_rfl) Tryz.underlying3
  obtain ⟨n2, e2, w2⟩ := ki 2 3 (by kernel_rfl) Tryz.underlying3
  obtain ⟨n3, e3, w3⟩ := ki 3 2 (by kernel_rfl) Tryz.underlying2
  obtain ⟨n4, e4, w4⟩ := ki 4 2 (by kernel_rfl) Tryz.underlying2
  obtain ⟨s5, e5⟩ := ks 5 (by kernel_rfl)
  obtain ⟨s6, e6⟩ := ks 6 (by kernel_rfl)
  obtain ⟨s7, e7⟩ := ks 7 (by kernel_rfl)
  refine ⟨⟨n0, n1, n2, n3, n4, s5, s6, s7⟩, ?_, T.wf64 w3, T.wf64 w4⟩
  match cs, hl with
  | [x0, x1, x2, x3, x4, x5, x6, x7], _ =>
    simp at e0 e1 e2 e3 e4 e5 e6 e7
    subst e0 e1 e2 e3 e4 e5 e6 e7
    rfl
theorem open_tops {H : Type} {enc : TypeId × Value → H} {W : World} {a : Option Addr} {len cap : Nat} {d : DataW H} {p : List MemPlace}
    (h : DataW.Trod enc Tryz.prog W 0 (fun _ => true) true 44 (.slice a len cap) d p) (hb : ∀ m ∈ DataW.weights Tryz.prog 44 d, m ≤ reachBytes) :
    ∃ os : List S.Op, T.Ops (fun g => g < W.heap.size) W a os ∧ os.length = len ∧ len ≤ 1599289640401 ∧ ∀ o ∈ os, o.in64 := by
  obtain ⟨fuel, hf⟩ := h
  rcases Go.Deep.open_slice Tryz.underlying44 hf with ⟨hcs, hx⟩ | ⟨x, l, c, m, n, D, Pl, hcs, _, hl, hm, hmm, hx, hr⟩
  · simp [Value.cells] at hcs
    obtain ⟨rfl, rfl, rfl⟩ := hcs
    exact ⟨[], Rw.nil _ _ _ _, rfl, by omega, by simp⟩
  · simp [Value.cells] at hcs
    obtain ⟨rfl, rfl, rfl⟩ := hcs
    simp only [if_true] at hmm
    subst hmm
    simp only [Prod.mk.injEq] at hx
    have c8 : Tryz.prog.cellsOf 35 = 8 := by kernel_rfl
    rw [c8] at hr
    rw [hx.1] at hb
    have hlb : len ≤ 1599289640401 := by
      have h1 := hb _ (by simp only [DataW.weights, Tryz.underlying44]; exact List.mem_cons_self ..)
      have h2 : Tryz.prog.bytesOf 35 = 88 := by kernel_rfl
      rw [h2] at h1
      unfold reachBytes at h1
      simp only [List.length_map, List.length_range] at h1
      omega
    have each : ∀ i, i < len → ∃ o : S.Op, (∀ (j : Nat) u, o.cs.toList[j]? = some u → W.cell? ((x.add (i * 8)).add j) = some u) ∧ o.in64 := by
      intro i hi
      obtain ⟨cs', h1, h2⟩ := hr i (by omega)
      obtain ⟨_, hlen, hcell⟩ := World.cells?_some h1
      obtain ⟨o, rfl, ho⟩ := T.open_opcells h2 hlen
      refine ⟨o, fun j u hu => ?_, ho⟩
      have hj : j < o.cs.toList.length := (List.getElem?_eq_some_iff.1 hu).1
      rw [hcell j (by omega), ← hu, List.getElem?_eq_getElem hj]
    haveI : Inhabited S.Op := ⟨⟨0, 0, 0, 0, 0, ⟨#[]⟩, ⟨#[]⟩, ⟨#[]⟩⟩⟩
    obtain ⟨Q, hQ⟩ := Go.Deep.choose_lt (α := S.Op) each
    refine ⟨(List.range len).map Q, ⟨?_, ?_⟩, by simp, hlb, fun o ho => ?_⟩
    · have h8 := flat_len (k := 8) (l := ((List.range len).map Q).map (fun o => o.cs.toList)) (fun o ho => by
        obtain ⟨q, _, rfl⟩ := List.mem_map.1 ho
        rfl)
      rw [List.length_map] at h8
      exact h8
    · by_cases hz : len = 0
      · exact .inl (by simp [hz])
      · right
        obtain ⟨b, off, spot⟩ := x
        have hc0 := (hQ 0 (by omega)).1 0 _ rfl
        have hspot : spot = none := by simpa [Addr.add] using World.cell?_spot hc0
        subst hspot
        refine ⟨b, off, rfl, ?_, fun j u hu => ?_⟩
        · have := World.block_lt_of_cell? W _ hc0
          simpa [Addr.add_lit] using this
        · rw [T.ops_get] at hu
          by_cases hil : j / 8 < len
          · rw [List.getElem?_map, List.getElem?_range hil] at hu
            simp only [Option.map_some, Option.bind_some] at hu
            have h4 := (hQ (j / 8) hil).1 (j % 8) u hu
            rw [Addr.add_lit, Addr.add_lit] at h4
            rwa [show off + j / 8 * 8 + j % 8 = off + j by omega] at h4
          · rw [List.getElem?_eq_none (by simp; omega)] at hu
            cases hu
    · obtain ⟨i, hi, rfl⟩ := List.mem_map.1 ho
      exact (hQ i (List.mem_range.1 hi)).2
end Go.Proofs.YtenengkeckanmaaGreat

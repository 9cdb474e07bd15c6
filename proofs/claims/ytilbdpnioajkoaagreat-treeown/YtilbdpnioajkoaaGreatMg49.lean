/-
  What is handed in, opened within the form's own reach (for the first forms): the weights of what lies within.
  Operations that are handed in.
  Nodes that are handed in, of any bulk that memory reaches.
-/
import Derived.Test.YtilbdpnioajkoaaGreatMg48
import Derived.Test.YtilbdpnioajkoaaGreatMg33
import Derived.Test.YtilbdpnioajkoaaGreatTSameQ
namespace Go.Proofs.YtilbdpnioajkoaaGreat
open Go.ChangeShapes Go.WideShapes Go.ChangeAt Go.RowKit
set_option linter.unusedVariables false
set_option linter.unusedSimpArgs false

theorem wt_all {H : Type} {P : Program} {e : TypeId} {d : DataW H} {m : Nat} : ∀ {l : List (DataW H)}, d ∈ l → m ∈ DataW.weights P e d → m ∈ DataW.weightsAll P e l
  | x :: r, h, hm => by
    simp only [DataW.weightsAll, List.mem_append]
    rcases List.mem_cons.1 h with rfl | h
    · exact .inl hm
    · exact .inr (wt_all h hm)
theorem wt_each {H : Type} {P : Program} {t : TypeId} {d : DataW H} {m : Nat} : ∀ {i : Nat} (ts : List TypeId) (l : List (DataW H)), ts[i]? = some t → l[i]? = some d → m ∈ DataW.weights P t d → m ∈ DataW.weightsEach P ts l
  | 0, t' :: ts, d' :: l, h1, h2, hm => by
    simp at h1 h2
    subst h1; subst h2
    simp only [DataW.weightsEach, List.mem_append]
    exact .inl hm
  | i + 1, t' :: ts, d' :: l, h1, h2, hm => by
    simp only [List.getElem?_cons_succ] at h1 h2
    simp only [DataW.weightsEach, List.mem_append]
    exact .inr (wt_each ts l h1 h2 hm)
  | _, [], _, h1, _, _ => by simp at h1
  | _, _ :: _, [], _, h2, _ => by simp at h2
theorem wt_slice {H : Type} {P : Program} {t e : TypeId} (ht : P.underlying t = some (.slice e)) (elems spare : List (DataW H)) : (elems.length + spare.length) * P.bytesOf e ∈ DataW.weights P t (.slice elems spare) := by
  simp only [DataW.weights, ht]
  exact List.mem_cons_self ..
theorem reach_of {H : Type} {P : Program} {ts : List TypeId} {l : List (DataW H)} (h : (DataW.weightsEach P ts l).all (· ≤ reachBytes) = true) {j : Nat} {t : TypeId} {d : DataW H} (h1 : ts[j]? = some t) (h2 : l[j]? = some d) {m : Nat} (hm : m ∈ DataW.weights P t d) : m ≤ reachBytes := by
  have := List.all_eq_true.1 h m (wt_each ts l h1 h2 hm)
  simpa using this
theorem trod_leafW {H : Type} {enc : TypeId × Value → H} {P : Program} {W : World} {base : Nat} {sp : Nat → Bool} {held : Bool} : ∀ (d : Nat) (t : TypeId) (j : Nat) (u : TypeId) (fuel : Nat) (cs : List Value) (x : DataW H × List MemPlace),
    leafAt P d t j = some u → DataW.trod enc P W base sp held fuel t cs = some x → ∃ v n y, cs[j]? = some v ∧ DataW.trod enc P W base sp held n u [v] = some y ∧ ∀ m ∈ DataW.weights P u y.1, m ∈ DataW.weights P t x.1
  | 0, t, j, u, fuel, cs, x, h, hx => by simp [leafAt] at h
  | d + 1, t, j, u, fuel, cs, x, h, hx => by
    unfold leafAt at h
    cases ht : P.underlying t with
    | none => rw [ht] at h; simp at h
    | some desc =>
      rw [ht] at h
      cases desc with
      | struct fs =>
        simp only at h
        obtain ⟨f, hf, hif⟩ := List.exists_of_findSome?_eq_some h
        by_cases hc : f.offset ≤ j ∧ j < f.offset + P.cellsOf f.type
        · rw [if_pos hc] at hif
          obtain ⟨xs, n, rfl, rfl, hl, hlen, hfs⟩ := DataW.trod_struct ht hx
          obtain ⟨i, hi⟩ := List.getElem?_of_mem hf
          have hi' : i < xs.length := by
            have := (List.getElem?_eq_some_iff.1 hi).1
            simpa [hlen] using this
          have h1 := hfs i f (by simpa using hi)
          rw [List.getElem?_eq_getElem hi'] at h1
          obtain ⟨v, n', z, h2, h3, h4⟩ := trod_leafW d f.type (j - f.offset) u n _ _ hif h1
          refine ⟨v, n', z, ?_, h3, ?_⟩
          · rw [List.getElem?_take, if_pos (by omega), List.getElem?_drop] at h2
            rwa [show f.offset + (j - f.offset) = j by omega] at h2
          · intro m hm
            have h5 := h4 m hm
            simp only [DataW.weights, ht]
            exact wt_each (i := i) (t := f.type) (d := (xs[i]).1) _ _ (by rw [List.getElem?_map]; simp at hi; simp [hi]) (by rw [List.getElem?_map, List.getElem?_eq_getElem hi']; rfl) h5
        · rw [if_neg hc] at hif; cases hif
      | array m e =>
        simp only at h
        by_cases hc : j / P.cellsOf e < m ∧ 0 < P.cellsOf e
        · rw [if_pos hc] at h
          obtain ⟨xs, n, rfl, rfl, hl, hlen, hfs⟩ := DataW.trod_array ht hx
          have h1 := hfs (j / P.cellsOf e) hc.1
          have hi' : j / P.cellsOf e < xs.length := by omega
          rw [List.getElem?_eq_getElem hi'] at h1
          obtain ⟨v, n', z, h2, h3, h4⟩ := trod_leafW d e (j % P.cellsOf e) u n _ _ h h1
          refine ⟨v, n', z, ?_, h3, ?_⟩
          · rw [List.getElem?_take, if_pos (Nat.mod_lt _ hc.2), List.getElem?_drop] at h2
            have e1 : j / P.cellsOf e * P.cellsOf e + j % P.cellsOf e = j := by rw [Nat.mul_comm]; exact Nat.div_add_mod j _
            rwa [e1] at h2
          · intro m hm
            have h5 := h4 m hm
            simp only [DataW.weights, ht]
            exact wt_all (List.mem_map.2 ⟨xs[j / P.cellsOf e], List.getElem_mem hi', rfl⟩) h5
        · rw [if_neg hc] at h; cases h
      | int k =>
        simp only at h
        split at h
        · rename_i hj
          cases h
          subst hj
          obtain ⟨z, rfl, _, _⟩ := DataW.trod_int ht hx
          exact ⟨_, fuel, x, rfl, hx, fun _ h => h⟩
        · cases h
      | string =>
        simp only at h
        split at h
        · rename_i hj
          cases h
          subst hj
          obtain ⟨z, rfl, _, _⟩ := DataW.trod_string ht hx
          exact ⟨_, fuel, x, rfl, hx, fun _ h => h⟩
        · cases h
      | slice e =>
        simp only at h
        split at h
        · rename_i hj
          cases h
          subst hj
          rcases Go.Deep.open_slice ht hx with ⟨rfl, _⟩ | ⟨a, l, c, m, n, D, Pl, rfl, _⟩
          · exact ⟨_, fuel, x, rfl, hx, fun _ h => h⟩
          · exact ⟨_, fuel, x, rfl, hx, fun _ h => h⟩
        · cases h
      | _ => simp at h
/-- a row of operations -/
theorem open_oprowW {H : Type} {enc : TypeId × Value → H} {W : World} {n : Nat} {v : Value} {y : DataW H × List MemPlace} (h : DataW.trod enc Tryz.prog W 0 (fun _ => true) true n 44 [v] = some y) (hb : ∀ m ∈ DataW.weights Tryz.prog 44 y.1, m ≤ reachBytes) :
    ∃ (a : Option Addr) (c : Nat) (ops : List (List Value)), v = .slice a ops.length c ∧ Rw (fun g => g < W.heap.size) W 8 a ops.length ops.flatten ∧ (∀ o ∈ ops, o.length = 8 ∧ ∀ (j : Nat) u, o[j]? = some u → A.vOk (if 5 ≤ j then 1 else 0) u) ∧ ops.length ≤ 1599289640401 := by
  rcases Go.Deep.open_slice Tryz.underlying44 h with ⟨hcs, hx⟩ | ⟨x, l, c, m, n', D, Pl, hcs, _, hl, hm, hmm, hx, hr⟩
  · simp only [List.cons.injEq, and_true] at hcs
    subst hcs
    exact ⟨none, 0, [], rfl, Rw.nil _ _ _ _, by simp, by simp⟩
  · simp only [List.cons.injEq, and_true] at hcs
    subst hcs
    simp only [if_true] at hmm
    subst hmm
    have c8 : Tryz.prog.cellsOf 35 = 8 := by kernel_rfl
    rw [c8] at hr
    have each : ∀ i, i < l → ∃ o : List Value, o.length = 8 ∧ (∀ j u, o[j]? = some u → W.cell? ((x.add (i * 8)).add j) = some u) ∧ ∀ (j : Nat) u, o[j]? = some u → A.vOk (if 5 ≤ j then 1 else 0) u := by
      intro i hi
      obtain ⟨cs', h1, h2⟩ := hr i (by omega)
      obtain ⟨_, hlen, hcell⟩ := World.cells?_some h1
      refine ⟨cs', hlen, fun j u hu => ?_, fun j u hu => ?_⟩
      · have hj : j < cs'.length := (List.getElem?_eq_some_iff.1 hu).1
        rw [hcell j (by omega), ← hu, List.getElem?_eq_getElem hj]
      · have hj : j < 8 := by have := (List.getElem?_eq_some_iff.1 hu).1; omega
        have key : ∀ t, leafAt Tryz.prog 5 35 j = some t → ∃ n y, DataW.trod enc Tryz.prog W 0 (fun _ => true) true n t [u] = some y := fun t ht => by
          obtain ⟨v, n'', z, h3, h4, _⟩ := trod_leafW 5 _ j t _ _ _ ht h2
          rw [hu] at h3
          cases h3
          exact ⟨n'', z, h4⟩
        have cases8 : j = 0 ∨ j = 1 ∨ j = 2 ∨ j = 3 ∨ j = 4 ∨ j = 5 ∨ j = 6 ∨ j = 7 := by omega
        rcases cases8 with rfl | rfl | rfl | rfl | rfl | rfl | rfl | rfl
        · obtain ⟨_, _, hk⟩ := key 2 (by kernel_rfl)
          obtain ⟨z, hz, _⟩ := DataW.trod_int Tryz.underlying2 hk
          simp at hz; exact ⟨z, hz⟩
        · obtain ⟨_, _, hk⟩ := key 3 (by kernel_rfl)
          obtain ⟨z, hz, _⟩ := DataW.trod_int Tryz.underlying3 hk
          simp at hz; exact ⟨z, hz⟩
        · obtain ⟨_, _, hk⟩ := key 3 (by kernel_rfl)
          obtain ⟨z, hz, _⟩ := DataW.trod_int Tryz.underlying3 hk
          simp at hz; exact ⟨z, hz⟩
        · obtain ⟨_, _, hk⟩ := key 2 (by kernel_rfl)
          obtain ⟨z, hz, _⟩ := DataW.trod_int Tryz.underlying2 hk
          simp at hz; exact ⟨z, hz⟩
        · obtain ⟨_, _, hk⟩ := key 2 (by kernel_rfl)
          obtain ⟨z, hz, _⟩ := DataW.trod_int Tryz.underlying2 hk
          simp at hz; exact ⟨z, hz⟩
        · obtain ⟨_, _, hk⟩ := key 9 (by kernel_rfl)
          obtain ⟨z, hz, _⟩ := DataW.trod_string Tryz.underlying9 hk
          simp at hz; exact ⟨z, hz⟩
        · obtain ⟨_, _, hk⟩ := key 9 (by kernel_rfl)
          obtain ⟨z, hz, _⟩ := DataW.trod_string Tryz.underlying9 hk
          simp at hz; exact ⟨z, hz⟩
        · obtain ⟨_, _, hk⟩ := key 9 (by kernel_rfl)
          obtain ⟨z, hz, _⟩ := DataW.trod_string Tryz.underlying9 hk
          simp at hz; exact ⟨z, hz⟩
    obtain ⟨Q, hQ⟩ := Go.Deep.choose_lt (α := List Value) each
    have hlb : l ≤ 1599289640401 := by
      rw [hx] at hb
      have h1 := hb _ (by simp only [DataW.weights, Tryz.underlying44]; exact List.mem_cons_self ..)
      have h2 : Tryz.prog.bytesOf 35 = 88 := by kernel_rfl
      rw [h2] at h1
      unfold reachBytes at h1
      simp only [List.length_map, List.length_range] at h1
      omega
    have hall : ∀ o ∈ (List.range l).map Q, ∃ i, i < l ∧ o = Q i := fun o ho => by
      obtain ⟨i, hi, rfl⟩ := List.mem_map.1 ho
      exact ⟨i, List.mem_range.1 hi, rfl⟩
    have h8 : ∀ o ∈ (List.range l).map Q, o.length = 8 := fun o ho => by
      obtain ⟨i, hi, rfl⟩ := hall o ho
      exact (hQ i hi).1
    refine ⟨some x, m, (List.range l).map Q, by simp, ⟨flat_len h8, ?_⟩, fun o ho => ?_, by simpa using hlb⟩
    · by_cases hz : l = 0
      · exact .inl (by simp [hz])
      · right
        obtain ⟨b, off, spot⟩ := x
        obtain ⟨u0, hu0⟩ : ∃ u, (Q 0)[0]? = some u := ⟨_, List.getElem?_eq_getElem (by have := (hQ 0 (by omega)).1; omega)⟩
        have hc0 := (hQ 0 (by omega)).2.1 0 u0 hu0
        have hspot : spot = none := by simpa [Addr.add] using World.cell?_spot hc0
        subst hspot
        refine ⟨b, off, rfl, ?_, fun j u hu => ?_⟩
        · have := World.block_lt_of_cell? W _ hc0
          simpa [Addr.add_lit] using this
        · obtain ⟨i, o, h1, h2, h3⟩ := flat_get h8 hu
          have hil : i < l := by have := (List.getElem?_eq_some_iff.1 h1).1; simpa using this
          simp [hil] at h1
          subst h1
          have h4 := (hQ i hil).2.1 _ u h3
          rw [Addr.add_lit, Addr.add_lit] at h4
          rwa [show off + i * 8 + (j - i * 8) = off + j by omega] at h4
    · obtain ⟨i, hi, rfl⟩ := hall o ho
      exact ⟨(hQ i hi).1, (hQ i hi).2.2⟩
end Go.Proofs.YtilbdpnioajkoaaGreat

namespace Go.Proofs.YtilbdpnioajkoaaGreat
open Go.ChangeShapes Go.WideShapes Go.ChangeAt Go.RowKit
set_option linter.unusedVariables false
set_option linter.unusedSimpArgs false
set_option maxRecDepth 100000
theorem T.wf64 {x : Int} (h : (Lit.int .i64 x).wf = true) : -9223372036854775808 ≤ x ∧ x ≤ 9223372036854775807 := by
  simp [Lit.wf, IntKind.min, IntKind.max, IntKind.signed, IntKind.bits] at h
  omega
theorem T.open_opcells {H : Type} {enc : TypeId × Value → H} {W : World} {fuel : Nat} {cs : List Value} {x : DataW H × List MemPlace} (h : DataW.trod enc Tryz.prog W 0 (fun _ => true) true fuel 35 cs = some x) (hl : cs.length = 8) : ∃ o : S.Op, cs = o.cs.toList ∧ o.in64 := by
  have key : ∀ j t, leafAt Tryz.prog 5 35 j = some t → ∃ u n y, cs[j]? = some u ∧ DataW.trod enc Tryz.prog W 0 (fun _ => true) true n t [u] = some y := fun j t ht => by
    obtain ⟨v, n'', z, h3, h4, _⟩ := trod_leafW 5 _ j t _ _ _ ht h
    exact ⟨v, n'', z, h3, h4⟩
  have ki : ∀ j t, leafAt Tryz.prog 5 35 j = some t → Tryz.prog.underlying t = some (.int .i64) → ∃ z, cs[j]? = some (.int .i64 z) ∧ (Lit.int .i64 z).wf = true := fun j t ht hu => by
    obtain ⟨u, n, y, h1, h2⟩ := key j t ht
    obtain ⟨z, hz, _, hw⟩ := DataW.trod_int hu h2
    simp at hz
    exact ⟨z, by rw [h1, hz], hw⟩
  have ks : ∀ j, leafAt Tryz.prog 5 35 j = some 9 → ∃ s, cs[j]? = some (.string s) := fun j ht => by
    obtain ⟨u, n, y, h1, h2⟩ := key j _ ht
    obtain ⟨z, hz, _⟩ := DataW.trod_string Tryz.underlying9 h2
    simp at hz
    exact ⟨z, by rw [h1, hz]⟩
  obtain ⟨n0, e0, w0⟩ := ki 0 2 (by kernel_rfl) Tryz.underlying2
  obtain ⟨n1, e1, w1⟩ := ki 1 3 (by kernel_rfl) Tryz.underlying3
  obtain ⟨n2, e2, w2⟩ := ki 2 3 (by kernel_rfl) Tryz.underlying3
  obtain ⟨n3, e3, w3⟩ := ki 3 2 (by kernel_rfl) Tryz.underlying2
  obtain ⟨n4, e4, w4⟩ := ki 4 2 (by kernel_rfl) Tryz.underlying2
  obtain ⟨s5, e5⟩ := ks 5 (by kernel_rfl)
  obtain ⟨s6, e6⟩ := ks 6 (by kernel_rfl)
  obtain ⟨s7, e7⟩ := ks 7 (by kernel_rfl)
  refine ⟨⟨n0, n1, n2, n3, n4, s5, s6, s7⟩, ?_, T.wf64 w3, T.wf64 w4⟩
  match cs, hl with
  | [x0, x1, x2, x3, x4, x5, x6, x7], _ =>
    simp at e0 e1 e2 e3 e4 e5 e6 e7
    subst e0 e1 e2 e3 e4 e5 e6 e7
    rfl
theorem open_tops {H : Type} {enc : TypeId × Value → H} {W : World} {a : Option Addr} {len cap : Nat} {d : DataW H} {p : List MemPlace}
    (h : DataW.Trod enc Tryz.prog W 0 (fun _ => true) true 44 (.slice a len cap) d p) (hb : ∀ m ∈ DataW.weights Tryz.prog 44 d, m ≤ reachBytes) :
    ∃ os : List S.Op, T.Ops (fun g => g < W.heap.size) W a os ∧ os.length = len ∧ len ≤ 1599289640401 ∧ ∀ o ∈ os, o.in64 := by
  obtain ⟨fuel, hf⟩ := h
  rcases Go.Deep.open_slice Tryz.underlying44 hf with ⟨hcs, hx⟩ | ⟨x, l, c, m, n, D, Pl, hcs, _, hl, hm, hmm, hx, hr⟩
  · simp [Value.cells] at hcs
    obtain ⟨rfl, rfl, rfl⟩ := hcs
    exact ⟨[], Rw.nil _ _ _ _, rfl, by omega, by simp⟩
  · simp [Value.cells] at hcs
    obtain ⟨rfl, rfl, rfl⟩ := hcs
    simp only [if_true] at hmm
    subst hmm
    simp only [Prod.mk.injEq] at hx
    have c8 : Tryz.prog.cellsOf 35 = 8 := by kernel_rfl
    rw [c8] at hr
    rw [hx.1] at hb
    have hlb : len ≤ 1599289640401 := by
      have h1 := hb _ (by simp only [DataW.weights, Tryz.underlying44]; exact List.mem_cons_self ..)
      have h2 : Tryz.prog.bytesOf 35 = 88 := by kernel_rfl
      rw [h2] at h1
      unfold reachBytes at h1
      simp only [List.length_map, List.length_range] at h1
      omega
    have each : ∀ i, i < len → ∃ o : S.Op, (∀ (j : Nat) u, o.cs.toList[j]? = some u → W.cell? ((x.add (i * 8)).add j) = some u) ∧ o.in64 := by
      intro i hi
      obtain ⟨cs', h1, h2⟩ := hr i (by omega)
      obtain ⟨_, hlen, hcell⟩ := World.cells?_some h1
      obtain ⟨o, rfl, ho⟩ := T.open_opcells h2 hlen
      refine ⟨o, fun j u hu => ?_, ho⟩
      have hj : j < o.cs.toList.length := (List.getElem?_eq_some_iff.1 hu).1
      rw [hcell j (by omega), ← hu, List.getElem?_eq_getElem hj]
    haveI : Inhabited S.Op := ⟨⟨0, 0, 0, 0, 0, ⟨#[]⟩, ⟨#[]⟩, ⟨#[]⟩⟩⟩
    obtain ⟨Q, hQ⟩ := Go.Deep.choose_lt (α := S.Op) each
    refine ⟨(List.range len).map Q, ⟨?_, ?_⟩, by simp, hlb, fun o ho => ?_⟩
    · have h8 := flat_len (k := 8) (l := ((List.range len).map Q).map (fun o => o.cs.toList)) (fun o ho => by
        obtain ⟨q, _, rfl⟩ := List.mem_map.1 ho
        rfl)
      rw [List.length_map] at h8
      exact h8
    · by_cases hz : len = 0
      · exact .inl (by simp [hz])
      · right
        obtain ⟨b, off, spot⟩ := x
        have hc0 := (hQ 0 (by omega)).1 0 _ rfl
        have hspot : spot = none := by simpa [Addr.add] using World.cell?_spot hc0
        subst hspot
        refine ⟨b, off, rfl, ?_, fun j u hu => ?_⟩
        · have := World.block_lt_of_cell? W _ hc0
          simpa [Addr.add_lit] using this
        · rw [T.ops_get] at hu
          by_cases hil : j / 8 < len
          · rw [List.getElem?_map, List.getElem?_range hil] at hu
            simp only [Option.map_some, Option.bind_some] at hu
            have h4 := (hQ (j / 8) hil).1 (j % 8) u hu
            rw [Addr.add_lit, Addr.add_lit] at h4
            rwa [show off + j / 8 * 8 + j % 8 = off + j by omega] at h4
          · rw [List.getElem?_eq_none (by simp; omega)] at hu
            cases hu
    · obtain ⟨i, hi, rfl⟩ := List.mem_map.1 ho
      exact (hQ i (List.mem_range.1 hi)).2
end Go.Proofs.YtilbdpnioajkoaaGreat

namespace Go.Proofs.YtilbdpnioajkoaaGreat
open Go.ChangeShapes Go.WideShapes Go.ChangeAt Go.RowKit
set_option linter.unusedVariables false
set_option linter.unusedSimpArgs false
set_option maxRecDepth 100000
theorem leafAr0W : leafAt Tryz.prog 8 65 0 = some 9 := by kernel_rfl
theorem leafAr1W : leafAt Tryz.prog 8 65 1 = some 9 := by kernel_rfl
theorem leafTn0W : leafAt Tryz.prog 8 63 0 = some 2 := by kernel_rfl
theorem leafTn1W : leafAt Tryz.prog 8 63 1 = some 2 := by kernel_rfl
theorem leafTn2W : leafAt Tryz.prog 8 63 2 = some 9 := by kernel_rfl
theorem leafTn3W : leafAt Tryz.prog 8 63 3 = some 61 := by kernel_rfl
theorem cellsArW : Tryz.prog.cellsOf 65 = 2 := by kernel_rfl
theorem cellsTnW : Tryz.prog.cellsOf 63 = 4 := by kernel_rfl
/-- a row of attributes -/
theorem open_arowW {H : Type} {enc : TypeId × Value → H} {W : World} {n : Nat} {v : Value} {y : DataW H × List MemPlace} (h : DataW.trod enc Tryz.prog W 0 (fun _ => true) true n 61 [v] = some y) (hb : ∀ m ∈ DataW.weights Tryz.prog 61 y.1, m ≤ reachBytes) :
    ∃ a cap, ∃ l : T.At, v = .slice a l.length cap ∧ l.length ≤ 4398046511104 ∧ Rw (fun g => g < W.heap.size) W 2 a l.length (T.flatA l) := by
  rcases Go.Deep.open_slice Tryz.underlying61 h with ⟨hcs, hx⟩ | ⟨x, len, cap, m, n', D, Pl, hcs, _, hl, hm, hmm, hx, hr⟩
  · simp [Value.cells] at hcs
    subst hcs
    exact ⟨none, 0, [], rfl, Nat.zero_le _, Rw.nil _ _ _ _⟩
  · simp [Value.cells] at hcs
    subst hcs
    simp only [if_true] at hmm
    subst hmm
    rw [cellsArW] at hr
    rw [hx] at hb
    have hlb : len ≤ 4398046511104 := by
      have h1 := hb _ (by simp only [DataW.weights, Tryz.underlying61]; exact List.mem_cons_self ..)
      have h2 : Tryz.prog.bytesOf 65 = 32 := by kernel_rfl
      rw [h2] at h1
      unfold reachBytes at h1
      simp only [List.length_map, List.length_range] at h1
      omega
    have each : ∀ i, i < len → ∃ o : T.Pr, W.cell? ((x.add (i * 2)).add 0) = some (.string o.1) ∧ W.cell? ((x.add (i * 2)).add 1) = some (.string o.2) := by
      intro i hi
      obtain ⟨cs', h1, h2⟩ := hr i (by omega)
      obtain ⟨_, hlen, hcell⟩ := World.cells?_some h1
      obtain ⟨v0, n0, y0, e0, t0, _⟩ := trod_leafW 8 _ 0 _ _ _ _ leafAr0W h2
      obtain ⟨v1, n1, y1, e1, t1, _⟩ := trod_leafW 8 _ 1 _ _ _ _ leafAr1W h2
      obtain ⟨z0, hz0, _⟩ := DataW.trod_string Tryz.underlying9 t0
      obtain ⟨z1, hz1, _⟩ := DataW.trod_string Tryz.underlying9 t1
      simp at hz0 hz1
      subst hz0 hz1
      refine ⟨(z0, z1), ?_, ?_⟩
      · rw [hcell 0 (by omega), ← e0, List.getElem?_eq_getElem (by omega)]
      · rw [hcell 1 (by omega), ← e1, List.getElem?_eq_getElem (by omega)]
    haveI : Inhabited T.Pr := ⟨(⟨#[]⟩, ⟨#[]⟩)⟩
    obtain ⟨B, hB⟩ := Go.Deep.choose_lt (α := T.Pr) each
    refine ⟨some x, m, (List.range len).map B, by simp, by simpa using hlb, ⟨T.flatA_len _, ?_⟩⟩
    by_cases hz : len = 0
    · exact .inl (by simp [hz])
    · right
      obtain ⟨b, off, spot⟩ := x
      have hc0 := (hB 0 (by omega)).1
      have hspot : spot = none := by simpa [Addr.add] using World.cell?_spot hc0
      subst hspot
      refine ⟨b, off, rfl, ?_, fun j u hu => ?_⟩
      · have := World.block_lt_of_cell? W _ hc0
        simpa [Addr.add_lit] using this
      · rw [T.flatA_get] at hu
        by_cases hil : j / 2 < len
        · rw [List.getElem?_map, List.getElem?_range hil] at hu
          simp only [Option.map_some, Option.bind_some] at hu
          have h4 := hB (j / 2) hil
          rw [Addr.add_lit, Addr.add_lit, Addr.add_lit] at h4
          rcases Nat.mod_two_eq_zero_or_one j with e | e
          · rw [e] at hu
            simp at hu
            subst hu
            have := h4.1
            rwa [show off + j / 2 * 2 + 0 = off + j by omega] at this
          · rw [e] at hu
            simp at hu
            subst hu
            have := h4.2
            rwa [show off + j / 2 * 2 + 1 = off + j by omega] at this
        · rw [List.getElem?_eq_none (by simp; omega)] at hu
          cases hu
theorem splitTnW {cs : List Value} (h : cs.length = 4) : ∃ c0 c1 c2 c3, cs = [c0, c1, c2, c3] := by
  match cs, h with
  | [c0, c1, c2, c3], _ => exact ⟨c0, c1, c2, c3, rfl⟩
/-- what a node that is handed in is -/
def T.InNW (W : World) (z : T.Tn) : Prop := Rw (fun g => g < W.heap.size) W 2 z.2.1 z.1.2.ats.length (T.flatA z.1.2.ats) ∧ ((Lit.int .i64 z.1.1).wf = true ∧ z.1.2.ats.length ≤ 4400000000000) ∧ (Lit.int .i64 z.1.2.par).wf = true
theorem open_tnW {H : Type} {enc : TypeId × Value → H} {W : World} {fuel : Nat} {cs : List Value} {x : DataW H × List MemPlace} (h : DataW.trod enc Tryz.prog W 0 (fun _ => true) true fuel 63 cs = some x) (hl : cs.length = 4) (hb : ∀ m ∈ DataW.weights Tryz.prog 63 x.1, m ≤ reachBytes) :
    ∃ z : T.Tn, cs = T.cellsN z ∧ T.InNW W z := by
  obtain ⟨c0, c1, c2, c3, rfl⟩ := splitTnW hl
  obtain ⟨v0, n0, y0, e0, t0, _⟩ := trod_leafW 8 _ 0 _ fuel _ x leafTn0W h
  obtain ⟨v1, n1, y1, e1, t1, _⟩ := trod_leafW 8 _ 1 _ fuel _ x leafTn1W h
  obtain ⟨v2, n2, y2, e2, t2, _⟩ := trod_leafW 8 _ 2 _ fuel _ x leafTn2W h
  obtain ⟨v3, n3, y3, e3, t3, b3⟩ := trod_leafW 8 _ 3 _ fuel _ x leafTn3W h
  simp at e0 e1 e2 e3
  subst e0 e1 e2 e3
  obtain ⟨z0, hz0, _, w0⟩ := DataW.trod_int Tryz.underlying2 t0
  obtain ⟨z1, hz1, _, w1⟩ := DataW.trod_int Tryz.underlying2 t1
  obtain ⟨z2, hz2, _⟩ := DataW.trod_string Tryz.underlying9 t2
  simp at hz0 hz1 hz2
  subst hz0 hz1 hz2
  obtain ⟨a, cap, l, rfl, hle, hrw⟩ := open_arowW t3 (fun m hm => hb m (b3 m hm))
  exact ⟨((z0, ⟨z1, z2, l⟩), (a, cap)), rfl, hrw, ⟨w0, by show l.length ≤ _; omega⟩, w1⟩
/-- AN ARGUMENT THAT IS A LIST OF NODES. -/
theorem open_tnsW {H : Type} {enc : TypeId × Value → H} {W : World} {a : Option Addr} {len cap : Nat} {d : DataW H} {p : List MemPlace}
    (h : DataW.Trod enc Tryz.prog W 0 (fun _ => true) true 41 (.slice a len cap) d p) (hb : ∀ m ∈ DataW.weights Tryz.prog 41 d, m ≤ reachBytes) :
    ∃ zs : List T.Tn, T.Nr (fun g => g < W.heap.size) W a zs ∧ zs.length = len ∧ len ≤ 2513169434916 ∧ ∀ z ∈ zs, ((Lit.int .i64 z.1.1).wf = true ∧ z.1.2.ats.length ≤ 4400000000000) ∧ (Lit.int .i64 z.1.2.par).wf = true := by
  obtain ⟨fuel, hf⟩ := h
  rcases Go.Deep.open_slice Tryz.underlying41 hf with ⟨hcs, hx⟩ | ⟨x, l, c, m, n, D, Pl, hcs, _, hl, hm, hmm, hx, hr⟩
  · simp [Value.cells] at hcs
    obtain ⟨rfl, rfl, rfl⟩ := hcs
    exact ⟨[], ⟨Rw.nil _ _ _ _, by simp⟩, rfl, by omega, by simp⟩
  · simp [Value.cells] at hcs
    obtain ⟨rfl, rfl, rfl⟩ := hcs
    simp only [if_true] at hmm
    subst hmm
    simp only [Prod.mk.injEq] at hx
    rw [cellsTnW] at hr
    rw [hx.1] at hb
    have hlb : len ≤ 2513169434916 := by
      have h1 := hb _ (by simp only [DataW.weights, Tryz.underlying41]; exact List.mem_cons_self ..)
      have h2 : Tryz.prog.bytesOf 63 = 56 := by kernel_rfl
      rw [h2] at h1
      unfold reachBytes at h1
      simp only [List.length_map, List.length_range] at h1
      omega
    have each : ∀ i, i < len → ∃ z : T.Tn, (∀ j u, (T.cellsN z)[j]? = some u → W.cell? ((x.add (i * 4)).add j) = some u) ∧ T.InNW W z := by
      intro i hi
      obtain ⟨cs', h1, h2⟩ := hr i (by omega)
      obtain ⟨_, hlen, hcell⟩ := World.cells?_some h1
      have hbi : ∀ m ∈ DataW.weights Tryz.prog 63 (D i), m ≤ reachBytes := fun m hm => hb m (by
        simp only [DataW.weights, Tryz.underlying41, List.mem_cons, List.mem_append]
        have h1 := wt_all (l := (List.range len).map D) (List.mem_map.2 ⟨i, List.mem_range.2 hi, rfl⟩) hm
        first | exact .inr (.inl h1) | exact .inr h1 | simp [h1])
      obtain ⟨z, rfl, hz⟩ := open_tnW h2 hlen hbi
      refine ⟨z, fun j u hu => ?_, hz⟩
      have hj : j < (T.cellsN z).length := (List.getElem?_eq_some_iff.1 hu).1
      rw [hcell j (by omega), ← hu, List.getElem?_eq_getElem hj]
    haveI : Inhabited T.Tn := ⟨((0, T.zn), (none, 0))⟩
    obtain ⟨Q, hQ⟩ := Go.Deep.choose_lt (α := T.Tn) each
    have hall : ∀ o ∈ (List.range len).map Q, ∃ i, i < len ∧ o = Q i := fun o ho => by
      obtain ⟨i, hi, rfl⟩ := List.mem_map.1 ho
      exact ⟨i, List.mem_range.1 hi, rfl⟩
    refine ⟨(List.range len).map Q, ⟨⟨T.flatN_len _, ?_⟩, fun o ho => ?_⟩, by simp, hlb, fun o ho => ?_⟩
    · by_cases hz : len = 0
      · exact .inl (by simp [hz])
      · right
        obtain ⟨b, off, spot⟩ := x
        have hc0 := (hQ 0 (by omega)).1 0 _ rfl
        have hspot : spot = none := by simpa [Addr.add] using World.cell?_spot hc0
        subst hspot
        refine ⟨b, off, rfl, ?_, fun j u hu => ?_⟩
        · have := World.block_lt_of_cell? W _ hc0
          simpa [Addr.add_lit] using this
        · rw [T.flatN_get] at hu
          by_cases hil : j / 4 < len
          · rw [List.getElem?_map, List.getElem?_range hil] at hu
            simp only [Option.map_some, Option.bind_some] at hu
            have h4 := (hQ (j / 4) hil).1 (j % 4) u hu
            rw [Addr.add_lit, Addr.add_lit] at h4
            rwa [show off + j / 4 * 4 + j % 4 = off + j by omega] at h4
          · rw [List.getElem?_eq_none (by simp; omega)] at hu
            cases hu
    · obtain ⟨i, hi, rfl⟩ := hall o ho
      exact (hQ i hi).2.1
    · obtain ⟨i, hi, rfl⟩ := hall o ho
      exact (hQ i hi).2.2
end Go.Proofs.YtilbdpnioajkoaaGreat

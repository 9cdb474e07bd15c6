/-
  What a tree tells, its length, its attributes (a copy of LTFrom's first part, for other walks).
  What From says and makes of nodes hangs of the nodes alone, not of the rows that hold their attributes.
-/
import Derived.Test.YtilbdpnioajkoaaGreatUFromQ
import Derived.Test.YtilbdpnioajkoaaGreatMg35
import Derived.Test.YtilbdpnioajkoaaGreatMg43
namespace Go.Proofs.YtilbdpnioajkoaaGreat
open Go.RowKit Go.Maps
set_option linter.unusedVariables false
set_option linter.unusedSimpArgs false
set_option maxRecDepth 100000
theorem U.told_same {t : T.Tr} {xs ys : List T.Tn} (hx : xs.map Prod.fst = T.told t) (hy : ys.map Prod.fst = T.told t) : T.sames xs ys = true := T.sames_iff.2 (by rw [hx, hy])
theorem U.told_len {t : T.Tr} {xs : List T.Tn} (hx : xs.map Prod.fst = T.told t) : xs.length ≤ t.length := by
  have h1 := congrArg List.length hx
  rw [List.length_map] at h1
  rw [h1]
  exact List.length_filter_le _ _
/-- nodes of a tree have few attributes -/
theorem U.few {t : T.Tr} (hu : A.Up t) {N : Nat} (h : ∀ n x, A.get n t = some x → x.ats.length ≤ N) : ∀ p ∈ t, p.2.ats.length ≤ N := fun p hp => h p.1 p.2 ((A.get_iff hu).2 hp)
theorem U.told_few {t : T.Tr} (hu : A.Up t) {N : Nat} (h : ∀ n x, A.get n t = some x → x.ats.length ≤ N) {xs : List T.Tn} (hx : xs.map Prod.fst = T.told t) : ∀ z ∈ xs, z.1.2.ats.length ≤ N := fun z hz => by
  have h1 : z.1 ∈ T.told t := by rw [← hx]; exact List.mem_map.2 ⟨z, hz, rfl⟩
  exact U.few hu h z.1 (List.mem_filter.1 h1).1
theorem U.pl_few {zs : List T.Tn} {t : T.Tr} (he : U.pl zs = t) (hu : A.Up t) {N : Nat} (h : ∀ n x, A.get n t = some x → x.ats.length ≤ N) : ∀ z ∈ zs, z.1.2.ats.length ≤ N := fun z hz => U.few hu h z.1 (by rw [← he]; exact List.mem_map.2 ⟨z, hz, rfl⟩)
theorem U.tree_few {zs : List T.Tn} (hwf : ∀ z ∈ zs, z.1.1 ≤ 9223372036854775807) (h : T.fromOk zs = true) {N : Nat} (hN : ∀ z ∈ zs, z.1.2.ats.length ≤ N) : ∀ n x, A.get n (T.tree zs) = some x → x.ats.length ≤ N := fun n x hx => by
  have hf := (U.fok_of hwf h).all
  rw [← U.lay_eq hf.1 hf.2.2] at hx
  obtain ⟨z, hz, e⟩ := List.mem_map.1 (show (n, x) ∈ (U.lay zs).map Prod.fst from A.get_mem hx)
  rcases U.layd_mem zs U.zero hz with h1 | h1
  · have := hN z h1
    rw [e] at this
    exact this
  · unfold U.zero at h1
    simp at h1
    rcases h1 with rfl | rfl <;> (cases e; exact Nat.zero_le _)
theorem U.tree_len {zs : List T.Tn} (hwf : ∀ z ∈ zs, z.1.1 ≤ 9223372036854775807) (h : T.fromOk zs = true) : (T.tree zs).length ≤ zs.length + 2 := by
  have hf := (U.fok_of hwf h).all
  rw [← U.lay_eq hf.1 hf.2.2, U.pl_len]
  have := U.layd_len zs U.zero
  have h2 : U.zero.length = 2 := rfl
  unfold U.lay
  omega
/-- Plain of the nodes that were handed in tells what the tree of them tells -/
theorem U.told_in {zs : List T.Tn} (hwf : ∀ z ∈ zs, z.1.1 ≤ 9223372036854775807) (h : T.fromOk zs = true) : T.told (zs.map Prod.fst) = T.told (T.tree zs) := by
  have hw := T.wf_of hwf h
  have hf := (U.fok_of hwf h).all
  have hnd := U.nodup_of hf.1
  have hle := U.lay_eq hf.1 hf.2.2
  have hup : A.Up (zs.map Prod.fst) := List.pairwise_map.2 ((T.lt_of_asc hf.1).imp (fun h => h))
  refine A.up_ext (List.Pairwise.filter _ hup) (List.Pairwise.filter _ hw.up) (fun p => ?_)
  unfold T.told
  rw [List.mem_filter, List.mem_filter]
  constructor
  · rintro ⟨hp, ht⟩
    obtain ⟨z, hz, rfl⟩ := List.mem_map.1 hp
    refine ⟨?_, ht⟩
    have := (U.layd_get z.1.1 U.zup hnd).1 z hz rfl
    rw [hle] at this
    exact A.get_mem this
  · rintro ⟨hp, ht⟩
    refine ⟨?_, ht⟩
    have hg := (A.get_iff hw.up).2 (show (p.1, p.2) ∈ T.tree zs from hp)
    by_cases hz : ∃ z ∈ zs, z.1.1 = p.1
    · obtain ⟨z, hz, e⟩ := hz
      have := (U.layd_get p.1 U.zup hnd).1 z hz e
      rw [hle, hg] at this
      have e2 := Option.some.inj this
      exact List.mem_map.2 ⟨z, hz, Prod.ext e e2.symm⟩
    · have hz2 : ∀ z ∈ zs, z.1.1 ≠ p.1 := fun z hz3 e => hz ⟨z, hz3, e⟩
      have := (U.layd_get p.1 U.zup hnd).2 hz2
      rw [hle, hg, U.pl_zero] at this
      have h3 := A.get_mem this.symm
      unfold T.zero at h3
      simp only [List.mem_cons, Prod.mk.injEq, List.not_mem_nil, or_false] at h3
      unfold T.tells at ht
      rcases h3 with ⟨h4, h5⟩ | ⟨h4, h5⟩ <;> rw [h4, h5] at ht <;> cases ht
end Go.Proofs.YtilbdpnioajkoaaGreat

namespace Go.Proofs.YtilbdpnioajkoaaGreat
namespace T
theorem asc_fst : ∀ zs : List Tn, asc (fun (a b : Tn) => decide (a.1.1 < b.1.1)) zs = asc (fun (a b : Int × Nd) => decide (a.1 < b.1)) (zs.map Prod.fst)
  | [] => rfl
  | [x] => rfl
  | x :: y :: r => by
    have h := asc_fst (y :: r)
    rw [List.map_cons] at h
    simp only [List.map_cons, asc]
    rw [h]
theorem gathered_fst {zs ys : List Tn} (h : ys.map Prod.fst = zs.map Prod.fst) (t : Tr) : gathered t ys = gathered t zs := by
  have h1 : ∀ l : List Tn, gathered t l = (l.map Prod.fst).foldl (fun t (z : Int × Nd) => A.put z.1 ⟨0, ⟨#[]⟩, z.2.ats⟩ t) t := fun l => by rw [List.foldl_map]; rfl
  rw [h1, h1, h]
theorem joined_fst {zs ys : List Tn} (h : ys.map Prod.fst = zs.map Prod.fst) (t : Tr) : joined t ys = joined t zs := by
  have h1 : ∀ l : List Tn, joined t l = (l.map Prod.fst).foldl (fun t (z : Int × Nd) => if 2 < z.1 then A.put z.1 ⟨z.2.par, z.2.nm, ((A.get z.1 t).map (·.ats)).getD []⟩ t else t) t := fun l => by rw [List.foldl_map]; rfl
  rw [h1, h1, h]
theorem tree_fst {zs ys : List Tn} (h : ys.map Prod.fst = zs.map Prod.fst) : tree ys = tree zs := by
  unfold tree
  rw [gathered_fst h, joined_fst h]
theorem fromOk_fst {zs ys : List Tn} (h : ys.map Prod.fst = zs.map Prod.fst) : fromOk ys = fromOk zs := by
  have h1 : ∀ l : List Tn, l.all gok = (l.map Prod.fst).all (fun z => decide (1 ≤ z.1) && (txts z.2.ats && asc (fun a b => blt a.1 b.1) z.2.ats)) := fun l => by rw [List.all_map]; rfl
  have h2 : ∀ (t : Tr) (l : List Tn), l.all (standZ t) = (l.map Prod.fst).all (fun z => stand t z.1 z.2.par z.2.nm) := fun t l => by rw [List.all_map]; rfl
  unfold fromOk
  rw [asc_fst, asc_fst, h1, h1, h2, h2, gathered_fst h, joined_fst h, h]
end T
end Go.Proofs.YtilbdpnioajkoaaGreat

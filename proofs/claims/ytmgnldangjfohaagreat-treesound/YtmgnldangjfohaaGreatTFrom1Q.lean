/-
  A tree's nodes, gathered and joined, are that tree.
-/
import Derived.Test.YtmgnldangjfohaaGreatMg44
import Derived.Test.YtmgnldangjfohaaGreatTJoinQ
import Derived.Test.YtmgnldangjfohaaGreatMg18
import Derived.Test.YtmgnldangjfohaaGreatTWfQ
namespace Go.Proofs.YtmgnldangjfohaaGreat
open Go.RowKit Go.Maps
set_option linter.unusedVariables false
set_option linter.unusedSimpArgs false
namespace T
theorem gathered_up {t : Tr} (ht : A.Up t) : ∀ zs : List Tn, A.Up (gathered t zs) := fun zs => by
  unfold gathered
  induction zs generalizing t with
  | nil => exact ht
  | cons z r ih => exact ih (ht.put _ _)
/-- what is at a place after all -/
theorem gathered_get {t : Tr} (ht : A.Up t) (m : Int) : ∀ {zs : List Tn}, (zs.map (fun z => z.1.1)).Nodup → (∀ z ∈ zs, z.1.1 = m → A.get m (gathered t zs) = some ⟨0, ⟨#[]⟩, z.1.2.ats⟩) ∧ ((∀ z ∈ zs, z.1.1 ≠ m) → A.get m (gathered t zs) = A.get m t)
  | [], _ => ⟨fun z hz => by simp at hz, fun _ => rfl⟩
  | y :: r, h => by
    rw [List.map_cons, List.nodup_cons] at h
    obtain ⟨h1, h2⟩ := gathered_get (ht.put y.1.1 ⟨0, ⟨#[]⟩, y.1.2.ats⟩) m (zs := r) h.2
    refine ⟨fun z hz e => ?_, fun hn => ?_⟩
    · rcases List.mem_cons.1 hz with rfl | hz
      · have h3 := h2 (fun z' hz' e' => h.1 (List.mem_map.2 ⟨z', hz', e'.trans e.symm⟩))
        refine h3.trans ?_
        rw [← e]
        exact A.get_put_same ht _ _
      · exact h1 z hz e
    · refine (h2 (fun z hz => hn z (List.mem_cons_of_mem _ hz))).trans ?_
      exact A.get_put_other ht (Ne.symm (hn y List.mem_cons_self)) _
theorem jstep_up {t : Tr} (ht : A.Up t) (z : Tn) : A.Up (jstep t z) := by
  unfold jstep
  split
  · exact ht.put _ _
  · exact ht
theorem joined_up {t : Tr} (ht : A.Up t) : ∀ zs : List Tn, A.Up (joined t zs) := fun zs => by
  unfold joined
  induction zs generalizing t with
  | nil => exact ht
  | cons z r ih => exact ih (jstep_up ht z)
theorem joined_get {t : Tr} (ht : A.Up t) (m : Int) : ∀ {zs : List Tn}, (zs.map (fun z => z.1.1)).Nodup → (∀ z ∈ zs, z.1.1 = m → 2 < m → A.get m (joined t zs) = some ⟨z.1.2.par, z.1.2.nm, ((A.get m t).map (·.ats)).getD []⟩) ∧ (((∀ z ∈ zs, z.1.1 ≠ m) ∨ m ≤ 2) → A.get m (joined t zs) = A.get m t)
  | [], _ => ⟨fun z hz => by simp at hz, fun _ => rfl⟩
  | y :: r, h => by
    rw [List.map_cons, List.nodup_cons] at h
    obtain ⟨h1, h2⟩ := joined_get (jstep_up ht y) m (zs := r) h.2
    have hoth : y.1.1 ≠ m ∨ m ≤ 2 → A.get m (jstep t y) = A.get m t := fun hm => by
      unfold jstep
      split
      · rename_i h5
        refine A.get_put_other ht (fun e => ?_) _
        rcases hm with h6 | h6
        · exact h6 e.symm
        · omega
      · rfl
    refine ⟨fun z hz e e2 => ?_, fun hn => ?_⟩
    · rcases List.mem_cons.1 hz with rfl | hz
      · have h3 := h2 (.inl (fun z' hz' e' => h.1 (List.mem_map.2 ⟨z', hz', e'.trans e.symm⟩)))
        refine h3.trans ?_
        unfold jstep
        rw [if_pos (by omega), ← e]
        exact A.get_put_same ht _ _
      · have hy : y.1.1 ≠ m := fun e' => h.1 (List.mem_map.2 ⟨z, hz, e.trans e'.symm⟩)
        have h3 := h1 z hz e e2
        rw [hoth (.inl hy)] at h3
        exact h3
    · refine (h2 ?_).trans (hoth ?_)
      · exact hn.imp (fun h z hz => h z (List.mem_cons_of_mem _ hz)) id
      · exact hn.imp (fun h => h y List.mem_cons_self) id
theorem get_ext_up {t u : Tr} (ht : A.Up t) (hu : A.Up u) (h : ∀ m, A.get m t = A.get m u) : t = u :=
  A.up_ext ht hu (fun p => by
    obtain ⟨m, x⟩ := p
    rw [← A.get_iff ht, ← A.get_iff hu, h])
theorem told_mem {t : Tr} (hw : Wf t) {zs : List Tn} (hz : zs.map Prod.fst = told t) {z : Tn} (h : z ∈ zs) : A.get z.1.1 t = some z.1.2 ∧ tells z.1 = true := by
  have h1 : z.1 ∈ told t := by rw [← hz]; exact List.mem_map.2 ⟨z, h, rfl⟩
  obtain ⟨h2, h3⟩ := List.mem_filter.1 h1
  exact ⟨A.get_of_mem hw.up h2, h3⟩
theorem told_has {t : Tr} {zs : List Tn} (hz : zs.map Prod.fst = told t) {m : Int} {x : Nd} (hx : A.get m t = some x) (ht : tells (m, x) = true) : ∃ z ∈ zs, z.1 = (m, x) := by
  have h1 : (m, x) ∈ told t := List.mem_filter.2 ⟨A.get_mem hx, ht⟩
  rw [← hz] at h1
  obtain ⟨z, h2, h3⟩ := List.mem_map.1 h1
  exact ⟨z, h2, h3⟩
theorem told_lt {t : Tr} (hw : Wf t) {zs : List Tn} (hz : zs.map Prod.fst = told t) : zs.Pairwise (fun a b => a.1.1 < b.1.1) := by
  have h1 : (zs.map Prod.fst).Pairwise (fun p q => p.1 < q.1) := by rw [hz]; exact List.Pairwise.filter _ hw.up
  exact (List.pairwise_map (f := fun (z : Tn) => z.1) (R := fun (p q : Int × Nd) => p.1 < q.1)).1 h1
theorem told_nodup {t : Tr} (hw : Wf t) {zs : List Tn} (hz : zs.map Prod.fst = told t) : (zs.map (fun z => z.1.1)).Nodup :=
  List.pairwise_map.2 ((told_lt hw hz).imp (fun h e => by rw [e] at h; exact Int.lt_irrefl _ h))
theorem zero_up : A.Up zero := by
  unfold A.Up zero
  simp
theorem untold {t : Tr} (hw : Wf t) {m : Int} {x : Nd} (hx : A.get m t = some x) (ht : tells (m, x) = false) : A.get m zero = some zn ∧ x = zn ∧ m ≤ 2 := by
  unfold tells at ht
  simp only [Bool.or_eq_false_iff, decide_eq_false_iff_not, Bool.not_eq_false'] at ht
  have h1 := (hw.num m x hx).1
  have h2 := hw.top m x hx (by omega)
  have h3 : x.ats = [] := by simpa using ht.2
  refine ⟨?_, ?_, by omega⟩
  · have : m = 1 ∨ m = 2 := by omega
    rcases this with rfl | rfl <;> rfl
  · obtain ⟨a, b, c⟩ := x
    simp only at h2 h3
    rw [h2.1, h2.2, h3]
    rfl
/-- of a tree's nodes: each is there, ahead of the joining -/
theorem gath_some {t : Tr} (hw : Wf t) {zs : List Tn} (hz : zs.map Prod.fst = told t) {m : Int} (h : (A.get m t).isSome = true) : (A.get m (gathered zero zs)).isSome = true := by
  obtain ⟨x, hx⟩ := Option.isSome_iff_exists.1 h
  obtain ⟨g1, g2⟩ := gathered_get zero_up m (told_nodup hw hz)
  cases htl : tells (m, x) with
  | true =>
    obtain ⟨z, hzm, e⟩ := told_has hz hx htl
    rw [g1 z hzm (by rw [e])]
    rfl
  | false =>
    rw [g2 (fun z hzm e => ?_), (untold hw hx htl).1]
    · rfl
    · have := told_mem hw hz hzm
      rw [e, hx] at this
      have e2 : z.1 = (m, x) := Prod.ext e (Option.some.inj this.1).symm
      rw [e2, htl] at this
      cases this.2
theorem again {t : Tr} (hw : Wf t) {zs : List Tn} (hz : zs.map Prod.fst = told t) : joined (gathered zero zs) zs = t := by
  have hnd := told_nodup hw hz
  have hgu := gathered_up zero_up zs
  refine get_ext_up (joined_up hgu zs) hw.up (fun m => ?_)
  obtain ⟨g1, g2⟩ := gathered_get zero_up m hnd
  obtain ⟨j1, j2⟩ := joined_get hgu m hnd
  cases hx : A.get m t with
  | some x =>
    cases htl : tells (m, x) with
    | true =>
      obtain ⟨z, hzm, e⟩ := told_has hz hx htl
      have hg := g1 z hzm (by rw [e])
      by_cases h2 : 2 < m
      · rw [j1 z hzm (by rw [e]) h2, hg, e]
        rfl
      · rw [j2 (.inr (by omega)), hg, e]
        have h3 := hw.top m x hx (by omega)
        obtain ⟨a, b, c⟩ := x
        simp only at h3 ⊢
        rw [h3.1, h3.2]
    | false =>
      have hno : ∀ z ∈ zs, z.1.1 ≠ m := fun z hzm e => by
        have := told_mem hw hz hzm
        rw [e, hx] at this
        have e2 : z.1 = (m, x) := Prod.ext e (Option.some.inj this.1).symm
        rw [e2, htl] at this
        cases this.2
      have h3 := untold hw hx htl
      rw [j2 (.inl hno), g2 hno, h3.1, h3.2.1]
  | none =>
    have hno : ∀ z ∈ zs, z.1.1 ≠ m := fun z hzm e => by
      have := (told_mem hw hz hzm).1
      rw [e, hx] at this
      cases this
    rw [j2 (.inl hno), g2 hno]
    have h1 : m ≠ 1 := fun e => by have := hw.one; rw [← e, hx] at this; cases this
    have h2 : m ≠ 2 := fun e => by have := hw.two; rw [← e, hx] at this; cases this
    exact A.get_none.2 (fun p hp => by
      unfold zero at hp
      simp at hp
      rcases hp with rfl | rfl
      · exact Ne.symm h1
      · exact Ne.symm h2)
theorem asc_of {α : Type} {lt : α → α → Bool} {l : List α} (h : l.Pairwise (fun a b => lt a b = true)) : asc lt l = true :=
  asc_iff.2 (fun k a b ha hb => by
    obtain ⟨h1, h2⟩ := List.getElem?_eq_some_iff.1 ha
    obtain ⟨h3, h4⟩ := List.getElem?_eq_some_iff.1 hb
    have := List.pairwise_iff_getElem.1 h k (k + 1) h1 h3 (by omega)
    rw [h2, h4] at this
    exact this)
theorem told_asc {t : Tr} (hw : Wf t) {zs : List Tn} (hz : zs.map Prod.fst = told t) : asc (fun (a b : Tn) => decide (a.1.1 < b.1.1)) zs = true :=
  asc_of ((told_lt hw hz).imp (fun h => decide_eq_true h))
theorem told_gok {t : Tr} (hw : Wf t) {zs : List Tn} (hz : zs.map Prod.fst = told t) : zs.all gok = true := by
  refine List.all_eq_true.2 (fun z hzm => ?_)
  have h1 := (told_mem hw hz hzm).1
  have h2 := hw.ats _ _ h1
  unfold gok
  rw [Bool.and_eq_true, Bool.and_eq_true]
  refine ⟨decide_eq_true (by have := (hw.num _ _ h1).1; omega), List.all_eq_true.2 (fun p hp => by rw [Bool.and_eq_true]; exact h2.2 p hp), asc_of h2.1⟩
theorem told_stand {t : Tr} (hw : Wf t) {zs : List Tn} (hz : zs.map Prod.fst = told t) : zs.all (standZ (gathered zero zs)) = true := by
  refine List.all_eq_true.2 (fun z hzm => ?_)
  have h1 := (told_mem hw hz hzm).1
  unfold standZ stand
  split
  · rename_i h2
    exact decide_eq_true (hw.top _ _ h1 h2)
  · rename_i h2
    have h3 := hw.low _ _ h1 (by omega)
    rw [Bool.and_eq_true]
    exact ⟨gath_some hw hz h3.1, h3.2⟩
theorem told_bare {t : Tr} (hw : Wf t) {zs : List Tn} (hz : zs.map Prod.fst = told t) : ∀ z ∈ zs, ∃ x, A.get z.1.1 (gathered zero zs) = some x ∧ x.par = 0 := fun z hzm =>
  ⟨_, (gathered_get zero_up z.1.1 (told_nodup hw hz)).1 z hzm rfl, rfl⟩
end T
end Go.Proofs.YtmgnldangjfohaaGreat

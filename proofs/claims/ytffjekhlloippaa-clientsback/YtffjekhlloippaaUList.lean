/-
  Lists by numbers as the document's tree has them: the place of a number; one put there.
-/
import Derived.Test.YtffjekhlloippaaOList
namespace Go.Proofs.Ytffjekhlloippaa
set_option linter.unusedVariables false
namespace A
variable {α : Type}
/-- how many stand ahead of a number -/
def low (n : Int) : List (Int × α) → Nat
  | [] => 0
  | p :: r => if p.1 < n then low n r + 1 else 0
theorem low_le (n : Int) : ∀ l : List (Int × α), low n l ≤ l.length
  | [] => Nat.le_refl _
  | p :: r => by
    unfold low
    split
    · have := low_le n r; rw [List.length_cons]; omega
    · exact Nat.zero_le _
theorem low_lt {n : Int} : ∀ {l : List (Int × α)} {k : Nat} {p : Int × α}, k < low n l → l[k]? = some p → p.1 < n
  | [], k, p, h, hp => by simp at hp
  | q :: r, 0, p, h, hp => by
    unfold low at h
    split at h
    · simp at hp; subst hp; assumption
    · omega
  | q :: r, k + 1, p, h, hp => by
    unfold low at h
    split at h
    · exact low_lt (l := r) (k := k) (by omega) (by simpa using hp)
    · omega
theorem low_ge {n : Int} : ∀ {l : List (Int × α)} {p : Int × α}, l[low n l]? = some p → n ≤ p.1
  | [], p, hp => by simp at hp
  | q :: r, p, hp => by
    unfold low at hp
    split at hp
    · exact low_ge (l := r) (by simpa using hp)
    · simp at hp; subst hp; omega
theorem low_eq {n : Int} {l : List (Int × α)} {k : Nat} (h1 : ∀ j p, j < k → l[j]? = some p → p.1 < n) (h2 : ∀ p, l[k]? = some p → n ≤ p.1) (hk : k ≤ l.length) : k = low n l := by
  rcases Nat.lt_trichotomy k (low n l) with e | e | e
  · have hl := low_le n l
    obtain ⟨p, hp⟩ : ∃ p, l[k]? = some p := ⟨_, List.getElem?_eq_getElem (by omega)⟩
    have := low_lt e hp
    have := h2 p hp
    omega
  · exact e
  · obtain ⟨p, hp⟩ : ∃ p, l[low n l]? = some p := ⟨_, List.getElem?_eq_getElem (by omega)⟩
    have := low_ge hp
    have := h1 _ p e hp
    omega
theorem low_get {l : List (Int × α)} (h : Up l) {n : Int} {v : α} : get n l = some v ↔ l[low n l]? = some (n, v) := by
  rw [get_iff h]
  constructor
  · intro hm
    obtain ⟨i, hi, e⟩ := List.getElem_of_mem hm
    have hk : i = low n l := low_eq (fun j p hj hp => by
      obtain ⟨h1, h2⟩ := List.getElem?_eq_some_iff.1 hp
      have h3 := List.pairwise_iff_getElem.1 h j i h1 hi hj
      rw [e, h2] at h3
      exact h3) (fun p hp => by
      rw [List.getElem?_eq_getElem hi, e] at hp
      cases hp
      exact Int.le_refl _) (Nat.le_of_lt hi)
    rw [← hk, List.getElem?_eq_getElem hi, e]
  · exact List.mem_of_getElem?
theorem low_none {l : List (Int × α)} (h : Up l) {n : Int} (hn : get n l = none) {p : Int × α} (hp : l[low n l]? = some p) : p.1 ≠ n := fun e => by
  have : get n l = some p.2 := (low_get h).2 (by rw [hp, ← e])
  rw [hn] at this
  cases this
theorem put_low {n : Int} {v : α} : ∀ {l : List (Int × α)}, Up l → put n v l = l.take (low n l) ++ (n, v) :: l.drop (low n l + (if (get n l).isSome then 1 else 0))
  | [], h => rfl
  | p :: r, h => by
    have h' := h
    unfold Up at h'
    rw [List.pairwise_cons] at h'
    have hr : Up r := h'.2
    by_cases hlt : p.1 < n
    · have hg : get n (p :: r) = get n r := by
        unfold get
        rw [List.find?_cons, show (p.1 == n) = false from by simp; omega]
      have hl : low n (p :: r) = low n r + 1 := by
        show (if p.1 < n then low n r + 1 else 0) = _
        rw [if_pos hlt]
      rw [hg, hl]
      have hd : del n (p :: r) = p :: del n r := by
        unfold del
        rw [List.filter_cons, if_pos (by simp; omega)]
      have hp : put n v (p :: r) = p :: put n v r := by
        unfold put
        rw [hd]
        show (if n < p.1 then _ else _) = _
        rw [if_neg (by omega)]
      rw [hp, put_low hr, show low n r + 1 + (if (get n r).isSome then 1 else 0) = low n r + (if (get n r).isSome then 1 else 0) + 1 by omega]
      rfl
    · have hl : low n (p :: r) = 0 := by
        show (if p.1 < n then low n r + 1 else 0) = _
        rw [if_neg hlt]
      rw [hl]
      have hno : del n r = r := by
        unfold del
        refine List.filter_eq_self.2 (fun q hq => ?_)
        have := h'.1 q hq
        simp
        omega
      have hin : ∀ l : List (Int × α), (∀ q ∈ l, n < q.1) → ins (n, v) l = (n, v) :: l := fun l hl => by
        cases l with
        | nil => rfl
        | cons q l =>
          show (if n < q.1 then _ else _) = _
          rw [if_pos (hl q List.mem_cons_self)]
      by_cases he : p.1 = n
      · have hg : get n (p :: r) = some p.2 := get_of_mem h (by rw [← he]; exact List.mem_cons_self)
        rw [hg]
        have hd : del n (p :: r) = r := by
          unfold del
          rw [List.filter_cons, if_neg (by simp [he])]
          exact hno
        unfold put
        rw [hd, hin r (fun q hq => by have := h'.1 q hq; omega)]
        rfl
      · have hg : get n (p :: r) = none := get_none.2 (fun q hq => by
          rcases List.mem_cons.1 hq with rfl | hq
          · exact he
          · have := h'.1 q hq; omega)
        rw [hg]
        have hd : del n (p :: r) = p :: r := by
          unfold del
          rw [List.filter_cons, if_pos (by simp [he])]
          congr 1
        unfold put
        rw [hd, hin (p :: r) (fun q hq => by
          rcases List.mem_cons.1 hq with rfl | hq
          · omega
          · have := h'.1 q hq; omega)]
        rfl
theorem put_set {n : Int} {v : α} {l : List (Int × α)} (h : Up l) (hn : (get n l).isSome = true) : put n v l = l.set (low n l) (n, v) := by
  obtain ⟨u, hu⟩ := Option.isSome_iff_exists.1 hn
  have hlt : low n l < l.length := (List.getElem?_eq_some_iff.1 ((low_get h).1 hu)).1
  rw [put_low h, hn, if_pos rfl, List.set_eq_take_append_cons_drop, if_pos hlt]
end A
end Go.Proofs.Ytffjekhlloippaa

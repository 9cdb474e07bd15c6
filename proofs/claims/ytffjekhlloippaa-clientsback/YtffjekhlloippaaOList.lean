/-
  Lists by numbers.
-/
import Derived.Test.YtffjekhlloippaaMem
namespace Go.Proofs.Ytffjekhlloippaa
set_option linter.unusedVariables false
namespace A
variable {α β : Type}
def ins (x : Int × α) : List (Int × α) → List (Int × α)
  | [] => [x]
  | y :: r => if x.1 < y.1 then x :: y :: r else y :: ins x r
def del (k : Int) (l : List (Int × α)) : List (Int × α) := l.filter (fun p => !(p.1 == k))
def put (k : Int) (v : α) (l : List (Int × α)) : List (Int × α) := ins (k, v) (del k l)
def get (k : Int) (l : List (Int × α)) : Option α := (l.find? (fun p => p.1 == k)).map (·.2)
def Up (l : List (Int × α)) : Prop := l.Pairwise (fun p q => p.1 < q.1)
def mp (f : α → β) (l : List (Int × α)) : List (Int × β) := l.map (fun p => (p.1, f p.2))

theorem ins_perm (x : Int × α) : ∀ l : List (Int × α), (ins x l).Perm (x :: l)
  | [] => List.Perm.refl _
  | y :: r => by
    unfold ins
    split
    · exact List.Perm.refl _
    · exact ((ins_perm x r).cons y).trans (List.Perm.swap x y r)
theorem put_perm (k : Int) (v : α) (l : List (Int × α)) : (put k v l).Perm ((k, v) :: del k l) := ins_perm _ _
theorem mem_del {k : Int} {l : List (Int × α)} {p : Int × α} : p ∈ del k l ↔ p ∈ l ∧ p.1 ≠ k := by
  simp [del, List.mem_filter]
theorem mem_put {k : Int} {v : α} {l : List (Int × α)} {p : Int × α} : p ∈ put k v l ↔ p = (k, v) ∨ (p ∈ l ∧ p.1 ≠ k) := by
  rw [(put_perm k v l).mem_iff, List.mem_cons, mem_del]
theorem Up.del {l : List (Int × α)} (h : Up l) (k : Int) : Up (del k l) := List.Pairwise.filter _ h
theorem Up.ins {x : Int × α} : ∀ {l : List (Int × α)}, Up l → (∀ p ∈ l, p.1 ≠ x.1) → Up (ins x l)
  | [], _, _ => by simp [A.ins, Up]
  | y :: r, h, hn => by
    unfold A.ins
    unfold Up at h
    rw [List.pairwise_cons] at h
    split
    · rename_i hb
      refine List.pairwise_cons.2 ⟨fun p hp => ?_, List.pairwise_cons.2 h⟩
      rcases List.mem_cons.1 hp with rfl | hp
      · exact hb
      · exact Int.lt_trans hb (h.1 p hp)
    · rename_i hb
      have hyx : y.1 < x.1 := by
        have := hn y (by simp)
        omega
      refine List.pairwise_cons.2 ⟨fun p hp => ?_, Up.ins h.2 (fun p hp => hn p (by simp [hp]))⟩
      rcases List.mem_cons.1 ((ins_perm x r).mem_iff.1 hp) with rfl | hp
      · exact hyx
      · exact h.1 p hp
theorem Up.put {l : List (Int × α)} (h : Up l) (k : Int) (v : α) : Up (put k v l) := Up.ins (h.del k) (fun p hp => (mem_del.1 hp).2)
theorem Up.inj {l : List (Int × α)} (h : Up l) {p q : Int × α} (hp : p ∈ l) (hq : q ∈ l) (e : p.1 = q.1) : p = q := by
  induction l with
  | nil => cases hp
  | cons y r ih =>
    unfold Up at h
    rw [List.pairwise_cons] at h
    rcases List.mem_cons.1 hp with e1 | hp1
    · rcases List.mem_cons.1 hq with e2 | hq1
      · rw [e1, e2]
      · subst e1; exact absurd e (by have := h.1 q hq1; omega)
    · rcases List.mem_cons.1 hq with e2 | hq1
      · subst e2; exact absurd e.symm (by have := h.1 p hp1; omega)
      · exact ih h.2 hp1 hq1
theorem get_mem {k : Int} {l : List (Int × α)} {v : α} (h : get k l = some v) : (k, v) ∈ l := by
  unfold get at h
  rw [Option.map_eq_some_iff] at h
  obtain ⟨p, hp, rfl⟩ := h
  have h1 := List.mem_of_find?_eq_some hp
  have h2 := List.find?_some hp
  simp at h2
  subst h2
  exact h1
theorem get_of_mem {l : List (Int × α)} (h : Up l) {k : Int} {v : α} (hm : (k, v) ∈ l) : get k l = some v := by
  cases hg : get k l with
  | none =>
    unfold get at hg
    rw [Option.map_eq_none_iff, List.find?_eq_none] at hg
    have := hg _ hm
    simp at this
  | some u =>
    have := h.inj (get_mem hg) hm rfl
    simp at this
    rw [this]
theorem get_none {k : Int} {l : List (Int × α)} : get k l = none ↔ ∀ p ∈ l, p.1 ≠ k := by
  unfold get
  rw [Option.map_eq_none_iff, List.find?_eq_none]
  simp
theorem get_put_same {l : List (Int × α)} (h : Up l) (k : Int) (v : α) : get k (put k v l) = some v := get_of_mem (h.put k v) (mem_put.2 (.inl rfl))
theorem get_ext {l : List (Int × α)} (h : Up l) {k : Int} {o : Option α} (ho : ∀ v, o = some v ↔ (k, v) ∈ l) : get k l = o := by
  cases o with
  | some v => exact get_of_mem h ((ho v).1 rfl)
  | none =>
    rw [get_none]
    rintro ⟨a, b⟩ hp rfl
    cases (ho b).2 hp
theorem get_iff {l : List (Int × α)} (h : Up l) {k : Int} {v : α} : get k l = some v ↔ (k, v) ∈ l := ⟨get_mem, get_of_mem h⟩
theorem get_put_other {l : List (Int × α)} (h : Up l) {k n : Int} (hn : n ≠ k) (v : α) : get n (put k v l) = get n l :=
  get_ext (h.put k v) (fun u => by rw [get_iff h, mem_put]; simp [hn])
theorem get_del_same (k : Int) (l : List (Int × α)) : get k (del k l) = none := get_none.2 (fun p hp => (mem_del.1 hp).2)
theorem get_del_other {l : List (Int × α)} (h : Up l) {k n : Int} (hn : n ≠ k) : get n (del k l) = get n l :=
  get_ext (h.del k) (fun u => by rw [get_iff h, mem_del]; simp [hn])
theorem up_ext : ∀ {l m : List (Int × α)}, Up l → Up m → (∀ p, p ∈ l ↔ p ∈ m) → l = m
  | [], [], _, _, _ => rfl
  | [], y :: r, _, _, h => by have := (h y).2 (by simp); cases this
  | x :: r, [], _, _, h => by have := (h x).1 (by simp); cases this
  | x :: r, y :: s, hl, hm, h => by
    have hl' := hl
    have hm' := hm
    unfold Up at hl hm
    rw [List.pairwise_cons] at hl hm
    have e : x = y := by
      have h1 := (h x).1 (by simp)
      have h2 := (h y).2 (by simp)
      rcases List.mem_cons.1 h1 with e | h1
      · exact e
      · rcases List.mem_cons.1 h2 with e | h2
        · exact e.symm
        · have a := hl.1 y h2
          have b := hm.1 x h1
          omega
    subst e
    rw [up_ext hl.2 hm.2 (fun p => ⟨fun hp => ?_, fun hp => ?_⟩)]
    · rcases List.mem_cons.1 ((h p).1 (by simp [hp])) with rfl | h1
      · exact absurd rfl (Int.ne_of_lt (hl.1 p hp))
      · exact h1
    · rcases List.mem_cons.1 ((h p).2 (by simp [hp])) with rfl | h1
      · exact absurd rfl (Int.ne_of_lt (hm.1 p hp))
      · exact h1

/-! ### maps of such lists -/

theorem get_mp (f : α → β) (k : Int) (l : List (Int × α)) : get k (mp f l) = (get k l).map f := by
  unfold get mp
  rw [List.find?_map]
  simp only [Function.comp_def, Option.map_map]
theorem length_mp (f : α → β) (l : List (Int × α)) : (mp f l).length = l.length := by simp [mp]
theorem mem_mp {f : α → β} {l : List (Int × α)} {p : Int × β} : p ∈ mp f l ↔ ∃ q ∈ l, (q.1, f q.2) = p := by simp [mp]
theorem Up.mp {l : List (Int × α)} (h : Up l) (f : α → β) : Up (mp f l) := by
  unfold Up A.mp
  rw [List.pairwise_map]
  exact h
theorem mp_ins (f : α → β) (x : Int × α) : ∀ l : List (Int × α), mp f (ins x l) = ins (x.1, f x.2) (mp f l)
  | [] => rfl
  | y :: r => by
    have ih := mp_ins f x r
    have e : mp f (y :: r) = (y.1, f y.2) :: mp f r := rfl
    rw [e]
    unfold ins
    by_cases hb : x.1 < y.1
    · rw [if_pos hb, if_pos hb]; rfl
    · rw [if_neg hb, if_neg hb, ← ih]; rfl
theorem mp_del (f : α → β) (k : Int) (l : List (Int × α)) : mp f (del k l) = del k (mp f l) := by
  unfold mp del
  rw [List.filter_map]
  rfl
theorem mp_put (f : α → β) (k : Int) (v : α) (l : List (Int × α)) : mp f (put k v l) = put k (f v) (mp f l) := by
  unfold put
  rw [mp_ins, mp_del]
theorem length_put_le (k : Int) (v : α) (l : List (Int × α)) : (put k v l).length ≤ l.length + 1 := by
  rw [(put_perm k v l).length_eq, List.length_cons]
  exact Nat.succ_le_succ (List.length_filter_le _ _)
theorem length_del {l : List (Int × α)} (h : Up l) {k : Int} {v : α} (hm : get k l = some v) : (del k l).length + 1 = l.length := by
  have hp : (put k v l).Perm ((k, v) :: del k l) := put_perm k v l
  have e : put k v l = l := up_ext (h.put k v) h (fun p => by
    rw [mem_put]
    constructor
    · rintro (rfl | ⟨h1, _⟩)
      · exact get_mem hm
      · exact h1
    · intro hp
      by_cases e : p.1 = k
      · left
        have := h.inj hp (get_mem hm) e
        exact this
      · exact .inr ⟨hp, e⟩)
  rw [e] at hp
  rw [hp.length_eq, List.length_cons]
theorem length_put_same {l : List (Int × α)} (h : Up l) {k : Int} {v : α} (hm : get k l = some v) (u : α) : (put k u l).length = l.length := by
  rw [(put_perm k u l).length_eq, List.length_cons, length_del h hm]
theorem length_put_new {l : List (Int × α)} {k : Int} (hm : get k l = none) (u : α) : (put k u l).length = l.length + 1 := by
  rw [(put_perm k u l).length_eq, List.length_cons]
  unfold del
  rw [List.filter_eq_self.2 (fun p hp => by have := get_none.1 hm p hp; simp [this])]
theorem isSome_put {l : List (Int × α)} (h : Up l) {k : Int} {v : α} (hm : get k l = some v) (u : α) (n : Int) : (get n (put k u l)).isSome = (get n l).isSome := by
  by_cases e : n = k
  · subst e
    rw [get_put_same h, hm]
    rfl
  · rw [get_put_other h e]
theorem put_put {l : List (Int × α)} (h : Up l) (k : Int) (u v : α) : put k u (put k v l) = put k u l :=
  up_ext ((h.put k v).put k u) (h.put k u) (fun p => by
    rw [mem_put, mem_put, mem_put]
    constructor
    · rintro (rfl | ⟨rfl | h1, h2⟩)
      · exact .inl rfl
      · exact absurd rfl h2
      · exact .inr h1
    · rintro (rfl | ⟨h1, h2⟩)
      · exact .inl rfl
      · exact .inr ⟨.inr ⟨h1, h2⟩, h2⟩)
end A
end Go.Proofs.Ytffjekhlloippaa

/-
  Lists by name, rising; the disk of the document, plainly.
-/
import Derived.Test.YtogdjhhabcejgaaGreatRows
import Derived.WalkKit
import Derived.Maps.Ext
import Derived.Sort.KeysCollected
namespace Go.Proofs.YtogdjhhabcejgaaGreat
set_option linter.unusedVariables false
namespace K
abbrev Nm := List UInt8

/-! ### bytes in their order -/
theorem bb_irrefl : ∀ a : Nm, bytesBefore a a = false
  | [] => rfl
  | a :: r => by simp [bytesBefore, bb_irrefl r]
theorem bb_trans : ∀ {a b c : Nm}, bytesBefore a b = true → bytesBefore b c = true → bytesBefore a c = true
  | [], [], _, h, _ => by simp [bytesBefore] at h
  | [], _ :: _, [], _, h => by simp [bytesBefore] at h
  | [], _ :: _, _ :: _, _, _ => rfl
  | _ :: _, [], _, h, _ => by simp [bytesBefore] at h
  | _ :: _, _ :: _, [], _, h => by simp [bytesBefore] at h
  | a :: r, b :: s, c :: t, h, k => by
    simp only [bytesBefore, Bool.or_eq_true, decide_eq_true_eq, Bool.and_eq_true, beq_iff_eq] at h k ⊢
    rcases h with h | ⟨rfl, h⟩
    · rcases k with k | ⟨rfl, k⟩
      · exact .inl (UInt8.lt_trans h k)
      · exact .inl h
    · rcases k with k | ⟨rfl, k⟩
      · exact .inl k
      · exact .inr ⟨rfl, bb_trans h k⟩
theorem bb_tri : ∀ a b : Nm, bytesBefore a b = true ∨ a = b ∨ bytesBefore b a = true
  | [], [] => .inr (.inl rfl)
  | [], _ :: _ => .inl rfl
  | _ :: _, [] => .inr (.inr rfl)
  | a :: r, b :: s => by
    simp only [bytesBefore, Bool.or_eq_true, decide_eq_true_eq, Bool.and_eq_true, beq_iff_eq]
    rcases Nat.lt_trichotomy a.toNat b.toNat with h | h | h
    · exact .inl (.inl (UInt8.lt_iff_toNat_lt.2 h))
    · have e : a = b := UInt8.toNat_inj.1 h
      subst e
      rcases bb_tri r s with h | rfl | h
      · exact .inl (.inr ⟨rfl, h⟩)
      · exact .inr (.inl rfl)
      · exact .inr (.inr (.inr ⟨rfl, h⟩))
    · exact .inr (.inr (.inl (UInt8.lt_iff_toNat_lt.2 h)))
theorem bb_ne {a b : Nm} (h : bytesBefore a b = true) : a ≠ b := fun e => by subst e; rw [bb_irrefl] at h; cases h
theorem bb_asymm {a b : Nm} (h : bytesBefore a b = true) : bytesBefore b a = false := by
  cases h2 : bytesBefore b a
  · rfl
  · have := bb_trans h h2
    rw [bb_irrefl] at this
    cases this

/-! ### lists by name -/
variable {α β : Type}
def ins (x : Nm × α) : List (Nm × α) → List (Nm × α)
  | [] => [x]
  | y :: r => if bytesBefore x.1 y.1 then x :: y :: r else y :: ins x r
def del (k : Nm) (l : List (Nm × α)) : List (Nm × α) := l.filter (fun p => !(p.1 == k))
def put (k : Nm) (v : α) (l : List (Nm × α)) : List (Nm × α) := ins (k, v) (del k l)
def get (k : Nm) (l : List (Nm × α)) : Option α := (l.find? (fun p => p.1 == k)).map (·.2)
def Up (l : List (Nm × α)) : Prop := l.Pairwise (fun p q => bytesBefore p.1 q.1 = true)
def mp (f : α → β) (l : List (Nm × α)) : List (Nm × β) := l.map (fun p => (p.1, f p.2))
def tot (f : α → Nat) (l : List (Nm × α)) : Nat := (l.map (fun p => f p.2)).sum

theorem ins_perm (x : Nm × α) : ∀ l : List (Nm × α), (ins x l).Perm (x :: l)
  | [] => List.Perm.refl _
  | y :: r => by
    unfold ins
    split
    · exact List.Perm.refl _
    · exact ((ins_perm x r).cons y).trans (List.Perm.swap x y r)
theorem put_perm (k : Nm) (v : α) (l : List (Nm × α)) : (put k v l).Perm ((k, v) :: del k l) := ins_perm _ _
theorem mem_del {k : Nm} {l : List (Nm × α)} {p : Nm × α} : p ∈ del k l ↔ p ∈ l ∧ p.1 ≠ k := by
  simp [del, List.mem_filter]
theorem mem_put {k : Nm} {v : α} {l : List (Nm × α)} {p : Nm × α} : p ∈ put k v l ↔ p = (k, v) ∨ (p ∈ l ∧ p.1 ≠ k) := by
  rw [(put_perm k v l).mem_iff, List.mem_cons, mem_del]
theorem Up.del {l : List (Nm × α)} (h : Up l) (k : Nm) : Up (del k l) := List.Pairwise.filter _ h
theorem Up.ins {x : Nm × α} : ∀ {l : List (Nm × α)}, Up l → (∀ p ∈ l, p.1 ≠ x.1) → Up (ins x l)
  | [], _, _ => by simp [K.ins, Up]
  | y :: r, h, hn => by
    unfold K.ins
    unfold Up at h
    rw [List.pairwise_cons] at h
    split
    · rename_i hb
      refine List.pairwise_cons.2 ⟨fun p hp => ?_, List.pairwise_cons.2 h⟩
      rcases List.mem_cons.1 hp with rfl | hp
      · exact hb
      · exact bb_trans hb (h.1 p hp)
    · rename_i hb
      have hyx : bytesBefore y.1 x.1 = true := by
        rcases bb_tri x.1 y.1 with h1 | h1 | h1
        · exact absurd h1 hb
        · exact absurd h1.symm (hn y (by simp))
        · exact h1
      refine List.pairwise_cons.2 ⟨fun p hp => ?_, Up.ins h.2 (fun p hp => hn p (by simp [hp]))⟩
      rcases List.mem_cons.1 ((ins_perm x r).mem_iff.1 hp) with rfl | hp
      · exact hyx
      · exact h.1 p hp
theorem Up.put {l : List (Nm × α)} (h : Up l) (k : Nm) (v : α) : Up (put k v l) := Up.ins (h.del k) (fun p hp => (mem_del.1 hp).2)
theorem Up.inj {l : List (Nm × α)} (h : Up l) {p q : Nm × α} (hp : p ∈ l) (hq : q ∈ l) (e : p.1 = q.1) : p = q := by
  induction l with
  | nil => cases hp
  | cons y r ih =>
    unfold Up at h
    rw [List.pairwise_cons] at h
    rcases List.mem_cons.1 hp with e1 | hp1
    · rcases List.mem_cons.1 hq with e2 | hq1
      · rw [e1, e2]
      · subst e1; exact absurd e (bb_ne (h.1 q hq1))
    · rcases List.mem_cons.1 hq with e2 | hq1
      · subst e2; exact absurd e.symm (bb_ne (h.1 p hp1))
      · exact ih h.2 hp1 hq1
theorem get_mem {k : Nm} {l : List (Nm × α)} {v : α} (h : get k l = some v) : (k, v) ∈ l := by
  unfold get at h
  rw [Option.map_eq_some_iff] at h
  obtain ⟨p, hp, rfl⟩ := h
  have h1 := List.mem_of_find?_eq_some hp
  have h2 := List.find?_some hp
  simp at h2
  subst h2
  exact h1
theorem get_of_mem {l : List (Nm × α)} (h : Up l) {k : Nm} {v : α} (hm : (k, v) ∈ l) : get k l = some v := by
  cases hg : get k l with
  | none =>
    unfold get at hg
    rw [Option.map_eq_none_iff, List.find?_eq_none] at hg
    have := hg _ hm
    simp at this
  | some u =>
    have := h.inj (get_mem hg) hm rfl
    simp at this
    rw [this]
theorem get_none {k : Nm} {l : List (Nm × α)} : get k l = none ↔ ∀ p ∈ l, p.1 ≠ k := by
  unfold get
  rw [Option.map_eq_none_iff, List.find?_eq_none]
  simp
theorem get_put_same {l : List (Nm × α)} (h : Up l) (k : Nm) (v : α) : get k (put k v l) = some v := get_of_mem (h.put k v) (mem_put.2 (.inl rfl))
theorem get_ext {l : List (Nm × α)} (h : Up l) {k : Nm} {o : Option α} (ho : ∀ v, o = some v ↔ (k, v) ∈ l) : get k l = o := by
  cases o with
  | some v => exact get_of_mem h ((ho v).1 rfl)
  | none =>
    rw [get_none]
    rintro ⟨a, b⟩ hp rfl
    cases (ho b).2 hp
theorem get_iff {l : List (Nm × α)} (h : Up l) {k : Nm} {v : α} : get k l = some v ↔ (k, v) ∈ l := ⟨get_mem, get_of_mem h⟩
theorem get_put_other {l : List (Nm × α)} (h : Up l) {k n : Nm} (hn : n ≠ k) (v : α) : get n (put k v l) = get n l :=
  get_ext (h.put k v) (fun u => by rw [get_iff h, mem_put]; simp [hn])
theorem get_del_same (k : Nm) (l : List (Nm × α)) : get k (del k l) = none := get_none.2 (fun p hp => (mem_del.1 hp).2)
theorem get_del_other {l : List (Nm × α)} (h : Up l) {k n : Nm} (hn : n ≠ k) : get n (del k l) = get n l :=
  get_ext (h.del k) (fun u => by rw [get_iff h, mem_del]; simp [hn])
theorem up_ext : ∀ {l m : List (Nm × α)}, Up l → Up m → (∀ p, p ∈ l ↔ p ∈ m) → l = m
  | [], [], _, _, _ => rfl
  | [], y :: r, _, _, h => by have := (h y).2 (by simp); cases this
  | x :: r, [], _, _, h => by have := (h x).1 (by simp); cases this
  | x :: r, y :: s, hl, hm, h => by
    have hl' := hl
    have hm' := hm
    unfold Up at hl hm
    rw [List.pairwise_cons] at hl hm
    have e : x = y := by
      have h1 := (h x).1 (by simp)
      have h2 := (h y).2 (by simp)
      rcases List.mem_cons.1 h1 with e | h1
      · exact e
      · rcases List.mem_cons.1 h2 with e | h2
        · exact e.symm
        · have a := hl.1 y h2
          have b := hm.1 x h1
          rw [bb_asymm a] at b
          cases b
    subst e
    rw [up_ext hl.2 hm.2 (fun p => ⟨fun hp => ?_, fun hp => ?_⟩)]
    · rcases List.mem_cons.1 ((h p).1 (by simp [hp])) with rfl | h1
      · exact absurd rfl (bb_ne (hl.1 p hp))
      · exact h1
    · rcases List.mem_cons.1 ((h p).2 (by simp [hp])) with rfl | h1
      · exact absurd rfl (bb_ne (hm.1 p hp))
      · exact h1

/-! ### maps of such lists -/
theorem mp_ins (f : α → β) (x : Nm × α) : ∀ l : List (Nm × α), mp f (ins x l) = ins (x.1, f x.2) (mp f l)
  | [] => rfl
  | y :: r => by
    have ih := mp_ins f x r
    have e : mp f (y :: r) = (y.1, f y.2) :: mp f r := rfl
    rw [e]
    unfold ins
    by_cases hb : bytesBefore x.1 y.1 = true
    · rw [if_pos hb, if_pos hb]; rfl
    · rw [if_neg hb, if_neg hb, ← ih]; rfl
theorem mp_del (f : α → β) (k : Nm) (l : List (Nm × α)) : mp f (del k l) = del k (mp f l) := by
  simp [mp, del, List.filter_map, Function.comp_def]
theorem mp_put (f : α → β) (k : Nm) (v : α) (l : List (Nm × α)) : mp f (put k v l) = put k (f v) (mp f l) := by
  unfold put
  rw [mp_ins, mp_del]
theorem get_mp (f : α → β) (k : Nm) (l : List (Nm × α)) : get k (mp f l) = (get k l).map f := by
  unfold get mp
  rw [List.find?_map]
  simp [Function.comp_def]
theorem Up.mp {l : List (Nm × α)} (h : Up l) (f : α → β) : Up (mp f l) := by
  unfold K.mp Up
  rw [List.pairwise_map]
  exact h
theorem Up.of_mp {l : List (Nm × α)} {f : α → β} (h : Up (K.mp f l)) : Up l := by
  unfold K.mp Up at h
  rw [List.pairwise_map] at h
  exact h
theorem mem_mp {f : α → β} {l : List (Nm × α)} {p : Nm × β} : p ∈ mp f l ↔ ∃ q ∈ l, (q.1, f q.2) = p := by
  simp [mp]
theorem length_mp (f : α → β) (l : List (Nm × α)) : (mp f l).length = l.length := by simp [mp]
theorem mp_mp {γ : Type} (f : α → β) (g : β → γ) (l : List (Nm × α)) : mp g (mp f l) = mp (fun x => g (f x)) l := by simp [mp]
theorem mp_congr {f g : α → β} {l : List (Nm × α)} (h : ∀ p ∈ l, f p.2 = g p.2) : mp f l = mp g l := by
  unfold mp
  exact List.map_congr_left (fun p hp => by rw [h p hp])
/-- one entry is another one -/
def upd (k : Nm) (v : α) (l : List (Nm × α)) : List (Nm × α) := l.map (fun p => if p.1 == k then (p.1, v) else p)
theorem mem_upd {k : Nm} {v : α} {l : List (Nm × α)} {p : Nm × α} : p ∈ upd k v l ↔ (p = (k, v) ∧ ∃ u, (k, u) ∈ l) ∨ (p ∈ l ∧ p.1 ≠ k) := by
  unfold upd
  rw [List.mem_map]
  constructor
  · rintro ⟨q, hq, rfl⟩
    by_cases e : q.1 = k
    · rw [if_pos (by simpa using e), e]
      exact .inl ⟨rfl, q.2, by rw [← e]; exact hq⟩
    · rw [if_neg (by simpa using e)]
      exact .inr ⟨hq, e⟩
  · rintro (⟨rfl, u, hu⟩ | ⟨hp, hk⟩)
    · exact ⟨(k, u), hu, by simp⟩
    · exact ⟨p, hp, by simp [hk]⟩
theorem Up.upd {l : List (Nm × α)} (h : Up l) (k : Nm) (v : α) : Up (upd k v l) := by
  unfold K.upd Up
  rw [List.pairwise_map]
  unfold Up at h
  refine List.Pairwise.imp (fun {p q} hpq => ?_) h
  have e : ∀ r : Nm × α, (if (r.1 == k) = true then (r.1, v) else r).1 = r.1 := fun r => by split <;> rfl
  rw [e, e]
  exact hpq
theorem put_upd {l : List (Nm × α)} (h : Up l) {k : Nm} {u : α} (hm : (k, u) ∈ l) (v : α) : put k v l = upd k v l :=
  up_ext (h.put k v) (h.upd k v) (fun p => by rw [mem_put, mem_upd]; simp [show ∃ u, (k, u) ∈ l from ⟨u, hm⟩])
theorem length_upd (k : Nm) (v : α) (l : List (Nm × α)) : (upd k v l).length = l.length := by simp [upd]
theorem mp_upd (f : α → β) (k : Nm) (v : α) (l : List (Nm × α)) : mp f (upd k v l) = upd k (f v) (mp f l) := by
  unfold mp upd
  rw [List.map_map, List.map_map]
  refine List.map_congr_left (fun p hp => ?_)
  simp only [Function.comp]
  split <;> rfl
theorem upd_same {l : List (Nm × α)} (h : Up l) {k : Nm} {u : α} (hm : (k, u) ∈ l) : upd k u l = l :=
  up_ext (h.upd k u) h (fun p => by
    rw [mem_upd]
    constructor
    · rintro (⟨rfl, _⟩ | ⟨hp, _⟩)
      · exact hm
      · exact hp
    · intro hp
      by_cases e : p.1 = k
      · have := h.inj hp hm e
        exact .inl ⟨this, u, hm⟩
      · exact .inr ⟨hp, e⟩)

/-! ### sums -/
theorem tot_perm (f : α → Nat) {l m : List (Nm × α)} (h : l.Perm m) : tot f l = tot f m := (h.map _).sum_nat
theorem tot_cons (f : α → Nat) (x : Nm × α) (l : List (Nm × α)) : tot f (x :: l) = f x.2 + tot f l := by simp [tot]
theorem tot_del (f : α → Nat) {l : List (Nm × α)} (h : Up l) (k : Nm) : tot f l = (match get k l with | some v => f v | none => 0) + tot f (del k l) := by
  induction l with
  | nil => rfl
  | cons y r ih =>
    have h' := h
    unfold Up at h
    rw [List.pairwise_cons] at h
    have ih := ih h.2
    by_cases e : y.1 = k
    · have hd : del k (y :: r) = r := by
        unfold del
        rw [List.filter_cons_of_neg (by simp [e]), List.filter_eq_self]
        intro p hp
        have := bb_ne (h.1 p hp)
        simp
        exact fun e2 => this (e.trans e2.symm)
      rw [hd, get_of_mem h' (v := y.2) (by rw [← e]; simp), tot_cons]
    · have hd : del k (y :: r) = y :: del k r := by
        unfold del
        rw [List.filter_cons_of_pos (by simp [e])]
      have hg : get k (y :: r) = get k r := by simp [get, e]
      rw [hd, hg, tot_cons, tot_cons, ih]
      omega
theorem tot_put (f : α → Nat) {l : List (Nm × α)} (h : Up l) (k : Nm) (v : α) : tot f (put k v l) + (match get k l with | some u => f u | none => 0) = tot f l + f v := by
  rw [tot_perm f (put_perm k v l), tot_cons, tot_del f h k]
  simp only
  omega
theorem tot_del_le (f : α → Nat) {l : List (Nm × α)} (h : Up l) (k : Nm) : tot f (del k l) ≤ tot f l := by
  rw [tot_del f h k]; omega
theorem tot_mem (f : α → Nat) {l : List (Nm × α)} {p : Nm × α} (h : p ∈ l) : f p.2 ≤ tot f l := by
  induction l with
  | nil => cases h
  | cons y r ih =>
    rw [tot_cons]
    rcases List.mem_cons.1 h with rfl | h
    · omega
    · have := ih h; omega
theorem tot_mp (f : α → β) (g : β → Nat) (l : List (Nm × α)) : tot g (mp f l) = tot (fun x => g (f x)) l := by simp [tot, mp, Function.comp_def]
theorem tot_le {f g : α → Nat} {l : List (Nm × α)} (h : ∀ p ∈ l, f p.2 ≤ g p.2) : tot f l ≤ tot g l := by
  induction l with
  | nil => exact Nat.le_refl _
  | cons y r ih =>
    rw [tot_cons, tot_cons]
    have a := h y (by simp)
    have b := ih (fun p hp => h p (by simp [hp]))
    omega
theorem tot_one (m : List (Nm × α)) : tot (fun _ => 1) m = m.length := by
  induction m with
  | nil => rfl
  | cons y r ih => rw [tot_cons, ih, List.length_cons]; omega
theorem length_put {l : List (Nm × α)} (h : Up l) (k : Nm) (v : α) : (put k v l).length = if get k l = none then l.length + 1 else l.length := by
  have a := tot_put (fun _ => 1) h k v
  rw [tot_one, tot_one] at a
  cases hg : get k l with
  | none => rw [hg] at a; simp only [Nat.add_zero] at a; rw [a]; rfl
  | some u => rw [hg] at a; simp only at a; simp; omega
theorem length_del_le (k : Nm) (l : List (Nm × α)) : (del k l).length ≤ l.length := List.length_filter_le _ _
theorem length_del_lt {l : List (Nm × α)} (h : Up l) {k : Nm} {v : α} (hg : get k l = some v) : (del k l).length + 1 = l.length := by
  have a := tot_del (fun _ => 1) h k
  rw [tot_one, tot_one, hg] at a
  simp only at a
  omega

/-! ### the map's datum -/
def toD (l : List (Nm × Nat)) : DataW Nat := .map (l.map fun p => (.string p.1, .held p.2))
theorem toD_put (k : Nm) (v : Nat) (l : List (Nm × Nat)) : (toD l).put (.string k) (.held v) = toD (put k v l) := by
  have h1 : ∀ (x : Nm × Nat) (l : List (Nm × Nat)), DataW.insert ((.string x.1, .held x.2) : Lit × DataW Nat) (l.map fun p => (.string p.1, .held p.2)) = (ins x l).map fun p => (.string p.1, .held p.2) := by
    intro x l
    induction l with
    | nil => rfl
    | cons y r ih =>
      simp only [List.map_cons, DataW.insert, ins, Lit.before]
      by_cases hb : bytesBefore x.1 y.1 = true
      · simp [hb]
      · simp [hb, ih]
  unfold toD put
  simp only [DataW.put]
  rw [← h1]
  congr 2
  rw [List.filter_map]
  congr 1
theorem toD_del (k : Nm) (l : List (Nm × Nat)) : (toD l).del (.string k) = toD (del k l) := by
  unfold toD del
  simp only [DataW.del]
  rw [List.filter_map]
  congr 2
theorem toD_at (k : Nm) (l : List (Nm × Nat)) (z : DataW Nat) : (toD l).atKey (.string k) z = match get k l with | some v => .held v | none => z := by
  unfold toD get
  simp only [DataW.atKey]
  rw [List.find?_map]
  simp only [Function.comp_def, Lit.sameKey]
  cases l.find? (fun p => p.1 == k) <;> rfl
theorem toD_has (k : Nm) (l : List (Nm × Nat)) : Maps.has (toD l) (.string k) = (get k l).isSome := by
  unfold toD get
  rw [Maps.has_eq]
  rw [List.any_map]
  simp only [Function.comp_def, Lit.sameKey, Option.isSome_map]
  rw [Bool.eq_iff_iff, List.find?_isSome, List.any_eq_true]
theorem toD_size (l : List (Nm × Nat)) : Maps.size (toD l) = l.length := by simp [toD, Maps.size_eq]
theorem toD_keys (l : List (Nm × Nat)) : strKeys (toD l) = l.map (·.1) := by
  simp [toD, strKeys, strOf, Function.comp_def]

end K
end Go.Proofs.YtogdjhhabcejgaaGreat

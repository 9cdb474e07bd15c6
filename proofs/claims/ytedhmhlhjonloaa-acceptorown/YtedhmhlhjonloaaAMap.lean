/-
  Lists by slots, and the map whose datum they are.
-/
import Derived.Test.YtedhmhlhjonloaaAEnt
import Derived.Maps.RangeWalk
import Derived.Maps.OwnSet
import Derived.Maps.OwnOps
import Derived.Deep.RegionHeld3
import Derived.Deep.QuietTactic
import Derived.BigQuiet
namespace Go.Proofs.Ytedhmhlhjonloaa
open Go.RowKit Go.Maps
set_option linter.unusedVariables false
namespace A
variable {α β : Type}
def ins (x : Int × α) : List (Int × α) → List (Int × α)
  | [] => [x]
  | y :: r => if x.1 < y.1 then x :: y :: r else y :: ins x r
def del (k : Int) (l : List (Int × α)) : List (Int × α) := l.filter (fun p => !(p.1 == k))
def put (k : Int) (v : α) (l : List (Int × α)) : List (Int × α) := ins (k, v) (del k l)
def get (k : Int) (l : List (Int × α)) : Option α := (l.find? (fun p => p.1 == k)).map (·.2)
def Up (l : List (Int × α)) : Prop := l.Pairwise (fun p q => p.1 < q.1)
def mp (f : α → β) (l : List (Int × α)) : List (Int × β) := l.map (fun p => (p.1, f p.2))

theorem ins_perm (x : Int × α) : ∀ l : List (Int × α), (ins x l).Perm (x :: l)
  | [] => List.Perm.refl _
  | y :: r => by
    unfold ins
    split
    · exact List.Perm.refl _
    · exact ((ins_perm x r).cons y).trans (List.Perm.swap x y r)
theorem put_perm (k : Int) (v : α) (l : List (Int × α)) : (put k v l).Perm ((k, v) :: del k l) := ins_perm _ _
theorem mem_del {k : Int} {l : List (Int × α)} {p : Int × α} : p ∈ del k l ↔ p ∈ l ∧ p.1 ≠ k := by
  simp [del, List.mem_filter]
theorem mem_put {k : Int} {v : α} {l : List (Int × α)} {p : Int × α} : p ∈ put k v l ↔ p = (k, v) ∨ (p ∈ l ∧ p.1 ≠ k) := by
  rw [(put_perm k v l).mem_iff, List.mem_cons, mem_del]
theorem Up.del {l : List (Int × α)} (h : Up l) (k : Int) : Up (del k l) := List.Pairwise.filter _ h
theorem Up.ins {x : Int × α} : ∀ {l : List (Int × α)}, Up l → (∀ p ∈ l, p.1 ≠ x.1) → Up (ins x l)
  | [], _, _ => by simp [A.ins, Up]
  | y :: r, h, hn => by
    unfold A.ins
    unfold Up at h
    rw [List.pairwise_cons] at h
    split
    · rename_i hb
      refine List.pairwise_cons.2 ⟨fun p hp => ?_, List.pairwise_cons.2 h⟩
      rcases List.mem_cons.1 hp with rfl | hp
      · exact hb
      · exact Int.lt_trans hb (h.1 p hp)
    · rename_i hb
      have hyx : y.1 < x.1 := by
        have := hn y (by simp)
        omega
      refine List.pairwise_cons.2 ⟨fun p hp => ?_, Up.ins h.2 (fun p hp => hn p (by simp [hp]))⟩
      rcases List.mem_cons.1 ((ins_perm x r).mem_iff.1 hp) with rfl | hp
      · exact hyx
      · exact h.1 p hp
theorem Up.put {l : List (Int × α)} (h : Up l) (k : Int) (v : α) : Up (put k v l) := Up.ins (h.del k) (fun p hp => (mem_del.1 hp).2)
theorem Up.inj {l : List (Int × α)} (h : Up l) {p q : Int × α} (hp : p ∈ l) (hq : q ∈ l) (e : p.1 = q.1) : p = q := by
  induction l with
  | nil => cases hp
  | cons y r ih =>
    unfold Up at h
    rw [List.pairwise_cons] at h
    rcases List.mem_cons.1 hp with e1 | hp1
    · rcases List.mem_cons.1 hq with e2 | hq1
      · rw [e1, e2]
      · subst e1; exact absurd e (by have := h.1 q hq1; omega)
    · rcases List.mem_cons.1 hq with e2 | hq1
      · subst e2; exact absurd e.symm (by have := h.1 p hp1; omega)
      · exact ih h.2 hp1 hq1
theorem get_mem {k : Int} {l : List (Int × α)} {v : α} (h : get k l = some v) : (k, v) ∈ l := by
  unfold get at h
  rw [Option.map_eq_some_iff] at h
  obtain ⟨p, hp, rfl⟩ := h
  have h1 := List.mem_of_find?_eq_some hp
  have h2 := List.find?_some hp
  simp at h2
  subst h2
  exact h1
theorem get_of_mem {l : List (Int × α)} (h : Up l) {k : Int} {v : α} (hm : (k, v) ∈ l) : get k l = some v := by
  cases hg : get k l with
  | none =>
    unfold get at hg
    rw [Option.map_eq_none_iff, List.find?_eq_none] at hg
    have := hg _ hm
    simp at this
  | some u =>
    have := h.inj (get_mem hg) hm rfl
    simp at this
    rw [this]
theorem get_none {k : Int} {l : List (Int × α)} : get k l = none ↔ ∀ p ∈ l, p.1 ≠ k := by
  unfold get
  rw [Option.map_eq_none_iff, List.find?_eq_none]
  simp
theorem get_put_same {l : List (Int × α)} (h : Up l) (k : Int) (v : α) : get k (put k v l) = some v := get_of_mem (h.put k v) (mem_put.2 (.inl rfl))
theorem get_ext {l : List (Int × α)} (h : Up l) {k : Int} {o : Option α} (ho : ∀ v, o = some v ↔ (k, v) ∈ l) : get k l = o := by
  cases o with
  | some v => exact get_of_mem h ((ho v).1 rfl)
  | none =>
    rw [get_none]
    rintro ⟨a, b⟩ hp rfl
    cases (ho b).2 hp
theorem get_iff {l : List (Int × α)} (h : Up l) {k : Int} {v : α} : get k l = some v ↔ (k, v) ∈ l := ⟨get_mem, get_of_mem h⟩
theorem get_put_other {l : List (Int × α)} (h : Up l) {k n : Int} (hn : n ≠ k) (v : α) : get n (put k v l) = get n l :=
  get_ext (h.put k v) (fun u => by rw [get_iff h, mem_put]; simp [hn])
theorem get_del_same (k : Int) (l : List (Int × α)) : get k (del k l) = none := get_none.2 (fun p hp => (mem_del.1 hp).2)
theorem get_del_other {l : List (Int × α)} (h : Up l) {k n : Int} (hn : n ≠ k) : get n (del k l) = get n l :=
  get_ext (h.del k) (fun u => by rw [get_iff h, mem_del]; simp [hn])
theorem up_ext : ∀ {l m : List (Int × α)}, Up l → Up m → (∀ p, p ∈ l ↔ p ∈ m) → l = m
  | [], [], _, _, _ => rfl
  | [], y :: r, _, _, h => by have := (h y).2 (by simp); cases this
  | x :: r, [], _, _, h => by have := (h x).1 (by simp); cases this
  | x :: r, y :: s, hl, hm, h => by
    have hl' := hl
    have hm' := hm
    unfold Up at hl hm
    rw [List.pairwise_cons] at hl hm
    have e : x = y := by
      have h1 := (h x).1 (by simp)
      have h2 := (h y).2 (by simp)
      rcases List.mem_cons.1 h1 with e | h1
      · exact e
      · rcases List.mem_cons.1 h2 with e | h2
        · exact e.symm
        · have a := hl.1 y h2
          have b := hm.1 x h1
          omega
    subst e
    rw [up_ext hl.2 hm.2 (fun p => ⟨fun hp => ?_, fun hp => ?_⟩)]
    · rcases List.mem_cons.1 ((h p).1 (by simp [hp])) with rfl | h1
      · exact absurd rfl (Int.ne_of_lt (hl.1 p hp))
      · exact h1
    · rcases List.mem_cons.1 ((h p).2 (by simp [hp])) with rfl | h1
      · exact absurd rfl (Int.ne_of_lt (hm.1 p hp))
      · exact h1

/-! ### maps of such lists -/

theorem get_mp (f : α → β) (k : Int) (l : List (Int × α)) : get k (mp f l) = (get k l).map f := by
  unfold get mp
  rw [List.find?_map]
  simp only [Function.comp_def, Option.map_map]
theorem length_mp (f : α → β) (l : List (Int × α)) : (mp f l).length = l.length := by simp [mp]
theorem mem_mp {f : α → β} {l : List (Int × α)} {p : Int × β} : p ∈ mp f l ↔ ∃ q ∈ l, (q.1, f q.2) = p := by simp [mp]
theorem Up.mp {l : List (Int × α)} (h : Up l) (f : α → β) : Up (mp f l) := by
  unfold Up A.mp
  rw [List.pairwise_map]
  exact h
theorem mp_ins (f : α → β) (x : Int × α) : ∀ l : List (Int × α), mp f (ins x l) = ins (x.1, f x.2) (mp f l)
  | [] => rfl
  | y :: r => by
    have ih := mp_ins f x r
    have e : mp f (y :: r) = (y.1, f y.2) :: mp f r := rfl
    rw [e]
    unfold ins
    by_cases hb : x.1 < y.1
    · rw [if_pos hb, if_pos hb]; rfl
    · rw [if_neg hb, if_neg hb, ← ih]; rfl
theorem mp_del (f : α → β) (k : Int) (l : List (Int × α)) : mp f (del k l) = del k (mp f l) := by
  unfold mp del
  rw [List.filter_map]
  rfl
theorem mp_put (f : α → β) (k : Int) (v : α) (l : List (Int × α)) : mp f (put k v l) = put k (f v) (mp f l) := by
  unfold put
  rw [mp_ins, mp_del]
theorem length_put_le (k : Int) (v : α) (l : List (Int × α)) : (put k v l).length ≤ l.length + 1 := by
  rw [(put_perm k v l).length_eq, List.length_cons]
  exact Nat.succ_le_succ (List.length_filter_le _ _)
/-! ### the map's datum -/
theorem same_int (a b : Int) : (Lit.int .i64 a).sameKey (.int .i64 b) = (a == b) := by rw [Bool.eq_iff_iff]; simp [Lit.sameKey]
def toD (l : List (Int × Nat)) : DataW Nat := .map (l.map fun p => (.int .i64 p.1, .held p.2))
theorem toD_put (k : Int) (v : Nat) (l : List (Int × Nat)) : (toD l).put (.int .i64 k) (.held v) = toD (put k v l) := by
  have h1 : ∀ (x : Int × Nat) (l : List (Int × Nat)), DataW.insert ((.int .i64 x.1, .held x.2) : Lit × DataW Nat) (l.map fun p => (.int .i64 p.1, .held p.2)) = (ins x l).map fun p => (.int .i64 p.1, .held p.2) := by
    intro x l
    induction l with
    | nil => rfl
    | cons y r ih =>
      simp only [List.map_cons, DataW.insert, ins, Lit.before]
      by_cases hb : x.1 < y.1
      · simp [hb]
      · simp [hb, ih]
  unfold toD put
  simp only [DataW.put]
  rw [← h1]
  congr 2
  unfold del
  rw [List.filter_map]
  congr 1
  exact List.filter_congr (fun p _ => by simp [same_int])
theorem toD_del (k : Int) (l : List (Int × Nat)) : (toD l).del (.int .i64 k) = toD (del k l) := by
  unfold toD del
  simp only [DataW.del]
  rw [List.filter_map]
  congr 2
  exact List.filter_congr (fun p _ => by simp [same_int])
theorem toD_at (k : Int) (l : List (Int × Nat)) (z : DataW Nat) : (toD l).atKey (.int .i64 k) z = match get k l with | some v => .held v | none => z := by
  unfold toD get
  simp only [DataW.atKey]
  rw [List.find?_map]
  simp only [Function.comp_def, same_int]
  cases l.find? (fun p => p.1 == k) <;> rfl
theorem toD_has (k : Int) (l : List (Int × Nat)) : Maps.has (toD l) (.int .i64 k) = (get k l).isSome := by
  unfold toD get
  rw [Maps.has_eq]
  rw [List.any_map]
  simp only [Function.comp_def, same_int, Option.isSome_map]
  rw [Bool.eq_iff_iff, List.find?_isSome, List.any_eq_true]
theorem toD_size (l : List (Int × Nat)) : Maps.size (toD l) = l.length := by simp [toD, Maps.size_eq]
end A

/-- how an element of the map reads: as its block's number -/
def slElem : Value → Option (DataW Nat × List MemPlace)
  | .pointer (some ⟨g, 0, none⟩) => some (.held g, [])
  | .pointer none => some (.nil, [])
  | _ => none
theorem slElem_inv {v : Value} {y : DataW Nat × List MemPlace} (h : slElem v = some y) : (∃ g, v = .pointer (some ⟨g, 0, none⟩) ∧ y = (.held g, [])) ∨ (v = .pointer none ∧ y = (.nil, [])) := by
  unfold slElem at h
  split at h
  · cases h; exact .inl ⟨_, rfl, rfl⟩
  · cases h; exact .inr ⟨rfl, rfl⟩
  · cases h
theorem keyedI : Keyed Try.prog 2 := int_keyed Try.underlying2
theorem zeroSl (w : World) : (zeroValue 93).run Try.prog w = .ok (.pointer none) w := by kernel_rfl
abbrev OMi (w : World) (mb : Nat) (l : List (Int × Nat)) : Prop := w.ownsMap Try.prog 2 slElem mb l.length (A.toD l)
theorem OMi.tight {w : World} {mb n : Nat} {l : List (Int × Nat)} (h : w.ownsMap Try.prog 2 slElem mb n (A.toD l)) : OMi w mb l := by
  obtain ⟨es, clock, hb, F, hs, hD⟩ := h
  refine ⟨es, clock, hb, F, ?_, hD⟩
  have := congrArg Maps.size hD
  rw [A.toD_size, Maps.size_eq, length_read] at this
  omega
theorem OMi.kept {S : Nat → Prop} {w w' : World} {mb : Nat} {l : List (Int × Nat)} (h : OMi w mb l) (hf : Fr S w w') (hS : ¬ S mb) : OMi w' mb l := by
  obtain ⟨es, clock, hb, r⟩ := h
  exact ⟨es, clock, hf.cells hb hS, r⟩
theorem rangesI_kept {S : Nat → Prop} {w w' : World} {b r n cnt : Nat} {D : DataW Nat} {left : Lit → Bool} (h : w.ranges Try.prog 2 slElem b r n D left cnt) (hf : Fr S w w') (hb : ¬ S b) (hr : ¬ S r) : w'.ranges Try.prog 2 slElem b r n D left cnt := by
  obtain ⟨es, clock, since, seen, c0, h1, h2, h3, h4, h5, h6⟩ := h
  exact ⟨es, clock, since, seen, c0, hf.cells h1 hb, h2, h3, h4, hf.cells h5 hr, h6⟩
theorem wfI {x : Int} (h1 : -9223372036854775808 ≤ x) (h2 : x ≤ 9223372036854775807) : (Lit.int .i64 x).wf = true := by
  simp [Lit.wf, IntKind.min, IntKind.max, IntKind.signed, IntKind.bits]
  omega
end Go.Proofs.Ytedhmhlhjonloaa

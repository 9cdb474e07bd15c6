/-
  Plain trees: those under a node.
-/
import Derived.Test.YtldldmgpjhokgabGreatTMem
namespace Go.Proofs.YtldldmgpjhokgabGreat
set_option linter.unusedVariables false
set_option maxRecDepth 100000
namespace T
/-- a list of numbers rises -/
def Rise (l : List Int) : Prop := l.Pairwise (· < ·)
def insI (n : Int) : List Int → List Int
  | [] => [n]
  | y :: r => if n < y then n :: y :: r else y :: insI n r
theorem mem_insI {n k : Int} : ∀ {l : List Int}, k ∈ insI n l ↔ k = n ∨ k ∈ l
  | [] => by simp [insI]
  | y :: r => by
    unfold insI
    split
    · simp
    · simp only [List.mem_cons, mem_insI (l := r)]
      constructor
      · rintro (h | h | h) <;> simp [h]
      · rintro (h | h | h) <;> simp [h]
theorem Rise.insI {n : Int} : ∀ {l : List Int}, Rise l → n ∉ l → Rise (T.insI n l)
  | [], _, _ => by simp [T.insI, Rise]
  | y :: r, h, hn => by
    unfold T.insI
    unfold Rise at h
    rw [List.pairwise_cons] at h
    split
    · rename_i hb
      exact List.pairwise_cons.2 ⟨fun k hk => by
        rcases List.mem_cons.1 hk with rfl | hk
        · exact hb
        · exact Int.lt_trans hb (h.1 k hk), List.pairwise_cons.2 h⟩
    · rename_i hb
      refine List.pairwise_cons.2 ⟨fun k hk => ?_, Rise.insI h.2 (fun h => hn (by simp [h]))⟩
      rcases mem_insI.1 hk with rfl | hk
      · have : k ≠ y := fun e => hn (by simp [e])
        omega
      · exact h.1 k hk
theorem rise_ext : ∀ {l m : List Int}, Rise l → Rise m → (∀ k, k ∈ l ↔ k ∈ m) → l = m
  | [], [], _, _, _ => rfl
  | [], y :: r, _, _, h => by have := (h y).2 (by simp); cases this
  | x :: r, [], _, _, h => by have := (h x).1 (by simp); cases this
  | x :: r, y :: s, hl, hm, h => by
    unfold Rise at hl hm
    rw [List.pairwise_cons] at hl hm
    have e : x = y := by
      rcases List.mem_cons.1 ((h x).1 (by simp)) with e | h1
      · exact e
      · rcases List.mem_cons.1 ((h y).2 (by simp)) with e | h2
        · exact e.symm
        · have a := hl.1 y h2
          have b := hm.1 x h1
          omega
    subst e
    rw [rise_ext hl.2 hm.2 (fun k => ⟨fun hk => ?_, fun hk => ?_⟩)]
    · rcases List.mem_cons.1 ((h k).1 (by simp [hk])) with rfl | h1
      · exact absurd (hl.1 k hk) (by omega)
      · exact h1
    · rcases List.mem_cons.1 ((h k).2 (by simp [hk])) with rfl | h1
      · exact absurd (hm.1 k hk) (by omega)
      · exact h1
theorem mem_kids {t : Tr} (ht : A.Up t) {m k : Int} {s : ByteArray} : k ∈ kids t m s ↔ 2 < k ∧ ∃ y, A.get k t = some y ∧ y.par = m ∧ y.nm = s := by
  unfold kids
  simp only [List.mem_map, List.mem_filter, Bool.and_eq_true, decide_eq_true_eq, beq_iff_eq]
  constructor
  · rintro ⟨⟨a, y⟩, ⟨h1, h2, h3, h4⟩, rfl⟩
    exact ⟨h2, y, A.get_of_mem ht h1, h3, h4⟩
  · rintro ⟨h2, y, h1, h3, h4⟩
    exact ⟨(k, y), ⟨A.get_mem h1, h2, h3, h4⟩, rfl⟩
theorem rise_kids {t : Tr} (ht : A.Up t) (m : Int) (s : ByteArray) : Rise (kids t m s) := by
  unfold kids Rise
  rw [List.pairwise_map]
  exact List.Pairwise.filter _ ht
/-- a node comes to stand under another one -/
theorem kids_put {t : Tr} (ht : A.Up t) {n : Int} (hn : 2 < n) (x : Nd) {m : Int} (s : ByteArray) (hx : ∀ y, A.get n t = some y → y.par ≠ m) :
    kids (A.put n x t) m s = if m = x.par ∧ s = x.nm then insI n (kids t m s) else kids t m s := by
  have hnot : n ∉ kids t m s := fun h => by
    obtain ⟨_, y, h1, h2, _⟩ := (mem_kids ht).1 h
    exact hx y h1 h2
  have key : ∀ k, k ∈ kids (A.put n x t) m s ↔ (k = n ∧ m = x.par ∧ s = x.nm) ∨ k ∈ kids t m s := fun k => by
    rw [mem_kids (ht.put n x), mem_kids ht]
    by_cases e : k = n
    · subst e
      rw [A.get_put_same ht]
      constructor
      · rintro ⟨h1, y, h2, h3, h4⟩
        cases h2
        exact .inl ⟨rfl, h3.symm, h4.symm⟩
      · rintro (⟨_, h1, h2⟩ | ⟨h1, y, h2, h3, _⟩)
        · exact ⟨hn, x, rfl, h1.symm, h2.symm⟩
        · exact absurd h3 (hx y h2)
    · rw [A.get_put_other ht e]
      constructor
      · exact .inr
      · rintro (⟨h, _⟩ | h)
        · exact absurd h e
        · exact h
  by_cases e : m = x.par ∧ s = x.nm
  · rw [if_pos e]
    refine rise_ext (rise_kids (ht.put n x) m s) ((rise_kids ht m s).insI hnot) (fun k => ?_)
    rw [key, mem_insI]
    simp [e]
  · rw [if_neg e]
    refine rise_ext (rise_kids (ht.put n x) m s) (rise_kids ht m s) (fun k => ?_)
    rw [key]
    constructor
    · rintro (⟨_, h⟩ | h)
      · exact absurd h e
      · exact h
    · exact .inr
end T
end Go.Proofs.YtldldmgpjhokgabGreat

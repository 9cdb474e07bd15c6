/-
  Paxos, in plain words: what leaders with rising rounds, each keeping the leader's rule, leave in acceptors that are asked for one slot.
-/
import Derived.Test.YtedhmhlhjonloaaACollect
namespace Go.Proofs.Ytedhmhlhjonloaa
set_option linter.unusedVariables false
set_option linter.unusedSimpArgs false
/-- AN ACCEPTOR OF WHICH ONLY SLOT 0 WAS ASKED, by leaders with rounds up to i. -/
structure A.Sole (i : Int) (a : A.Ac) : Prop where
  fs : a.fs = 0
  pr : a.pr.1 ≤ i
  l : a.l = [] ∨ ∃ s, a.l = [(0, s)] ∧ s.slot = 0 ∧ 1 ≤ s.bl.1 ∧ s.bl.1 ≤ i ∧ s.en.ops = [] ∧ s.en.dt = []
theorem A.Sole.up {i j : Int} {a : A.Ac} (h : A.Sole i a) (hj : i ≤ j) : A.Sole j a :=
  ⟨h.fs, Int.le_trans h.pr hj, h.l.elim .inl (fun ⟨s, h1, h2, h3, h4, h5⟩ => .inr ⟨s, h1, h2, h3, Int.le_trans h4 hj, h5⟩)⟩
/-- what it has accepted -/
def A.vote (a : A.Ac) : Option A.Sd := a.l.head?.map (·.2)
/-- whether that is with a round from c on -/
def A.ge (c : Int) (a : A.Ac) : Bool := match A.vote a with
  | some s => decide (c ≤ s.bl.1)
  | none => false
/-- behind a leader's promises by the first k -/
def A.prep (f : Nat → Bool) (b : A.Bl) (sv : Nat → A.Ac) (k : Nat) : Nat → A.Ac := fun j => if j < k ∧ f j = true then { sv j with pr := b } else sv j
/-- behind its acceptances by the first k -/
def A.accs (g : Nat → Bool) (b : A.Bl) (e : A.En) (sv : Nat → A.Ac) (k : Nat) : Nat → A.Ac := fun j => if j < k ∧ g j = true then { sv j with pr := b, l := [(0, ⟨0, b, e⟩)] } else sv j
/-- the best of what the first k tell, beside z -/
def A.better (z : A.Sd) (v : Option A.Sd) : A.Sd := match v with
  | some s => if 0 < A.cmp s.bl z.bl then s else z
  | none => z
def A.best (z : A.Sd) (f : Nat → Bool) (sv : Nat → A.Ac) : Nat → A.Sd
  | 0 => z
  | k + 1 => if f k = true then A.better (A.best z f sv k) (A.vote (sv k)) else A.best z f sv k
def A.cnt (f : Nat → Bool) (k : Nat) : Nat := (List.range k).countP f
theorem A.cnt_succ (f : Nat → Bool) (k : Nat) : A.cnt f (k + 1) = A.cnt f k + if f k = true then 1 else 0 := by
  unfold A.cnt
  rw [List.range_succ, List.countP_append]
  simp [List.countP_cons]
theorem A.cnt_le (f : Nat → Bool) (k : Nat) : A.cnt f k ≤ k := by
  unfold A.cnt
  have := List.countP_le_length (p := f) (l := List.range k)
  simpa using this
/-- two majorities meet -/
theorem A.meet (f g : Nat → Bool) : ∀ k : Nat, k < A.cnt f k + A.cnt g k → ∃ j, j < k ∧ f j = true ∧ g j = true
  | 0, h => by simp [A.cnt] at h
  | k + 1, h => by
    rw [A.cnt_succ, A.cnt_succ] at h
    by_cases h1 : f k = true
    · by_cases h2 : g k = true
      · exact ⟨k, by omega, h1, h2⟩
      · obtain ⟨j, hj, h3, h4⟩ := A.meet f g k (by simp [h1, h2] at h; omega)
        exact ⟨j, by omega, h3, h4⟩
    · obtain ⟨j, hj, h3, h4⟩ := A.meet f g k (by
        simp [h1] at h
        split at h <;> omega)
      exact ⟨j, by omega, h3, h4⟩
theorem A.cnt_mono {f g : Nat → Bool} : ∀ k : Nat, (∀ j, j < k → f j = true → g j = true) → A.cnt f k ≤ A.cnt g k
  | 0, _ => by simp [A.cnt]
  | k + 1, h => by
    rw [A.cnt_succ, A.cnt_succ]
    have h1 := A.cnt_mono k (fun j hj => h j (by omega))
    have h2 := h k (by omega)
    by_cases h3 : f k = true
    · simp [h3, h2 h3]; omega
    · simp [h3]; omega
theorem A.vote_of {i : Int} {a : A.Ac} (h : A.Sole i a) : (A.vote a = none ∧ a.l = []) ∨ ∃ s, A.vote a = some s ∧ a.l = [(0, s)] ∧ s.slot = 0 ∧ 1 ≤ s.bl.1 ∧ s.bl.1 ≤ i ∧ s.en.ops = [] ∧ s.en.dt = [] := by
  rcases h.l with h1 | ⟨s, h1, h2⟩
  · exact .inl ⟨by simp [A.vote, h1], h1⟩
  · exact .inr ⟨s, by simp [A.vote, h1], h1, h2⟩
/-- what the best is -/
theorem A.best_is (z : A.Sd) (f : Nat → Bool) (sv : Nat → A.Ac) : ∀ k : Nat, A.best z f sv k = z ∨ ∃ j, j < k ∧ f j = true ∧ A.vote (sv j) = some (A.best z f sv k)
  | 0 => .inl rfl
  | k + 1 => by
    have ih := A.best_is z f sv k
    unfold A.best
    by_cases h1 : f k = true
    · rw [if_pos h1]
      cases hv : A.vote (sv k) with
      | none =>
        simp only [A.better]
        rcases ih with ih | ⟨j, hj, h2, h3⟩
        · exact .inl ih
        · exact .inr ⟨j, by omega, h2, h3⟩
      | some s =>
        simp only [A.better]
        split
        · exact .inr ⟨k, by omega, h1, hv⟩
        · rcases ih with ih | ⟨j, hj, h2, h3⟩
          · exact .inl ih
          · exact .inr ⟨j, by omega, h2, h3⟩
    · rw [if_neg h1]
      rcases ih with ih | ⟨j, hj, h2, h3⟩
      · exact .inl ih
      · exact .inr ⟨j, by omega, h2, h3⟩
theorem A.cmp_pos {a b : A.Bl} (h : 0 < A.cmp a b) : b.1 ≤ a.1 := by
  unfold A.cmp A.le at h
  simp only [decide_eq_false_iff_not] at h
  split at h
  · omega
  · split at h <;> omega
theorem A.cmp_npos {a b : A.Bl} (h : ¬ 0 < A.cmp a b) : a.1 ≤ b.1 := by
  unfold A.cmp A.le at h
  simp only [decide_eq_false_iff_not] at h
  split at h
  · omega
  · split at h <;> omega
theorem A.best_ge (z : A.Sd) (f : Nat → Bool) (sv : Nat → A.Ac) : ∀ k : Nat, z.bl.1 ≤ (A.best z f sv k).bl.1 ∧ ∀ j s, j < k → f j = true → A.vote (sv j) = some s → s.bl.1 ≤ (A.best z f sv k).bl.1
  | 0 => ⟨Int.le_refl _, fun j s h => by omega⟩
  | k + 1 => by
    obtain ⟨i1, i2⟩ := A.best_ge z f sv k
    unfold A.best
    by_cases h1 : f k = true
    · rw [if_pos h1]
      cases hv : A.vote (sv k) with
      | none =>
        simp only [A.better]
        refine ⟨i1, fun j s hj h2 h3 => ?_⟩
        by_cases hjk : j = k
        · subst hjk; rw [hv] at h3; cases h3
        · exact i2 j s (by omega) h2 h3
      | some s0 =>
        simp only [A.better]
        split
        · rename_i hc
          have hc := A.cmp_pos hc
          refine ⟨by omega, fun j s hj h2 h3 => ?_⟩
          by_cases hjk : j = k
          · subst hjk; rw [hv] at h3; cases h3; exact Int.le_refl _
          · have := i2 j s (by omega) h2 h3; omega
        · rename_i hc
          have hc := A.cmp_npos hc
          refine ⟨i1, fun j s hj h2 h3 => ?_⟩
          by_cases hjk : j = k
          · subst hjk; rw [hv] at h3; cases h3; exact hc
          · exact i2 j s (by omega) h2 h3
    · rw [if_neg h1]
      refine ⟨i1, fun j s hj h2 h3 => ?_⟩
      by_cases hjk : j = k
      · subst hjk; exact absurd h2 h1
      · exact i2 j s (by omega) h2 h3
/-- WHAT STAYS TRUE: behind i leaders, with what is chosen. -/
structure A.Pax (many : Nat) (i : Nat) (sv : Nat → A.Ac) (ch : List A.En) : Prop where
  sole : ∀ j, j < many → A.Sole i (sv j)
  ch : ch = [] ∨ ∃ (c : Int) (e : A.En), 1 ≤ c ∧ (∀ x ∈ ch, x = e) ∧ many < 2 * A.cnt (fun j => A.ge c (sv j)) many ∧ ∀ j s, j < many → A.vote (sv j) = some s → c ≤ s.bl.1 → s.en = e
theorem A.pax_new (many : Nat) : A.Pax many 0 (fun _ => A.new) [] := ⟨fun j _ => ⟨rfl, Int.le_refl _, .inl rfl⟩, .inl rfl⟩
theorem A.prep_vote (f : Nat → Bool) (b : A.Bl) (sv : Nat → A.Ac) (k j : Nat) : (A.prep f b sv k j).l = (sv j).l := by
  unfold A.prep
  split <;> rfl
theorem A.prep_sole {many i : Nat} {sv : Nat → A.Ac} {f : Nat → Bool} {b : A.Bl} {k j : Nat} (h : A.Sole i (sv j)) (hb : b.1 = (i : Int) + 1) : A.Sole ((i : Int) + 1) (A.prep f b sv k j) := by
  unfold A.prep
  split
  · exact ⟨h.fs, by simp [hb], h.l.elim .inl (fun ⟨s, h1, h2, h3, h4, h5⟩ => .inr ⟨s, h1, h2, h3, by omega, h5⟩)⟩
  · exact h.up (by omega)
theorem A.prep_le {i : Nat} {sv : Nat → A.Ac} {f : Nat → Bool} {b : A.Bl} {k j : Nat} (h : A.Sole i (sv j)) (hb : b.1 = (i : Int) + 1) : A.le (A.prep f b sv k j).pr b = true := by
  unfold A.prep A.le
  have := h.pr
  split
  · simp
  · rw [decide_eq_true_eq]; omega
/-- the leader gets no majority: what was chosen stays -/
theorem A.pax_prep {many i : Nat} {sv : Nat → A.Ac} {ch : List A.En} (h : A.Pax many i sv ch) (f : Nat → Bool) {b : A.Bl} (hb : b.1 = (i : Int) + 1) (k : Nat) : A.Pax many (i + 1) (A.prep f b sv k) ch := by
  have hv : ∀ j, A.vote (A.prep f b sv k j) = A.vote (sv j) := fun j => by unfold A.vote; rw [A.prep_vote]
  refine ⟨fun j hj => by have := A.prep_sole (many := many) (f := f) (k := k) (h.sole j hj) hb; simpa using this, ?_⟩
  rcases h.ch with h1 | ⟨c, e, h1, h2, h3, h4⟩
  · exact .inl h1
  · refine .inr ⟨c, e, h1, h2, ?_, fun j s hj hs => by rw [hv] at hs; exact h4 j s hj hs⟩
    have : (fun j => A.ge c (A.prep f b sv k j)) = (fun j => A.ge c (sv j)) := by
      funext j
      unfold A.ge
      rw [hv]
    rw [this]
    exact h3
/-- WHAT A LEADER WITH A MAJORITY SAYS, AND WHO ACCEPTS IT. -/
theorem A.pax_step {many i : Nat} {sv : Nat → A.Ac} {ch : List A.En} (h : A.Pax many i sv ch) (f g : Nat → Bool) {b : A.Bl} (hb : b.1 = (i : Int) + 1) (z : A.Sd) (hz : z.bl.1 = 0) (hzo : z.en.ops = [] ∧ z.en.dt = []) (own : A.En) (ho : own.ops = [] ∧ own.dt = []) (hmaj : many < 2 * A.cnt f many) {e : A.En} (he : e = if 0 < (A.best z f sv many).bl.1 then (A.best z f sv many).en else own) :
    (e.ops = [] ∧ e.dt = []) ∧ A.Pax many (i + 1) (A.accs g b e (A.prep f b sv many) many) (if many < 2 * A.cnt g many then ch ++ [e] else ch) := by
  have hflat : e.ops = [] ∧ e.dt = [] := by
    rw [he]
    split
    · rcases A.best_is z f sv many with h1 | ⟨j, hj, h2, h3⟩
      · rw [h1]; exact hzo
      · rcases A.vote_of (h.sole j hj) with ⟨h4, _⟩ | ⟨s, h4, _, _, _, _, h5, h6⟩
        · rw [h4] at h3; cases h3
        · rw [h4] at h3; cases h3; exact ⟨h5, h6⟩
    · exact ho
  refine ⟨hflat, ?_⟩
  have hpx := A.pax_prep h f hb many
  have hsole : ∀ j, j < many → A.Sole ((i : Int) + 1) (A.accs g b e (A.prep f b sv many) many j) := fun j hj => by
    have h1 := hpx.sole j hj
    unfold A.accs
    split
    · exact ⟨h1.fs, by simp [hb], .inr ⟨_, rfl, rfl, by simp [hb]; omega, by simp [hb], hflat⟩⟩
    · simpa using h1
  have hvg : ∀ j, j < many → g j = true → A.vote (A.accs g b e (A.prep f b sv many) many j) = some ⟨0, b, e⟩ := fun j hj hg => by
    unfold A.accs A.vote
    rw [if_pos ⟨hj, hg⟩]
    rfl
  have hvn : ∀ j, ¬ g j = true → A.vote (A.accs g b e (A.prep f b sv many) many j) = A.vote (sv j) := fun j hg => by
    unfold A.accs
    rw [if_neg (fun h => hg h.2)]
    unfold A.vote
    rw [A.prep_vote]
  refine ⟨fun j hj => by simpa using hsole j hj, ?_⟩
  rcases h.ch with h1 | ⟨c, e0, h1, h2, h3, h4⟩
  · -- nothing was chosen
    subst h1
    by_cases hm : many < 2 * A.cnt g many
    · rw [if_pos hm]
      refine .inr ⟨(i : Int) + 1, e, by omega, by simp, ?_, fun j s hj hs hc => ?_⟩
      · refine Nat.lt_of_lt_of_le hm (Nat.mul_le_mul_left 2 (A.cnt_mono many (fun j hj hg => ?_)))
        unfold A.ge
        rw [hvg j hj hg]
        simp [hb]
      · by_cases hg : g j = true
        · rw [hvg j hj hg] at hs
          cases hs
          rfl
        · rw [hvn j hg] at hs
          rcases A.vote_of (h.sole j hj) with ⟨h5, _⟩ | ⟨s', h5, _, _, _, h6, _⟩
          · rw [h5] at hs; cases hs
          · rw [h5] at hs
            cases hs
            omega
    · rw [if_neg hm]
      exact .inl rfl
  · -- e0 was chosen: the leader says it
    have hee : e = e0 := by
      obtain ⟨j, hj, h5, h6⟩ := A.meet f (fun j => A.ge c (sv j)) many (by omega)
      unfold A.ge at h6
      cases hv : A.vote (sv j) with
      | none => rw [hv] at h6; cases h6
      | some s =>
        rw [hv] at h6
        simp only [decide_eq_true_eq] at h6
        have h7 := (A.best_ge z f sv many).2 j s hj h5 hv
        rw [he, if_pos (by omega)]
        rcases A.best_is z f sv many with h8 | ⟨j', hj', h8, h9⟩
        · rw [h8] at h7; omega
        · exact h4 j' _ hj' h9 (by omega)
    have hall : ∀ j s, j < many → A.vote (A.accs g b e (A.prep f b sv many) many j) = some s → c ≤ s.bl.1 → s.en = e0 := fun j s hj hs hc => by
      by_cases hg : g j = true
      · rw [hvg j hj hg] at hs
        cases hs
        exact hee
      · rw [hvn j hg] at hs
        exact h4 j s hj hs hc
    have hc1 : c ≤ (i : Int) := by
      have h5 : 0 < A.cnt (fun j => A.ge c (sv j)) many := by omega
      obtain ⟨j, hj, h6, _⟩ := A.meet (fun j => A.ge c (sv j)) (fun _ => true) many (by
        have : A.cnt (fun _ => true) many = many := by simp [A.cnt]
        omega)
      unfold A.ge at h6
      rcases A.vote_of (h.sole j hj) with ⟨h7, _⟩ | ⟨s, h7, _, _, _, h8, _⟩
      · simp [h7] at h6
      · simp [h7] at h6
        omega
    refine .inr ⟨c, e0, h1, ?_, ?_, hall⟩
    · intro x hx
      split at hx
      · rcases List.mem_append.1 hx with hx | hx
        · exact h2 x hx
        · simp at hx; rw [hx]; exact hee
      · exact h2 x hx
    · refine Nat.lt_of_lt_of_le h3 (Nat.mul_le_mul_left 2 (A.cnt_mono many (fun j hj hg => ?_)))
      by_cases hgj : g j = true
      · unfold A.ge
        rw [hvg j hj hgj]
        simp [hb]
        omega
      · unfold A.ge at hg ⊢
        rw [hvn j hgj]
        exact hg
/-- one more promise -/
theorem A.prep_succ (f : Nat → Bool) (b : A.Bl) (sv : Nat → A.Ac) (k : Nat) : A.prep f b sv (k + 1) = if f k = true then (fun j => if j = k then { sv k with pr := b } else A.prep f b sv k j) else A.prep f b sv k := by
  by_cases h : f k = true
  · rw [if_pos h]
    funext j
    by_cases hj : j = k
    · subst hj; simp [A.prep, h]
    · simp only [A.prep, hj, if_false]
      by_cases h2 : j < k
      · simp [h2, show j < k + 1 by omega]
      · simp [h2, show ¬ j < k + 1 by omega]
  · rw [if_neg h]
    funext j
    by_cases hj : j = k
    · subst hj; simp [A.prep, h]
    · by_cases h2 : j < k
      · simp [A.prep, h2, show j < k + 1 by omega]
      · simp [A.prep, h2, show ¬ j < k + 1 by omega]
theorem A.prep_at (f : Nat → Bool) (b : A.Bl) (sv : Nat → A.Ac) (k : Nat) : A.prep f b sv k k = sv k := by simp [A.prep]
theorem A.accs_succ (f : Nat → Bool) (b : A.Bl) (e : A.En) (sv : Nat → A.Ac) (k : Nat) : A.accs f b e sv (k + 1) = if f k = true then (fun j => if j = k then { sv k with pr := b, l := [(0, ⟨0, b, e⟩)] } else A.accs f b e sv k j) else A.accs f b e sv k := by
  by_cases h : f k = true
  · rw [if_pos h]
    funext j
    by_cases hj : j = k
    · subst hj; simp [A.accs, h]
    · simp only [A.accs, hj, if_false]
      by_cases h2 : j < k
      · simp [h2, show j < k + 1 by omega]
      · simp [h2, show ¬ j < k + 1 by omega]
  · rw [if_neg h]
    funext j
    by_cases hj : j = k
    · subst hj; simp [A.accs, h]
    · by_cases h2 : j < k
      · simp [A.accs, h2, show j < k + 1 by omega]
      · simp [A.accs, h2, show ¬ j < k + 1 by omega]
theorem A.accs_at (f : Nat → Bool) (b : A.Bl) (e : A.En) (sv : Nat → A.Ac) (k : Nat) : A.accs f b e sv k k = sv k := by simp [A.accs]
/-- Prepare there -/
theorem A.prepare_sole {i : Nat} {a : A.Ac} (h : A.Sole i a) {b : A.Bl} (hb : b.1 = (i : Int) + 1) (ho : A.okB b = true) : A.prepare a b 0 = (0, (A.vote a).toList, { a with pr := b }) := by
  have hj : A.judge a b 0 = 0 := by
    unfold A.judge
    rw [if_pos ⟨ho, by decide⟩, if_pos (by unfold A.le; rw [decide_eq_true_eq]; have := h.pr; omega)]
  unfold A.prepare
  rw [hj, if_neg (fun h => h rfl)]
  rcases A.vote_of h with ⟨h1, h2⟩ | ⟨s, h1, h2, _⟩
  · rw [h1, h2]; rfl
  · rw [h1, h2]; rfl
/-- Accept there -/
theorem A.accept_sole {i : Int} {a : A.Ac} (h : A.Sole i a) {b : A.Bl} (hle : A.le a.pr b = true) (ho : A.okB b = true) (e : A.En) : A.accept a b 0 e = (0, { a with pr := b, l := [(0, ⟨0, b, e⟩)] }) := by
  have hj : A.judge a b 0 = 0 := by
    unfold A.judge
    rw [if_pos ⟨ho, by decide⟩, if_pos hle]
  unfold A.accept
  rw [hj, if_neg (fun h => h rfl), if_neg (by rw [h.fs]; omega)]
  rcases A.vote_of h with ⟨h1, h2⟩ | ⟨s, h1, h2, _⟩
  · simp [A.keep, h2, A.put, A.del, A.ins]
  · simp [A.keep, h2, A.put, A.del, A.ins]
end Go.Proofs.Ytedhmhlhjonloaa

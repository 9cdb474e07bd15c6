/-
  The plain mathematics of the one form: what is read is, put again, just the bytes that were taken.
-/
import Derived.Test.YtilliicanbbjkaaMaths2
import Derived.Test.YtilliicanbbjkaaBacks
namespace Go.Proofs.Ytilliicanbbjkaa
set_option linter.unusedVariables false
namespace M

theorem dec_one (bs : List UInt8) : ∀ i u v sz, dec bs i u = (v, sz, 0) → ∃ y, v = unfd (u + y * 2 ^ (7 * i)) ∧ enc y = bs.take (sz - i) ∧ (0 < i → y ≠ 0) ∧ i < sz := by
  induction bs with
  | nil => intro i u v sz h; simp [dec] at h
  | cons x r ih =>
    intro i u v sz h
    have hx := x.toNat_lt
    rw [dec] at h
    split at h
    · simp at h
    · split at h
      · rename_i h1 h2
        obtain ⟨y', e1, e2, e3, e4⟩ := ih _ _ _ _ h
        refine ⟨x.toNat % 128 + 128 * y', ?_, ?_, fun _ => by have := e3 (by omega); omega, by omega⟩
        · rw [e1]
          congr 1
          have h7 : 2 ^ (7 * (i + 1)) = 128 * 2 ^ (7 * i) := by rw [Nat.mul_add, Nat.pow_add, Nat.mul_comm]
          rw [h7, Nat.add_mul, ← Nat.mul_assoc, Nat.mul_comm 128 y', Nat.add_assoc]
        · have hy := e3 (by omega)
          rw [enc_big _ (by omega)]
          have a1 : (x.toNat % 128 + 128 * y') / 128 = y' := by omega
          have a2 : (x.toNat % 128 + 128 * y') % 128 + 128 = x.toNat := by omega
          rw [a1, a2, e2, show sz - i = (sz - (i + 1)) + 1 by omega, List.take_succ_cons]
          congr 1
          simp
      · split at h
        · simp at h
        · rename_i h1 h2 h3
          simp only [Prod.mk.injEq, and_true] at h
          obtain ⟨rfl, rfl⟩ := h
          refine ⟨x.toNat, ?_, ?_, fun hi e => h3 ⟨e, hi⟩, by omega⟩
          · rw [Nat.mod_eq_of_lt (by omega)]
          · rw [enc_small _ (by omega), Nat.add_sub_cancel_left]
            simp
theorem dec_range (bs : List UInt8) : ∀ i u v sz, i ≤ 9 → u < 2 ^ (7 * i) → dec bs i u = (v, sz, 0) → ∃ t, t < 18446744073709551616 ∧ v = unfd t := by
  induction bs with
  | nil => intro i u v sz _ _ h; simp [dec] at h
  | cons x r ih =>
    intro i u v sz hi hu h
    have hx := x.toNat_lt
    have hm := Nat.mod_lt x.toNat (show 128 > 0 by omega)
    rw [dec] at h
    split at h
    · simp at h
    · rename_i h9
      split at h
      · exact ih _ _ _ _ (by omega) (u_next u i _ hu hm) h
      · split at h
        · simp at h
        · simp only [Prod.mk.injEq, and_true] at h
          exact ⟨_, u_lt u i _ hi hu hm (fun e => by omega), h.1.symm⟩
theorem takeI_one (bs : List UInt8) (v : Int) (sz : Nat) (h : takeI bs = (v, sz, 0)) : enc (fd v) = bs.take sz ∧ -9223372036854775808 ≤ v ∧ v ≤ 9223372036854775807 := by
  obtain ⟨y, e1, e2, _, _⟩ := dec_one bs 0 0 v sz h
  simp at e1 e2
  have h1 : enc (fd v) = bs.take sz := by rw [e1, fd_unfd, e2]
  obtain ⟨t, ht, e⟩ := dec_range bs 0 0 v sz (by omega) (by omega) h
  rw [e] at h1 ⊢
  exact ⟨h1, unfd_lo t ht⟩
theorem takeL_one (bs : List UInt8) (n : Int) (sz : Nat) (h : takeL bs = (n, sz, 0)) : enc (fd n) = bs.take sz ∧ 0 ≤ n := by
  have hp := takeL_pos bs
  unfold takeL at h hp
  split at h
  · rename_i h1
    simp only [Prod.mk.injEq] at h
    exact absurd h.2.2 h1
  · split at h
    · simp at h
    · rename_i h1 h2
      refine ⟨(takeI_one bs n sz h).1, ?_⟩
      rw [h] at h2
      simpa using h2
theorem takeB_one (bs l : List UInt8) (sz : Nat) (h : takeB bs = (l, sz, 0)) : encB l = bs.take sz := by
  have hs := takeL_size bs
  unfold takeB at h
  split at h
  · rename_i h1
    simp only [Prod.mk.injEq] at h
    exact absurd h.2.2 h1
  · split at h
    · simp at h
    · rename_i h1 h2
      obtain ⟨n, s, e, ht⟩ : ∃ n s e, takeL bs = (n, s, e) := ⟨_, _, _, rfl⟩
      rw [ht] at h h1 h2 hs
      simp only [Prod.mk.injEq, and_true, ne_eq, Decidable.not_not] at h h1 h2 hs
      subst h1
      obtain ⟨e1, e2⟩ := takeL_one bs n s ht
      obtain ⟨rfl, rfl⟩ := h
      obtain ⟨m, rfl⟩ : ∃ m : Nat, n = (m : Int) := ⟨n.toNat, by omega⟩
      simp only [Int.toNat_natCast]
      have hl : ((bs.drop s).take m).length = m := by rw [List.length_take, List.length_drop]; omega
      unfold encB
      rw [hl, e1, List.take_add]
theorem takeF_one (bs : List UInt8) (y : Bool) (sz : Nat) (h : takeF bs = (y, sz, 0)) : enc (fd (if y then 1 else 0)) = bs.take sz := by
  unfold takeF at h
  split at h
  · rename_i h1
    simp only [Prod.mk.injEq] at h
    exact absurd h.2.2 h1
  · split at h
    · simp at h
    · rename_i h1 h2
      obtain ⟨n, s, e, ht⟩ : ∃ n s e, takeI bs = (n, s, e) := ⟨_, _, _, rfl⟩
      rw [ht] at h h1 h2
      simp only [Prod.mk.injEq, and_true, ne_eq, Decidable.not_not] at h h1 h2
      subst h1
      obtain ⟨rfl, rfl⟩ := h
      have h3 := (takeI_one bs n s ht).1
      by_cases e0 : n = 0
      · subst e0; exact h3
      · by_cases e1 : n = 1
        · subst e1; exact h3
        · exact absurd ⟨e0, e1⟩ h2
end M
end Go.Proofs.Ytilliicanbbjkaa

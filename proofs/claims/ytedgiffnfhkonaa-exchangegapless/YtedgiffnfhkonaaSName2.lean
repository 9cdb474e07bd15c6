/-
  The document's name.
-/
import Derived.Test.YtedgiffnfhkonaaSName
namespace Go.Proofs.Ytedgiffnfhkonaa
open Go.RowKit
set_option linter.unusedVariables false
set_option linter.unusedSimpArgs false

/-- what is wrong with a name -/
def S.nmr (s : ByteArray) : Int := if 255 < s.size then 3 else if S.nam s = true then 0 else 1
theorem run_str_byte (w : World) (s : ByteArray) (k : Nat) (x : UInt8) (h : s.data.toList[k]? = some x) :
    (Instr.index 9 (.string s) (.int .i64 (k : Int))).run Try.prog w = .ok (B x) w := by
  have hk : k < s.data.toList.length := by
    rcases Nat.lt_or_ge k s.data.toList.length with h1 | h1
    · exact h1
    · rw [List.getElem?_eq_none h1] at h; cases h
  have hk2 : k < s.size := by rw [Array.length_toList] at hk; exact hk
  have hi : (0 : Int) ≤ (k : Int) ∧ (k : Int) < (s.size : Int) := by omega
  rw [run_index_string (P := Try.prog) (w := w) 9 s .i64 (k : Int) Try.underlying9, dif_pos hi]
  have e2 : s.data.toList[k]? = some (s[(k : Int).toNat]'(by omega)) := by
    rw [List.getElem?_eq_getElem hk, Array.getElem_toList]
    rfl
  rw [h] at e2
  simp only [Option.some.injEq] at e2
  rw [← e2]
set_option maxHeartbeats 3200000 in
theorem rname_any (s : ByteArray) (w : World) : Calls Try.prog 27 #[.string s] w fun e w' => e = .returned (.int .i64 (S.nmr s)) ∧ w = w' := by
  by_cases hl : 255 < s.size
  · have h1 : (255 : Int) < (s.size : Int) := by omega
    rw [show S.nmr s = 3 by simp [S.nmr, hl]]
    go_enter Try.func27, Try.ntmps27
    go_wp2
    go_ret
    exact ⟨rfl, rfl⟩
  · have hl1 : ¬ (255 : Int) < (s.size : Int) := by omega
    have hlen : s.data.toList.length = s.size := by rw [Array.length_toList]; rfl
    by_cases hbad : s.toList.isEmpty = true ∨ (s.toList == [46]) = true ∨ (s.toList == [46, 46]) = true
    · rw [show S.nmr s = 1 by
        have : S.nam s = false := by
          unfold S.nam
          rcases hbad with h | h | h <;> simp [h]
        simp [S.nmr, hl, this]]
      cases h0 : s.toList.isEmpty <;> cases h1 : (s.toList == [46]) <;> cases h2 : (s.toList == [46, 46]) <;>
      · first
        | (exfalso; simp [h0, h1, h2] at hbad; done)
        | (clear hbad
           go_enter Try.func27, Try.ntmps27
           go_wp2
           all_goals (go_ret; exact ⟨rfl, rfl⟩))
    · have h0 : s.toList.isEmpty = false := by cases h : s.toList.isEmpty with | false => rfl | true => exact absurd (.inl h) hbad
      have h1 : (s.toList == [46]) = false := by cases h : (s.toList == [46]) with | false => rfl | true => exact absurd (.inr (.inl h)) hbad
      have h2 : (s.toList == [46, 46]) = false := by cases h : (s.toList == [46, 46]) with | false => rfl | true => exact absurd (.inr (.inr h)) hbad
      have HR := hid (show S.nmr s = if S.slash s = true then 1 else 0 by
        have : S.nam s = !S.slash s := by simp [S.nam, h0, h1, h2]
        simp only [S.nmr, if_neg hl, this]
        cases S.slash s <;> rfl)
      obtain ⟨n, hn⟩ : ∃ n, s.size = n := ⟨_, rfl⟩
      have HB := hid (fun w k x => run_str_byte w s k x)
      have HLEN := hid (hlen.trans hn)
      clear hbad hlen
      go_enter Try.func27, Try.ntmps27
      rw [hn] at hl hl1
      go_wp2
      go_loopw [3] (fun i wr => ∃ (k : Nat), k ≤ n ∧ i = .int .i64 k ∧ Hid (∀ j, j < k → s.data.toList[j]? ≠ some 47) ∧ wr = w) (fun i _ => n - (intOf i).toNat)
      case atStart => exact ⟨0, Nat.zero_le _, rfl, hid (fun j hj => by omega), rfl⟩
      case round =>
        obtain ⟨k, hk, rfl, HK, rfl⟩ := hrel
        by_cases hlt : k < n
        · obtain ⟨x, hx⟩ : ∃ x, s.data.toList[k]? = some x := ⟨_, List.getElem?_eq_getElem (by rw [HLEN.out]; exact hlt)⟩
          have HX := hid hx
          have IX := hid (fun W => HB.out W k x hx)
          have i0 : (0 : Int) ≤ (k : Int) := by omega
          have i1 : (k : Int) < (n : Int) := by omega
          clear hx
          by_cases h47 : x = 47
          · have HN := hid (show S.nmr s = 1 by
              have h5 : S.slash s = true := by
                simp only [S.slash, List.contains_iff_mem]
                rw [h47] at HX
                exact List.mem_of_getElem? HX.out
              rw [HR.out, if_pos h5])
            have hy : ((x.toNat : Int) == 47) = true := by rw [h47]; rfl
            unfold B at IX
            generalize (x.toNat : Int) = y at IX hy
            clear h47
            go_wp2_with (first
              | (refine wpList_index_v (IX.out _) (by exact ⟨_, _, rfl, rfl, rfl⟩) (by kernel_rfl) ?_))
            go_ret
            exact ⟨ret_int HN.out.symm, rfl⟩
          · have hy : ((x.toNat : Int) == 47) = false := by
              simp only [beq_eq_false_iff_ne, ne_eq]
              intro e
              apply h47
              apply UInt8.toNat_inj.1
              show x.toNat = 47
              omega
            have HK2 := hid (show ∀ j, j < k + 1 → s.data.toList[j]? ≠ some 47 from fun j hj => by
              by_cases e : j = k
              · subst e
                rw [HX.out]
                intro e2
                exact h47 (Option.some.inj e2)
              · exact HK.out j (by omega))
            unfold B at IX
            generalize (x.toNat : Int) = y at IX hy
            clear h47
            go_wp2_with (first
              | (refine wpList_index_v (IX.out _) (by exact ⟨_, _, rfl, rfl, rfl⟩) (by kernel_rfl) ?_))
            go_roundw
            case rel => exact ⟨k + 1, by omega, by first | go_num | trivial, HK2, by first | rfl | trivial⟩
            case measure => simp [intOf]; omega
        · obtain rfl : k = n := by omega
          have HN := hid (show S.nmr s = 0 by
            have h5 : S.slash s = false := by
              cases h : S.slash s with
              | false => rfl
              | true =>
                simp only [S.slash, List.contains_iff_mem] at h
                obtain ⟨j, hj⟩ := List.getElem?_of_mem h
                exact absurd hj (HK.out j (by have := (List.getElem?_eq_some_iff.1 hj).1; rw [HLEN.out] at this; exact this))
            rw [HR.out, h5]; rfl)
          go_wp2
          go_ret
          exact ⟨ret_int HN.out.symm, rfl⟩
end Go.Proofs.Ytedgiffnfhkonaa

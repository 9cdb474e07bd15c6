/-
  The contract of the document's check.
-/
import Derived.Test.YtogdjhhabcejgaaCrc
namespace Go.Proofs.Ytogdjhhabcejgaa
open Go.RowKit
set_option linter.unusedVariables false

set_option maxHeartbeats 400000 in
/-- the document's check -/
theorem refSum_any (a : Option Addr) (len cap : Nat) (bs : List UInt8) (w : World) (hb : Sl w a len bs) (hm : len ≤ 9223372036854775807) :
    Calls Try.prog 54 #[.slice a len cap] w fun e w' => e = .returned (.int .u32 (M.crc bs : Nat)) ∧ w = w' := by
  go_enter Try.func54, Try.ntmps54
  go_wp2
  go_loop [3, 4] (fun t i => ∃ k : Nat, k ≤ len ∧ i = .int .i64 k ∧ t = .int .u32 (M.crcL 4294967295 (bs.take k) : Nat)) (fun _ i => len - (intOf i).toNat)
  case atStart => exact ⟨0, by omega, rfl, rfl⟩
  case round =>
    obtain ⟨k, hk, rfl, rfl⟩ := hrel
    have hlt0 := M.crcL_lt (bs.take k) 4294967295 (by omega)
    obtain ⟨m, hm⟩ : ∃ m, m = M.crcL 4294967295 (bs.take k) := ⟨_, rfl⟩
    rw [← hm] at hlt0 ⊢
    have HM : Hid (m = M.crcL 4294967295 (bs.take k)) := hm
    clear hm
    by_cases hlt : k < len
    · obtain ⟨b, off, x, rfl, hx, hc⟩ := hb.at hlt
      have HX : Hid (bs[k]? = some x) := hx
      clear hx
      have hxl := x.toNat_lt
      have e0 : bits .xor .u32 (m : Int) (x.toNat : Int) = ((m ^^^ x.toNat : Nat) : Int) := u32_xor_nat _ _ hlt0 (by omega)
      have hs := M.xor_lt m x.toNat hlt0 (by omega)
      obtain ⟨s, hs'⟩ : ∃ s, s = m ^^^ x.toNat := ⟨_, rfl⟩
      rw [← hs'] at hs e0
      have HS : Hid (s = m ^^^ x.toNat) := hs'
      clear hs'
      go_wp2
      go_loop [3, 5] (fun t i => ∃ j : Nat, j ≤ 8 ∧ i = .int .i64 j ∧ t = .int .u32 (M.stN j s : Nat)) (fun _ i => 8 - (intOf i).toNat)
      case atStart => exact ⟨0, by omega, rfl, rfl⟩
      case round =>
        obtain ⟨j, hj, rfl, rfl⟩ := hrel
        have hb' := M.stN_lt j s hs
        obtain ⟨q, hq⟩ : ∃ q, q = M.stN j s := ⟨_, rfl⟩
        rw [← hq] at hb' ⊢
        have HQ : Hid (q = M.stN j s) := hq
        clear hq
        by_cases hjlt : j < 8
        · rcases Bool.eq_false_or_eq_true (((q : Int) % 2) == 1) with h2 | h2
          · go_wp2
            go_round
            case rel => exact ⟨j + 1, by omega, by go_num, by rw [st_one q hb' h2, HQ.out]; rfl⟩
            case measure => simp [intOf]; omega
          · go_wp2
            go_round
            case rel => exact ⟨j + 1, by omega, by go_num, by rw [st_zero q h2, HQ.out]; rfl⟩
            case measure => simp [intOf]; omega
        · go_wp2
          go_round
          case rel =>
            have : j = 8 := by omega
            subst this
            exact ⟨k + 1, by omega, by go_num, by rw [take_next HX.out, M.crcL_snoc, HQ.out, HS.out, HM.out]; rfl⟩
          case measure => simp [intOf]; omega
    · go_wp2
      go_ret
      have : k = len := by omega
      subst this
      exact ⟨ret_int (by rw [xor_max m hlt0, HM.out, List.take_of_length_le (by rw [hb.1]; exact Nat.le_refl _)]; rfl), rfl⟩

end Go.Proofs.Ytogdjhhabcejgaa

/-
  The contract of the document's check.
  The contract of the document's ParseInt.
-/
import Derived.Test.YtogdjhhabcejgaaGreatMg23
import Derived.Test.YtogdjhhabcejgaaGreatMg25
namespace Go.Proofs.YtogdjhhabcejgaaGreat
open Go.RowKit
set_option linter.unusedVariables false

set_option maxHeartbeats 400000 in
/-- the document's check -/
theorem refSum_any (a : Option Addr) (len cap : Nat) (bs : List UInt8) (w : World) (hb : Sl w a len bs) (hm : len ≤ 9223372036854775807) :
    Calls Tryz.prog 98 #[.slice a len cap] w fun e w' => e = .returned (.int .u32 (M.crc bs : Nat)) ∧ w = w' := by
  go_enter Tryz.func98, Tryz.ntmps98
  go_wp2
  go_loop [3, 4] (fun t i => ∃ k : Nat, k ≤ len ∧ i = .int .i64 k ∧ t = .int .u32 (M.crcL 4294967295 (bs.take k) : Nat)) (fun _ i => len - (intOf i).toNat)
  case atStart => exact ⟨0, by omega, rfl, rfl⟩
  case round =>
    obtain ⟨k, hk, rfl, rfl⟩ := hrel
    have hlt0 := M.crcL_lt (bs.take k) 4294967295 (by omega)
    obtain ⟨m, hm⟩ : ∃ m, m = M.crcL 4294967295 (bs.take k) := ⟨_, rfl⟩
    rw [← hm] at hlt0 ⊢
    have HM : Hid (m = M.crcL 4294967295 (bs.take k)) := hm
    clear hm
    by_cases hlt : k < len
    · obtain ⟨b, off, x, rfl, hx, hc⟩ := hb.at hlt
      have HX : Hid (bs[k]? = some x) := hx
      clear hx
      have hxl := x.toNat_lt
      have e0 : bits .xor .u32 (m : Int) (x.toNat : Int) = ((m ^^^ x.toNat : Nat) : Int) := u32_xor_nat _ _ hlt0 (by omega)
      have hs := M.xor_lt m x.toNat hlt0 (by omega)
      obtain ⟨s, hs'⟩ : ∃ s, s = m ^^^ x.toNat := ⟨_, rfl⟩
      rw [← hs'] at hs e0
      have HS : Hid (s = m ^^^ x.toNat) := hs'
      clear hs'
      go_wp2
      go_loop [3, 5] (fun t i => ∃ j : Nat, j ≤ 8 ∧ i = .int .i64 j ∧ t = .int .u32 (M.stN j s : Nat)) (fun _ i => 8 - (intOf i).toNat)
      case atStart => exact ⟨0, by omega, rfl, rfl⟩
      case round =>
        obtain ⟨j, hj, rfl, rfl⟩ := hrel
        have hb' := M.stN_lt j s hs
        obtain ⟨q, hq⟩ : ∃ q, q = M.stN j s := ⟨_, rfl⟩
        rw [← hq] at hb' ⊢
        have HQ : Hid (q = M.stN j s) := hq
        clear hq
        by_cases hjlt : j < 8
        · rcases Bool.eq_false_or_eq_true (((q : Int) % 2) == 1) with h2 | h2
          · go_wp2
            go_round
            case rel => exact ⟨j + 1, by omega, by go_num, by rw [st_one q hb' h2, HQ.out]; rfl⟩
            case measure => simp [intOf]; omega
          · go_wp2
            go_round
            case rel => exact ⟨j + 1, by omega, by go_num, by rw [st_zero q h2, HQ.out]; rfl⟩
            case measure => simp [intOf]; omega
        · go_wp2
          go_round
          case rel =>
            have : j = 8 := by omega
            subst this
            exact ⟨k + 1, by omega, by go_num, by rw [take_next HX.out, M.crcL_snoc, HQ.out, HS.out, HM.out]; rfl⟩
          case measure => simp [intOf]; omega
    · go_wp2
      go_ret
      have : k = len := by omega
      subst this
      exact ⟨ret_int (by rw [xor_max m hlt0, HM.out, List.take_of_length_le (by rw [hb.1]; exact Nat.le_refl _)]; rfl), rfl⟩

end Go.Proofs.YtogdjhhabcejgaaGreat

namespace Go.Proofs.YtogdjhhabcejgaaGreat
open Go.RowKit
set_option linter.unusedVariables false

set_option maxRecDepth 20000 in
set_option maxHeartbeats 400000 in
theorem parseInt_any (a : Option Addr) (len c : Nat) (bs : List UInt8) (w : World) (h : Sl w a len bs) (hm : len ≤ 9223372036854775807) :
    Calls Tryz.prog 77 #[.slice a len c] w fun e w' => e = .returned (.tuple #[.int .i64 (M.takeI bs).1, .int .i64 ((M.takeI bs).2.1 : Nat), .int .i64 (M.takeI bs).2.2]) ∧ w = w' := by
  go_enter Tryz.func77, Tryz.ntmps77
  go_wp2
  go_loop [5, 6] (fun t i => ∃ k u : Nat, k ≤ len ∧ k ≤ 9 ∧ i = .int .i64 k ∧ t = .int .u64 (u : Nat) ∧ u < 2 ^ (7 * k) ∧ M.takeI bs = M.dec (bs.drop k) k u) (fun _ i => len - (intOf i).toNat)
  case atStart => exact ⟨0, 0, by omega, by omega, rfl, rfl, by omega, rfl⟩
  case round =>
    obtain ⟨k, u, hk, hk9, rfl, rfl, hu, hd⟩ := hrel
    have HD := hid hd
    have HU := hid hu
    clear hd hu
    by_cases hlt : k < len
    · obtain ⟨b, off, x, rfl, hx, hc⟩ := h.at hlt
      have HX := hid hx
      have hxl := x.toNat_lt
      clear hx
      by_cases h9 : k = 9
      · have h9' : ((k : Int) == 9) = true := by simp; omega
        have h0 : (0 : Int) < (k : Int) := by omega
        have H9 := hid h9
        have hk8 : 8 < k := by omega
        clear h9
        by_cases h1 : 1 < x.toNat
        · have ht : M.takeI bs = (0, 0, 11) := by rw [HD.out, M.dec_big HX.out H9.out h1]
          have HT := hid ht
          clear HD ht
          go_wp2
          go_ret3
          rw [HT.out]; exact ⟨rfl, rfl⟩
        · by_cases hz : x.toNat = 0
          · have ht : M.takeI bs = (0, 0, 11) := by rw [HD.out, M.dec_zero HX.out (by omega) hz]
            have HT := hid ht
            have hz' : ((x.toNat : Int) == 0) = true := by simp; omega
            clear HD ht hz
            go_wp2
            go_ret3
            rw [HT.out]; exact ⟨rfl, rfl⟩
          · have ht := HD.out
            rw [M.dec_ok HX.out (by omega) (by omega) (by omega)] at ht
            have hu := M.u_lt u k (x.toNat % 128) hk9 HU.out (by omega) (by omega)
            have e0 := M.add_shl u k x HU.out hk9 (by omega) hu
            obtain ⟨v, hv⟩ : ∃ v, v = u + x.toNat % 128 * 2 ^ (7 * k) := ⟨_, rfl⟩
            rw [← hv] at ht e0 hu
            have hz' : ((x.toNat : Int) == 0) = false := by simp; omega
            clear HD HU hv hz
            by_cases hp : v % 2 = 1
            · have hp' : ((v : Int) % 2 == 1) = true := by simp; omega
              have ev : -((v : Int) / 2) - 1 = M.unfd v := by unfold M.unfd; rw [if_pos hp]; omega
              rw [← ev] at ht
              have HT := hid ht
              clear ht hp ev
              go_wp2
              go_ret3
              rw [HT.out]; exact ⟨rfl, rfl⟩
            · have hp' : ((v : Int) % 2 == 1) = false := by simp; omega
              have ev : ((v : Int) / 2) = M.unfd v := by unfold M.unfd; rw [if_neg hp]; omega
              rw [← ev] at ht
              have HT := hid ht
              clear ht hp ev
              go_wp2
              go_ret3
              rw [HT.out]; exact ⟨rfl, rfl⟩
      · have h9' : ((k : Int) == 9) = false := by simp; omega
        by_cases hb : 127 < x.toNat
        · have hu := M.u_next u k (x.toNat % 128) HU.out (by omega)
          have e0 := M.add_shl u k x HU.out hk9 (by omega) (M.u_lt u k (x.toNat % 128) hk9 HU.out (by omega) (by omega))
          have hd := HD.out
          rw [M.dec_on HX.out h9 hb] at hd
          obtain ⟨v, hv⟩ : ∃ v, v = u + x.toNat % 128 * 2 ^ (7 * k) := ⟨_, rfl⟩
          rw [← hv] at hd e0 hu
          have HD2 := hid hd
          have HU2 := hid hu
          clear HD HU hd hu hv
          go_wp2
          go_round
          case rel => exact ⟨k + 1, v, by omega, by omega, by go_num, rfl, HU2.out, HD2.out⟩
          case measure => simp [intOf]; omega
        · by_cases hz : x.toNat = 0 ∧ 0 < k
          · have ht : M.takeI bs = (0, 0, 11) := by rw [HD.out, M.dec_zero HX.out hz.2 hz.1]
            have HT := hid ht
            have hz' : ((x.toNat : Int) == 0) = true := by simp; omega
            have h0 : (0 : Int) < (k : Int) := by omega
            clear HD ht hz
            go_wp2
            go_ret3
            rw [HT.out]; exact ⟨rfl, rfl⟩
          · have ht := HD.out
            rw [M.dec_ok HX.out (by omega) (by omega) (by omega)] at ht
            have hu := M.u_lt u k (x.toNat % 128) hk9 HU.out (by omega) (by omega)
            have e0 := M.add_shl u k x HU.out hk9 (by omega) hu
            obtain ⟨v, hv⟩ : ∃ v, v = u + x.toNat % 128 * 2 ^ (7 * k) := ⟨_, rfl⟩
            rw [← hv] at ht e0 hu
            clear HD HU hv
            by_cases hp : v % 2 = 1
            · have hp' : ((v : Int) % 2 == 1) = true := by simp; omega
              have ev : -((v : Int) / 2) - 1 = M.unfd v := by unfold M.unfd; rw [if_pos hp]; omega
              rw [← ev] at ht
              have HT := hid ht
              clear ht hp ev
              by_cases hz2 : x.toNat = 0
              · have hz' : ((x.toNat : Int) == 0) = true := by simp; omega
                have h0' : ¬ (0 : Int) < (k : Int) := by omega
                clear hz hz2
                go_wp2
                go_ret3
                rw [HT.out]; exact ⟨rfl, rfl⟩
              · have hz' : ((x.toNat : Int) == 0) = false := by simp; omega
                clear hz hz2
                go_wp2
                go_ret3
                rw [HT.out]; exact ⟨rfl, rfl⟩
            · have hp' : ((v : Int) % 2 == 1) = false := by simp; omega
              have ev : ((v : Int) / 2) = M.unfd v := by unfold M.unfd; rw [if_neg hp]; omega
              rw [← ev] at ht
              have HT := hid ht
              clear ht hp ev
              by_cases hz2 : x.toNat = 0
              · have hz' : ((x.toNat : Int) == 0) = true := by simp; omega
                have h0' : ¬ (0 : Int) < (k : Int) := by omega
                clear hz hz2
                go_wp2
                go_ret3
                rw [HT.out]; exact ⟨rfl, rfl⟩
              · have hz' : ((x.toNat : Int) == 0) = false := by simp; omega
                clear hz hz2
                go_wp2
                go_ret3
                rw [HT.out]; exact ⟨rfl, rfl⟩
    · have ht : M.takeI bs = (0, 0, 10) := by rw [HD.out, M.dec_end bs k u (by rw [h.1]; omega)]
      have HT := hid ht
      clear HD ht
      go_wp2
      go_ret3
      rw [HT.out]; exact ⟨rfl, rfl⟩
end Go.Proofs.YtogdjhhabcejgaaGreat

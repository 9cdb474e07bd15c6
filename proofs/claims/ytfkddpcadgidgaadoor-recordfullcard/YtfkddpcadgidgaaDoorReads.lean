/-
  The contracts of takeInt, unfold, takeLen and of the document's ParseInt.
-/
import Derived.Test.YtfkddpcadgidgaaDoorMaths
import Derived.Test.YtfkddpcadgidgaaDoorMem
import Derived.Outline
import Derived.Laws.DeepNot64
namespace Go.Proofs.YtfkddpcadgidgaaDoor
open Go.RowKit
set_option linter.unusedVariables false

theorem unfold_any (u : Nat) (hu : u < 18446744073709551616) (w : World) :
    Calls Tryd.prog 115 #[.int .u64 (u : Nat)] w fun e w' => e = .returned (.int .i64 (M.unfd u)) ∧ w = w' := by
  have e0 : bits .and .u64 (u : Int) 1 = ((u % 2 : Nat) : Int) := by
    have := u64_and_nat u 1 hu (by omega)
    rw [nat_mask1] at this
    exact this
  by_cases h : u % 2 = 1
  · have e1 : (bits .and .u64 (u : Int) 1 == 1) = true := by rw [e0, h]; rfl
    clear e0
    go_enter Tryd.func115, Tryd.ntmps115
    go_wp2
    go_ret
    refine ⟨ret_int ?_, rfl⟩
    have e2 : ((u : Int) / 2) = ((u / 2 : Nat) : Int) := by omega
    rw [e2, i64_not _ (by omega)]
    unfold M.unfd
    rw [if_pos ‹_›]
    omega
  · have e1 : (bits .and .u64 (u : Int) 1 == 1) = false := by
      have : u % 2 = 0 := by omega
      rw [e0, this]; rfl
    clear e0
    go_enter Tryd.func115, Tryd.ntmps115
    go_wp2
    go_ret
    refine ⟨ret_int ?_, rfl⟩
    unfold M.unfd
    rw [if_neg h]
    omega

set_option maxHeartbeats 400000 in
theorem takeInt_any (a : Option Addr) (len c : Nat) (bs : List UInt8) (w : World) (h : Sl w a len bs) (hm : len ≤ 9223372036854775807) :
    Calls Tryd.prog 112 #[.slice a len c] w fun e w' => e = .returned (.tuple #[.int .i64 (M.takeI bs).1, .int .i64 ((M.takeI bs).2.1 : Nat), .int .i64 (M.takeI bs).2.2]) ∧ w = w' := by
  go_enter Tryd.func112, Tryd.ntmps112
  go_wp2
  go_loop [5, 11] (fun t i => ∃ k u : Nat, k ≤ len ∧ k ≤ 9 ∧ i = .int .i64 k ∧ t = .int .u64 (u : Nat) ∧ u < 2 ^ (7 * k) ∧ M.takeI bs = M.dec (bs.drop k) k u) (fun _ i => len - (intOf i).toNat)
  case atStart => exact ⟨0, 0, by omega, by omega, rfl, rfl, by omega, rfl⟩
  case round =>
    obtain ⟨k, u, hk, hk9, rfl, rfl, hu, hd⟩ := hrel
    have HD := hid hd
    have HU := hid hu
    clear hd hu
    by_cases hlt : k < len
    · obtain ⟨b, off, x, rfl, hx, hc⟩ := h.at hlt
      have HX := hid hx
      have hxl := x.toNat_lt
      clear hx
      by_cases h9 : k = 9
      · have h9' : ((k : Int) == 9) = true := by simp; omega
        have h0 : (0 : Int) < (k : Int) := by omega
        have H9 := hid h9
        have hk8 : 8 < k := by omega
        clear h9
        by_cases h1 : 1 < x.toNat
        · have ht : M.takeI bs = (0, 0, 11) := by rw [HD.out, M.dec_big HX.out H9.out h1]
          have HT := hid ht
          clear HD ht
          by_cases hb : 127 < x.toNat
          · go_wp2
            go_ret3
            rw [HT.out]; exact ⟨rfl, rfl⟩
          · go_wp2
            go_ret3
            rw [HT.out]; exact ⟨rfl, rfl⟩
        · by_cases hz : x.toNat = 0
          · have ht : M.takeI bs = (0, 0, 11) := by rw [HD.out, M.dec_zero HX.out (by omega) hz]
            have HT := hid ht
            have hz' : ((x.toNat : Int) == 0) = true := by simp; omega
            clear HD ht hz
            go_wp2
            go_ret3
            rw [HT.out]; exact ⟨rfl, rfl⟩
          · have ht := HD.out
            rw [M.dec_ok HX.out (by omega) (by omega) (by omega)] at ht
            have e0 := M.or_shl u k x HU.out hk9 (by omega)
            have hu := M.u_lt u k (x.toNat % 128) hk9 HU.out (by omega) (by omega)
            obtain ⟨v, hv⟩ : ∃ v, v = u + x.toNat % 128 * 2 ^ (7 * k) := ⟨_, rfl⟩
            rw [← hv] at ht e0 hu
            have HT := hid ht
            have hz' : ((x.toNat : Int) == 0) = false := by simp; omega
            clear HD HU ht hv hz
            go_wp2_with (go_at_call 115; refine (unfold_any v hu _).mono ?_; rintro e w' ⟨rfl, rfl⟩)
            go_ret3
            rw [HT.out]; exact ⟨rfl, rfl⟩
      · have h9' : ((k : Int) == 9) = false := by simp; omega
        by_cases hb : 127 < x.toNat
        · have e0 := M.or_shl u k x HU.out hk9 (by omega)
          have hu := M.u_next u k (x.toNat % 128) HU.out (by omega)
          have hd := HD.out
          rw [M.dec_on HX.out h9 hb] at hd
          obtain ⟨v, hv⟩ : ∃ v, v = u + x.toNat % 128 * 2 ^ (7 * k) := ⟨_, rfl⟩
          rw [← hv] at hd e0 hu
          have HD2 := hid hd
          have HU2 := hid hu
          clear HD HU hd hu hv
          go_wp2
          go_round
          case rel => exact ⟨k + 1, v, by omega, by omega, by go_num, rfl, HU2.out, HD2.out⟩
          case measure => simp [intOf]; omega
        · by_cases hz : x.toNat = 0 ∧ 0 < k
          · have ht : M.takeI bs = (0, 0, 11) := by rw [HD.out, M.dec_zero HX.out hz.2 hz.1]
            have HT := hid ht
            have hz' : ((x.toNat : Int) == 0) = true := by simp; omega
            have h0 : (0 : Int) < (k : Int) := by omega
            clear HD ht hz
            go_wp2
            go_ret3
            rw [HT.out]; exact ⟨rfl, rfl⟩
          · have ht := HD.out
            rw [M.dec_ok HX.out (by omega) (by omega) (by omega)] at ht
            have e0 := M.or_shl u k x HU.out hk9 (by omega)
            have hu := M.u_lt u k (x.toNat % 128) hk9 HU.out (by omega) (by omega)
            obtain ⟨v, hv⟩ : ∃ v, v = u + x.toNat % 128 * 2 ^ (7 * k) := ⟨_, rfl⟩
            rw [← hv] at ht e0 hu
            have HT := hid ht
            clear HD HU ht hv
            by_cases h0 : 0 < k
            · have hz' : ((x.toNat : Int) == 0) = false := by simp; omega
              have h0' : (0 : Int) < (k : Int) := by omega
              clear hz
              go_wp2_with (go_at_call 115; refine (unfold_any v hu _).mono ?_; rintro e w' ⟨rfl, rfl⟩)
              go_ret3
              rw [HT.out]; exact ⟨rfl, rfl⟩
            · have h0' : ¬ (0 : Int) < (k : Int) := by omega
              clear hz
              go_wp2_with (go_at_call 115; refine (unfold_any v hu _).mono ?_; rintro e w' ⟨rfl, rfl⟩)
              go_ret3
              rw [HT.out]; exact ⟨rfl, rfl⟩
    · have ht : M.takeI bs = (0, 0, 10) := by rw [HD.out, M.dec_end bs k u (by rw [h.1]; omega)]
      have HT := hid ht
      clear HD ht
      go_wp2
      go_ret3
      rw [HT.out]; exact ⟨rfl, rfl⟩

set_option maxHeartbeats 400000 in
theorem takeLen_any (a : Option Addr) (len c : Nat) (bs : List UInt8) (w : World) (h : Sl w a len bs) (hm : len ≤ 9223372036854775807) :
    Calls Tryd.prog 117 #[.slice a len c] w fun e w' => e = .returned (.tuple #[.int .i64 (M.takeL bs).1, .int .i64 ((M.takeL bs).2.1 : Nat), .int .i64 (M.takeL bs).2.2]) ∧ w = w' := by
  have K := hid (takeInt_any a len c bs w h hm)
  obtain ⟨t1, t2, t3, ht⟩ : ∃ t1 t2 t3, M.takeI bs = (t1, t2, t3) := ⟨_, _, _, rfl⟩
  unfold M.takeL
  rw [ht] at K ⊢
  by_cases h3 : t3 = 0
  · by_cases h1 : t1 < 0
    · subst h3
      rw [if_neg (by simp), if_pos (by simpa using h1)]
      go_enter Tryd.func117, Tryd.ntmps117
      go_wp2_with fail
      refine K.out.mono ?_
      rintro e w' ⟨rfl, rfl⟩
      go_wp2
      go_ret3
      exact ⟨rfl, rfl⟩
    · subst h3
      rw [if_neg (by simp), if_neg (by simpa using h1)]
      go_enter Tryd.func117, Tryd.ntmps117
      go_wp2_with fail
      refine K.out.mono ?_
      rintro e w' ⟨rfl, rfl⟩
      go_wp2
      go_ret3
      exact ⟨rfl, rfl⟩
  · rw [if_pos (by simpa using h3)]
    have h3' : (t3 != 0) = true := by simpa using h3
    go_enter Tryd.func117, Tryd.ntmps117
    go_wp2_with fail
    refine K.out.mono ?_
    rintro e w' ⟨rfl, rfl⟩
    go_wp2
    go_ret3
    exact ⟨rfl, rfl⟩

end Go.Proofs.YtfkddpcadgidgaaDoor

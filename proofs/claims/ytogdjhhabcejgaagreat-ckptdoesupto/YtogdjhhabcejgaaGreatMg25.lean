/-
  The contracts of takeInt, unfold, takeLen and of the document's ParseInt.
  The contract of Unframe.
-/
import Derived.Test.YtogdjhhabcejgaaGreatMaths
import Derived.Test.YtogdjhhabcejgaaGreatMem
import Derived.Outline
import Derived.Laws.DeepNot64
import Derived.Test.YtogdjhhabcejgaaGreatMg23
namespace Go.Proofs.YtogdjhhabcejgaaGreat
open Go.RowKit
set_option linter.unusedVariables false

theorem unfold_any (u : Nat) (hu : u < 18446744073709551616) (w : World) :
    Calls Tryz.prog 115 #[.int .u64 (u : Nat)] w fun e w' => e = .returned (.int .i64 (M.unfd u)) ∧ w = w' := by
  have e0 : bits .and .u64 (u : Int) 1 = ((u % 2 : Nat) : Int) := by
    have := u64_and_nat u 1 hu (by omega)
    rw [nat_mask1] at this
    exact this
  by_cases h : u % 2 = 1
  · have e1 : (bits .and .u64 (u : Int) 1 == 1) = true := by rw [e0, h]; rfl
    clear e0
    go_enter Tryz.func115, Tryz.ntmps115
    go_wp2
    go_ret
    refine ⟨ret_int ?_, rfl⟩
    have e2 : ((u : Int) / 2) = ((u / 2 : Nat) : Int) := by omega
    rw [e2, i64_not _ (by omega)]
    unfold M.unfd
    rw [if_pos ‹_›]
    omega
  · have e1 : (bits .and .u64 (u : Int) 1 == 1) = false := by
      have : u % 2 = 0 := by omega
      rw [e0, this]; rfl
    clear e0
    go_enter Tryz.func115, Tryz.ntmps115
    go_wp2
    go_ret
    refine ⟨ret_int ?_, rfl⟩
    unfold M.unfd
    rw [if_neg h]
    omega

set_option maxHeartbeats 400000 in
theorem takeInt_any (a : Option Addr) (len c : Nat) (bs : List UInt8) (w : World) (h : Sl w a len bs) (hm : len ≤ 9223372036854775807) :
    Calls Tryz.prog 96 #[.slice a len c] w fun e w' => e = .returned (.tuple #[.int .i64 (M.takeI bs).1, .int .i64 ((M.takeI bs).2.1 : Nat), .int .i64 (M.takeI bs).2.2]) ∧ w = w' := by
  go_enter Tryz.func96, Tryz.ntmps96
  go_wp2
  go_loop [5, 11] (fun t i => ∃ k u : Nat, k ≤ len ∧ k ≤ 9 ∧ i = .int .i64 k ∧ t = .int .u64 (u : Nat) ∧ u < 2 ^ (7 * k) ∧ M.takeI bs = M.dec (bs.drop k) k u) (fun _ i => len - (intOf i).toNat)
  case atStart => exact ⟨0, 0, by omega, by omega, rfl, rfl, by omega, rfl⟩
  case round =>
    obtain ⟨k, u, hk, hk9, rfl, rfl, hu, hd⟩ := hrel
    have HD := hid hd
    have HU := hid hu
    clear hd hu
    by_cases hlt : k < len
    · obtain ⟨b, off, x, rfl, hx, hc⟩ := h.at hlt
      have HX := hid hx
      have hxl := x.toNat_lt
      clear hx
      by_cases h9 : k = 9
      · have h9' : ((k : Int) == 9) = true := by simp; omega
        have h0 : (0 : Int) < (k : Int) := by omega
        have H9 := hid h9
        have hk8 : 8 < k := by omega
        clear h9
        by_cases h1 : 1 < x.toNat
        · have ht : M.takeI bs = (0, 0, 11) := by rw [HD.out, M.dec_big HX.out H9.out h1]
          have HT := hid ht
          clear HD ht
          by_cases hb : 127 < x.toNat
          · go_wp2
            go_ret3
            rw [HT.out]; exact ⟨rfl, rfl⟩
          · go_wp2
            go_ret3
            rw [HT.out]; exact ⟨rfl, rfl⟩
        · by_cases hz : x.toNat = 0
          · have ht : M.takeI bs = (0, 0, 11) := by rw [HD.out, M.dec_zero HX.out (by omega) hz]
            have HT := hid ht
            have hz' : ((x.toNat : Int) == 0) = true := by simp; omega
            clear HD ht hz
            go_wp2
            go_ret3
            rw [HT.out]; exact ⟨rfl, rfl⟩
          · have ht := HD.out
            rw [M.dec_ok HX.out (by omega) (by omega) (by omega)] at ht
            have e0 := M.or_shl u k x HU.out hk9 (by omega)
            have hu := M.u_lt u k (x.toNat % 128) hk9 HU.out (by omega) (by omega)
            obtain ⟨v, hv⟩ : ∃ v, v = u + x.toNat % 128 * 2 ^ (7 * k) := ⟨_, rfl⟩
            rw [← hv] at ht e0 hu
            have HT := hid ht
            have hz' : ((x.toNat : Int) == 0) = false := by simp; omega
            clear HD HU ht hv hz
            go_wp2_with (go_at_call 115; refine (unfold_any v hu _).mono ?_; rintro e w' ⟨rfl, rfl⟩)
            go_ret3
            rw [HT.out]; exact ⟨rfl, rfl⟩
      · have h9' : ((k : Int) == 9) = false := by simp; omega
        by_cases hb : 127 < x.toNat
        · have e0 := M.or_shl u k x HU.out hk9 (by omega)
          have hu := M.u_next u k (x.toNat % 128) HU.out (by omega)
          have hd := HD.out
          rw [M.dec_on HX.out h9 hb] at hd
          obtain ⟨v, hv⟩ : ∃ v, v = u + x.toNat % 128 * 2 ^ (7 * k) := ⟨_, rfl⟩
          rw [← hv] at hd e0 hu
          have HD2 := hid hd
          have HU2 := hid hu
          clear HD HU hd hu hv
          go_wp2
          go_round
          case rel => exact ⟨k + 1, v, by omega, by omega, by go_num, rfl, HU2.out, HD2.out⟩
          case measure => simp [intOf]; omega
        · by_cases hz : x.toNat = 0 ∧ 0 < k
          · have ht : M.takeI bs = (0, 0, 11) := by rw [HD.out, M.dec_zero HX.out hz.2 hz.1]
            have HT := hid ht
            have hz' : ((x.toNat : Int) == 0) = true := by simp; omega
            have h0 : (0 : Int) < (k : Int) := by omega
            clear HD ht hz
            go_wp2
            go_ret3
            rw [HT.out]; exact ⟨rfl, rfl⟩
          · have ht := HD.out
            rw [M.dec_ok HX.out (by omega) (by omega) (by omega)] at ht
            have e0 := M.or_shl u k x HU.out hk9 (by omega)
            have hu := M.u_lt u k (x.toNat % 128) hk9 HU.out (by omega) (by omega)
            obtain ⟨v, hv⟩ : ∃ v, v = u + x.toNat % 128 * 2 ^ (7 * k) := ⟨_, rfl⟩
            rw [← hv] at ht e0 hu
            have HT := hid ht
            clear HD HU ht hv
            by_cases h0 : 0 < k
            · have hz' : ((x.toNat : Int) == 0) = false := by simp; omega
              have h0' : (0 : Int) < (k : Int) := by omega
              clear hz
              go_wp2_with (go_at_call 115; refine (unfold_any v hu _).mono ?_; rintro e w' ⟨rfl, rfl⟩)
              go_ret3
              rw [HT.out]; exact ⟨rfl, rfl⟩
            · have h0' : ¬ (0 : Int) < (k : Int) := by omega
              clear hz
              go_wp2_with (go_at_call 115; refine (unfold_any v hu _).mono ?_; rintro e w' ⟨rfl, rfl⟩)
              go_ret3
              rw [HT.out]; exact ⟨rfl, rfl⟩
    · have ht : M.takeI bs = (0, 0, 10) := by rw [HD.out, M.dec_end bs k u (by rw [h.1]; omega)]
      have HT := hid ht
      clear HD ht
      go_wp2
      go_ret3
      rw [HT.out]; exact ⟨rfl, rfl⟩

set_option maxHeartbeats 400000 in
theorem takeLen_any (a : Option Addr) (len c : Nat) (bs : List UInt8) (w : World) (h : Sl w a len bs) (hm : len ≤ 9223372036854775807) :
    Calls Tryz.prog 91 #[.slice a len c] w fun e w' => e = .returned (.tuple #[.int .i64 (M.takeL bs).1, .int .i64 ((M.takeL bs).2.1 : Nat), .int .i64 (M.takeL bs).2.2]) ∧ w = w' := by
  have K := hid (takeInt_any a len c bs w h hm)
  obtain ⟨t1, t2, t3, ht⟩ : ∃ t1 t2 t3, M.takeI bs = (t1, t2, t3) := ⟨_, _, _, rfl⟩
  unfold M.takeL
  rw [ht] at K ⊢
  by_cases h3 : t3 = 0
  · by_cases h1 : t1 < 0
    · subst h3
      rw [if_neg (by simp), if_pos (by simpa using h1)]
      go_enter Tryz.func91, Tryz.ntmps91
      go_wp2_with fail
      refine K.out.mono ?_
      rintro e w' ⟨rfl, rfl⟩
      go_wp2
      go_ret3
      exact ⟨rfl, rfl⟩
    · subst h3
      rw [if_neg (by simp), if_neg (by simpa using h1)]
      go_enter Tryz.func91, Tryz.ntmps91
      go_wp2_with fail
      refine K.out.mono ?_
      rintro e w' ⟨rfl, rfl⟩
      go_wp2
      go_ret3
      exact ⟨rfl, rfl⟩
  · rw [if_pos (by simpa using h3)]
    have h3' : (t3 != 0) = true := by simpa using h3
    go_enter Tryz.func91, Tryz.ntmps91
    go_wp2_with fail
    refine K.out.mono ?_
    rintro e w' ⟨rfl, rfl⟩
    go_wp2
    go_ret3
    exact ⟨rfl, rfl⟩

end Go.Proofs.YtogdjhhabcejgaaGreat

namespace Go.Proofs.YtogdjhhabcejgaaGreat
open Go.RowKit
set_option linter.unusedVariables false

set_option maxHeartbeats 800000 in
theorem unframe_any (a : Option Addr) (len c : Nat) (bs : List UInt8) (w : World) (h : Sl w a len bs) (hlc : len ≤ c) (hm : len ≤ 200000000000000) :
    Calls Tryz.prog 64 #[.slice a len c] w fun e w' => ∃ xa xc, e = .returned (.tuple #[.slice xa (M.unframe bs).1.length xc, .int .i64 ((M.unframe bs).2.1 : Nat), .int .i64 (M.unframe bs).2.2]) ∧ Ow w.heap.size w' xa xc (M.unframe bs).1 ∧ Fr (fun _ => False) w w' := by
  have hbl := h.1
  have K := hid (takeLen_any a len c bs w h (by omega))
  have hs := M.takeL_size bs
  have hp := M.takeL_pos bs
  unfold M.unframe
  obtain ⟨t1, t2, t3, ht⟩ : ∃ t1 t2 t3, M.takeL bs = (t1, t2, t3) := ⟨_, _, _, rfl⟩
  rw [ht] at K hs hp ⊢
  simp only at K hs hp ⊢
  rw [hbl] at hs ⊢
  clear ht
  by_cases h3 : t3 = 0
  · subst h3
    rw [if_neg (by simp)]
    by_cases hlong : 1048576 < t1
    · rw [if_pos hlong]
      go_enter Tryz.func64, Tryz.ntmps64
      go_wp2_with (first | (go_at_call 91; refine K.out.mono ?_; rintro e w' ⟨rfl, rfl⟩))
      go_ret3
      exact ⟨none, 0, rfl, Ow.nil _ _, Fr.refl _ _⟩
    · rw [if_neg hlong]
      obtain ⟨m, rfl⟩ : ∃ m : Nat, t1 = (m : Int) := ⟨t1.toNat, by omega⟩
      rw [Int.toNat_natCast]
      by_cases hshort : len < t2 + m + 4
      · rw [if_pos hshort]
        have hshort' : (len : Int) - ((t2 : Int) + (m : Int)) < 4 := by omega
        go_enter Tryz.func64, Tryz.ntmps64
        go_wp2_with (first | (go_at_call 91; refine K.out.mono ?_; rintro e w' ⟨rfl, rfl⟩))
        go_ret3
        exact ⟨none, 0, rfl, Ow.nil _ _, Fr.refl _ _⟩
      · rw [if_neg hshort]
        have hnot : ¬ (len : Int) - ((t2 : Int) + (m : Int)) < 4 := by omega
        have k1 := fun w => run_cut_both w a len c t2 (t2 + m) (by omega) (by omega) ((t2 : Int) + (m : Int)) (by omega)
        have k2 := fun w => run_cut_both w a len c (t2 + m) (t2 + m + 4) (by omega) (by omega) ((t2 : Int) + (m : Int) + 4) (by omega)
        have hb1 : Sl w (cutA a c t2) m ((bs.drop t2).take m) := (h.cut hlc t2 hs).take m (by omega)
        have hb2 : Sl w (cutA a c (t2 + m)) 4 ((bs.drop (t2 + m)).take 4) := (h.cut hlc (t2 + m) (by omega)).take 4 (by omega)
        rw [Nat.add_sub_cancel_left] at k1 k2
        rw [Int.natCast_add] at k2
        obtain ⟨a1, ha1⟩ : ∃ a1, cutA a c t2 = a1 := ⟨_, rfl⟩
        obtain ⟨a2, ha2⟩ : ∃ a2, cutA a c (t2 + m) = a2 := ⟨_, rfl⟩
        obtain ⟨c1, hc1⟩ : ∃ c1, c - t2 = c1 := ⟨_, rfl⟩
        obtain ⟨c2, hc2⟩ : ∃ c2, c - (t2 + m) = c2 := ⟨_, rfl⟩
        rw [ha1, hc1] at k1
        rw [ha2, hc2] at k2
        rw [ha1] at hb1
        rw [ha2] at hb2
        obtain ⟨body, hbody⟩ : ∃ body, (bs.drop t2).take m = body := ⟨_, rfl⟩
        obtain ⟨four, hfour⟩ : ∃ four, (bs.drop (t2 + m)).take 4 = four := ⟨_, rfl⟩
        rw [hbody] at hb1 ⊢
        rw [hfour] at hb2 ⊢
        clear ha1 ha2 hc1 hc2 hbody hfour hshort
        have hbodyl := hb1.1
        obtain ⟨sm, hsm⟩ : ∃ sm, M.crc body = sm := ⟨_, rfl⟩
        rw [hsm]
        have HSM := hid hsm
        clear hsm
        by_cases heq : four = M.le4 sm
        · rw [if_neg (by simpa using heq)]
          have HEQ := hid heq
          clear heq
          go_enter Tryz.func64, Tryz.ntmps64
          go_wp2_with (first | (go_at_call 91; refine K.out.mono ?_; rintro e w' ⟨rfl, rfl⟩))
          go_quiet (fail)
          have hcrc := M.crc_lt body
          have fq : Fr (fun _ => False) w (w.drewN nq) := Fr.drewN w nq
          have hb1q : Sl (w.drewN nq) a1 m body := hb1.kept fq (fun _ _ _ h => h)
          have K2 : Hid (Calls Tryz.prog 93 #[.slice (some ⟨w.heap.size, 0, none⟩) 1 1] ((w.drewN nq).alloc (.cells #[.slice a1 m c1] 31)) fun e w' => e = .returned (.int .u32 (M.crc body : Nat)) ∧ (w.drewN nq).alloc (.cells #[.slice a1 m c1] 31) = w') := by
            have := sum_any (some ⟨(w.drewN nq).heap.size, 0, none⟩) 1 1 [body] ((w.drewN nq).alloc (.cells #[.slice a1 m c1] 31)) (Sls.one hb1q (by omega) 31) (by omega)
            have e1 : ([body] : List (List UInt8)).flatten = body := by simp
            rw [e1] at this
            exact this
          obtain ⟨W, hWW⟩ : ∃ W, (w.drewN nq).alloc (.cells #[.slice a1 m c1] 31) = W := ⟨_, rfl⟩
          rw [hWW] at K2
          have fW : Fr (fun _ => False) w W := by rw [← hWW]; exact Fr.alloc fq _
          rw [HSM.out] at hcrc K2
          have hfl := M.le4_length sm
          have K3 := hid (appendSum_any w.heap.size none 0 0 [] sm W rfl (Ow.nil _ _) hcrc fW.size (by omega))
          have FW := hid fW
          clear fW hb1q fq
          go_wp2_with fail
          refine K2.out.mono ?_
          rintro e w3 ⟨rfl, rfl⟩
          clear hWW K2
          go_wp2_with fail
          refine K3.out.mono ?_
          rintro e w4 ⟨a4, c4, rfl, hg4⟩
          have f4 : Fr (fun _ => False) w w4 := FW.out.trans hg4.2.1 (fun i hi e => by simp [blk] at e)
          have s4 : Sl w4 a4 4 (M.le4 sm) := by have := hg4.1.sl; rw [List.nil_append, hfl] at this; exact this
          have b4 : Sl w4 a2 4 four := hb2.kept f4 (fun _ _ _ h => h)
          have d4 : Sl w4 a1 m body := hb1.kept f4 (fun _ _ _ h => h)
          have K4 := hid (equal_any a2 a4 4 c2 4 c4 four (M.le4 sm) w4 b4 s4)
          have K5 := hid (clone_any a1 m c1 body w4 d4 (by omega))
          have F4 := hid f4
          clear hg4 f4 s4 b4 d4 K3
          rw [decide_eq_true HEQ.out] at K4
          go_wp2_with (first
            | (go_at_call 18; refine K4.out.mono ?_; rintro e w5 ⟨rfl, rfl⟩)
            | (go_at_call 94; refine K5.out.mono ?_; rintro e w5 ⟨xa, xc, rfl, hx, hf⟩; have HX := hid hx; have HF := hid hf; clear hx hf))
          go_ret3
          refine ⟨xa, xc, ?_, HX.out.base (fun k hk => Nat.le_trans F4.out.size (HX.out.lt k hk).1), F4.out.trans HF.out (fun _ _ h => h)⟩
          rw [hbodyl]
          simp
        · rw [if_pos (by simpa using heq)]
          have HEQ := hid heq
          clear heq
          go_enter Tryz.func64, Tryz.ntmps64
          go_wp2_with (first | (go_at_call 91; refine K.out.mono ?_; rintro e w' ⟨rfl, rfl⟩))
          go_quiet (fail)
          have hcrc := M.crc_lt body
          have fq : Fr (fun _ => False) w (w.drewN nq) := Fr.drewN w nq
          have hb1q : Sl (w.drewN nq) a1 m body := hb1.kept fq (fun _ _ _ h => h)
          have K2 : Hid (Calls Tryz.prog 93 #[.slice (some ⟨w.heap.size, 0, none⟩) 1 1] ((w.drewN nq).alloc (.cells #[.slice a1 m c1] 31)) fun e w' => e = .returned (.int .u32 (M.crc body : Nat)) ∧ (w.drewN nq).alloc (.cells #[.slice a1 m c1] 31) = w') := by
            have := sum_any (some ⟨(w.drewN nq).heap.size, 0, none⟩) 1 1 [body] ((w.drewN nq).alloc (.cells #[.slice a1 m c1] 31)) (Sls.one hb1q (by omega) 31) (by omega)
            have e1 : ([body] : List (List UInt8)).flatten = body := by simp
            rw [e1] at this
            exact this
          obtain ⟨W, hWW⟩ : ∃ W, (w.drewN nq).alloc (.cells #[.slice a1 m c1] 31) = W := ⟨_, rfl⟩
          rw [hWW] at K2
          have fW : Fr (fun _ => False) w W := by rw [← hWW]; exact Fr.alloc fq _
          rw [HSM.out] at hcrc K2
          have hfl := M.le4_length sm
          have K3 := hid (appendSum_any w.heap.size none 0 0 [] sm W rfl (Ow.nil _ _) hcrc fW.size (by omega))
          have FW := hid fW
          clear fW hb1q fq
          go_wp2_with fail
          refine K2.out.mono ?_
          rintro e w3 ⟨rfl, rfl⟩
          clear hWW K2
          go_wp2_with fail
          refine K3.out.mono ?_
          rintro e w4 ⟨a4, c4, rfl, hg4⟩
          have f4 : Fr (fun _ => False) w w4 := FW.out.trans hg4.2.1 (fun i hi e => by simp [blk] at e)
          have s4 : Sl w4 a4 4 (M.le4 sm) := by have := hg4.1.sl; rw [List.nil_append, hfl] at this; exact this
          have b4 : Sl w4 a2 4 four := hb2.kept f4 (fun _ _ _ h => h)
          have d4 : Sl w4 a1 m body := hb1.kept f4 (fun _ _ _ h => h)
          have K4 := hid (equal_any a2 a4 4 c2 4 c4 four (M.le4 sm) w4 b4 s4)
          have K5 := hid (clone_any a1 m c1 body w4 d4 (by omega))
          have F4 := hid f4
          clear hg4 f4 s4 b4 d4 K3
          rw [decide_eq_false HEQ.out] at K4
          go_wp2_with (first
            | (go_at_call 18; refine K4.out.mono ?_; rintro e w5 ⟨rfl, rfl⟩))
          go_ret3
          exact ⟨none, 0, rfl, Ow.nil _ _, F4.out⟩
  · rw [if_pos (by simpa using h3)]
    have h3' : (t3 != 0) = true := by simpa using h3
    clear h3
    go_enter Tryz.func64, Tryz.ntmps64
    go_wp2_with (first | (go_at_call 91; refine K.out.mono ?_; rintro e w' ⟨rfl, rfl⟩))
    go_ret3
    exact ⟨none, 0, rfl, Ow.nil _ _, Fr.refl _ _⟩
end Go.Proofs.YtogdjhhabcejgaaGreat

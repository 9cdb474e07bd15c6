/-
  The contract of Unframe.
-/
import Derived.Test.YtogdjhhabcejgaaFrames
import Derived.Test.YtogdjhhabcejgaaReads
namespace Go.Proofs.Ytogdjhhabcejgaa
open Go.RowKit
set_option linter.unusedVariables false

set_option maxHeartbeats 800000 in
theorem unframe_any (a : Option Addr) (len c : Nat) (bs : List UInt8) (w : World) (h : Sl w a len bs) (hlc : len ≤ c) (hm : len ≤ 200000000000000) :
    Calls Try.prog 29 #[.slice a len c] w fun e w' => ∃ xa xc, e = .returned (.tuple #[.slice xa (M.unframe bs).1.length xc, .int .i64 ((M.unframe bs).2.1 : Nat), .int .i64 (M.unframe bs).2.2]) ∧ Ow w.heap.size w' xa xc (M.unframe bs).1 ∧ Fr (fun _ => False) w w' := by
  have hbl := h.1
  have K := hid (takeLen_any a len c bs w h (by omega))
  have hs := M.takeL_size bs
  have hp := M.takeL_pos bs
  unfold M.unframe
  obtain ⟨t1, t2, t3, ht⟩ : ∃ t1 t2 t3, M.takeL bs = (t1, t2, t3) := ⟨_, _, _, rfl⟩
  rw [ht] at K hs hp ⊢
  simp only at K hs hp ⊢
  rw [hbl] at hs ⊢
  clear ht
  by_cases h3 : t3 = 0
  · subst h3
    rw [if_neg (by simp)]
    by_cases hlong : 1048576 < t1
    · rw [if_pos hlong]
      go_enter Try.func29, Try.ntmps29
      go_wp2_with (first | (go_at_call 55; refine K.out.mono ?_; rintro e w' ⟨rfl, rfl⟩))
      go_ret3
      exact ⟨none, 0, rfl, Ow.nil _ _, Fr.refl _ _⟩
    · rw [if_neg hlong]
      obtain ⟨m, rfl⟩ : ∃ m : Nat, t1 = (m : Int) := ⟨t1.toNat, by omega⟩
      rw [Int.toNat_natCast]
      by_cases hshort : len < t2 + m + 4
      · rw [if_pos hshort]
        have hshort' : (len : Int) - ((t2 : Int) + (m : Int)) < 4 := by omega
        go_enter Try.func29, Try.ntmps29
        go_wp2_with (first | (go_at_call 55; refine K.out.mono ?_; rintro e w' ⟨rfl, rfl⟩))
        go_ret3
        exact ⟨none, 0, rfl, Ow.nil _ _, Fr.refl _ _⟩
      · rw [if_neg hshort]
        have hnot : ¬ (len : Int) - ((t2 : Int) + (m : Int)) < 4 := by omega
        have k1 := fun w => run_cut_both w a len c t2 (t2 + m) (by omega) (by omega) ((t2 : Int) + (m : Int)) (by omega)
        have k2 := fun w => run_cut_both w a len c (t2 + m) (t2 + m + 4) (by omega) (by omega) ((t2 : Int) + (m : Int) + 4) (by omega)
        have hb1 : Sl w (cutA a c t2) m ((bs.drop t2).take m) := (h.cut hlc t2 hs).take m (by omega)
        have hb2 : Sl w (cutA a c (t2 + m)) 4 ((bs.drop (t2 + m)).take 4) := (h.cut hlc (t2 + m) (by omega)).take 4 (by omega)
        rw [Nat.add_sub_cancel_left] at k1 k2
        rw [Int.natCast_add] at k2
        obtain ⟨a1, ha1⟩ : ∃ a1, cutA a c t2 = a1 := ⟨_, rfl⟩
        obtain ⟨a2, ha2⟩ : ∃ a2, cutA a c (t2 + m) = a2 := ⟨_, rfl⟩
        obtain ⟨c1, hc1⟩ : ∃ c1, c - t2 = c1 := ⟨_, rfl⟩
        obtain ⟨c2, hc2⟩ : ∃ c2, c - (t2 + m) = c2 := ⟨_, rfl⟩
        rw [ha1, hc1] at k1
        rw [ha2, hc2] at k2
        rw [ha1] at hb1
        rw [ha2] at hb2
        obtain ⟨body, hbody⟩ : ∃ body, (bs.drop t2).take m = body := ⟨_, rfl⟩
        obtain ⟨four, hfour⟩ : ∃ four, (bs.drop (t2 + m)).take 4 = four := ⟨_, rfl⟩
        rw [hbody] at hb1 ⊢
        rw [hfour] at hb2 ⊢
        clear ha1 ha2 hc1 hc2 hbody hfour hshort
        have hbodyl := hb1.1
        obtain ⟨sm, hsm⟩ : ∃ sm, M.crc body = sm := ⟨_, rfl⟩
        rw [hsm]
        have HSM := hid hsm
        clear hsm
        by_cases heq : four = M.le4 sm
        · rw [if_neg (by simpa using heq)]
          have HEQ := hid heq
          clear heq
          go_enter Try.func29, Try.ntmps29
          go_wp2_with (first | (go_at_call 55; refine K.out.mono ?_; rintro e w' ⟨rfl, rfl⟩))
          go_quiet (fail)
          have hcrc := M.crc_lt body
          have fq : Fr (fun _ => False) w (w.drewN nq) := Fr.drewN w nq
          have hb1q : Sl (w.drewN nq) a1 m body := hb1.kept fq (fun _ _ _ h => h)
          have K2 : Hid (Calls Try.prog 57 #[.slice (some ⟨w.heap.size, 0, none⟩) 1 1] ((w.drewN nq).alloc (.cells #[.slice a1 m c1] 22)) fun e w' => e = .returned (.int .u32 (M.crc body : Nat)) ∧ (w.drewN nq).alloc (.cells #[.slice a1 m c1] 22) = w') := by
            have := sum_any (some ⟨(w.drewN nq).heap.size, 0, none⟩) 1 1 [body] ((w.drewN nq).alloc (.cells #[.slice a1 m c1] 22)) (Sls.one hb1q (by omega) 22) (by omega)
            have e1 : ([body] : List (List UInt8)).flatten = body := by simp
            rw [e1] at this
            exact this
          obtain ⟨W, hWW⟩ : ∃ W, (w.drewN nq).alloc (.cells #[.slice a1 m c1] 22) = W := ⟨_, rfl⟩
          rw [hWW] at K2
          have fW : Fr (fun _ => False) w W := by rw [← hWW]; exact Fr.alloc fq _
          rw [HSM.out] at hcrc K2
          have hfl := M.le4_length sm
          have K3 := hid (appendSum_any w.heap.size none 0 0 [] sm W rfl (Ow.nil _ _) hcrc fW.size (by omega))
          have FW := hid fW
          clear fW hb1q fq
          go_wp2_with fail
          refine K2.out.mono ?_
          rintro e w3 ⟨rfl, rfl⟩
          clear hWW K2
          go_wp2_with fail
          refine K3.out.mono ?_
          rintro e w4 ⟨a4, c4, rfl, hg4⟩
          have f4 : Fr (fun _ => False) w w4 := FW.out.trans hg4.2.1 (fun i hi e => by simp [blk] at e)
          have s4 : Sl w4 a4 4 (M.le4 sm) := by have := hg4.1.sl; rw [List.nil_append, hfl] at this; exact this
          have b4 : Sl w4 a2 4 four := hb2.kept f4 (fun _ _ _ h => h)
          have d4 : Sl w4 a1 m body := hb1.kept f4 (fun _ _ _ h => h)
          have K4 := hid (equal_any a2 a4 4 c2 4 c4 four (M.le4 sm) w4 b4 s4)
          have K5 := hid (clone_any a1 m c1 body w4 d4 (by omega))
          have F4 := hid f4
          clear hg4 f4 s4 b4 d4 K3
          rw [decide_eq_true HEQ.out] at K4
          go_wp2_with (first
            | (go_at_call 13; refine K4.out.mono ?_; rintro e w5 ⟨rfl, rfl⟩)
            | (go_at_call 58; refine K5.out.mono ?_; rintro e w5 ⟨xa, xc, rfl, hx, hf⟩; have HX := hid hx; have HF := hid hf; clear hx hf))
          go_ret3
          refine ⟨xa, xc, ?_, HX.out.base (fun k hk => Nat.le_trans F4.out.size (HX.out.lt k hk).1), F4.out.trans HF.out (fun _ _ h => h)⟩
          rw [hbodyl]
          simp
        · rw [if_pos (by simpa using heq)]
          have HEQ := hid heq
          clear heq
          go_enter Try.func29, Try.ntmps29
          go_wp2_with (first | (go_at_call 55; refine K.out.mono ?_; rintro e w' ⟨rfl, rfl⟩))
          go_quiet (fail)
          have hcrc := M.crc_lt body
          have fq : Fr (fun _ => False) w (w.drewN nq) := Fr.drewN w nq
          have hb1q : Sl (w.drewN nq) a1 m body := hb1.kept fq (fun _ _ _ h => h)
          have K2 : Hid (Calls Try.prog 57 #[.slice (some ⟨w.heap.size, 0, none⟩) 1 1] ((w.drewN nq).alloc (.cells #[.slice a1 m c1] 22)) fun e w' => e = .returned (.int .u32 (M.crc body : Nat)) ∧ (w.drewN nq).alloc (.cells #[.slice a1 m c1] 22) = w') := by
            have := sum_any (some ⟨(w.drewN nq).heap.size, 0, none⟩) 1 1 [body] ((w.drewN nq).alloc (.cells #[.slice a1 m c1] 22)) (Sls.one hb1q (by omega) 22) (by omega)
            have e1 : ([body] : List (List UInt8)).flatten = body := by simp
            rw [e1] at this
            exact this
          obtain ⟨W, hWW⟩ : ∃ W, (w.drewN nq).alloc (.cells #[.slice a1 m c1] 22) = W := ⟨_, rfl⟩
          rw [hWW] at K2
          have fW : Fr (fun _ => False) w W := by rw [← hWW]; exact Fr.alloc fq _
          rw [HSM.out] at hcrc K2
          have hfl := M.le4_length sm
          have K3 := hid (appendSum_any w.heap.size none 0 0 [] sm W rfl (Ow.nil _ _) hcrc fW.size (by omega))
          have FW := hid fW
          clear fW hb1q fq
          go_wp2_with fail
          refine K2.out.mono ?_
          rintro e w3 ⟨rfl, rfl⟩
          clear hWW K2
          go_wp2_with fail
          refine K3.out.mono ?_
          rintro e w4 ⟨a4, c4, rfl, hg4⟩
          have f4 : Fr (fun _ => False) w w4 := FW.out.trans hg4.2.1 (fun i hi e => by simp [blk] at e)
          have s4 : Sl w4 a4 4 (M.le4 sm) := by have := hg4.1.sl; rw [List.nil_append, hfl] at this; exact this
          have b4 : Sl w4 a2 4 four := hb2.kept f4 (fun _ _ _ h => h)
          have d4 : Sl w4 a1 m body := hb1.kept f4 (fun _ _ _ h => h)
          have K4 := hid (equal_any a2 a4 4 c2 4 c4 four (M.le4 sm) w4 b4 s4)
          have K5 := hid (clone_any a1 m c1 body w4 d4 (by omega))
          have F4 := hid f4
          clear hg4 f4 s4 b4 d4 K3
          rw [decide_eq_false HEQ.out] at K4
          go_wp2_with (first
            | (go_at_call 13; refine K4.out.mono ?_; rintro e w5 ⟨rfl, rfl⟩))
          go_ret3
          exact ⟨none, 0, rfl, Ow.nil _ _, F4.out⟩
  · rw [if_pos (by simpa using h3)]
    have h3' : (t3 != 0) = true := by simpa using h3
    clear h3
    go_enter Try.func29, Try.ntmps29
    go_wp2_with (first | (go_at_call 55; refine K.out.mono ?_; rintro e w' ⟨rfl, rfl⟩))
    go_ret3
    exact ⟨none, 0, rfl, Ow.nil _ _, Fr.refl _ _⟩
end Go.Proofs.Ytogdjhhabcejgaa

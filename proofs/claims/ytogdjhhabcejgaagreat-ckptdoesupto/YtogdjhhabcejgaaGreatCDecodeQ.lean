/-
  The contract of ckpt's Decode.
-/
import Derived.Test.YtogdjhhabcejgaaGreatCCodeQ
import Derived.Test.YtogdjhhabcejgaaGreatMg25
import Derived.Test.YtogdjhhabcejgaaGreatReaderQ
namespace Go.Proofs.YtogdjhhabcejgaaGreat
open Go.RowKit
set_option linter.unusedVariables false

theorem RP.sl_kept {w w1 : World} {p : Nat} {a : Option Addr} {bs : List UInt8} {k : Nat} (h : RP w p a bs k w1) {x : Option Addr} {n : Nat} {xs : List UInt8} (hx : Sl w x n xs) (hne : 0 < n → blk x ≠ some p) : Sl w1 x n xs := by
  obtain ⟨a', c', _, hf, _⟩ := h
  exact hx.kept hf (fun hn k hk e => hne hn (by rw [hk, e]))

set_option maxHeartbeats 1600000 in
/-- Decode -/
theorem decode_any (a : Option Addr) (len c : Nat) (bs : List UInt8) (w : World) (h : Sl w a len bs) (hlc : len ≤ c) (hm : len ≤ 200000000000000) :
    Calls Tryz.prog 36 #[.slice a len c] w fun e w' => ∃ a' c', e = .returned (.tuple #[.int .i64 (C.dec bs).1, .slice a' (C.dec bs).2.1.length c', .int .i64 (C.dec bs).2.2]) ∧ Ow w.heap.size w' a' c' (C.dec bs).2.1 ∧ Fr (fun _ => False) w w' := by
  have hl := h.1
  have K0 := hid (unframe_any a len c bs w h hlc hm)
  obtain ⟨u, hu⟩ : ∃ u, M.unframe bs = u := ⟨_, rfl⟩
  obtain ⟨x, n, er⟩ := u
  have hdec : C.dec bs = if er ≠ 0 then (0, [], 60) else if n ≠ len then (0, [], 60) else C.decB x := by unfold C.dec; rw [hu, hl]
  have hxl : er = 0 → x.length ≤ 1048576 := by
    intro he
    unfold M.unframe at hu
    split at hu
    · simp only [Prod.mk.injEq] at hu; obtain ⟨rfl, _⟩ := hu; simp
    · split at hu
      · simp only [Prod.mk.injEq] at hu; obtain ⟨rfl, _⟩ := hu; simp
      · split at hu
        · simp only [Prod.mk.injEq] at hu; obtain ⟨rfl, _⟩ := hu; simp
        · split at hu
          · simp only [Prod.mk.injEq] at hu; obtain ⟨rfl, _⟩ := hu; simp
          · simp only [Prod.mk.injEq] at hu; obtain ⟨rfl, _⟩ := hu; simp only [List.length_take]; omega
  rw [hu] at K0
  simp only at K0
  rw [hdec]
  clear hu hdec h hl
  by_cases he : er = 0
  · subst he
    have hxl := hxl rfl
    rw [if_neg (by simp)]
    by_cases hn : n = len
    · subst hn
      rw [if_neg (by simp)]
      unfold C.decB
      obtain ⟨ti, hti⟩ : ∃ ti, M.takeI x = ti := ⟨_, rfl⟩
      obtain ⟨s, k, e1⟩ := ti
      have KI := hid (fun (w1 : World) (p : Nat) (a : Option Addr) (c : Nat) (h : Rd w1 p a c x) => rInt_any w1 p a c x h)
      rw [hti] at KI
      rw [hti]
      simp only at KI ⊢
      clear hti
      by_cases h1 : e1 = 0
      · subst h1
        rw [if_neg (by simp)]
        obtain ⟨y, hy⟩ : ∃ y, x.drop k = y := ⟨_, rfl⟩
        rw [hy]
        have hyl : y.length ≤ 1048576 := by rw [← hy, List.length_drop]; omega
        obtain ⟨tb, htb⟩ : ∃ tb, M.takeB y = tb := ⟨_, rfl⟩
        obtain ⟨dt, m, e2⟩ := tb
        have KB := hid (fun (w1 : World) (p : Nat) (a : Option Addr) (c : Nat) (h : Rd w1 p a c y) => rBytes_any w1 p a c y h)
        rw [htb] at KB
        rw [htb]
        simp only at KB ⊢
        have hdl : dt.length ≤ 1048576 := by have := C.takeB_le y; rw [htb] at this; simp only at this; omega
        have HTB := hid htb
        clear htb
        have HY := hid hy
        clear hy
        by_cases h2 : e2 = 0
        · subst h2
          rw [if_neg (by simp)]
          by_cases h3 : y.length = m
          · rw [if_neg (by simp [h3])]
            have h3' : (y.drop m).length = 0 := by rw [List.length_drop]; omega
            by_cases h4 : C.chk s dt.length = 0
            · rw [if_neg (by simp [h4])]
              simp only
              have EE : Hid ((if (y.drop m).length = 0 then (0 : Int) else 13) = 0) := hid (by rw [if_pos h3'])
              have EC := hid h4
              clear h3 h3' h4
              go_enter Tryz.func36, Tryz.ntmps36
              go_wp2_with (first
                | (go_at_call 64; refine K0.out.mono ?_; rintro e w1 ⟨xa, xc, rfl, ho1, hf1⟩; have HO1 := hid ho1; have F1 := hid hf1; clear ho1 hf1)
                | (go_at_call 65; refine (newReader_any xa x.length xc x w1 HO1.out.sl (by omega)).mono ?_; rintro e w2 ⟨p, a2, c2, rfl, hr2, hf2, hp2, ha2⟩; have HR2 := hid hr2; have F2 := hid (F1.out.trans hf2 (fun _ _ h => h)); have HP2 := hid hp2; have HA2 := hid ha2; clear hr2 hf2 hp2 ha2)
                | (go_at_call 66; refine (KI.out w2 p a2 c2 HR2.out).mono ?_; rintro e w3 ⟨rfl, a3, c3, hr3, hf3, hb3⟩; rw [HY.out] at hr3; have HR3 := hid hr3; have F3 := hid (F2.out.trans hf3 (fun i hi e => by have := HP2.out; have := F1.out.size; omega)); clear hr3 hf3 hb3)
                | (go_at_call 67; refine (KB.out w3 p a3 c3 HR3.out).mono ?_; rintro e w4 ⟨xb, yc, rfl, ho4, a4, c4, hr4, hf4, hb4⟩; have HO4 := hid ho4; have HR4 := hid hr4; have F4 := hid (F3.out.trans hf4 (fun i hi e => by have := HP2.out; have := F1.out.size; omega)); clear ho4 hr4 hf4 hb4)
                | (go_at_call 68; refine (rEnd_any w4 p a4 c4 _ HR4.out).mono ?_; rintro e w' ⟨rfl, rfl⟩; rw [EE.out])
                | (go_at_call 54; refine (ckCheck_any s xb dt.length yc w4).mono ?_; rintro e w' ⟨rfl, rfl⟩; rw [EC.out]))
              go_ret3
              have hz := F3.out.size
              exact ⟨xb, yc, rfl, HO4.out.base (fun k hk => by have := (HO4.out.lt k hk).1; omega), F4.out⟩
            · rw [if_pos h4]
              simp only
              obtain ⟨cv, hcv⟩ : ∃ cv, C.chk s dt.length = cv := ⟨_, rfl⟩
              rw [hcv] at h4
              have EE : Hid ((if (y.drop m).length = 0 then (0 : Int) else 13) = 0) := hid (by rw [if_pos h3'])
              have EC := hid hcv
              clear h3 h3' hcv
              go_enter Tryz.func36, Tryz.ntmps36
              go_wp2_with (first
                | (go_at_call 64; refine K0.out.mono ?_; rintro e w1 ⟨xa, xc, rfl, ho1, hf1⟩; have HO1 := hid ho1; have F1 := hid hf1; clear ho1 hf1)
                | (go_at_call 65; refine (newReader_any xa x.length xc x w1 HO1.out.sl (by omega)).mono ?_; rintro e w2 ⟨p, a2, c2, rfl, hr2, hf2, hp2, ha2⟩; have HR2 := hid hr2; have F2 := hid (F1.out.trans hf2 (fun _ _ h => h)); have HP2 := hid hp2; have HA2 := hid ha2; clear hr2 hf2 hp2 ha2)
                | (go_at_call 66; refine (KI.out w2 p a2 c2 HR2.out).mono ?_; rintro e w3 ⟨rfl, a3, c3, hr3, hf3, hb3⟩; rw [HY.out] at hr3; have HR3 := hid hr3; have F3 := hid (F2.out.trans hf3 (fun i hi e => by have := HP2.out; have := F1.out.size; omega)); clear hr3 hf3 hb3)
                | (go_at_call 67; refine (KB.out w3 p a3 c3 HR3.out).mono ?_; rintro e w4 ⟨xb, yc, rfl, ho4, a4, c4, hr4, hf4, hb4⟩; have HO4 := hid ho4; have HR4 := hid hr4; have F4 := hid (F3.out.trans hf4 (fun i hi e => by have := HP2.out; have := F1.out.size; omega)); clear ho4 hr4 hf4 hb4)
                | (go_at_call 68; refine (rEnd_any w4 p a4 c4 _ HR4.out).mono ?_; rintro e w' ⟨rfl, rfl⟩; rw [EE.out])
                | (go_at_call 54; refine (ckCheck_any s xb dt.length yc w4).mono ?_; rintro e w' ⟨rfl, rfl⟩; rw [EC.out]))
              go_ret3
              exact ⟨none, 0, rfl, Ow.nil _ _, F4.out⟩
          · rw [if_pos h3]
            simp only
            have h3' : ¬ (y.drop m).length = 0 := by
              rw [List.length_drop]
              have := M.takeB_size y
              rw [HTB.out] at this
              simp only at this
              omega
            have EC : Hid (C.chk s dt.length = C.chk s dt.length) := hid rfl
            have EE : Hid ((if (y.drop m).length = 0 then (0 : Int) else 13) = 13) := hid (by rw [if_neg h3'])
            clear h3 h3'
            go_enter Tryz.func36, Tryz.ntmps36
            go_wp2_with (first
              | (go_at_call 64; refine K0.out.mono ?_; rintro e w1 ⟨xa, xc, rfl, ho1, hf1⟩; have HO1 := hid ho1; have F1 := hid hf1; clear ho1 hf1)
              | (go_at_call 65; refine (newReader_any xa x.length xc x w1 HO1.out.sl (by omega)).mono ?_; rintro e w2 ⟨p, a2, c2, rfl, hr2, hf2, hp2, ha2⟩; have HR2 := hid hr2; have F2 := hid (F1.out.trans hf2 (fun _ _ h => h)); have HP2 := hid hp2; have HA2 := hid ha2; clear hr2 hf2 hp2 ha2)
              | (go_at_call 66; refine (KI.out w2 p a2 c2 HR2.out).mono ?_; rintro e w3 ⟨rfl, a3, c3, hr3, hf3, hb3⟩; rw [HY.out] at hr3; have HR3 := hid hr3; have F3 := hid (F2.out.trans hf3 (fun i hi e => by have := HP2.out; have := F1.out.size; omega)); clear hr3 hf3 hb3)
              | (go_at_call 67; refine (KB.out w3 p a3 c3 HR3.out).mono ?_; rintro e w4 ⟨xb, yc, rfl, ho4, a4, c4, hr4, hf4, hb4⟩; have HO4 := hid ho4; have HR4 := hid hr4; have F4 := hid (F3.out.trans hf4 (fun i hi e => by have := HP2.out; have := F1.out.size; omega)); clear ho4 hr4 hf4 hb4)
              | (go_at_call 68; refine (rEnd_any w4 p a4 c4 _ HR4.out).mono ?_; rintro e w' ⟨rfl, rfl⟩; rw [EE.out])
              | (go_at_call 54; refine (ckCheck_any s xb dt.length yc w4).mono ?_; rintro e w' ⟨rfl, rfl⟩; rw [EC.out]))
            go_ret3
            exact ⟨none, 0, rfl, Ow.nil _ _, F4.out⟩
        · rw [if_pos h2]
          simp only
          have EE : Hid ((if (y.drop m).length = 0 then (0 : Int) else 13) = if (y.drop m).length = 0 then (0 : Int) else 13) := hid rfl
          have EC : Hid (C.chk s dt.length = C.chk s dt.length) := hid rfl
          go_enter Tryz.func36, Tryz.ntmps36
          go_wp2_with (first
            | (go_at_call 64; refine K0.out.mono ?_; rintro e w1 ⟨xa, xc, rfl, ho1, hf1⟩; have HO1 := hid ho1; have F1 := hid hf1; clear ho1 hf1)
            | (go_at_call 65; refine (newReader_any xa x.length xc x w1 HO1.out.sl (by omega)).mono ?_; rintro e w2 ⟨p, a2, c2, rfl, hr2, hf2, hp2, ha2⟩; have HR2 := hid hr2; have F2 := hid (F1.out.trans hf2 (fun _ _ h => h)); have HP2 := hid hp2; have HA2 := hid ha2; clear hr2 hf2 hp2 ha2)
            | (go_at_call 66; refine (KI.out w2 p a2 c2 HR2.out).mono ?_; rintro e w3 ⟨rfl, a3, c3, hr3, hf3, hb3⟩; rw [HY.out] at hr3; have HR3 := hid hr3; have F3 := hid (F2.out.trans hf3 (fun i hi e => by have := HP2.out; have := F1.out.size; omega)); clear hr3 hf3 hb3)
            | (go_at_call 67; refine (KB.out w3 p a3 c3 HR3.out).mono ?_; rintro e w4 ⟨xb, yc, rfl, ho4, a4, c4, hr4, hf4, hb4⟩; have HO4 := hid ho4; have HR4 := hid hr4; have F4 := hid (F3.out.trans hf4 (fun i hi e => by have := HP2.out; have := F1.out.size; omega)); clear ho4 hr4 hf4 hb4)
            | (go_at_call 68; refine (rEnd_any w4 p a4 c4 _ HR4.out).mono ?_; rintro e w' ⟨rfl, rfl⟩; rw [EE.out])
            | (go_at_call 54; refine (ckCheck_any s xb dt.length yc w4).mono ?_; rintro e w' ⟨rfl, rfl⟩; rw [EC.out]))
          go_ret3
          exact ⟨none, 0, rfl, Ow.nil _ _, F4.out⟩
      · rw [if_pos h1]
        simp only
        go_enter Tryz.func36, Tryz.ntmps36
        go_wp2_with (first
          | (go_at_call 64; refine K0.out.mono ?_; rintro e w1 ⟨xa, xc, rfl, ho1, hf1⟩; have HO1 := hid ho1; have F1 := hid hf1; clear ho1 hf1)
          | (go_at_call 65; refine (newReader_any xa x.length xc x w1 HO1.out.sl (by omega)).mono ?_; rintro e w2 ⟨p, a2, c2, rfl, hr2, hf2, hp2, ha2⟩; have HR2 := hid hr2; have F2 := hid (F1.out.trans hf2 (fun _ _ h => h)); have HP2 := hid hp2; have HA2 := hid ha2; clear hr2 hf2 hp2 ha2)
          | (go_at_call 66; refine (KI.out w2 p a2 c2 HR2.out).mono ?_; rintro e w3 ⟨rfl, a3, c3, hr3, hf3, hb3⟩; have HR3 := hid hr3; have F3 := hid (F2.out.trans hf3 (fun i hi e => by have := HP2.out; have := F1.out.size; omega)); clear hr3 hf3 hb3))
        go_ret3
        exact ⟨none, 0, rfl, Ow.nil _ _, F3.out⟩
    · rw [if_pos hn]
      simp only
      have hn' : ¬ ((n : Int) = (len : Int)) := by omega
      go_enter Tryz.func36, Tryz.ntmps36
      go_wp2_with (first
        | (go_at_call 64; refine K0.out.mono ?_; rintro e w1 ⟨xa, xc, rfl, ho1, hf1⟩; have HO1 := hid ho1; have F1 := hid hf1; clear ho1 hf1))
      go_ret3
      exact ⟨none, 0, rfl, Ow.nil _ _, F1.out⟩
  · rw [if_pos he]
    simp only
    go_enter Tryz.func36, Tryz.ntmps36
    go_wp2_with (first
      | (go_at_call 64; refine K0.out.mono ?_; rintro e w1 ⟨xa, xc, rfl, ho1, hf1⟩; have HO1 := hid ho1; have F1 := hid hf1; clear ho1 hf1))
    go_ret3
    exact ⟨none, 0, rfl, Ow.nil _ _, F1.out⟩

end Go.Proofs.YtogdjhhabcejgaaGreat

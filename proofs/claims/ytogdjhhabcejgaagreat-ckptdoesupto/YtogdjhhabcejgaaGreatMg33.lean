/-
  The contracts of the document's Encode and Decode.
  Plain facts of a disk's errors.
-/
import Derived.Test.YtogdjhhabcejgaaGreatCDecodeQ
import Derived.Test.YtogdjhhabcejgaaGreatRefFramesQ
import Derived.Test.YtogdjhhabcejgaaGreatRefParseQ
import Derived.Test.YtogdjhhabcejgaaGreatKDisk
namespace Go.Proofs.YtogdjhhabcejgaaGreat
open Go.RowKit
set_option linter.unusedVariables false

theorem M.unframe_size (b : List UInt8) : (M.unframe b).2.1 ≤ b.length := by
  unfold M.unframe
  split
  · simp
  · split
    · simp
    · split
      · simp
      · split
        · simp
        · simp only; omega

set_option maxHeartbeats 800000 in
theorem refEncode_any (s : Int) (h1 : -9223372036854775808 ≤ s) (h2 : s ≤ 9223372036854775807) (a : Option Addr) (len c : Nat) (bs : List UInt8) (w : World) (h : Sl w a len bs) :
    Calls Tryz.prog 37 #[.int .i64 s, .slice a len c] w fun e w' => ∃ a' c', e = .returned (.tuple #[.slice a' (C.enc s bs).1.length c', .int .i64 (C.enc s bs).2]) ∧ Ow w.heap.size w' a' c' (C.enc s bs).1 ∧ Fr (fun _ => False) w w' := by
  have hl := h.1
  by_cases h0 : s < 0
  · have e0 : C.chk s len = 1 := by unfold C.chk; rw [if_pos (.inl h0)]
    have he : C.enc s bs = ([], 1) := by rw [C.enc_err (by rw [hl, e0]; decide), hl, e0]
    rw [he]
    clear e0 he h hl
    go_enter Tryz.func37, Tryz.ntmps37
    go_wp2
    go_ret2
    exact ⟨none, 0, rfl, Ow.nil _ _, Fr.refl _ _⟩
  · by_cases h1' : 1099511627776 < s
    · have e0 : C.chk s len = 1 := by unfold C.chk; rw [if_pos (.inr h1')]
      have he : C.enc s bs = ([], 1) := by rw [C.enc_err (by rw [hl, e0]; decide), hl, e0]
      rw [he]
      clear e0 he h hl
      go_enter Tryz.func37, Tryz.ntmps37
      go_wp2
      go_ret2
      exact ⟨none, 0, rfl, Ow.nil _ _, Fr.refl _ _⟩
    · by_cases h3 : 524288 < len
      · have e0 : C.chk s len = 3 := by unfold C.chk; rw [if_neg (by omega), if_pos h3]
        have he : C.enc s bs = ([], 3) := by rw [C.enc_err (by rw [hl, e0]; decide), hl, e0]
        have h3' : (524288 : Int) < (len : Int) := by omega
        rw [he]
        clear e0 he h hl
        go_enter Tryz.func37, Tryz.ntmps37
        go_wp2
        go_ret2
        exact ⟨none, 0, rfl, Ow.nil _ _, Fr.refl _ _⟩
      · have e0 : C.chk s len = 0 := by unfold C.chk; rw [if_neg (by omega), if_neg h3]
        have hk := C.chk_ok e0
        have he : C.enc s bs = (M.frame (C.body s bs), 0) := C.enc_ok (by rw [hl]; exact e0)
        have hbl := C.body_length (s := s) (b := bs) (by rw [hl]; exact e0)
        have hbb : C.body s bs = M.enc (M.fd s) ++ (M.enc (M.fd len) ++ bs) := by unfold C.body encB; rw [hl]
        have h3' : ¬ (524288 : Int) < (len : Int) := by omega
        rw [he, hbb]
        rw [hbb, List.length_append, List.length_append, hl] at hbl
        have HBL := hid hbl
        have K1 := hid (refInt_any s w h1 h2)
        have K2 := hid (fun w1 (hf : Fr (fun _ => False) w w1) => refBytes_any a len c bs w1 (h.kept hf (fun _ _ _ h => h)) (by omega))
        have HL := hid hl
        clear e0 he h hl hbb hbl hk
        go_enter Tryz.func37, Tryz.ntmps37
        go_wp2_with (first
          | (go_at_call 70; refine K1.out.mono ?_; rintro e w1 ⟨a1, c1, rfl, ho1, hf1⟩; have HO1 := hid ho1; have F1 := hid hf1; clear ho1 hf1)
          | (go_at_call 71; refine (K2.out w1 F1.out).mono ?_; rintro e w2 ⟨a2, c2, rfl, ho2, hf2⟩; have HO2 := hid ho2; have HX2 := hid (HO1.out.kept hf2 (fun _ _ h => h)); have F2 := hid (F1.out.trans hf2 (fun _ _ h => h)); clear ho2 hf2)
          | (at_builtin; refine wpList_append_b _ rfl _ _ rfl w.heap.size a1 (M.enc (M.fd s)).length c1 (M.enc (M.fd s)) rfl rfl HX2.out a2 ((M.enc (M.fd len)).length + len) c2 (M.enc (M.fd len) ++ bs) rfl (by have := HO2.out.sl; rw [List.length_append, HL.out] at this; exact this) (by have := HBL.out; omega) F2.out.size ?_; intro a3 c3 w3 how3 hg3 hat3; have HO3 := hid how3; have F3 : Hid (Fr (fun _ => False) w w3) := hid (F2.out.trans (Fr.of_grown hg3) (fun i hi e => by have := (HX2.out.lt i e).1; omega)); clear how3 hg3 hat3)
          | (go_at_call 69; refine (refFrame_ok a3 _ c3 (M.enc (M.fd s) ++ (M.enc (M.fd len) ++ bs)) w3 (by have := HO3.out.sl; simp only [List.length_append, HL.out] at this; exact this) (by have := HBL.out; omega)).mono ?_; rintro e w4 ⟨a4, c4, rfl, ho4, hf4⟩; have HO4 := hid ho4; have F4 := hid (F3.out.trans hf4 (fun _ _ h => h)); clear ho4 hf4))
        go_ret2
        have hz := F3.out.size
        exact ⟨a4, c4, rfl, HO4.out.base (fun k hk => by have := (HO4.out.lt k hk).1; omega), F4.out⟩

set_option maxRecDepth 20000 in
set_option maxHeartbeats 1600000 in
theorem refDecode_any (a : Option Addr) (len c : Nat) (bs : List UInt8) (w : World) (h : Sl w a len bs) (hlc : len ≤ c) (hm : len ≤ 200000000000000) :
    Calls Tryz.prog 42 #[.slice a len c] w fun e w' => ∃ a' c', e = .returned (.tuple #[.int .i64 (C.dec bs).1, .slice a' (C.dec bs).2.1.length c', .int .i64 (C.dec bs).2.2]) ∧ Ow w.heap.size w' a' c' (C.dec bs).2.1 ∧ Fr (fun _ => False) w w' := by
  have hl := h.1
  have K0 := hid (refUnframe_any a len c bs w h hlc hm)
  have hsz := M.unframe_size bs
  obtain ⟨u, hu⟩ : ∃ u, M.unframe bs = u := ⟨_, rfl⟩
  obtain ⟨x, n, er⟩ := u
  have hdec : C.dec bs = if er ≠ 0 then (0, [], 60) else if n ≠ len then (0, [], 60) else C.decB x := by unfold C.dec; rw [hu, hl]
  have hxl : er = 0 → x.length ≤ 1048576 := by
    intro he
    unfold M.unframe at hu
    split at hu
    · simp only [Prod.mk.injEq] at hu; obtain ⟨rfl, _⟩ := hu; simp
    · split at hu
      · simp only [Prod.mk.injEq] at hu; obtain ⟨rfl, _⟩ := hu; simp
      · split at hu
        · simp only [Prod.mk.injEq] at hu; obtain ⟨rfl, _⟩ := hu; simp
        · split at hu
          · simp only [Prod.mk.injEq] at hu; obtain ⟨rfl, _⟩ := hu; simp
          · simp only [Prod.mk.injEq] at hu; obtain ⟨rfl, _⟩ := hu; simp only [List.length_take]; omega
  rw [hu] at K0 hsz
  simp only at K0 hsz
  rw [hl] at hsz
  rw [hdec]
  clear hu hdec h hl
  by_cases he : er = 0
  · subst he
    have hxl := hxl rfl
    rw [if_neg (by simp)]
    by_cases hn : n = len
    · subst hn
      rw [if_neg (by simp)]
      unfold C.decB
      have KI := hid (fun (w1 : World) (a : Option Addr) (c : Nat) (h : Sl w1 a x.length x) => parseInt_any a x.length c x w1 h (by omega))
      have hkx := M.takeI_size x
      obtain ⟨ti, hti⟩ : ∃ ti, M.takeI x = ti := ⟨_, rfl⟩
      obtain ⟨s, k, e1⟩ := ti
      rw [hti] at KI hkx
      rw [hti]
      simp only at KI hkx ⊢
      clear hti
      by_cases h1 : e1 = 0
      · subst h1
        rw [if_neg (by simp)]
        obtain ⟨y, hy⟩ : ∃ y, x.drop k = y := ⟨_, rfl⟩
        rw [hy]
        have hyl : y.length = x.length - k := by rw [← hy, List.length_drop]
        obtain ⟨tb, htb⟩ : ∃ tb, M.takeB y = tb := ⟨_, rfl⟩
        obtain ⟨dt, m, e2⟩ := tb
        have KB := hid (fun (w1 : World) (a : Option Addr) (c : Nat) (h : Sl w1 a (x.length - k) y) (hc : x.length - k ≤ c) => parseBytes_any a (x.length - k) c y w1 h hc (by omega))
        rw [htb] at KB
        rw [htb]
        simp only at KB ⊢
        have hms := M.takeB_size y
        rw [htb] at hms
        simp only at hms
        have hdl := C.takeB_le y
        rw [htb] at hdl
        simp only at hdl
        have HY := hid hy
        have HYL := hid hyl
        have HXC : Hid (∀ (w1 : World) (xa : Option Addr) (xc : Nat), Ow w.heap.size w1 xa xc x → Sl w1 (cutA xa xc k) (x.length - k) y) := hid (fun w1 xa xc ho => by rw [← HY.out]; exact ho.sl.cut ho.len k hkx)
        clear hy htb
        by_cases h2 : e2 = 0
        · subst h2
          rw [if_neg (by simp)]
          by_cases h3 : y.length = m
          · rw [if_neg (by simp [h3])]
            have h3' : ¬ ((k : Int) + (m : Int) < (x.length : Int)) := by omega
            by_cases h4 : C.chk s dt.length = 0
            · rw [if_neg (by simp [h4])]
              have hk := C.chk_ok h4
              have hk1 : ¬ s < 0 := by omega
              have hk2 : ¬ 1099511627776 < s := by omega
              have hk3 : ¬ (524288 : Int) < (dt.length : Int) := by omega
              simp only
              go_enter Tryz.func42, Tryz.ntmps42
              go_wp2_with (first
                | (go_at_call 76; refine K0.out.mono ?_; rintro e w1 ⟨xa, xc, rfl, ho1, hf1⟩; have HO1 := hid ho1; have F1 := hid hf1; have HXL := hid ho1.len; have hcut := run_cut_lo w1 xa x.length xc k hkx; clear ho1 hf1)
                | (go_at_call 77; refine (KI.out w1 xa xc HO1.out.sl).mono ?_; rintro e w' ⟨rfl, rfl⟩)
                | (go_at_call 78; refine (KB.out w1 _ _ (HXC.out w1 xa xc HO1.out) (by have := HXL.out; omega)).mono ?_; rintro e w4 ⟨xb, yc, rfl, ho4, hf4⟩; have HO4 := hid ho4; have F4 := hid (F1.out.trans hf4 (fun _ _ h => h)); clear ho4 hf4))
              go_ret3
              have hz := F1.out.size
              exact ⟨xb, yc, rfl, HO4.out.base (fun k hk => by have := (HO4.out.lt k hk).1; omega), F4.out⟩
            · rw [if_pos h4]
              simp only
              by_cases hk1 : s < 0
              · clear h4
                go_enter Tryz.func42, Tryz.ntmps42
                go_wp2_with (first
                  | (go_at_call 76; refine K0.out.mono ?_; rintro e w1 ⟨xa, xc, rfl, ho1, hf1⟩; have HO1 := hid ho1; have F1 := hid hf1; have HXL := hid ho1.len; have hcut := run_cut_lo w1 xa x.length xc k hkx; clear ho1 hf1)
                  | (go_at_call 77; refine (KI.out w1 xa xc HO1.out.sl).mono ?_; rintro e w' ⟨rfl, rfl⟩)
                  | (go_at_call 78; refine (KB.out w1 _ _ (HXC.out w1 xa xc HO1.out) (by have := HXL.out; omega)).mono ?_; rintro e w4 ⟨xb, yc, rfl, ho4, hf4⟩; have HO4 := hid ho4; have F4 := hid (F1.out.trans hf4 (fun _ _ h => h)); clear ho4 hf4))
                go_ret3
                exact ⟨none, 0, rfl, Ow.nil _ _, F4.out⟩
              · by_cases hk2 : 1099511627776 < s
                · clear h4
                  go_enter Tryz.func42, Tryz.ntmps42
                  go_wp2_with (first
                    | (go_at_call 76; refine K0.out.mono ?_; rintro e w1 ⟨xa, xc, rfl, ho1, hf1⟩; have HO1 := hid ho1; have F1 := hid hf1; have HXL := hid ho1.len; have hcut := run_cut_lo w1 xa x.length xc k hkx; clear ho1 hf1)
                    | (go_at_call 77; refine (KI.out w1 xa xc HO1.out.sl).mono ?_; rintro e w' ⟨rfl, rfl⟩)
                    | (go_at_call 78; refine (KB.out w1 _ _ (HXC.out w1 xa xc HO1.out) (by have := HXL.out; omega)).mono ?_; rintro e w4 ⟨xb, yc, rfl, ho4, hf4⟩; have HO4 := hid ho4; have F4 := hid (F1.out.trans hf4 (fun _ _ h => h)); clear ho4 hf4))
                  go_ret3
                  exact ⟨none, 0, rfl, Ow.nil _ _, F4.out⟩
                · have hk3 : (524288 : Int) < (dt.length : Int) := by
                    have : ¬ dt.length ≤ 524288 := fun h => h4 (C.chk_of (by omega) (by omega) h)
                    omega
                  clear h4
                  go_enter Tryz.func42, Tryz.ntmps42
                  go_wp2_with (first
                    | (go_at_call 76; refine K0.out.mono ?_; rintro e w1 ⟨xa, xc, rfl, ho1, hf1⟩; have HO1 := hid ho1; have F1 := hid hf1; have HXL := hid ho1.len; have hcut := run_cut_lo w1 xa x.length xc k hkx; clear ho1 hf1)
                    | (go_at_call 77; refine (KI.out w1 xa xc HO1.out.sl).mono ?_; rintro e w' ⟨rfl, rfl⟩)
                    | (go_at_call 78; refine (KB.out w1 _ _ (HXC.out w1 xa xc HO1.out) (by have := HXL.out; omega)).mono ?_; rintro e w4 ⟨xb, yc, rfl, ho4, hf4⟩; have HO4 := hid ho4; have F4 := hid (F1.out.trans hf4 (fun _ _ h => h)); clear ho4 hf4))
                  go_ret3
                  exact ⟨none, 0, rfl, Ow.nil _ _, F4.out⟩
          · rw [if_pos h3]
            have h3' : ((k : Int) + (m : Int) < (x.length : Int)) := by omega
            simp only
            go_enter Tryz.func42, Tryz.ntmps42
            go_wp2_with (first
              | (go_at_call 76; refine K0.out.mono ?_; rintro e w1 ⟨xa, xc, rfl, ho1, hf1⟩; have HO1 := hid ho1; have F1 := hid hf1; have HXL := hid ho1.len; have hcut := run_cut_lo w1 xa x.length xc k hkx; clear ho1 hf1)
              | (go_at_call 77; refine (KI.out w1 xa xc HO1.out.sl).mono ?_; rintro e w' ⟨rfl, rfl⟩)
              | (go_at_call 78; refine (KB.out w1 _ _ (HXC.out w1 xa xc HO1.out) (by have := HXL.out; omega)).mono ?_; rintro e w4 ⟨xb, yc, rfl, ho4, hf4⟩; have HO4 := hid ho4; have F4 := hid (F1.out.trans hf4 (fun _ _ h => h)); clear ho4 hf4))
            go_ret3
            exact ⟨none, 0, rfl, Ow.nil _ _, F4.out⟩
        · rw [if_pos h2]
          simp only
          go_enter Tryz.func42, Tryz.ntmps42
          go_wp2_with (first
            | (go_at_call 76; refine K0.out.mono ?_; rintro e w1 ⟨xa, xc, rfl, ho1, hf1⟩; have HO1 := hid ho1; have F1 := hid hf1; have HXL := hid ho1.len; have hcut := run_cut_lo w1 xa x.length xc k hkx; clear ho1 hf1)
            | (go_at_call 77; refine (KI.out w1 xa xc HO1.out.sl).mono ?_; rintro e w' ⟨rfl, rfl⟩)
            | (go_at_call 78; refine (KB.out w1 _ _ (HXC.out w1 xa xc HO1.out) (by have := HXL.out; omega)).mono ?_; rintro e w4 ⟨xb, yc, rfl, ho4, hf4⟩; have HO4 := hid ho4; have F4 := hid (F1.out.trans hf4 (fun _ _ h => h)); clear ho4 hf4))
          go_ret3
          exact ⟨none, 0, rfl, Ow.nil _ _, F4.out⟩
      · rw [if_pos h1]
        simp only
        go_enter Tryz.func42, Tryz.ntmps42
        go_wp2_with (first
          | (go_at_call 76; refine K0.out.mono ?_; rintro e w1 ⟨xa, xc, rfl, ho1, hf1⟩; have HO1 := hid ho1; have F1 := hid hf1; clear ho1 hf1)
          | (go_at_call 77; refine (KI.out w1 xa xc HO1.out.sl).mono ?_; rintro e w' ⟨rfl, rfl⟩))
        go_ret3
        exact ⟨none, 0, rfl, Ow.nil _ _, F1.out⟩
    · rw [if_pos hn]
      simp only
      have hn' : (n : Int) < (len : Int) := by omega
      go_enter Tryz.func42, Tryz.ntmps42
      go_wp2_with (first
        | (go_at_call 76; refine K0.out.mono ?_; rintro e w1 ⟨xa, xc, rfl, ho1, hf1⟩; have HO1 := hid ho1; have F1 := hid hf1; clear ho1 hf1))
      go_ret3
      exact ⟨none, 0, rfl, Ow.nil _ _, F1.out⟩
  · rw [if_pos he]
    simp only
    go_enter Tryz.func42, Tryz.ntmps42
    go_wp2_with (first
      | (go_at_call 76; refine K0.out.mono ?_; rintro e w1 ⟨xa, xc, rfl, ho1, hf1⟩; have HO1 := hid ho1; have F1 := hid hf1; clear ho1 hf1))
    go_ret3
    exact ⟨none, 0, rfl, Ow.nil _ _, F1.out⟩

end Go.Proofs.YtogdjhhabcejgaaGreat

namespace Go.Proofs.YtogdjhhabcejgaaGreat
set_option linter.unusedVariables false
namespace K

theorem burn_down {d : DK} (h : (burn d).1 ≠ 0) : (burn d).1 = 7 := by
  rcases burn_cases d with ⟨h0, _⟩ | ⟨h0, _⟩
  · exact absurd h0 h
  · exact h0
theorem rdy_down {d : DK} {n : Nm} (h : rdy d n = 0) : d.down = false := (not_bad h).1
theorem fnd_rdy {d : DK} {n : Nm} (h : fnd d n = 0) : rdy d n = 0 ∧ ∃ f, get n d.fs = some f := by
  unfold fnd at h
  by_cases h0 : rdy d n = 0
  · refine ⟨h0, ?_⟩
    rw [if_neg (by simp [h0])] at h
    cases hg : get n d.fs with
    | none => rw [if_pos hg] at h; cases h
    | some f => exact ⟨f, rfl⟩
  · rw [if_pos h0] at h
    exact absurd h h0
theorem fnd_down {d : DK} {n : Nm} (h : fnd d n = 0) : d.down = false := rdy_down (fnd_rdy h).1
theorem rdy2_down {d : DK} {n m : Nm} (h : rdy2 d n m = 0) : d.down = false := by
  unfold rdy2 at h
  split at h
  · cases h
  · rename_i h1; simpa using h1

end K
end Go.Proofs.YtogdjhhabcejgaaGreat

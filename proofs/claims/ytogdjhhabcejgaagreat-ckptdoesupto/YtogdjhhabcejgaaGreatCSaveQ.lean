/-
  The contracts of ckpt's Save and Load.
-/
import Derived.Test.YtogdjhhabcejgaaGreatCTidyQ
import Derived.Test.YtogdjhhabcejgaaGreatCDecodeQ
namespace Go.Proofs.YtogdjhhabcejgaaGreat
open Go.RowKit Go.Maps
set_option linter.unusedVariables false

theorem K.burn_usedC (d : K.DK) : (K.burn d).2.used ≤ d.used := by
  rcases K.burn_cases d with ⟨_, h, _⟩ | ⟨_, h⟩
  · unfold K.DK.used; rw [h]; exact Nat.le_refl _
  · rw [h]; exact K.used_fall _ _
theorem K.rem_used {d : K.DK} (h : K.Ok d) (n : K.Nm) : (K.rem d n).2.used ≤ d.used := by
  unfold K.rem
  split
  · exact Nat.le_refl _
  · split
    · exact K.burn_usedC d
    · exact K.tot_del_le K.F.len h.up n
theorem C.tidy_used {d : K.DK} (h : K.Ok d) : (C.tidy d).2.used ≤ d.used := by
  unfold C.tidy
  split
  · exact Nat.le_refl _
  · exact K.rem_used h _
theorem Dk.oks {S : Nat → Prop} {w : World} {p : Nat} {d : K.DK} (h : Dk S w p d) : K.Ok d := h.2.1

set_option maxHeartbeats 1600000 in
/-- Save -/
theorem save_any {S : Nat → Prop} {w : World} {p : Nat} {d : K.DK} (h : Dk S w p d) (s : Int) (h1 : -9223372036854775808 ≤ s) (h2 : s ≤ 9223372036854775807) (a : Option Addr) (len c : Nat) (bs : List UInt8) (hb : Sl w a len bs) (hc : d.used + 524322 ≤ K.cap) :
    Calls Tryz.prog 14 #[.pointer (some ⟨p, 0, none⟩), .int .i64 s, .slice a len c] w fun e w' => e = .returned (.int .i64 (C.save d s bs).1) ∧ Td S w p (C.save d s bs).2 w' := by
  have KE := hid (encode_any s h1 h2 a len c bs w hb)
  have hlx := C.enc_length s bs
  have hsn := C.enc_snd s bs
  have H := hid h
  by_cases hk : C.chk s bs.length = 0
  · have hsv : C.save d s bs = C.put d (C.enc s bs).1 := by unfold C.save; rw [if_neg (by simp [hk])]
    rw [hsv]
    rw [hk] at hsn
    rw [hsn] at KE
    obtain ⟨x, hx⟩ : ∃ x, (C.enc s bs).1 = x := ⟨_, rfl⟩
    rw [hx] at KE hlx ⊢
    have KT := hid (fun W (hf : Fr (fun _ => False) w W) => tidy_any (h.kept hf (fun _ _ h => h)))
    have htu := C.tidy_used h.oks
    unfold C.put
    obtain ⟨T, hT⟩ : ∃ T, C.tidy d = T := ⟨_, rfl⟩
    rw [hT] at KT htu ⊢
    obtain ⟨t1, dt⟩ := T
    simp only at KT htu ⊢
    clear hT hsv hx hsn hk h hb
    by_cases ht : t1 = 0
    · subst ht
      rw [if_neg (by simp)]
      obtain ⟨A, hA⟩ : ∃ A, K.app dt C.nw x = A := ⟨_, rfl⟩
      have KA := hid (fun (S' : Nat → Prop) W (hd : Dk S' W p dt) (xa : Option Addr) (xc : Nat) (hs : Sl W xa x.length x) => append_any hd ⟨#[99, 107, 112, 116, 46, 110, 101, 119]⟩ (by decide) xa x.length xc x hs (by omega) (fun _ => by omega))
      rw [nw_str, hA] at KA
      rw [hA]
      obtain ⟨a1, da⟩ := A
      simp only at KA ⊢
      clear hA
      by_cases ha : a1 = 0
      · subst ha
        rw [if_neg (by simp)]
        obtain ⟨Y, hY⟩ : ∃ Y, K.syn da C.nw = Y := ⟨_, rfl⟩
        have KY := hid (fun (S' : Nat → Prop) W (hd : Dk S' W p da) => sync_any hd ⟨#[99, 107, 112, 116, 46, 110, 101, 119]⟩ (by decide))
        rw [nw_str, hY] at KY
        rw [hY]
        obtain ⟨y1, dy⟩ := Y
        simp only at KY ⊢
        clear hY
        by_cases hy : y1 = 0
        · subst hy
          rw [if_neg (by simp)]
          have KN := hid (fun (S' : Nat → Prop) W (hd : Dk S' W p dy) => rename_any hd ⟨#[99, 107, 112, 116, 46, 110, 101, 119]⟩ ⟨#[99, 107, 112, 116]⟩ (by decide) (by decide))
          rw [nw_str, ck_str] at KN
          generalize K.ren dy C.nw C.ck = N at KN ⊢
          obtain ⟨n1, dn⟩ := N
          simp only at KN ⊢
          go_enter Tryz.func14, Tryz.ntmps14
          go_wp2_with (first
            | (go_at_call 31; refine KE.out.mono ?_; rintro e w1 ⟨xa, xc, rfl, ho1, hf1⟩; have HO1 := hid ho1; have F1 := hid hf1; clear ho1 hf1)
            | (go_at_call 32; refine (KT.out w1 F1.out).mono ?_; rintro e w2 ⟨rfl, ht2⟩; have HT := hid (Td.pre F1.out ht2); have HX := hid (HO1.out.sl.kept ht2.2 (fun _ k hk hS => by have := (HO1.out.lt k hk).1; have := H.out.1 k hS; omega)); clear ht2)
            | (go_at_call 25; refine (KA.out _ w2 HT.out.1 xa xc HX.out).mono ?_; rintro e w3 ⟨rfl, ht3⟩; have HT3 := hid (Td.trans HT.out ht3); clear ht3)
            | (go_at_call 33; refine (KY.out _ w3 HT3.out.1).mono ?_; rintro e w4 ⟨rfl, ht4⟩; have HT4 := hid (Td.trans HT3.out ht4); clear ht4)
            | (go_at_call 34; refine (KN.out _ w4 HT4.out.1).mono ?_; rintro e w5 ⟨rfl, ht5⟩; have HT5 := hid (Td.trans HT4.out ht5); clear ht5))
          go_ret
          exact ⟨rfl, HT5.out⟩
        · rw [if_pos hy]
          go_enter Tryz.func14, Tryz.ntmps14
          go_wp2_with (first
            | (go_at_call 31; refine KE.out.mono ?_; rintro e w1 ⟨xa, xc, rfl, ho1, hf1⟩; have HO1 := hid ho1; have F1 := hid hf1; clear ho1 hf1)
            | (go_at_call 32; refine (KT.out w1 F1.out).mono ?_; rintro e w2 ⟨rfl, ht2⟩; have HT := hid (Td.pre F1.out ht2); have HX := hid (HO1.out.sl.kept ht2.2 (fun _ k hk hS => by have := (HO1.out.lt k hk).1; have := H.out.1 k hS; omega)); clear ht2)
            | (go_at_call 25; refine (KA.out _ w2 HT.out.1 xa xc HX.out).mono ?_; rintro e w3 ⟨rfl, ht3⟩; have HT3 := hid (Td.trans HT.out ht3); clear ht3)
            | (go_at_call 33; refine (KY.out _ w3 HT3.out.1).mono ?_; rintro e w4 ⟨rfl, ht4⟩; have HT4 := hid (Td.trans HT3.out ht4); clear ht4))
          go_ret
          exact ⟨rfl, HT4.out⟩
      · rw [if_pos ha]
        go_enter Tryz.func14, Tryz.ntmps14
        go_wp2_with (first
          | (go_at_call 31; refine KE.out.mono ?_; rintro e w1 ⟨xa, xc, rfl, ho1, hf1⟩; have HO1 := hid ho1; have F1 := hid hf1; clear ho1 hf1)
          | (go_at_call 32; refine (KT.out w1 F1.out).mono ?_; rintro e w2 ⟨rfl, ht2⟩; have HT := hid (Td.pre F1.out ht2); have HX := hid (HO1.out.sl.kept ht2.2 (fun _ k hk hS => by have := (HO1.out.lt k hk).1; have := H.out.1 k hS; omega)); clear ht2)
          | (go_at_call 25; refine (KA.out _ w2 HT.out.1 xa xc HX.out).mono ?_; rintro e w3 ⟨rfl, ht3⟩; have HT3 := hid (Td.trans HT.out ht3); clear ht3))
        go_ret
        exact ⟨rfl, HT3.out⟩
    · rw [if_pos ht]
      go_enter Tryz.func14, Tryz.ntmps14
      go_wp2_with (first
        | (go_at_call 31; refine KE.out.mono ?_; rintro e w1 ⟨xa, xc, rfl, ho1, hf1⟩; have HO1 := hid ho1; have F1 := hid hf1; clear ho1 hf1)
        | (go_at_call 32; refine (KT.out w1 F1.out).mono ?_; rintro e w2 ⟨rfl, ht2⟩; have HT := hid (Td.pre F1.out ht2); clear ht2))
      go_ret
      exact ⟨rfl, HT.out⟩
  · have hsv : C.save d s bs = (C.chk s bs.length, d) := by unfold C.save; rw [if_pos hk]
    rw [hsv]
    rw [hsn] at KE
    generalize C.chk s bs.length = x at KE hk ⊢
    clear hsv hlx hsn h hb
    go_enter Tryz.func14, Tryz.ntmps14
    go_wp2_with (first
      | (go_at_call 31; refine KE.out.mono ?_; rintro e w1 ⟨xa, xc, rfl, ho1, hf1⟩; have F1 := hid hf1; clear ho1 hf1))
    go_ret
    exact ⟨rfl, Td.refl H.out F1.out⟩

/-- what Load answers: the slot, the data in a row of its own, the error -/
def Lr (S : Nat → Prop) (w : World) (p : Nat) (d : K.DK) (e : Ending) (w' : World) : Prop :=
  ∃ w1 a' c', e = .returned (.tuple #[.int .i64 (C.load d).1.1, .slice a' (C.load d).1.2.1.length c', .int .i64 (C.load d).1.2.2]) ∧ Td S w p (C.load d).2 w1 ∧ Ow w1.heap.size w' a' c' (C.load d).1.2.1 ∧ Fr (fun _ => False) w1 w'

set_option maxHeartbeats 1600000 in
/-- Load -/
theorem load_any {S : Nat → Prop} {w : World} {p : Nat} {d : K.DK} (h : Dk S w p d) :
    Calls Tryz.prog 15 #[.pointer (some ⟨p, 0, none⟩)] w fun e w' => Lr S w p d e w' := by
  have KT := hid (tidy_any h)
  unfold Lr C.load
  obtain ⟨T, hT⟩ : ∃ T, C.tidy d = T := ⟨_, rfl⟩
  rw [hT] at KT ⊢
  obtain ⟨t1, dt⟩ := T
  simp only at KT ⊢
  clear hT h
  by_cases ht : t1 = 0
  · subst ht
    rw [if_neg (by simp)]
    simp only
    have KR := hid (fun (S' : Nat → Prop) W (hd : Dk S' W p dt) => read_any hd ⟨#[99, 107, 112, 116]⟩ (by decide))
    rw [ck_str] at KR
    by_cases hf : K.fnd dt C.ck = 0
    · have hr : C.read dt = C.dec (C.file dt C.ck) := by unfold C.read; rw [if_neg (by simp [hf])]
      rw [hr]
      have KR2 : Hid (∀ (S' : Nat → Prop) W (hd : Dk S' W p dt), Calls Tryz.prog 35 #[.pointer (some ⟨p, 0, none⟩), .string ⟨#[99, 107, 112, 116]⟩] W fun e w' => ∃ a c, e = .returned (.tuple #[.slice a (C.file dt C.ck).length c, .int .i64 0]) ∧ Ow W.heap.size w' a c (C.file dt C.ck) ∧ (C.file dt C.ck).length ≤ K.cap ∧ Fr (fun _ => False) W w') := hid (fun S' W hd => (KR.out S' W hd).mono (fun e w' ⟨hr, hfr⟩ => by
        rcases hr with ⟨hne, _⟩ | ⟨_, f, a, c, hg, he, ho⟩
        · exact absurd hf hne
        · have hfe : C.file dt C.ck = f.all := by unfold C.file; rw [hg]
          rw [hfe]
          refine ⟨a, c, he, ho, ?_, hfr⟩
          have := Ok_len hd.oks (K.get_mem hg)
          unfold K.F.all
          rw [List.length_append]
          exact this))
      clear KR hr hf
      generalize C.file dt C.ck = fb at KR2 ⊢
      go_enter Tryz.func15, Tryz.ntmps15
      go_wp2_with (first
        | (go_at_call 32; refine KT.out.mono ?_; rintro e w1 ⟨rfl, ht1⟩; have HT := hid ht1; clear ht1)
        | (go_at_call 35; refine (KR2.out _ w1 HT.out.1).mono ?_; rintro e w2 ⟨ra, rc, rfl, ho2, hl2, hf2⟩; have HO2 := hid ho2; have HL2 := hid hl2; have F2 := hid hf2; clear ho2 hl2 hf2)
        | (go_at_call 36; refine (decode_any ra fb.length rc fb w2 HO2.out.sl HO2.out.len HL2.out).mono ?_; rintro e w3 ⟨xa, xc, rfl, ho3, hf3⟩; have HO3 := hid ho3; have F3 := hid (F2.out.trans hf3 (fun _ _ h => h)); clear ho3 hf3))
      go_ret3
      have hz := F2.out.size
      exact ⟨w1, xa, xc, rfl, HT.out, HO3.out.base (fun k hk => by have := (HO3.out.lt k hk).1; omega), F3.out⟩
    · have hr : C.read dt = (0, [], K.fnd dt C.ck) := by unfold C.read; rw [if_pos hf]
      rw [hr]
      have KR2 : Hid (∀ (S' : Nat → Prop) W (hd : Dk S' W p dt), Calls Tryz.prog 35 #[.pointer (some ⟨p, 0, none⟩), .string ⟨#[99, 107, 112, 116]⟩] W fun e w' => e = .returned (.tuple #[.slice none 0 0, .int .i64 (K.fnd dt C.ck)]) ∧ Fr (fun _ => False) W w') := hid (fun S' W hd => (KR.out S' W hd).mono (fun e w' ⟨hr, hfr⟩ => by
        rcases hr with ⟨_, he⟩ | ⟨h0, _⟩
        · exact ⟨he, hfr⟩
        · exact absurd h0 hf))
      clear KR hr
      generalize K.fnd dt C.ck = fe at KR2 hf ⊢
      go_enter Tryz.func15, Tryz.ntmps15
      go_wp2_with (first
        | (go_at_call 32; refine KT.out.mono ?_; rintro e w1 ⟨rfl, ht1⟩; have HT := hid ht1; clear ht1)
        | (go_at_call 35; refine (KR2.out _ w1 HT.out.1).mono ?_; rintro e w2 ⟨rfl, hf2⟩; have F2 := hid hf2; clear hf2))
      go_ret3
      exact ⟨w1, none, 0, rfl, HT.out, Ow.nil _ _, F2.out⟩
  · rw [if_pos ht]
    simp only
    go_enter Tryz.func15, Tryz.ntmps15
    go_wp2_with (first
      | (go_at_call 32; refine KT.out.mono ?_; rintro e w1 ⟨rfl, ht1⟩; have HT := hid ht1; clear ht1))
    go_ret3
    exact ⟨w1, none, 0, rfl, HT.out, Ow.nil _ _, Fr.refl _ _⟩

end Go.Proofs.YtogdjhhabcejgaaGreat

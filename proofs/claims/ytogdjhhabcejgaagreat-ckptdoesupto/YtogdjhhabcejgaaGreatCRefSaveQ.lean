/-
  The contracts of the document's there, clean, Save and Load.
-/
import Derived.Test.YtogdjhhabcejgaaGreatCSaveQ
import Derived.Test.YtogdjhhabcejgaaGreatMg33
import Derived.Test.YtogdjhhabcejgaaGreatMg39
import Derived.Test.YtogdjhhabcejgaaGreatMg44
import Derived.Test.YtogdjhhabcejgaaGreatRRen2Q
namespace Go.Proofs.YtogdjhhabcejgaaGreat
open Go.RowKit Go.Maps
set_option linter.unusedVariables false

theorem Nb.at {base : Nat} {w : World} {a : Option Addr} {c : Nat} {l : List K.Nm} (h : Nb base w a c l) {k : Nat} {x : K.Nm} (hx : l[k]? = some x) : ∃ g, a = some ⟨g, 0, none⟩ ∧ w.cell? ⟨g, k, none⟩ = some (encStr x) := by
  rcases h.2 with ⟨hv, h0⟩ | ⟨g, cap, cur, hv, hb, hg, _, _, _, ht⟩
  · have : l = [] := List.eq_nil_of_length_eq_zero (by simpa using h0)
    subst this
    simp at hx
  · simp only [Value.slice.injEq] at hv
    refine ⟨g, hv.1, ?_⟩
    rw [cell_of_row w g k _ _ _ hg]
    have h1 : (cur.toList.take (l.length * 1))[k]? = some (encStr x) := by rw [ht, List.getElem?_map, hx]; rfl
    rw [List.getElem?_take] at h1
    split at h1
    · simpa using h1
    · cases h1
theorem Rk.oks' {S : Nat → Prop} {w : World} {p : Nat} {d : K.DK} (h : Rk S w p d) : K.Ok d := h.2.1
theorem Rk.lt_p {S : Nat → Prop} {w : World} {p : Nat} {d : K.DK} (h : Rk S w p d) : p < w.heap.size := by
  obtain ⟨h1, _, _, _, _, _, _, h4, _⟩ := h
  exact h1 p h4
theorem encC_ne {x y : K.Nm} (h : x ≠ y) : ((⟨x.toArray⟩ : ByteArray).toList == (⟨y.toArray⟩ : ByteArray).toList) = false := by
  rw [ByteArray.toList_eq, ByteArray.toList_eq]
  simpa using h

set_option maxHeartbeats 1600000 in
theorem rthere_ck {S : Nat → Prop} {w : World} {p : Nat} {d : K.DK} (h : Rk S w p d) (s : K.Nm) :
    Calls Tryz.prog 72 #[.pointer (some ⟨p, 0, none⟩), encStr s] w fun e w' => e = .returned (.bool (decide (K.get s d.fs ≠ none))) ∧ Fr (fun _ => False) w w' := by
  have KN := hid (rnames_any h)
  have hlen : d.fs.length ≤ 1024 := h.oks'.files
  have hget : K.get s d.fs = none ↔ s ∉ d.fs.map (·.1) := K.get_names s
  obtain ⟨ss, hss⟩ : ∃ ss, d.fs.map (·.1) = ss := ⟨_, rfl⟩
  obtain ⟨g, hg⟩ : ∃ g, decide (K.get s d.fs ≠ none) = g := ⟨_, rfl⟩
  have hg' : g = decide (s ∈ ss) := by rw [← hg, ← hss]; exact decide_eq_decide.2 ⟨fun h => Classical.byContradiction (fun hn => h (hget.2 hn)), fun h e => (hget.1 e) h⟩
  have hl2 : d.fs.length = ss.length := by rw [← hss, List.length_map]
  rw [hg]
  rw [hss, hl2] at KN
  rw [hl2] at hlen
  obtain ⟨ln, hln⟩ : ∃ ln, ss.length = ln := ⟨_, rfl⟩
  have HG := hid hg'
  have HLN := hid hln
  rw [hln] at hlen KN
  clear h hget hss hg hg' hl2 hln
  go_enter Tryz.func72, Tryz.ntmps72
  go_wp2_with (first
    | (go_at_call 13; refine KN.out.mono ?_; rintro e w1 ⟨na, nc, rfl, hnb, hf1⟩; have HNB := hid hnb; have F1 := hid hf1; clear hnb hf1))
  go_loopw [6] (fun i wr => ∃ k : Nat, k ≤ ln ∧ i = .int .i64 k ∧ w1 = wr ∧ s ∉ ss.take k) (fun i _ => ln - (intOf i).toNat)
  case atStart => exact ⟨0, by omega, rfl, rfl, by simp⟩
  case round =>
    obtain ⟨k, hk, rfl, rfl, hns⟩ := hrel
    have HNS := hid hns
    clear hns
    by_cases hlt : k < ln
    · obtain ⟨x, hx⟩ : ∃ x, ss[k]? = some x := ⟨_, List.getElem?_eq_getElem (by rw [HLN.out]; exact hlt)⟩
      obtain ⟨gb, rfl, hcx⟩ := HNB.out.at hx
      have HX := hid hx
      clear hx
      by_cases hxs : x = s
      · subst hxs
        have hg1 : g = true := by rw [HG.out]; exact decide_eq_true (List.mem_of_getElem? HX.out)
        go_wp2
        go_ret
        exact ⟨by rw [hg1]; rfl, F1.out⟩
      · have e1 := encC_ne hxs
        have e2 : (x == s) = false := by simpa using hxs
        go_wp2
        go_roundw
        case rel => exact ⟨k + 1, by omega, by go_num, trivial, by rw [List.take_add_one, HX.out]; simp [HNS.out]; exact fun e => hxs e.symm⟩
        case measure => simp [intOf]; omega
    · have hg0 : g = false := by
        rw [HG.out]
        have := HNS.out
        rw [List.take_of_length_le (by rw [HLN.out]; omega)] at this
        exact decide_eq_false this
      go_wp2
      go_ret
      exact ⟨by rw [hg0]; rfl, F1.out⟩

set_option maxHeartbeats 800000 in
theorem rclean_any {S : Nat → Prop} {w : World} {p : Nat} {d : K.DK} (h : Rk S w p d) :
    Calls Tryz.prog 38 #[.pointer (some ⟨p, 0, none⟩)] w fun e w' => e = .returned (.int .i64 (C.tidy d).1) ∧ Rt S w p (C.tidy d).2 w' := by
  have KH := hid (rthere_ck h C.nw)
  by_cases hg : K.get C.nw d.fs = none
  · have e0 : C.tidy d = (0, d) := by unfold C.tidy; rw [if_pos hg]
    have e1 : decide (K.get C.nw d.fs ≠ none) = false := by simp [hg]
    rw [e0]
    rw [e1] at KH
    have H := hid h
    clear e0 e1 h hg
    go_enter Tryz.func38, Tryz.ntmps38
    go_wp2_with (first
      | (go_at_call 72; refine KH.out.mono ?_; rintro e w1 ⟨rfl, hf1⟩; have F1 := hid hf1; clear hf1))
    go_ret
    exact ⟨rfl, Rt.refl H.out F1.out⟩
  · have e0 : C.tidy d = K.rem d C.nw := by unfold C.tidy; rw [if_neg hg]
    have e1 : decide (K.get C.nw d.fs ≠ none) = true := by simp [hg]
    rw [e0]
    rw [e1] at KH
    have H := hid h
    have KR := hid (fun W (hf : Fr (fun _ => False) w W) => rremove_any (h.kept hf (fun _ _ h => h)) ⟨#[99, 107, 112, 116, 46, 110, 101, 119]⟩ (by decide))
    rw [nw_str] at KR
    generalize K.rem d C.nw = R at KR ⊢
    clear e0 e1 h hg
    go_enter Tryz.func38, Tryz.ntmps38
    go_wp2_with (first
      | (go_at_call 72; refine KH.out.mono ?_; rintro e w1 ⟨rfl, hf1⟩; have F1 := hid hf1; clear hf1)
      | (go_at_call 73; refine (KR.out w1 F1.out).mono ?_; rintro e w2 ⟨rfl, ht2⟩; have HT := hid (Rt.pre F1.out ht2); clear ht2))
    go_ret
    exact ⟨rfl, HT.out⟩

/-- of a disk that is down -/
theorem C.tidy_down {d : K.DK} (h : d.down = true) : C.tidy d = (0, d) ∨ C.tidy d = (7, d) := by
  unfold C.tidy
  split
  · exact .inl rfl
  · right
    have hr : K.rdy d C.nw = 7 := by unfold K.rdy; rw [if_pos h]
    have hf : K.fnd d C.nw = 7 := by unfold K.fnd; rw [if_pos (by rw [hr]; decide), hr]
    unfold K.rem
    rw [if_pos (by rw [hf]; decide), hf]
theorem C.put_down {d : K.DK} (h : d.down = true) (x : List UInt8) : C.put d x = (7, d) := by
  unfold C.put
  rcases C.tidy_down h with e | e
  · rw [e]
    simp only
    have ha : K.app d C.nw x = (7, d) := by
      have hr : K.rdy d C.nw = 7 := by unfold K.rdy; rw [if_pos h]
      unfold K.app
      rw [if_pos (by rw [hr]; decide), hr]
    rw [if_neg (by simp), ha, if_pos (by simp)]
  · rw [e, if_pos (by simp)]
theorem C.load_down {d : K.DK} (h : d.down = true) : C.load d = ((0, [], 7), d) := by
  unfold C.load
  rcases C.tidy_down h with e | e
  · rw [e]
    simp only
    have hf : K.fnd d C.ck = 7 := by
      have hr : K.rdy d C.ck = 7 := by unfold K.rdy; rw [if_pos h]
      unfold K.fnd
      rw [if_pos (by rw [hr]; decide), hr]
    rw [if_neg (by simp)]
    unfold C.read
    rw [if_pos (by rw [hf]; decide), hf]
  · rw [e, if_pos (by simp)]

set_option maxHeartbeats 1600000 in
/-- the document's Save -/
theorem rsave_any {S : Nat → Prop} {w : World} {p : Nat} {d : K.DK} (h : Rk S w p d) (s : Int) (h1 : -9223372036854775808 ≤ s) (h2 : s ≤ 9223372036854775807) (a : Option Addr) (len c : Nat) (bs : List UInt8) (hb : Sl w a len bs) (hc : d.used + 524322 ≤ K.cap) :
    Calls Tryz.prog 16 #[.pointer (some ⟨p, 0, none⟩), .int .i64 s, .slice a len c] w fun e w' => e = .returned (.int .i64 (C.save d s bs).1) ∧ Rt S w p (C.save d s bs).2 w' := by
  have KE := hid (refEncode_any s h1 h2 a len c bs w hb)
  have hlx := C.enc_length s bs
  have hsn := C.enc_snd s bs
  have H := hid h
  have KD := hid (fun W (hf : Fr (fun _ => False) w W) => rdown_any (h.kept hf (fun _ _ h => h)))
  by_cases hk : C.chk s bs.length = 0
  · have hsv : C.save d s bs = C.put d (C.enc s bs).1 := by unfold C.save; rw [if_neg (by simp [hk])]
    rw [hsv]
    rw [hk] at hsn
    rw [hsn] at KE
    obtain ⟨x, hx⟩ : ∃ x, (C.enc s bs).1 = x := ⟨_, rfl⟩
    rw [hx] at KE hlx ⊢
    by_cases hdn : d.down = true
    · rw [C.put_down hdn]
      rw [hdn] at KD
      clear hdn hsv hx hsn hk h hb
      go_enter Tryz.func16, Tryz.ntmps16
      go_wp2_with (first
        | (go_at_call 37; refine KE.out.mono ?_; rintro e w1 ⟨xa, xc, rfl, ho1, hf1⟩; have F1 := hid hf1; clear ho1 hf1)
        | (go_at_call 11; refine (KD.out w1 F1.out).mono ?_; rintro e w' ⟨rfl, rfl⟩))
      go_ret
      exact ⟨rfl, Rt.refl H.out F1.out⟩
    have hdf : d.down = false := by simpa using hdn
    rw [hdf] at KD
    clear hdn hdf
    have KT := hid (fun W (hf : Fr (fun _ => False) w W) => rclean_any (h.kept hf (fun _ _ h => h)))
    have htu := C.tidy_used h.oks'
    unfold C.put
    obtain ⟨T, hT⟩ : ∃ T, C.tidy d = T := ⟨_, rfl⟩
    rw [hT] at KT htu ⊢
    obtain ⟨t1, dt⟩ := T
    simp only at KT htu ⊢
    clear hT hsv hx hsn hk h hb
    by_cases ht : t1 = 0
    · subst ht
      rw [if_neg (by simp)]
      obtain ⟨A, hA⟩ : ∃ A, K.app dt C.nw x = A := ⟨_, rfl⟩
      have KA := hid (fun (S' : Nat → Prop) W (hd : Rk S' W p dt) (xa : Option Addr) (xc : Nat) (hs : Sl W xa x.length x) (hne : 0 < x.length → ∀ k, blk xa = some k → k ≠ p) => rapp_any hd ⟨#[99, 107, 112, 116, 46, 110, 101, 119]⟩ (by decide) xa x.length xc x hs hne (by omega) (fun _ => by omega))
      rw [nw_str, hA] at KA
      rw [hA]
      obtain ⟨a1, da⟩ := A
      simp only at KA ⊢
      clear hA
      by_cases ha : a1 = 0
      · subst ha
        rw [if_neg (by simp)]
        obtain ⟨Y, hY⟩ : ∃ Y, K.syn da C.nw = Y := ⟨_, rfl⟩
        have KY := hid (fun (S' : Nat → Prop) W (hd : Rk S' W p da) => rsync_any hd ⟨#[99, 107, 112, 116, 46, 110, 101, 119]⟩ (by decide))
        rw [nw_str, hY] at KY
        rw [hY]
        obtain ⟨y1, dy⟩ := Y
        simp only at KY ⊢
        clear hY
        by_cases hy : y1 = 0
        · subst hy
          rw [if_neg (by simp)]
          have KN := hid (fun (S' : Nat → Prop) W (hd : Rk S' W p dy) => rren_any hd ⟨#[99, 107, 112, 116, 46, 110, 101, 119]⟩ ⟨#[99, 107, 112, 116]⟩ (by decide) (by decide))
          rw [nw_str, ck_str] at KN
          generalize K.ren dy C.nw C.ck = N at KN ⊢
          obtain ⟨n1, dn⟩ := N
          simp only at KN ⊢
          go_enter Tryz.func16, Tryz.ntmps16
          go_wp2_with (first
            | (go_at_call 37; refine KE.out.mono ?_; rintro e w1 ⟨xa, xc, rfl, ho1, hf1⟩; have HO1 := hid ho1; have F1 := hid hf1; clear ho1 hf1)
            | (go_at_call 11; refine (KD.out w1 F1.out).mono ?_; rintro e w' ⟨rfl, rfl⟩)
            | (go_at_call 38; refine (KT.out w1 F1.out).mono ?_; rintro e w2 ⟨rfl, ht2⟩; have HT := hid (Rt.pre F1.out ht2); have HX := hid (HO1.out.sl.kept ht2.2 (fun _ k hk hS => by have := (HO1.out.lt k hk).1; have := H.out.1 k hS; omega)); have HNE : Hid (∀ k, blk xa = some k → k ≠ p) := hid (fun k hk e => by have h3 := (HO1.out.lt k hk).1; have h4 := H.out.lt_p; omega); clear ht2)
            | (go_at_call 26; refine (KA.out _ w2 HT.out.1 xa xc HX.out (fun _ => HNE.out)).mono ?_; rintro e w3 ⟨rfl, ht3⟩; have HT3 := hid (Rt.trans HT.out ht3); clear ht3)
            | (go_at_call 39; refine (KY.out _ w3 HT3.out.1).mono ?_; rintro e w4 ⟨rfl, ht4⟩; have HT4 := hid (Rt.trans HT3.out ht4); clear ht4)
            | (go_at_call 40; refine (KN.out _ w4 HT4.out.1).mono ?_; rintro e w5 ⟨rfl, ht5⟩; have HT5 := hid (Rt.trans HT4.out ht5); clear ht5))
          go_ret
          exact ⟨rfl, HT5.out⟩
        · rw [if_pos hy]
          go_enter Tryz.func16, Tryz.ntmps16
          go_wp2_with (first
            | (go_at_call 37; refine KE.out.mono ?_; rintro e w1 ⟨xa, xc, rfl, ho1, hf1⟩; have HO1 := hid ho1; have F1 := hid hf1; clear ho1 hf1)
            | (go_at_call 11; refine (KD.out w1 F1.out).mono ?_; rintro e w' ⟨rfl, rfl⟩)
            | (go_at_call 38; refine (KT.out w1 F1.out).mono ?_; rintro e w2 ⟨rfl, ht2⟩; have HT := hid (Rt.pre F1.out ht2); have HX := hid (HO1.out.sl.kept ht2.2 (fun _ k hk hS => by have := (HO1.out.lt k hk).1; have := H.out.1 k hS; omega)); have HNE : Hid (∀ k, blk xa = some k → k ≠ p) := hid (fun k hk e => by have h3 := (HO1.out.lt k hk).1; have h4 := H.out.lt_p; omega); clear ht2)
            | (go_at_call 26; refine (KA.out _ w2 HT.out.1 xa xc HX.out (fun _ => HNE.out)).mono ?_; rintro e w3 ⟨rfl, ht3⟩; have HT3 := hid (Rt.trans HT.out ht3); clear ht3)
            | (go_at_call 39; refine (KY.out _ w3 HT3.out.1).mono ?_; rintro e w4 ⟨rfl, ht4⟩; have HT4 := hid (Rt.trans HT3.out ht4); clear ht4))
          go_ret
          exact ⟨rfl, HT4.out⟩
      · rw [if_pos ha]
        go_enter Tryz.func16, Tryz.ntmps16
        go_wp2_with (first
            | (go_at_call 37; refine KE.out.mono ?_; rintro e w1 ⟨xa, xc, rfl, ho1, hf1⟩; have HO1 := hid ho1; have F1 := hid hf1; clear ho1 hf1)
            | (go_at_call 11; refine (KD.out w1 F1.out).mono ?_; rintro e w' ⟨rfl, rfl⟩)
            | (go_at_call 38; refine (KT.out w1 F1.out).mono ?_; rintro e w2 ⟨rfl, ht2⟩; have HT := hid (Rt.pre F1.out ht2); have HX := hid (HO1.out.sl.kept ht2.2 (fun _ k hk hS => by have := (HO1.out.lt k hk).1; have := H.out.1 k hS; omega)); have HNE : Hid (∀ k, blk xa = some k → k ≠ p) := hid (fun k hk e => by have h3 := (HO1.out.lt k hk).1; have h4 := H.out.lt_p; omega); clear ht2)
            | (go_at_call 26; refine (KA.out _ w2 HT.out.1 xa xc HX.out (fun _ => HNE.out)).mono ?_; rintro e w3 ⟨rfl, ht3⟩; have HT3 := hid (Rt.trans HT.out ht3); clear ht3))
        go_ret
        exact ⟨rfl, HT3.out⟩
    · rw [if_pos ht]
      go_enter Tryz.func16, Tryz.ntmps16
      go_wp2_with (first
            | (go_at_call 37; refine KE.out.mono ?_; rintro e w1 ⟨xa, xc, rfl, ho1, hf1⟩; have HO1 := hid ho1; have F1 := hid hf1; clear ho1 hf1)
            | (go_at_call 11; refine (KD.out w1 F1.out).mono ?_; rintro e w' ⟨rfl, rfl⟩)
            | (go_at_call 38; refine (KT.out w1 F1.out).mono ?_; rintro e w2 ⟨rfl, ht2⟩; have HT := hid (Rt.pre F1.out ht2); have HX := hid (HO1.out.sl.kept ht2.2 (fun _ k hk hS => by have := (HO1.out.lt k hk).1; have := H.out.1 k hS; omega)); have HNE : Hid (∀ k, blk xa = some k → k ≠ p) := hid (fun k hk e => by have h3 := (HO1.out.lt k hk).1; have h4 := H.out.lt_p; omega); clear ht2))
      go_ret
      exact ⟨rfl, HT.out⟩
  · have hsv : C.save d s bs = (C.chk s bs.length, d) := by unfold C.save; rw [if_pos hk]
    rw [hsv]
    rw [hsn] at KE
    generalize C.chk s bs.length = x at KE hk ⊢
    clear hsv hlx hsn h hb
    go_enter Tryz.func16, Tryz.ntmps16
    go_wp2_with (first
      | (go_at_call 37; refine KE.out.mono ?_; rintro e w1 ⟨xa, xc, rfl, ho1, hf1⟩; have F1 := hid hf1; clear ho1 hf1))
    go_ret
    exact ⟨rfl, Rt.refl H.out F1.out⟩

/-- what the document's Load answers -/
def Lq (S : Nat → Prop) (w : World) (p : Nat) (d : K.DK) (e : Ending) (w' : World) : Prop :=
  ∃ w1 a' c', e = .returned (.tuple #[.int .i64 (C.load d).1.1, .slice a' (C.load d).1.2.1.length c', .int .i64 (C.load d).1.2.2]) ∧ Rt S w p (C.load d).2 w1 ∧ Ow w1.heap.size w' a' c' (C.load d).1.2.1 ∧ Fr (fun _ => False) w1 w'

set_option maxHeartbeats 1600000 in
theorem rload_any {S : Nat → Prop} {w : World} {p : Nat} {d : K.DK} (h : Rk S w p d) :
    Calls Tryz.prog 17 #[.pointer (some ⟨p, 0, none⟩)] w fun e w' => Lq S w p d e w' := by
  have KD := hid (rdown_any h)
  have H := hid h
  unfold Lq
  by_cases hdn : d.down = true
  · rw [C.load_down hdn]
    rw [hdn] at KD
    clear hdn h
    simp only
    go_enter Tryz.func17, Tryz.ntmps17
    go_wp2_with (first
      | (go_at_call 11; refine KD.out.mono ?_; rintro e w' ⟨rfl, rfl⟩))
    go_ret3
    exact ⟨w, none, 0, rfl, Rt.refl H.out (Fr.refl _ _), Ow.nil _ _, Fr.refl _ _⟩
  have hdf : d.down = false := by simpa using hdn
  rw [hdf] at KD
  clear hdn hdf
  have KT := hid (rclean_any h)
  unfold C.load
  obtain ⟨T, hT⟩ : ∃ T, C.tidy d = T := ⟨_, rfl⟩
  rw [hT] at KT ⊢
  obtain ⟨t1, dt⟩ := T
  simp only at KT ⊢
  clear hT h
  by_cases ht : t1 = 0
  · subst ht
    rw [if_neg (by simp)]
    simp only
    have KR := hid (fun (S' : Nat → Prop) W (hd : Rk S' W p dt) => rread_any hd ⟨#[99, 107, 112, 116]⟩ (by decide))
    rw [ck_str] at KR
    by_cases hf : K.fnd dt C.ck = 0
    · have hr : C.read dt = C.dec (C.file dt C.ck) := by unfold C.read; rw [if_neg (by simp [hf])]
      rw [hr]
      have KR2 : Hid (∀ (S' : Nat → Prop) W (hd : Rk S' W p dt), Calls Tryz.prog 41 #[.pointer (some ⟨p, 0, none⟩), .string ⟨#[99, 107, 112, 116]⟩] W fun e w' => ∃ a c, e = .returned (.tuple #[.slice a (C.file dt C.ck).length c, .int .i64 0]) ∧ Ow W.heap.size w' a c (C.file dt C.ck) ∧ (C.file dt C.ck).length ≤ K.cap ∧ Fr (fun _ => False) W w') := hid (fun S' W hd => (KR.out S' W hd).mono (fun e w' ⟨hr, hfr⟩ => by
        rcases hr with ⟨hne, _⟩ | ⟨_, f, a, c, hg, he, ho⟩
        · exact absurd hf hne
        · have hfe : C.file dt C.ck = f.all := by unfold C.file; rw [hg]
          rw [hfe]
          refine ⟨a, c, he, ho, ?_, hfr⟩
          have := Ok_len hd.oks' (K.get_mem hg)
          unfold K.F.all
          rw [List.length_append]
          exact this))
      clear KR hr hf
      generalize C.file dt C.ck = fb at KR2 ⊢
      go_enter Tryz.func17, Tryz.ntmps17
      go_wp2_with (first
        | (go_at_call 11; refine KD.out.mono ?_; rintro e w' ⟨rfl, rfl⟩)
        | (go_at_call 38; refine KT.out.mono ?_; rintro e w1 ⟨rfl, ht1⟩; have HT := hid ht1; clear ht1)
        | (go_at_call 41; refine (KR2.out _ w1 HT.out.1).mono ?_; rintro e w2 ⟨ra, rc, rfl, ho2, hl2, hf2⟩; have HO2 := hid ho2; have HL2 := hid hl2; have F2 := hid hf2; clear ho2 hl2 hf2)
        | (go_at_call 42; refine (refDecode_any ra fb.length rc fb w2 HO2.out.sl HO2.out.len HL2.out).mono ?_; rintro e w3 ⟨xa, xc, rfl, ho3, hf3⟩; have HO3 := hid ho3; have F3 := hid (F2.out.trans hf3 (fun _ _ h => h)); clear ho3 hf3))
      go_ret3
      have hz := F2.out.size
      exact ⟨w1, xa, xc, rfl, HT.out, HO3.out.base (fun k hk => by have := (HO3.out.lt k hk).1; omega), F3.out⟩
    · have hr : C.read dt = (0, [], K.fnd dt C.ck) := by unfold C.read; rw [if_pos hf]
      rw [hr]
      have KR2 : Hid (∀ (S' : Nat → Prop) W (hd : Rk S' W p dt), Calls Tryz.prog 41 #[.pointer (some ⟨p, 0, none⟩), .string ⟨#[99, 107, 112, 116]⟩] W fun e w' => e = .returned (.tuple #[.slice none 0 0, .int .i64 (K.fnd dt C.ck)]) ∧ Fr (fun _ => False) W w') := hid (fun S' W hd => (KR.out S' W hd).mono (fun e w' ⟨hr, hfr⟩ => by
        rcases hr with ⟨_, he⟩ | ⟨h0, _⟩
        · exact ⟨he, hfr⟩
        · exact absurd h0 hf))
      clear KR hr
      generalize K.fnd dt C.ck = fe at KR2 hf ⊢
      go_enter Tryz.func17, Tryz.ntmps17
      go_wp2_with (first
        | (go_at_call 11; refine KD.out.mono ?_; rintro e w' ⟨rfl, rfl⟩)
        | (go_at_call 38; refine KT.out.mono ?_; rintro e w1 ⟨rfl, ht1⟩; have HT := hid ht1; clear ht1)
        | (go_at_call 41; refine (KR2.out _ w1 HT.out.1).mono ?_; rintro e w2 ⟨rfl, hf2⟩; have F2 := hid hf2; clear hf2))
      go_ret3
      exact ⟨w1, none, 0, rfl, HT.out, Ow.nil _ _, F2.out⟩
  · rw [if_pos ht]
    simp only
    go_enter Tryz.func17, Tryz.ntmps17
    go_wp2_with (first
      | (go_at_call 11; refine KD.out.mono ?_; rintro e w' ⟨rfl, rfl⟩)
      | (go_at_call 38; refine KT.out.mono ?_; rintro e w1 ⟨rfl, ht1⟩; have HT := hid ht1; clear ht1))
    go_ret3
    exact ⟨w1, none, 0, rfl, HT.out, Ow.nil _ _, Fr.refl _ _⟩

end Go.Proofs.YtogdjhhabcejgaaGreat

/-
  The document's disk: Append, where it writes; Append.
  The document's disk: Rename.
-/
import Derived.Test.YtogdjhhabcejgaaGreatRAppQ
import Derived.Test.YtogdjhhabcejgaaGreatMg41
namespace Go.Proofs.YtogdjhhabcejgaaGreat
open Go.RowKit Go.Maps
set_option linter.unusedVariables false

set_option maxHeartbeats 3200000 in
set_option maxRecDepth 20000 in
theorem rapp_D {S : Nat → Prop} {w : World} {p : Nat} {d : K.DK} (h : Rk S w p d) (s : ByteArray) (hz : s.size ≤ maxLen) (ba : Option Addr) (bm bc : Nat) (bs : List UInt8) (hb : Sl w ba bm bs) (hbp : 0 < bm → ∀ k, blk ba = some k → k ≠ p) (h0 : K.rdy d s.data.toList = 0) (h1 : ¬ (K.get s.data.toList d.fs = none ∧ 1024 ≤ d.fs.length)) (h2 : ¬ d.room < d.used + bs.length) (hc : d.used + bm ≤ K.cap) :
    Calls Tryz.prog 26 #[.pointer (some ⟨p, 0, none⟩), .string s, .slice ba bm bc] w fun e w' => e = .returned (.int .i64 (K.app d s.data.toList bs).1) ∧ Rt S w p (K.app d s.data.toList bs).2 w' := by
  have HL := hid (fun W b bc hf hb => rlooks1 h s hz W b bc hf hb)
  have HF := hid (fun (W : World) (hf : Fr (fun _ => False) w W) => rfind_any (h.kept hf (fun _ _ h => h)) s)
  have HU := hid (fun (W : World) (hf : Fr (fun _ => False) w W) => rused_any (h.kept hf (fun _ _ h => h)))
  obtain ⟨fa, fc, l, kp, hx⟩ := h.rx
  clear h
  have hlb := hb.1
  have hOK := K.ok_add hx.ok h0 h1 h2 (by rw [hlb]; exact hc)
  have HDN := hid (K.not_bad h0).1
  rw [K.app_ok h0 h1 h2]
  unfold rfnd at HF
  rw [h0] at HL
  generalize K.pos d.fs s.data.toList = ps at HF
  have hlen : (K.get s.data.toList d.fs).isSome = false → ¬ (1024 : Int) ≤ l.length := fun hg e => h1 ⟨by simpa using hg, by rw [hx.rm.len] at e; omega⟩
  obtain ⟨gb, hgb⟩ : ∃ gb, (K.get s.data.toList d.fs).isSome = gb := ⟨_, rfl⟩
  rw [hgb] at HF hlen
  have c1 := hx.rm.c.2.1
  have c0 := hx.rm.c.1
  have hur := hx.ok.ur
  have hr0 := hx.ok.r0
  have hr1 := hx.ok.r1
  rw [hlb] at h2
  have hFF : ¬ d.room - (d.used : Int) < (bm : Int) := by omega
  have hw : IntKind.i64.wrap (d.room - (d.used : Int)) = d.room - (d.used : Int) := by rw [IntKind.wrap_i64]; omega
  have HX := hid hx
  have HB := hid hb
  have HBP := hid hbp
  have HOK := hid hOK
  have HC := hid hc
  obtain ⟨fs', hfs'⟩ : ∃ fs', K.put s.data.toList (K.add (K.get s.data.toList d.fs) bs) d.fs = fs' := ⟨_, rfl⟩
  have HFS := hid hfs'
  rw [hfs'] at HOK ⊢
  clear hx h0 h1 h2 hgb hb hlb hur hr0 hr1 hbp hc hOK hfs'
  cases gb
  all_goals
    try replace hlen := hlen rfl
    go_enter Tryz.func26, Tryz.ntmps26
    go_wp2_with fail
    refine (HL.out _ _ _ (Fr.alloc (Fr.refl _ _) _) (by simp)).mono ?_
    rintro e w1 ⟨rfl, hw1⟩
    have f1 : Fr (fun _ => False) w w1 := hw1 ▸ Fr.alloc (Fr.refl _ _) _
    have KF := hid (HF.out w1 f1)
    have F1 := hid f1
    clear hw1 f1 HF
    go_wp2_with fail
    refine KF.out.mono ?_
    rintro e w2 ⟨rfl, n2, hw2⟩
    have f2 : Fr (fun _ => False) w w2 := F1.out.trans (hw2 ▸ Fr.drewN _ _) (fun _ _ h => h)
    have F2 := hid f2
    have c2 := cell_fr f2 (fun h => h) c1
    have c3 := cell_fr f2 (fun h => h) c0
    clear hw2 f2 c1 c0 KF
    go_wp2
    go_region_held3 (fun w' => w'.cell? ⟨p, 0, none⟩ = some (.int .i64 d.room)) (first | go_keep)
      (first
        | (go_at_call 9; refine (HU.out _ (by first | exact F2.out | exact Fr.drew F2.out | exact F2.out.trans (Fr.drewN _ _) (fun _ _ h => h))).mono ?_; rintro e w3 ⟨rfl, rfl⟩))
    go_wp2_with fail
    obtain ⟨w3, hw3⟩ : ∃ w3, w2.drew = w3 := ⟨_, rfl⟩
    rw [hw3]
    have f3 : Fr (fun _ => False) w w3 := hw3 ▸ Fr.drew F2.out
    have KB := hid (rblows_x (HX.out.kept f3))
    have F3 := hid f3
    clear hw3 f3 c2 c3 hFF hw
    refine KB.out.mono ?_
    rintro e w4 ⟨rfl, hx4, hf4⟩
    have e1 := K.blow_fs d
    have hu4 : (K.blow d).2.used = d.used := by unfold K.DK.used; rw [e1.1]
    have KP := rput_any hx4.rk s ba bm bc bs ((HB.out.kept F3.out (fun _ _ _ h => h)).kept hf4 (fun hz k hk e => HBP.out hz k hk e)) HBP.out (by rw [hu4]; exact HC.out) (by rw [e1.1, HFS.out]; exact K.ok_blow_fs HOK.out)
    rw [e1.1, HFS.out] at KP
    have HKP := hid KP
    have HX4 := hid hx4
    have F4 := hid hf4
    clear hx4 hf4 KP KB hu4 e1
    go_wp2_with fail
    refine HKP.out.mono ?_
    rintro e w5 ⟨⟨v, rfl⟩, ht5, hc5⟩
    have HT5 := hid ht5
    have c5 := hc5 _ HX4.out.rm.c.2.2.2.1
    have FS := hid ((F3.out.mono (T := S) (fun _ _ h => h.elim)).trans (F4.out.mono (T := S) (fun i _ e => e ▸ HX.out.sp)) (fun _ _ h => h))
    clear ht5 hc5 HKP
    rcases K.burn_blow { d with fs := fs' } HOK.out with ⟨b1, b2⟩ | ⟨b1, b2, b3, b4⟩
    · rw [K.blow_put] at b1 b2
      simp only at b1 b2
      have E2 := hid b2
      clear b2
      rw [b1]
      go_wp2
      go_ret
      rw [E2.out]
      exact ⟨rfl, Rt.preS FS.out HT5.out⟩
    · have E2 := hid b3
      rw [K.blow_put] at b1 b4
      simp only at b1 b2 b4
      have hkp := HX.out.rm.kpe b2
      have KX := rcrash_any HT5.out.1 kp HX4.out.rm.kp1
      have eX : K.crash { (K.blow d).2 with fs := fs' } kp = (0, K.fall d.keep { d with fs := fs' }) := by
        unfold K.crash
        rw [if_neg (by have := HX4.out.rm.kp0; omega), if_neg (by simp only; rw [(K.blow_fs d).2.1, HDN.out]; simp), hkp, b4]
      rw [eX] at KX
      have HKX := hid KX
      rw [b1]
      clear KX eX b2 b3 b4 hkp b1
      go_wp2_with (first | (go_at_call 22; refine HKX.out.mono ?_; rintro e w6 ⟨rfl, ht6⟩; have HT6 := hid ht6; clear ht6))
      go_ret
      rw [E2.out]
      exact ⟨rfl, Rt.preS FS.out (HT5.out.trans HT6.out)⟩
theorem rapp_any {S : Nat → Prop} {w : World} {p : Nat} {d : K.DK} (h : Rk S w p d) (s : ByteArray) (hz : s.size ≤ maxLen) (ba : Option Addr) (bm bc : Nat) (bs : List UInt8) (hb : Sl w ba bm bs) (hbp : 0 < bm → ∀ k, blk ba = some k → k ≠ p) (hbm : bm ≤ 9223372036854775807) (hc : ((d.used + bm : Nat) : Int) ≤ d.room → d.used + bm ≤ K.cap) :
    Calls Tryz.prog 26 #[.pointer (some ⟨p, 0, none⟩), .string s, .slice ba bm bc] w fun e w' => e = .returned (.int .i64 (K.app d s.data.toList bs).1) ∧ Rt S w p (K.app d s.data.toList bs).2 w' := by
  by_cases h0 : K.rdy d s.data.toList = 0
  · by_cases h1 : K.get s.data.toList d.fs = none ∧ 1024 ≤ d.fs.length
    · exact rapp_B h s hz ba bm bc bs h0 h1
    · by_cases h2 : d.room < d.used + bs.length
      · exact rapp_C h s hz ba bm bc bs hb h0 h1 h2 hbm
      · exact rapp_D h s hz ba bm bc bs hb hbp h0 h1 h2 (hc (by have := hb.1; omega))
  · exact rapp_A h s hz ba bm bc bs h0

end Go.Proofs.YtogdjhhabcejgaaGreat

namespace Go.Proofs.YtogdjhhabcejgaaGreat
open Go.RowKit Go.Maps
set_option linter.unusedVariables false

namespace K
def fnd2 (d : DK) (n m : Nm) : Int := if rdy2 d n m ≠ 0 then rdy2 d n m else if get n d.fs = none then 4 else 0
theorem ren_no {d : DK} {n m : Nm} (h : fnd2 d n m ≠ 0) : ren d n m = (fnd2 d n m, d) := by
  unfold fnd2 at h ⊢
  unfold ren
  by_cases h0 : rdy2 d n m = 0
  · rw [if_neg (by simp [h0])] at h
    by_cases h1 : get n d.fs = none
    · rw [if_neg (by simp [h0]), if_pos h1, if_neg (by simp [h0]), if_pos h1]
    · rw [if_neg h1] at h; simp at h
  · rw [if_pos h0, if_pos h0]
theorem fnd2_ok {d : DK} {n m : Nm} (h : fnd2 d n m = 0) : rdy2 d n m = 0 ∧ ∃ f, get n d.fs = some f := by
  unfold fnd2 at h
  by_cases h0 : rdy2 d n m = 0
  · rw [if_neg (by simp [h0])] at h
    cases hg : get n d.fs with
    | none => rw [if_pos hg] at h; cases h
    | some f => exact ⟨h0, f, rfl⟩
  · rw [if_pos h0] at h; exact absurd h h0
theorem ren_yes {d : DK} {n m : Nm} {f : F} (h : rdy2 d n m = 0) (hg : get n d.fs = some f) : ren d n m = if (burn d).1 ≠ 0 then burn d else (0, { (burn d).2 with fs := put m f (del n d.fs) }) := by
  unfold ren
  rw [if_neg (by simp [h]), if_neg (by simp [hg]), hg]
end K
theorem rthere2 {S : Nat → Prop} {w : World} {p : Nat} {d : K.DK} (h : Rk S w p d) (s t : ByteArray) (hz : s.size ≤ maxLen) (hzt : t.size ≤ maxLen) (W : World) (b bc : Nat) (hf : Fr (fun _ => False) w W) (hb : W.cell? ⟨b, 0, none⟩ = some (.string s)) (hb1 : W.cell? ⟨b, 1, none⟩ = some (.string t)) :
    Calls Tryz.prog 74 #[.pointer (some ⟨p, 0, none⟩), .slice (some ⟨b, 0, none⟩) 2 bc] W fun e w' => e = rth d s.data.toList (K.fnd2 d s.data.toList t.data.toList) ∧ Fr (fun _ => False) W w' :=
  rthere_of h s W b 2 bc (by omega) (by omega) hf hb _ (rlooks2 h s t hz hzt W b bc hf hb hb1)

set_option maxHeartbeats 1600000 in
theorem rren_no {S : Nat → Prop} {w : World} {p : Nat} {d : K.DK} (h : Rk S w p d) (s t : ByteArray) (hz : s.size ≤ maxLen) (hzt : t.size ≤ maxLen) (h0 : K.fnd2 d s.data.toList t.data.toList ≠ 0) :
    Calls Tryz.prog 40 #[.pointer (some ⟨p, 0, none⟩), .string s, .string t] w fun e w' => e = .returned (.int .i64 (K.ren d s.data.toList t.data.toList).1) ∧ Rt S w p (K.ren d s.data.toList t.data.toList).2 w' := by
  have HT := hid (fun W b bc hf hb hb1 => rthere2 h s t hz hzt W b bc hf hb hb1)
  have HK := hid h
  clear h
  rw [K.ren_no h0]
  rw [rth_no h0] at HT
  obtain ⟨R, hR⟩ : ∃ R, K.fnd2 d s.data.toList t.data.toList = R := ⟨_, rfl⟩
  rw [hR] at HT h0 ⊢
  have hb0 : (R == 0) = false := by simpa using h0
  clear h0 hR
  go_enter Tryz.func40, Tryz.ntmps40
  go_wp2_with fail
  refine (HT.out _ _ _ (Fr.alloc (Fr.refl _ _) _) (by simp) (by simp)).mono ?_
  rintro e w1 ⟨rfl, hf1⟩
  have F1 : Hid (Fr (fun _ => False) w w1) := hid ((Fr.alloc (Fr.refl _ _) _).trans hf1 (fun _ _ h => h))
  clear hf1
  go_wp2
  go_ret
  exact ⟨rfl, Rt.refl HK.out F1.out⟩

set_option maxHeartbeats 1600000 in
theorem rren_blown {S : Nat → Prop} {w : World} {p : Nat} {d : K.DK} (h : Rk S w p d) (s t : ByteArray) (hz : s.size ≤ maxLen) (hzt : t.size ≤ maxLen) (h0 : K.fnd2 d s.data.toList t.data.toList = 0) (hb : (K.blow d).1 = true) :
    Calls Tryz.prog 40 #[.pointer (some ⟨p, 0, none⟩), .string s, .string t] w fun e w' => e = .returned (.int .i64 (K.ren d s.data.toList t.data.toList).1) ∧ Rt S w p (K.ren d s.data.toList t.data.toList).2 w' := by
  have HT := hid (fun W b bc hf hb hb1 => rthere2 h s t hz hzt W b bc hf hb hb1)
  obtain ⟨fa, fc, l, kp, hx⟩ := h.rx
  clear h
  rw [rth_ok h0] at HT
  obtain ⟨h1, f, hg⟩ := K.fnd2_ok h0
  generalize K.pos d.fs s.data.toList = ps at HT
  rcases K.burn_blow d hx.ok with ⟨b1, _⟩ | ⟨_, b2, b3, b4⟩
  · rw [hb] at b1; cases b1
  have E1 := hid (show K.ren d s.data.toList t.data.toList = (7, K.fall d.keep d) by rw [K.ren_yes h1 hg, if_pos (by simp [b3]), b3])
  have HDN := hid (K.rdy2_down h1)
  have HKP := hid (hx.rm.kpe b2)
  have HB4 := hid b4
  have HX := hid hx
  have HBB := hid hb
  clear hx h0 h1 hg hb b2 b3 b4
  go_enter Tryz.func40, Tryz.ntmps40
  go_wp2_with fail
  refine (HT.out _ _ _ (Fr.alloc (Fr.refl _ _) _) (by simp) (by simp)).mono ?_
  rintro e w1 ⟨rfl, hf1⟩
  have f1 : Fr (fun _ => False) w w1 := (Fr.alloc (Fr.refl _ _) _).trans hf1 (fun _ _ h => h)
  have F1 := hid f1
  have KB := hid (rblows_x (HX.out.kept f1))
  rw [HBB.out] at KB
  clear hf1 f1 HT
  go_wp2_with fail
  refine KB.out.mono ?_
  rintro e w2 ⟨rfl, hx2, hf2⟩
  obtain ⟨_, _, _, c3, _⟩ := hx2.rm.c
  have KX := rcrash_any hx2.rk kp hx2.rm.kp1
  have eX : K.crash (K.blow d).2 kp = (0, K.fall d.keep d) := by
    unfold K.crash
    rw [if_neg (by have := hx2.rm.kp0; omega), if_neg (by rw [(K.blow_fs d).2.1, HDN.out]; simp), HKP.out, HB4.out]
  rw [eX] at KX
  have HKX := hid KX
  have F2 := hid hf2
  clear hx2 hf2 KX eX KB
  go_wp2_with (first | (go_at_call 22; refine HKX.out.mono ?_; rintro e w3 ⟨rfl, ht3⟩; have HT3 := hid ht3; clear ht3))
  go_ret
  rw [E1.out]
  exact ⟨rfl, Rt.preS ((F1.out.mono (fun _ _ h => h.elim)).trans (F2.out.mono (T := S) (fun i _ e => e ▸ HX.out.sp)) (fun _ _ h => h)) HT3.out⟩

end Go.Proofs.YtogdjhhabcejgaaGreat

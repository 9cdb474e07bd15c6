/-
  The document's disk: Rename.
-/
import Derived.Test.YtnfpceeacfdldaaRRem
namespace Go.Proofs.Ytnfpceeacfdldaa
open Go.RowKit Go.Maps
set_option linter.unusedVariables false

namespace K
def fnd2 (d : DK) (n m : Nm) : Int := if rdy2 d n m ≠ 0 then rdy2 d n m else if get n d.fs = none then 4 else 0
theorem ren_no {d : DK} {n m : Nm} (h : fnd2 d n m ≠ 0) : ren d n m = (fnd2 d n m, d) := by
  unfold fnd2 at h ⊢
  unfold ren
  by_cases h0 : rdy2 d n m = 0
  · rw [if_neg (by simp [h0])] at h
    by_cases h1 : get n d.fs = none
    · rw [if_neg (by simp [h0]), if_pos h1, if_neg (by simp [h0]), if_pos h1]
    · rw [if_neg h1] at h; simp at h
  · rw [if_pos h0, if_pos h0]
theorem fnd2_ok {d : DK} {n m : Nm} (h : fnd2 d n m = 0) : rdy2 d n m = 0 ∧ ∃ f, get n d.fs = some f := by
  unfold fnd2 at h
  by_cases h0 : rdy2 d n m = 0
  · rw [if_neg (by simp [h0])] at h
    cases hg : get n d.fs with
    | none => rw [if_pos hg] at h; cases h
    | some f => exact ⟨h0, f, rfl⟩
  · rw [if_pos h0] at h; exact absurd h h0
theorem ren_yes {d : DK} {n m : Nm} {f : F} (h : rdy2 d n m = 0) (hg : get n d.fs = some f) : ren d n m = if (burn d).1 ≠ 0 then burn d else (0, { (burn d).2 with fs := put m f (del n d.fs) }) := by
  unfold ren
  rw [if_neg (by simp [h]), if_neg (by simp [hg]), hg]
end K
theorem rthere2 {S : Nat → Prop} {w : World} {p : Nat} {d : K.DK} (h : Rk S w p d) (s t : ByteArray) (hz : s.size ≤ maxLen) (hzt : t.size ≤ maxLen) (W : World) (b bc : Nat) (hf : Fr (fun _ => False) w W) (hb : W.cell? ⟨b, 0, none⟩ = some (.string s)) (hb1 : W.cell? ⟨b, 1, none⟩ = some (.string t)) :
    Calls Try.prog 62 #[.pointer (some ⟨p, 0, none⟩), .slice (some ⟨b, 0, none⟩) 2 bc] W fun e w' => e = rth d s.data.toList (K.fnd2 d s.data.toList t.data.toList) ∧ Fr (fun _ => False) W w' :=
  rthere_of h s W b 2 bc (by omega) (by omega) hf hb _ (rlooks2 h s t hz hzt W b bc hf hb hb1)

set_option maxHeartbeats 1600000 in
theorem rren_no {S : Nat → Prop} {w : World} {p : Nat} {d : K.DK} (h : Rk S w p d) (s t : ByteArray) (hz : s.size ≤ maxLen) (hzt : t.size ≤ maxLen) (h0 : K.fnd2 d s.data.toList t.data.toList ≠ 0) :
    Calls Try.prog 35 #[.pointer (some ⟨p, 0, none⟩), .string s, .string t] w fun e w' => e = .returned (.int .i64 (K.ren d s.data.toList t.data.toList).1) ∧ Rt S w p (K.ren d s.data.toList t.data.toList).2 w' := by
  have HT := hid (fun W b bc hf hb hb1 => rthere2 h s t hz hzt W b bc hf hb hb1)
  have HK := hid h
  clear h
  rw [K.ren_no h0]
  rw [rth_no h0] at HT
  obtain ⟨R, hR⟩ : ∃ R, K.fnd2 d s.data.toList t.data.toList = R := ⟨_, rfl⟩
  rw [hR] at HT h0 ⊢
  have hb0 : (R == 0) = false := by simpa using h0
  clear h0 hR
  go_enter Try.func35, Try.ntmps35
  go_wp2_with fail
  refine (HT.out _ _ _ (Fr.alloc (Fr.refl _ _) _) (by simp) (by simp)).mono ?_
  rintro e w1 ⟨rfl, hf1⟩
  have F1 : Hid (Fr (fun _ => False) w w1) := hid ((Fr.alloc (Fr.refl _ _) _).trans hf1 (fun _ _ h => h))
  clear hf1
  go_wp2
  go_ret
  exact ⟨rfl, Rt.refl HK.out F1.out⟩

set_option maxHeartbeats 1600000 in
theorem rren_blown {S : Nat → Prop} {w : World} {p : Nat} {d : K.DK} (h : Rk S w p d) (s t : ByteArray) (hz : s.size ≤ maxLen) (hzt : t.size ≤ maxLen) (h0 : K.fnd2 d s.data.toList t.data.toList = 0) (hb : (K.blow d).1 = true) :
    Calls Try.prog 35 #[.pointer (some ⟨p, 0, none⟩), .string s, .string t] w fun e w' => e = .returned (.int .i64 (K.ren d s.data.toList t.data.toList).1) ∧ Rt S w p (K.ren d s.data.toList t.data.toList).2 w' := by
  have HT := hid (fun W b bc hf hb hb1 => rthere2 h s t hz hzt W b bc hf hb hb1)
  obtain ⟨fa, fc, l, kp, hx⟩ := h.rx
  clear h
  rw [rth_ok h0] at HT
  obtain ⟨h1, f, hg⟩ := K.fnd2_ok h0
  generalize K.pos d.fs s.data.toList = ps at HT
  rcases K.burn_blow d hx.ok with ⟨b1, _⟩ | ⟨_, b2, b3, b4⟩
  · rw [hb] at b1; cases b1
  have E1 := hid (show K.ren d s.data.toList t.data.toList = (7, K.fall d.keep d) by rw [K.ren_yes h1 hg, if_pos (by simp [b3]), b3])
  have HDN := hid (K.rdy2_down h1)
  have HKP := hid (hx.rm.kpe b2)
  have HB4 := hid b4
  have HX := hid hx
  have HBB := hid hb
  clear hx h0 h1 hg hb b2 b3 b4
  go_enter Try.func35, Try.ntmps35
  go_wp2_with fail
  refine (HT.out _ _ _ (Fr.alloc (Fr.refl _ _) _) (by simp) (by simp)).mono ?_
  rintro e w1 ⟨rfl, hf1⟩
  have f1 : Fr (fun _ => False) w w1 := (Fr.alloc (Fr.refl _ _) _).trans hf1 (fun _ _ h => h)
  have F1 := hid f1
  have KB := hid (rblows_x (HX.out.kept f1))
  rw [HBB.out] at KB
  clear hf1 f1 HT
  go_wp2_with fail
  refine KB.out.mono ?_
  rintro e w2 ⟨rfl, hx2, hf2⟩
  obtain ⟨_, _, _, c3, _⟩ := hx2.rm.c
  have KX := rcrash_any hx2.rk kp hx2.rm.kp1
  have eX : K.crash (K.blow d).2 kp = (0, K.fall d.keep d) := by
    unfold K.crash
    rw [if_neg (by have := hx2.rm.kp0; omega), if_neg (by rw [(K.blow_fs d).2.1, HDN.out]; simp), HKP.out, HB4.out]
  rw [eX] at KX
  have HKX := hid KX
  have F2 := hid hf2
  clear hx2 hf2 KX eX KB
  go_wp2_with (first | (go_at_call 38; refine HKX.out.mono ?_; rintro e w3 ⟨rfl, ht3⟩; have HT3 := hid ht3; clear ht3))
  go_ret
  rw [E1.out]
  exact ⟨rfl, Rt.preS ((F1.out.mono (fun _ _ h => h.elim)).trans (F2.out.mono (T := S) (fun i _ e => e ▸ HX.out.sp)) (fun _ _ h => h)) HT3.out⟩

end Go.Proofs.Ytnfpceeacfdldaa

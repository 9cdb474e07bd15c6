/-
  The document's disk: Remove.
-/
import Derived.Test.YtnfpceeacfdldaaRDrop
namespace Go.Proofs.Ytnfpceeacfdldaa
open Go.RowKit Go.Maps
set_option linter.unusedVariables false

set_option maxHeartbeats 1600000 in
theorem rremove_any {S : Nat → Prop} {w : World} {p : Nat} {d : K.DK} (h : Rk S w p d) (s : ByteArray) (hz : s.size ≤ maxLen) :
    Calls Try.prog 34 #[.pointer (some ⟨p, 0, none⟩), .string s] w fun e w' => e = .returned (.int .i64 (K.rem d s.data.toList).1) ∧ Rt S w p (K.rem d s.data.toList).2 w' := by
  have HT := hid (fun W b bc hf hb => rthere1 h s hz W b bc hf hb)
  have HK := hid h
  obtain ⟨fa, fc, l, kp, hx⟩ := h.rx
  clear h
  obtain ⟨n, hn⟩ : ∃ n, s.data.toList = n := ⟨_, rfl⟩
  have HN := hid hn
  rw [hn] at HT ⊢
  clear hn
  by_cases h0 : K.fnd d n = 0
  · have hdn := K.fnd_down h0
    rw [h0] at HT
    obtain ⟨ps, hps⟩ : ∃ ps, K.pos d.fs n = ps := ⟨_, rfl⟩
    have HT2 : Hid (∀ (W : World) (b bc : Nat), Fr (fun _ => False) w W → W.cell? ⟨b, 0, none⟩ = some (.string s) → Calls Try.prog 62 #[.pointer (some ⟨p, 0, none⟩), .slice (some ⟨b, 0, none⟩) 1 bc] W fun e w' => e = .returned (.tuple #[.int .i64 (ps : Nat), .int .i64 0]) ∧ Fr (fun _ => False) W w') := hid (fun W b bc hf hb => by
      have := HT.out W b bc hf hb
      rw [rth_ok rfl, hps] at this
      exact this)
    have HX := hid hx
    have H0 := hid h0
    have HDN := hid hdn
    clear hx h0 hdn hps HT
    go_enter Try.func34, Try.ntmps34
    go_wp2_with fail
    refine (HT2.out _ _ _ (Fr.alloc (Fr.refl _ _) _) (by simp)).mono ?_
    rintro e w1 ⟨rfl, hf1⟩
    have f1 : Fr (fun _ => False) w w1 := (Fr.alloc (Fr.refl _ _) _).trans hf1 (fun _ _ h => h)
    have F1 := hid f1
    have KB := hid (rblows_x (HX.out.kept f1))
    clear hf1 f1 HT2
    go_wp2_with fail
    rcases K.burn_blow d HX.out.ok with ⟨b1, b2⟩ | ⟨b1, b2, b3, b4⟩
    · rw [b1] at KB
      have E1 := hid (show K.rem d n = (0, { (K.blow d).2 with fs := K.del n (K.blow d).2.fs }) by unfold K.rem; rw [if_neg (by simp [H0.out]), if_neg (by simp [b2]), b2, (K.blow_fs d).1])
      clear b1 b2
      refine KB.out.mono ?_
      rintro e w2 ⟨rfl, hx2, hf2⟩
      have KD := hid (rdrop_any hx2.rk s)
      rw [HN.out] at KD
      have F2 := hid hf2
      clear hx2 hf2 KB
      go_wp2_with (first | (go_at_call 63; refine KD.out.mono ?_; rintro e w3 ⟨⟨v, rfl⟩, ht3, _⟩; have HT3 := hid ht3; clear ht3))
      go_ret
      rw [E1.out]
      exact ⟨rfl, Rt.preS ((F1.out.mono (fun _ _ h => h.elim)).trans (F2.out.mono (T := S) (fun i _ e => e ▸ HX.out.sp)) (fun _ _ h => h)) HT3.out⟩
    · rw [b1] at KB
      have E1 := hid (show K.rem d n = (7, K.fall d.keep d) by unfold K.rem; rw [if_neg (by simp [H0.out]), if_pos (by simp [b3]), b3])
      have HKP := hid (HX.out.rm.kpe b2)
      have HB4 := hid b4
      clear b1 b2 b3 b4
      refine KB.out.mono ?_
      rintro e w2 ⟨rfl, hx2, hf2⟩
      obtain ⟨_, _, _, c3, _⟩ := hx2.rm.c
      have KX := rcrash_any hx2.rk kp hx2.rm.kp1
      have eX : K.crash (K.blow d).2 kp = (0, K.fall d.keep d) := by
        unfold K.crash
        rw [if_neg (by have := hx2.rm.kp0; omega), if_neg (by rw [(K.blow_fs d).2.1, HDN.out]; simp), HKP.out, HB4.out]
      rw [eX] at KX
      have HKX := hid KX
      have F2 := hid hf2
      clear hx2 hf2 KX eX KB
      go_wp2_with (first | (go_at_call 38; refine HKX.out.mono ?_; rintro e w3 ⟨rfl, ht3⟩; have HT3 := hid ht3; clear ht3))
      go_ret
      rw [E1.out]
      exact ⟨rfl, Rt.preS ((F1.out.mono (fun _ _ h => h.elim)).trans (F2.out.mono (T := S) (fun i _ e => e ▸ HX.out.sp)) (fun _ _ h => h)) HT3.out⟩
  · have HT2 : Hid (∀ (W : World) (b bc : Nat), Fr (fun _ => False) w W → W.cell? ⟨b, 0, none⟩ = some (.string s) → Calls Try.prog 62 #[.pointer (some ⟨p, 0, none⟩), .slice (some ⟨b, 0, none⟩) 1 bc] W fun e w' => e = .returned (.tuple #[.int .i64 0, .int .i64 (K.fnd d n)]) ∧ Fr (fun _ => False) W w') := hid (fun W b bc hf hb => by
      have := HT.out W b bc hf hb
      rw [rth_no h0] at this
      exact this)
    have e : K.rem d n = (K.fnd d n, d) := by unfold K.rem; rw [if_pos h0]
    rw [e]
    obtain ⟨R, hR⟩ : ∃ R, K.fnd d n = R := ⟨_, rfl⟩
    rw [hR] at HT2 h0 ⊢
    have hb0 : (R == 0) = false := by simpa using h0
    clear hx h0 hR HT e
    go_enter Try.func34, Try.ntmps34
    go_wp2_with fail
    refine (HT2.out _ _ _ (Fr.alloc (Fr.refl _ _) _) (by simp)).mono ?_
    rintro e w1 ⟨rfl, hf1⟩
    have F1 : Hid (Fr (fun _ => False) w w1) := hid ((Fr.alloc (Fr.refl _ _) _).trans hf1 (fun _ _ h => h))
    clear hf1
    go_wp2
    go_ret
    exact ⟨rfl, Rt.refl HK.out F1.out⟩

end Go.Proofs.Ytnfpceeacfdldaa

/-
  CkptCodes' walk.
-/
import Derived.Test.YtogdjhhabcejgaaCBegun
import Derived.Test.YtogdjhhabcejgaaCRefCode
namespace Go.Proofs.Ytogdjhhabcejgaa
open Go.RowKit Go.Maps
set_option linter.unusedVariables false

set_option maxHeartbeats 3200000 in
set_option maxRecDepth 20000 in
theorem ckptCodes_walk (s : Int) (h1 : -9223372036854775808 ≤ s) (h2 : s ≤ 9223372036854775807) (a : Option Addr) (len c : Nat) (bs : List UInt8) (a' : Option Addr) (len' c' : Nat) (bs' : List UInt8) (w : World) (h : Sl w a len bs) (h' : Sl w a' len' bs') (hlc : len' ≤ c') (hm : len' ≤ 200000000000000) :
    Calls Try.prog 3 #[.int .i64 s, .slice a len c, .slice a' len' c'] w fun e w' => e = .returned (.bool true) ∧ Below w.heap.size w w' := by
  have K1 := hid (encode_any s h1 h2 a len c bs w h)
  have K2 := hid (fun W (hf : Fr (fun _ => False) w W) => refEncode_any s h1 h2 a len c bs W (h.kept hf (fun _ _ _ h => h)))
  have K3 := hid (fun W (hf : Fr (fun _ => False) w W) => decode_any a' len' c' bs' W (h'.kept hf (fun _ _ _ h => h)) hlc hm)
  have K4 := hid (fun W (hf : Fr (fun _ => False) w W) => refDecode_any a' len' c' bs' W (h'.kept hf (fun _ _ _ h => h)) hlc hm)
  clear h h'
  obtain ⟨E, hE⟩ : ∃ E, C.enc s bs = E := ⟨_, rfl⟩
  obtain ⟨D, hD⟩ : ∃ D, C.dec bs' = D := ⟨_, rfl⟩
  rw [hE] at K1 K2
  rw [hD] at K3 K4
  obtain ⟨x, e⟩ := E
  obtain ⟨t, y, g⟩ := D
  simp only at K1 K2 K3 K4
  clear hE hD
  go_enter Try.func3, Try.ntmps3
  go_wp2_with (first
    | (go_at_call 8; refine K1.out.mono ?_; rintro e w1 ⟨a1, c1, rfl, ho1, hf1⟩; have HO1 := hid ho1.sl; have F1 := hid hf1; clear ho1 hf1)
    | (go_at_call 9; refine (K2.out w1 F1.out).mono ?_; rintro e w2 ⟨a2, c2, rfl, ho2, hf2⟩; have HO2 := hid ho2.sl; have HX2 := hid (HO1.out.kept hf2 (fun _ _ _ h => h)); have F2 := hid (F1.out.trans hf2 (fun _ _ h => h)); clear ho2 hf2)
    | (go_at_call 10; refine (K3.out w2 F2.out).mono ?_; rintro e w3 ⟨a3, c3, rfl, ho3, hf3⟩; have HO3 := hid ho3.sl; have HX3 := hid (HX2.out.kept hf3 (fun _ _ _ h => h)); have HY3 := hid (HO2.out.kept hf3 (fun _ _ _ h => h)); have F3 := hid (F2.out.trans hf3 (fun _ _ h => h)); clear ho3 hf3)
    | (go_at_call 11; refine (K4.out w3 F3.out).mono ?_; rintro e w4 ⟨a4, c4, rfl, ho4, hf4⟩; have HO4 := hid ho4.sl; have HX4 := hid (HX3.out.kept hf4 (fun _ _ _ h => h)); have HY4 := hid (HY3.out.kept hf4 (fun _ _ _ h => h)); have HZ4 := hid (HO3.out.kept hf4 (fun _ _ _ h => h)); have F4 := hid (F3.out.trans hf4 (fun _ _ h => h)); clear ho4 hf4)
    | (go_at_call 12; refine (ckBegun_any w4).mono ?_; rintro e w5 ⟨rfl, hf5⟩; have HX5 := hid (HX4.out.kept hf5 (fun _ _ _ h => h)); have HY5 := hid (HY4.out.kept hf5 (fun _ _ _ h => h)); have HZ5 := hid (HZ4.out.kept hf5 (fun _ _ _ h => h)); have HO5 := hid (HO4.out.kept hf5 (fun _ _ _ h => h)); have F5 := hid (F4.out.trans hf5 (fun _ _ h => h)); have E1 := hid (equal_any a1 a2 _ c1 _ c2 x x w5 HX5.out HY5.out); have E2 := hid (equal_any a3 a4 _ c3 _ c4 y y w5 HZ5.out HO5.out); rw [decide_eq_true (rfl : x = x)] at E1; rw [decide_eq_true (rfl : y = y)] at E2; clear hf5)
    | (go_at_call 13; refine E1.out.mono ?_; rintro e w' ⟨rfl, rfl⟩)
    | (go_at_call 13; refine E2.out.mono ?_; rintro e w' ⟨rfl, rfl⟩))
  go_ret
  exact ⟨rfl, F5.out.below (Nat.le_refl _) (fun _ _ h => h)⟩

end Go.Proofs.Ytogdjhhabcejgaa

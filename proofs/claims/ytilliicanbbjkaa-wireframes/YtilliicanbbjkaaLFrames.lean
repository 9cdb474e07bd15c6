/-
  WireFrames, the walk: any bytes' frame, and what any bytes say as a frame.
-/
import Derived.Test.YtilliicanbbjkaaRefFrames
import Derived.Test.YtilliicanbbjkaaUnframes
namespace Go.Proofs.Ytilliicanbbjkaa
open Go.RowKit
set_option linter.unusedVariables false

/-- a frame of any bytes, the program's -/
def frameE (len : Nat) : Int := if 1048576 < len then 3 else 0
def frameB (bs : List UInt8) : List UInt8 := if 1048576 < bs.length then [] else M.frame bs
theorem frame_any (a : Option Addr) (len c : Nat) (bs : List UInt8) (w : World) (h : Sl w a len bs) (hm : len ≤ 9223372036854775807) :
    Calls Try.prog 29 #[.slice a len c] w fun e w' => ∃ a' c', e = .returned (.tuple #[.slice a' (frameB bs).length c', .int .i64 (frameE len)]) ∧ Ow w.heap.size w' a' c' (frameB bs) ∧ Fr (fun _ => False) w w' := by
  unfold frameB frameE
  rw [h.1]
  by_cases hl : 1048576 < len
  · rw [if_pos hl, if_pos hl]
    refine (frame_long a len c w hl hm).mono ?_
    rintro e w' ⟨rfl, rfl⟩
    exact ⟨none, 0, rfl, Ow.nil _ _, Fr.refl _ _⟩
  · rw [if_neg hl, if_neg hl]
    exact frame_ok a len c bs w h (by omega)
theorem refFrame_any (a : Option Addr) (len c : Nat) (bs : List UInt8) (w : World) (h : Sl w a len bs) (hm : len ≤ 9223372036854775807) :
    Calls Try.prog 30 #[.slice a len c] w fun e w' => ∃ a' c', e = .returned (.tuple #[.slice a' (frameB bs).length c', .int .i64 (frameE len)]) ∧ Ow w.heap.size w' a' c' (frameB bs) ∧ Fr (fun _ => False) w w' := by
  unfold frameB frameE
  rw [h.1]
  by_cases hl : 1048576 < len
  · rw [if_pos hl, if_pos hl]
    refine (refFrame_long a len c w hl hm).mono ?_
    rintro e w' ⟨rfl, rfl⟩
    exact ⟨none, 0, rfl, Ow.nil _ _, Fr.refl _ _⟩
  · rw [if_neg hl, if_neg hl]
    exact refFrame_ok a len c bs w h (by omega)

set_option maxHeartbeats 800000 in
theorem wireFrames_walk (a : Option Addr) (len c : Nat) (bs : List UInt8) (w : World) (h : Sl w a len bs) (hlc : len ≤ c) (hm : len ≤ 140737488351232) :
    Calls Try.prog 7 #[.slice a len c] w fun e w' => e = .returned (.bool true) ∧ Below w.heap.size w w' := by
  have K1 := hid (frame_any a len c bs w h (by omega))
  obtain ⟨fb, hfb⟩ : ∃ fb, frameB bs = fb := ⟨_, rfl⟩
  obtain ⟨fe, hfe⟩ : ∃ fe, frameE len = fe := ⟨_, rfl⟩
  obtain ⟨fl, hfl⟩ : ∃ fl, fb.length = fl := ⟨_, rfl⟩
  rw [hfb, hfe, hfl] at K1
  obtain ⟨u1, u2, u3, hu⟩ : ∃ u1 u2 u3, M.unframe bs = (u1, u2, u3) := ⟨_, _, _, rfl⟩
  obtain ⟨ul, hul⟩ : ∃ ul, u1.length = ul := ⟨_, rfl⟩
  have HFB := hid hfb
  have HFE := hid hfe
  have HFL := hid hfl
  have HU := hid hu
  have HUL := hid hul
  clear hfb hfe hfl hu hul
  go_enter Try.func7, Try.ntmps7
  go_wp2_with fail
  refine K1.out.mono ?_
  rintro e w1 ⟨xa, xc, rfl, ho1, f1⟩
  have HX1 := hid ho1
  have F1 := hid f1
  have K2 := refFrame_any a len c bs w1 (h.kept f1 (fun _ _ _ h => h)) (by omega)
  rw [HFB.out, HFE.out, HFL.out] at K2
  have KK2 := hid K2
  clear ho1 f1 K1 K2
  go_wp2_with fail
  refine KK2.out.mono ?_
  rintro e w2 ⟨ya, yc, rfl, ho2, f2⟩
  have HX2 := hid (HX1.out.kept f2 (fun _ _ h => h))
  have HY2 := hid ho2
  have F2 := hid (F1.out.trans f2 (fun _ _ h => h))
  have K3 := unframe_any a len c bs w2 (h.kept F2.out (fun _ _ _ h => h)) hlc (by omega)
  rw [HU.out] at K3
  simp only at K3
  rw [HUL.out] at K3
  have KK3 := hid K3
  clear ho2 f2 K3 KK2 HX1 F1
  go_wp2_with fail
  refine KK3.out.mono ?_
  rintro e w3 ⟨za, zc, rfl, ho3, f3⟩
  have HX3 := hid (HX2.out.kept f3 (fun _ _ h => h))
  have HY3 := hid (HY2.out.kept f3 (fun _ _ h => h))
  have HZ3 := hid ho3
  have F3 := hid (F2.out.trans f3 (fun _ _ h => h))
  have K4 := refUnframe_any a len c bs w3 (h.kept F3.out (fun _ _ _ h => h)) hlc (by omega)
  rw [HU.out] at K4
  simp only at K4
  rw [HUL.out] at K4
  have KK4 := hid K4
  clear ho3 f3 K4 KK3 HX2 HY2 F2
  go_wp2_with fail
  refine KK4.out.mono ?_
  rintro e w4 ⟨va, vc, rfl, ho4, f4⟩
  have HX4 := hid (HX3.out.kept f4 (fun _ _ h => h))
  have HY4 := hid (HY3.out.kept f4 (fun _ _ h => h))
  have HZ4 := hid (HZ3.out.kept f4 (fun _ _ h => h))
  have HV4 := hid ho4
  have F4 := hid (F3.out.trans f4 (fun _ _ h => h))
  clear ho4 f4 KK4 HX3 HY3 HZ3 F3
  go_wp2_with fail
  refine (live_any _).mono ?_
  rintro e w5 ⟨rfl, f5⟩
  have hx5 : Sl w5 xa fl fb := by have := (HX4.out.kept f5 (fun _ _ h => h)).sl; rw [HFL.out] at this; exact this
  have hy5 : Sl w5 ya fl fb := by have := (HY4.out.kept f5 (fun _ _ h => h)).sl; rw [HFL.out] at this; exact this
  have hz5 : Sl w5 za ul u1 := by have := (HZ4.out.kept f5 (fun _ _ h => h)).sl; rw [HUL.out] at this; exact this
  have hv5 : Sl w5 va ul u1 := by have := (HV4.out.kept f5 (fun _ _ h => h)).sl; rw [HUL.out] at this; exact this
  have F5 := hid (F4.out.trans f5 (fun _ _ h => h))
  have KE1 := hid (equal_any xa ya fl xc fl yc fb fb w5 hx5 hy5)
  have KE2 := hid (equal_any za va ul zc ul vc u1 u1 w5 hz5 hv5)
  rw [decide_eq_true (rfl : fb = fb)] at KE1
  rw [decide_eq_true (rfl : u1 = u1)] at KE2
  clear hx5 hy5 hz5 hv5 f5 HX4 HY4 HZ4 HV4 F4
  go_wp2_with fail
  refine KE1.out.mono ?_
  rintro e w6 ⟨rfl, rfl⟩
  go_wp2_with fail
  refine KE2.out.mono ?_
  rintro e w6 ⟨rfl, rfl⟩
  go_wp2
  go_ret
  exact ⟨rfl, F5.out.below (Nat.le_refl _) (fun _ _ h => h)⟩
end Go.Proofs.Ytilliicanbbjkaa

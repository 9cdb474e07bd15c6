/-
  WireTorn, the walk: a frame is read whatever stands behind it; a beginning of it is too short; one bit turned is found.
-/
import Derived.Test.YtilliicanbbjkabUnframes
import Derived.Test.YtilliicanbbjkabMaths2
namespace Go.Proofs.Ytilliicanbbjkab
open Go.RowKit
set_option linter.unusedVariables false

theorem wireTorn_long (a0 : Option Addr) (len0 cap0 : Nat) (a1 : Option Addr) (len1 cap1 n : Nat) (w : World) (h : 1048576 < len0) (hm : len0 ≤ 9223372036854775807) :
    Calls Try.prog 3 #[.slice a0 len0 cap0, .slice a1 len1 cap1, .int .u16 (n : Nat)] w fun e w' => e = .returned (.bool true) ∧ Below w.heap.size w w' := by
  have K := hid (frame_long a0 len0 cap0 w h hm)
  have h' : (1048576 : Int) < (len0 : Int) := by omega
  go_enter Try.func3, Try.ntmps3
  go_wp2_with (first
    | (go_at_call 7; refine K.out.mono ?_; rintro e w1 ⟨rfl, rfl⟩)
    | (go_at_call 8; refine (live_any _).mono ?_; rintro e w1 ⟨rfl, hf⟩; have HF := hid hf; clear hf))
  go_ret
  exact ⟨rfl, HF.out.below (Nat.le_refl _) (fun _ _ h => h)⟩

set_option maxRecDepth 20000 in
set_option maxHeartbeats 1600000 in
theorem wireTorn_ok (a0 : Option Addr) (len0 cap0 : Nat) (b0 : List UInt8) (a1 : Option Addr) (len1 cap1 : Nat) (b1 : List UInt8) (n : Nat) (w : World) (h : len0 ≤ 1048576) (h0 : Sl w a0 len0 b0) (h1 : Sl w a1 len1 b1) (hl1 : len1 ≤ 140737488351232) (hn : n ≤ 65535) :
    Calls Try.prog 3 #[.slice a0 len0 cap0, .slice a1 len1 cap1, .int .u16 (n : Nat)] w fun e w' => e = .returned (.bool true) ∧ Below w.heap.size w w' := by
  have hb0 := h0.1
  have K1 := hid (frame_ok a0 len0 cap0 b0 w h0 h)
  have hfl := M.frame_length b0
  have hep := M.enc_pos (M.fd b0.length)
  have hel := M.enc_ten _ (M.fd_lt b0.length (by omega) (by omega))
  obtain ⟨F, hF⟩ : ∃ F, M.frame b0 = F := ⟨_, rfl⟩
  have HF := hid hF
  rw [hF] at K1 hfl
  obtain ⟨fl, hfl'⟩ : ∃ fl, F.length = fl := ⟨_, rfl⟩
  have HFL := hid hfl'
  rw [hfl'] at K1 hfl
  obtain ⟨el, hel'⟩ : ∃ el, (M.enc (M.fd b0.length)).length = el := ⟨_, rfl⟩
  have HEL := hid hel'
  rw [hel', hb0] at hfl
  rw [hel'] at hep hel
  have hfl5 : ¬ (fl : Int) < (len0 : Int) + 5 := by omega
  have hflpos : 0 < fl := by omega
  have hflmax : fl ≤ 1048590 := by omega
  have HFE := hid hfl
  clear hF hfl' hel' hfl
  go_enter Try.func3, Try.ntmps3
  go_wp2_with fail
  refine K1.out.mono ?_
  rintro e w1 ⟨fa, fc, rfl, ho1, f1⟩
  have HO1 := hid ho1
  have F1 := hid f1
  clear ho1 f1
  go_wp2_with fail
  refine (live_any _).mono ?_
  rintro e w2 ⟨rfl, f2⟩
  have HO2 := hid (HO1.out.kept f2 (fun _ _ h => h))
  have F2 := hid (F1.out.trans f2 (fun _ _ h => h))
  clear f2 HO1 F1
  have hsz2 := F2.out.size
  have how3 : Ow w.heap.size (w2.alloc (.cells #[] 5)) (some ⟨w2.heap.size, 0, none⟩) 0 [] :=
    .inr ⟨_, _, _, rfl, hsz2, Go.heap_alloc_new w2 _, by simp, by simp, by simp [maxLen], by simp⟩
  have HOW3 := hid how3
  have hs3 : Sl (w2.alloc (.cells #[] 5)) fa fl F := by have := HO2.out.sl.alloc (.cells #[] 5); rw [HFL.out] at this; exact this
  have HS3 := hid hs3
  have hfalt : ∀ k, blk fa = some k → k < w2.heap.size := fun k hk => (HO2.out.lt k hk).2
  have HFALT := hid hfalt
  clear how3 hs3 hfalt
  go_wp2_with (first
    | (at_builtin; refine wpList_append_b _ rfl (.tmp 46) (.tmp 47) rfl w.heap.size (some ⟨w2.heap.size, 0, none⟩) 0 0 [] rfl rfl HOW3.out fa fl fc F rfl HS3.out (by omega) (by simp; omega) ?_; intro a3 c3 w3 how hgb hat; have f3 : Fr (fun _ => False) w2 w3 := (Fr.alloc (Fr.refl _ w2) _).trans (Fr.of_grown hgb) (fun i hi e => by simp [blk] at e; omega); have HO3 := hid how; have HB3 : Hid (blk a3 = some w2.heap.size ∨ blk a3 = some (w2.heap.size + 1)) := hid (by rcases hat with ⟨e, _⟩ | ⟨e, _⟩ <;> (rw [e]; simp [blk])); have F3 := hid (F2.out.trans f3 (fun _ _ h => h)); have HOF3 := hid (HO2.out.kept f3 (fun _ _ h => h)); have hs4 := h1.kept (F2.out.trans f3 (fun _ _ h => h)) (fun _ _ _ h => h); have hsz3 : w.heap.size ≤ w3.heap.size := (F2.out.trans f3 (fun _ _ h => h)).size; have F23 := hid f3; clear how hgb hat f3)
    | (at_builtin; refine wpList_append_b _ rfl (.tmp 48) (.tmp 49) rfl w.heap.size a3 (0 + fl) c3 ([] ++ F) rfl (by simp [HFL.out]) HO3.out a1 len1 cap1 b1 rfl hs4 (by omega) hsz3 ?_; intro a4 c4 w4 how hgb hat; have f4 : Fr (fun k => blk a3 = some k) w3 w4 := Fr.of_grown hgb; have HO4 := hid how; have F34 := hid f4; clear how hgb hat f4)
    | (at_builtin; refine wpList_append_b _ rfl (.tmp 48) (.tmp 49) rfl w.heap.size a3 fl c3 ([] ++ F) rfl (by simp [HFL.out]) HO3.out a1 len1 cap1 b1 rfl hs4 (by omega) hsz3 ?_; intro a4 c4 w4 how hgb hat; have f4 : Fr (fun k => blk a3 = some k) w3 w4 := Fr.of_grown hgb; have HO4 := hid how; have F34 := hid f4; clear how hgb hat f4))
  have hne4 : ∀ k, blk fa = some k → ¬ blk a3 = some k := fun k hk e => by
    have := HFALT.out k hk
    rcases HB3.out with e' | e' <;> (rw [e'] at e; simp at e; omega)
  have HOF4 := hid (HOF3.out.kept F34.out hne4)
  have F4 : Hid (Fr (fun _ => False) w w4) := hid (F3.out.trans F34.out (fun i hi e => by have := (HO3.out.lt i e).1; omega))
  have hu4 : M.unframe ([] ++ F ++ b1) = (b0, fl, 0) := by rw [List.nil_append, ← HF.out, M.unframe_frame b0 b1 (by omega), HF.out, HFL.out]
  have K4 := unframe_any a4 (fl + len1) c4 ([] ++ F ++ b1) w4 (by have := HO4.out.sl; simp only [List.nil_append, List.length_append, HFL.out, h1.1] at this; simpa using this) (by have := HO4.out.len; simp only [List.nil_append, List.length_append, HFL.out, h1.1] at this; exact this) (by omega)
  rw [hu4] at K4
  simp only at K4
  rw [hb0] at K4
  have KK4 := hid K4
  clear K4 hu4 hne4 HO2 HOW3 HS3 HO3 HOF3 HO4 F2 F3 F34 F23 hs4
  refine KK4.out.mono ?_
  rintro e w5 ⟨xa, xc, rfl, hx, f5⟩
  have HOF5 := hid (HOF4.out.kept f5 (fun _ _ h => h))
  have F5 := hid (F4.out.trans f5 (fun _ _ h => h))
  have hx5 : Sl w5 xa len0 b0 := by have := hx.sl; rw [hb0] at this; exact this
  have hz5 : Sl w5 a0 len0 b0 := h0.kept (F4.out.trans f5 (fun _ _ h => h)) (fun _ _ _ h => h)
  have KE := hid (equal_any xa a0 len0 xc len0 cap0 b0 b0 w5 hx5 hz5)
  rw [decide_eq_true (rfl : b0 = b0)] at KE
  clear hx f5 hx5 hz5 HOF4 F4
  obtain ⟨g, rfl, hg0, hglt⟩ := HOF5.out.some_of (by rw [HFL.out]; omega)
  have hfc : fl ≤ fc := by have := HOF5.out.len; rw [HFL.out] at this; exact this
  have hmod : n % fl < fl := Nat.mod_lt _ hflpos
  have kcut := fun w => run_cut_hi' w (some ⟨g, 0, none⟩) fl fc (n % fl) (by omega) ((n : Int) % (fl : Int)) (by omega)
  have hsl5 : Sl w5 (some ⟨g, 0, none⟩) fl F := by have := HOF5.out.sl; rw [HFL.out] at this; exact this
  have hu5 : M.unframe (F.take (n % fl)) = ([], 0, 10) := by rw [← HF.out]; exact M.unframe_head b0 (n % fl) (by omega) (by rw [HF.out, HFL.out]; exact hmod)
  have K5 := unframe_any (some ⟨g, 0, none⟩) (n % fl) fc (F.take (n % fl)) w5 (hsl5.take (n % fl) (by omega)) (by omega) (by omega)
  rw [hu5] at K5
  simp only [List.length_nil] at K5
  have KK5 := hid K5
  clear hsl5 hu5 K5
  go_wp2_with (first | (go_at_call 10; refine KE.out.mono ?_; rintro e w6 ⟨rfl, rfl⟩))
  refine KK5.out.mono ?_
  rintro e w6 ⟨ya, yc, rfl, hy, f6⟩
  have HOF6 := hid (HOF5.out.kept f6 (fun _ _ h => h))
  have F6 := hid (F5.out.trans f6 (fun _ _ h => h))
  clear hy f6 HOF5 F5 KK5 KE kcut hmod
  have hm8 := Nat.mod_lt n (show 8 > 0 by omega)
  have hm4 := Nat.mod_lt n (show len0 + 4 > 0 by omega)
  obtain ⟨j, hj⟩ : ∃ j, j = n % (len0 + 4) := ⟨_, rfl⟩
  have hat : (fl : Int) - (len0 : Int) - 4 + (n : Int) % ((len0 : Int) + 4) = ((el + j : Nat) : Int) := by
    have := HFE.out
    have e : (n : Int) % ((len0 : Int) + 4) = (j : Int) := by rw [hj, Int.natCast_emod]; rfl
    rw [e]; omega
  rw [← hj] at hm4
  have hkl : el + j < fl := by have := HFE.out; omega
  obtain ⟨x, hx⟩ : ∃ x, F[el + j]? = some x := ⟨F[el + j]'(by rw [HFL.out]; exact hkl), by simp [HFL.out, hkl]⟩
  have hc6 : w6.cell? ⟨g, el + j, none⟩ = some (.int .u8 (x.toNat : Int)) := by
    have := HOF6.out.cells (el + j) (B x) (by simp [hx])
    rw [Addr.add_lit, Nat.zero_add] at this
    exact this
  have hf6 := HOF6.out.frozen (el + j)
  have HX := hid hx
  have HJ := hid hj
  clear hx hj
  obtain ⟨k, hk⟩ : ∃ k, k = el + j := ⟨_, rfl⟩
  rw [← hk] at hat hkl hc6 hf6 HX
  have HK := hid hk
  clear hk
  obtain ⟨y, hy, hyx⟩ := M.turn x (n % 8) hm8
  have HYX := hid hyx
  clear hyx
  have ho7 := HOF6.out.set k y
  have f7 : Fr (fun _ => False) w (w6.setCell ⟨g, k, none⟩ (B y)) := Fr.setCell F6.out (fun h => by simp at h; omega) _
  have hu7 : M.unframe (F.set k y) = ([], 0, 12) := by
    rw [← HF.out, HK.out, ← HEL.out]
    refine M.unframe_turned b0 j y (by omega) (by omega) (fun e => ?_)
    have h2 := HX.out
    have e3 : (M.frame b0)[(M.enc (M.fd b0.length)).length + j]? = (b0 ++ M.le4 (M.crc b0))[j]? := by
      unfold M.frame
      rw [List.append_assoc, List.getElem?_append_right (by omega), Nat.add_sub_cancel_left]
    rw [HEL.out, ← HK.out, HF.out, h2, e] at e3
    exact HYX.out (by simpa using e3.symm)
  have K7 := unframe_any (some ⟨g, 0, none⟩) fl fc (F.set k y) (w6.setCell ⟨g, k, none⟩ (B y)) (by have := ho7.sl; rw [List.length_set, HFL.out] at this; exact this) hfc (by omega)
  rw [hu7] at K7
  simp only [List.length_nil] at K7
  have KK7 := hid K7
  have F7 := hid f7
  clear ho7 f7 hu7 K7
  go_wp2_with fail
  refine KK7.out.mono ?_
  rintro e w7 ⟨za, zc, rfl, hz, f8⟩
  have F8 := hid (F7.out.trans f8 (fun _ _ h => h))
  clear hz f8
  go_wp2
  go_ret
  exact ⟨rfl, F8.out.below (Nat.le_refl _) (fun _ _ h => h)⟩

theorem wireTorn_walk (a0 : Option Addr) (len0 cap0 : Nat) (b0 : List UInt8) (a1 : Option Addr) (len1 cap1 : Nat) (b1 : List UInt8) (n : Int) (w : World) (h0 : Sl w a0 len0 b0) (h1 : Sl w a1 len1 b1) (hl0 : len0 ≤ 140737488351232) (hl1 : len1 ≤ 140737488351232) (hn : (Lit.int .u16 n).wf = true) :
    Calls Try.prog 3 #[.slice a0 len0 cap0, .slice a1 len1 cap1, .int .u16 n] w fun e w' => e = .returned (.bool true) ∧ Below w.heap.size w w' := by
  have hb : 0 ≤ n ∧ n ≤ 65535 := by simpa [Lit.wf, IntKind.min, IntKind.max, IntKind.signed, IntKind.bits] using hn
  obtain ⟨m, rfl⟩ : ∃ m : Nat, n = (m : Int) := ⟨n.toNat, by omega⟩
  by_cases h : len0 ≤ 1048576
  · exact wireTorn_ok a0 len0 cap0 b0 a1 len1 cap1 b1 m w h h0 h1 hl1 (by omega)
  · exact wireTorn_long a0 len0 cap0 a1 len1 cap1 m w (by omega) (by omega)
end Go.Proofs.Ytilliicanbbjkab

/-
  The contracts of ckpt's check, number, list, frame, Encode.
-/
import Derived.Test.YtogdjhhabcejgaaGreatCMaths
import Derived.Test.YtogdjhhabcejgaaGreatMg23
import Derived.Test.YtogdjhhabcejgaaGreatMg11
namespace Go.Proofs.YtogdjhhabcejgaaGreat
open Go.RowKit
set_option linter.unusedVariables false

theorem ckCheck_any (s : Int) (a : Option Addr) (len c : Nat) (w : World) :
    Calls Tryz.prog 54 #[.int .i64 s, .slice a len c] w fun e w' => e = .returned (.int .i64 (C.chk s len)) ∧ w = w' := by
  by_cases h0 : s < 0
  · have e0 : C.chk s len = 1 := by unfold C.chk; rw [if_pos (.inl h0)]
    rw [e0]
    go_enter Tryz.func54, Tryz.ntmps54
    go_wp2
    go_ret
    exact ⟨rfl, rfl⟩
  · by_cases h1 : 1099511627776 < s
    · have e0 : C.chk s len = 1 := by unfold C.chk; rw [if_pos (.inr h1)]
      rw [e0]
      go_enter Tryz.func54, Tryz.ntmps54
      go_wp2
      go_ret
      exact ⟨rfl, rfl⟩
    · by_cases h2 : 524288 < len
      · have e0 : C.chk s len = 3 := by unfold C.chk; rw [if_neg (by omega), if_pos h2]
        have h2' : (524288 : Int) < (len : Int) := by omega
        rw [e0]
        go_enter Tryz.func54, Tryz.ntmps54
        go_wp2
        go_ret
        exact ⟨rfl, rfl⟩
      · have e0 : C.chk s len = 0 := by unfold C.chk; rw [if_neg (by omega), if_neg h2]
        have h2' : ¬ (524288 : Int) < (len : Int) := by omega
        rw [e0]
        go_enter Tryz.func54, Tryz.ntmps54
        go_wp2
        go_ret
        exact ⟨rfl, rfl⟩

theorem WP.ok {base : Nat} {w : World} {p : Nat} {a : Option Addr} {c : Nat} {bs add : List UInt8} {e : Ending} {w' : World} (h : WP base w p a c bs add e w') (hl : bs.length + add.length ≤ 1048576) :
    e = .returned (.int .i64 0) ∧ ∃ a' c', Wr base w' p a' c' (bs ++ add) ∧ Fr (fun k => k = p ∨ blk a = some k) w w' ∧ (blk a' = blk a ∨ ∀ k, blk a' = some k → w.heap.size ≤ k) := by
  rcases h with ⟨h, _⟩ | ⟨_, he, hr⟩
  · omega
  · exact ⟨he, hr⟩

set_option maxHeartbeats 800000 in
theorem ckNumber_any (n : Int) (h1 : -9223372036854775808 ≤ n) (h2 : n ≤ 9223372036854775807) (w : World) :
    Calls Tryz.prog 56 #[.int .i64 n] w fun e w' => ∃ a c, e = .returned (.slice a (M.enc (M.fd n)).length c) ∧ Ow w.heap.size w' a c (M.enc (M.fd n)) ∧ Fr (fun _ => False) w w' := by
  have hl := M.enc_ten (M.fd n) (M.fd_lt n h1 h2)
  have K1 := hid (newWriter_any w)
  have K2 := hid (fun w1 (hw : Wr w.heap.size w1 w.heap.size none 0 []) (hf : Fr (fun _ => False) w w1) => wInt_any w.heap.size w1 w.heap.size none 0 [] hw n h1 h2 hf.size (by simp))
  have HL := hid hl
  clear hl
  go_enter Tryz.func56, Tryz.ntmps56
  go_wp2_with (first
    | (go_at_call 86; refine K1.out.mono ?_; rintro e w1 ⟨rfl, hw1, hf1⟩; have HW1 := hid hw1; have F1 := hid hf1; clear hw1 hf1)
    | (go_at_call 87; refine (K2.out w1 HW1.out F1.out).mono ?_; rintro e w2 hwp; obtain ⟨rfl, a2, c2, hw2, hf2, _⟩ := hwp.ok (by have := HL.out; simp; omega); have HW2 := hid hw2; have F2 := hid (F1.out.trans hf2 (fun i hi h => by rcases h with h | h; omega; simp [blk] at h)); clear hw2 hf2 hwp)
    | (go_at_call 88; refine (wOut_any _ _ _ _ _ _ HW2.out (by have := HL.out; simp; omega)).mono ?_; rintro e w3 ⟨a3, c3, rfl, ho3, hf3⟩; have HO3 := hid ho3; have F3 := hid (F2.out.trans hf3 (fun _ _ h => h)); clear ho3 hf3))
  go_ret
  have ho := HO3.out
  have hz := F2.out.size
  simp only [List.nil_append] at ho
  refine ⟨a3, c3, by simp, ho.base (fun k hk => by have := (ho.lt k hk).1; omega), F3.out⟩

set_option maxHeartbeats 800000 in
theorem ckList_any (a : Option Addr) (len c : Nat) (bs : List UInt8) (w : World) (h : Sl w a len bs) (hlen : len ≤ 524288) :
    Calls Tryz.prog 57 #[.slice a len c] w fun e w' => ∃ a' c', e = .returned (.slice a' (encB bs).length c') ∧ Ow w.heap.size w' a' c' (encB bs) ∧ Fr (fun _ => False) w w' := by
  have hl := C.encB_length bs (by rw [h.1]; omega)
  rw [h.1] at hl
  have K1 := hid (newWriter_any w)
  have K2 := hid (fun w1 (hw : Wr w.heap.size w1 w.heap.size none 0 []) (hf : Fr (fun _ => False) w w1) => wBytes_any w.heap.size w1 w.heap.size none 0 [] hw a len c bs (h.kept hf (fun _ _ _ h => h)) (fun _ k _ e => by simp [blk] at e) hf.size (by omega) (by simp))
  have HL := hid hl
  clear hl h
  go_enter Tryz.func57, Tryz.ntmps57
  go_wp2_with (first
    | (go_at_call 86; refine K1.out.mono ?_; rintro e w1 ⟨rfl, hw1, hf1⟩; have HW1 := hid hw1; have F1 := hid hf1; clear hw1 hf1)
    | (go_at_call 89; refine (K2.out w1 HW1.out F1.out).mono ?_; rintro e w2 hwp; obtain ⟨rfl, a2, c2, hw2, hf2, _⟩ := hwp.ok (by have := HL.out; simp; omega); have HW2 := hid hw2; have F2 := hid (F1.out.trans hf2 (fun i hi h => by rcases h with h | h; omega; simp [blk] at h)); clear hw2 hf2 hwp)
    | (go_at_call 88; refine (wOut_any _ _ _ _ _ _ HW2.out (by have := HL.out; simp; omega)).mono ?_; rintro e w3 ⟨a3, c3, rfl, ho3, hf3⟩; have HO3 := hid ho3; have F3 := hid (F2.out.trans hf3 (fun _ _ h => h)); clear ho3 hf3))
  go_ret
  have ho := HO3.out
  have hz := F2.out.size
  simp only [List.nil_append] at ho
  refine ⟨a3, c3, by simp, ho.base (fun k hk => by have := (ho.lt k hk).1; omega), F3.out⟩

set_option maxHeartbeats 800000 in
theorem ckFrame_any (w : World) (b bc : Nat) (xa ya : Option Addr) (xn xc yn yc : Nat) (x y : List UInt8) (hx : Sl w xa xn x) (hy : Sl w ya yn y) (c0 : w.cell? ⟨b, 0, none⟩ = some (.slice xa xn xc)) (c1 : w.cell? ⟨b, 1, none⟩ = some (.slice ya yn yc)) (hbd : xn + yn ≤ 1048576) :
    Calls Tryz.prog 55 #[.slice (some ⟨b, 0, none⟩) 2 bc] w fun e w' => ∃ a' c', e = .returned (.tuple #[.slice a' (M.frame (x ++ y)).length c', .int .i64 0]) ∧ Ow w.heap.size w' a' c' (M.frame (x ++ y)) ∧ Fr (fun _ => False) w w' := by
  have hxl := hx.1
  have hyl := hy.1
  have K1 := hid (concat_any w b bc xa ya xn xc yn yc x y hx hy c0 c1 (by unfold K.cap; omega))
  have HL : Hid (x.length + y.length = xn + yn) := hid (by omega)
  have HB := hid hbd
  clear hx hy c0 c1 hxl hyl hbd
  go_enter Tryz.func55, Tryz.ntmps55
  go_wp2_with (first
    | (go_at_call 85; refine K1.out.mono ?_; rintro e w1 ⟨a1, c1, rfl, ho1, hf1⟩; have HO1 := hid ho1; have F1 := hid hf1; clear ho1 hf1)
    | (go_at_call 84; refine (frame_ok a1 (xn + yn) c1 (x ++ y) w1 (by have := HO1.out.sl; rw [List.length_append, HL.out] at this; exact this) HB.out).mono ?_; rintro e w2 ⟨a2, c2, rfl, ho2, hf2⟩; have HO2 := hid ho2; have F2 := hid (F1.out.trans hf2 (fun _ _ h => h)); clear ho2 hf2))
  go_ret2
  have hz := F1.out.size
  exact ⟨a2, c2, rfl, HO2.out.base (fun k hk => by have := (HO2.out.lt k hk).1; omega), F2.out⟩

set_option maxHeartbeats 800000 in
/-- Encode -/
theorem encode_any (s : Int) (h1 : -9223372036854775808 ≤ s) (h2 : s ≤ 9223372036854775807) (a : Option Addr) (len c : Nat) (bs : List UInt8) (w : World) (h : Sl w a len bs) :
    Calls Tryz.prog 31 #[.int .i64 s, .slice a len c] w fun e w' => ∃ a' c', e = .returned (.tuple #[.slice a' (C.enc s bs).1.length c', .int .i64 (C.enc s bs).2]) ∧ Ow w.heap.size w' a' c' (C.enc s bs).1 ∧ Fr (fun _ => False) w w' := by
  have hl := h.1
  have K0 := ckCheck_any s a len c w
  by_cases hc : C.chk s len = 0
  · have hk := C.chk_ok hc
    have he : C.enc s bs = (M.frame (C.body s bs), 0) := C.enc_ok (by rw [hl]; exact hc)
    have hbl := C.body_length (s := s) (b := bs) (by rw [hl]; exact hc)
    rw [he]
    rw [hc] at K0
    have HK0 := hid K0
    have K1 := hid (ckNumber_any s h1 h2 w)
    have K2 := hid (fun w1 (hf : Fr (fun _ => False) w w1) => ckList_any a len c bs w1 (h.kept hf (fun _ _ _ h => h)) hk.2.2)
    have HBL := hid hbl
    clear K0 hc hk he hbl h hl
    go_enter Tryz.func31, Tryz.ntmps31
    go_wp2_with (first
      | (go_at_call 54; refine HK0.out.mono ?_; rintro e w' ⟨rfl, rfl⟩)
      | (go_at_call 56; refine K1.out.mono ?_; rintro e w1 ⟨a1, c1, rfl, ho1, hf1⟩; have HO1 := hid ho1; have F1 := hid hf1; clear ho1 hf1)
      | (go_at_call 57; refine (K2.out w1 F1.out).mono ?_; rintro e w2 ⟨a2, c2, rfl, ho2, hf2⟩; have HX2 := hid (HO1.out.sl.kept hf2 (fun _ _ _ h => h)); have HY2 := hid ho2.sl; have F2 := hid (F1.out.trans hf2 (fun _ _ h => h)); clear ho2 hf2)
      | (go_at_call 55; refine (ckFrame_any _ w2.heap.size _ a1 a2 _ c1 _ c2 _ _ (HX2.out.alloc _) (HY2.out.alloc _) (cell_of (Go.heap_alloc_new w2 _) rfl) (cell_of (Go.heap_alloc_new w2 _) rfl) (by have := HBL.out; unfold C.body at this; rw [List.length_append] at this; omega)).mono ?_; rintro e w3 ⟨a3, c3, rfl, ho3, hf3⟩; have HO3 := hid ho3; have F3 := hid ((F2.out.trans (Fr.alloc (Fr.refl (fun _ => False) _) _) (fun _ _ h => h)).trans hf3 (fun _ _ h => h)); clear ho3 hf3))
    go_ret2
    have hz := F2.out.size
    refine ⟨a3, c3, rfl, HO3.out.base (fun k hk => by have := (HO3.out.lt k hk).1; rw [World.size_alloc] at this; omega), F3.out⟩
  · have he : C.enc s bs = ([], C.chk s len) := by rw [← hl]; exact C.enc_err (by rw [hl]; exact hc)
    rw [he]
    obtain ⟨x, hx⟩ : ∃ x, C.chk s len = x := ⟨_, rfl⟩
    rw [hx] at K0 hc ⊢
    have HK0 := hid K0
    clear K0 he h hl hx
    go_enter Tryz.func31, Tryz.ntmps31
    go_wp2_with (first
      | (go_at_call 54; refine HK0.out.mono ?_; rintro e w' ⟨rfl, rfl⟩))
    go_ret2
    exact ⟨none, 0, rfl, Ow.nil _ _, Fr.refl _ _⟩

end Go.Proofs.YtogdjhhabcejgaaGreat

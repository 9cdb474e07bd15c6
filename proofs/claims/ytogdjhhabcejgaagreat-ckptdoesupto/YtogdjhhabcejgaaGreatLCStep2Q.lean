/-
  CkptDoes: an operation, done with both disks: Load, and what is none.
-/
import Derived.Test.YtogdjhhabcejgaaGreatLCStepQ
namespace Go.Proofs.YtogdjhhabcejgaaGreat
open Go.RowKit Go.Maps
set_option linter.unusedVariables false

set_option maxRecDepth 20000 in
set_option maxHeartbeats 3200000 in
theorem ckStep_1 {w0 w : World} {p q : Nat} {Sd Sr : Nat → Prop} {d : K.DK} (h : DD w0 w p q Sd Sr d d) (o : C.Op) (hdo : o.do_ = 1) (s : ByteArray) (ba : Option Addr) (bm bc : Nat) (h6 : O7 w0 o s ba bm) (hc : d.used + o.add ≤ K.cap) :
    Calls Tryz.prog 7 #[.pointer (some ⟨p, 0, none⟩), .pointer (some ⟨q, 0, none⟩), .agg #[.int .i64 o.do_, .int .i64 o.slot, .slice ba bm bc, .int .i64 o.k, .int .i64 o.keep, .string s]] w fun e w' => Sp7 w0 w Sd Sr p q (d.used + o.add) e w' := by
  rw [hdo]
  have HB := hid h
  have hu : (C.load d).2.used ≤ d.used + o.add := Nat.le_trans (C.load_used h.dk.oks) (Nat.le_add_right _ _)
  have KC : Hid (∀ W, Fr (fun _ => False) w W → Calls Tryz.prog 15 #[.pointer (some ⟨p, 0, none⟩)] W fun e w' => ∃ xa xc Sd', e = .returned (.tuple #[.int .i64 (C.load d).1.1, .slice xa (C.load d).1.2.1.length xc, .int .i64 (C.load d).1.2.2]) ∧ DD w0 w' p q Sd' Sr (C.load d).2 d ∧ Ow W.heap.size w' xa xc (C.load d).1.2.1 ∧ Fr Sd w w' ∧ ∀ k, Sd' k → Sd k ∨ w.heap.size ≤ k) := hid (fun W hf => by
    have h0 := HB.out.kept hf
    refine (load_any h0.dk).mono ?_
    rintro e w' ⟨w1, xa, xc, rfl, ht, ho, hf1⟩
    exact ⟨xa, xc, _, rfl, (h0.d ht).kept hf1, ho.base (fun k hk => by have h3 := (ho.lt k hk).1; have h4 := ht.2.size; omega), ((hf.mono (T := Sd) (fun _ _ h => h.elim)).trans ht.2 (fun _ _ h => h)).trans hf1 (fun _ _ h => h.elim), fun k hk => hk.1.imp id (Nat.le_trans hf.size)⟩)
  have KR : Hid (∀ W Sd', w.heap.size ≤ W.heap.size → DD w0 W p q Sd' Sr (C.load d).2 d → Calls Tryz.prog 17 #[.pointer (some ⟨q, 0, none⟩)] W fun e w' => ∃ xa xc Sr', e = .returned (.tuple #[.int .i64 (C.load d).1.1, .slice xa (C.load d).1.2.1.length xc, .int .i64 (C.load d).1.2.2]) ∧ DD w0 w' p q Sd' Sr' (C.load d).2 (C.load d).2 ∧ Sl w' xa (C.load d).1.2.1.length (C.load d).1.2.1 ∧ Fr Sr W w' ∧ ∀ k, Sr' k → Sr k ∨ w.heap.size ≤ k) := hid (fun W Sd' hz h1 => by
    refine (rload_any h1.rk).mono ?_
    rintro e w' ⟨w1, xa, xc, rfl, ht, ho, hf1⟩
    exact ⟨xa, xc, _, rfl, (h1.r ht).kept hf1, ho.sl, ht.2.trans hf1 (fun _ _ h => h.elim), fun k hk => hk.1.imp id (Nat.le_trans hz)⟩)
  obtain ⟨R, hR⟩ : ∃ R, C.load d = R := ⟨_, rfl⟩
  obtain ⟨⟨t1, b1, e1⟩, d'⟩ := R
  rw [hR] at KC KR hu
  simp only at KC KR hu
  have HU := hid hu
  have HLT : Hid (∀ k, Sr k → k < w.heap.size) := hid h.rk.1
  clear hR h hc hdo hu h6
  obtain ⟨ok, hok⟩ : ∃ x, o.k = x := ⟨_, rfl⟩
  obtain ⟨op, hop⟩ : ∃ x, o.keep = x := ⟨_, rfl⟩
  obtain ⟨os, hos⟩ : ∃ x, o.slot = x := ⟨_, rfl⟩
  rw [hok, hop, hos]
  clear hok hop hos
  go_enter Tryz.func7, Tryz.ntmps7
  go_wp2_with (first
    | (go_at_call 15; refine (KC.out _ (by first | exact Fr.alloc (Fr.refl _ w) _ | exact Fr.drew (Fr.alloc (Fr.refl _ w) _))).mono ?_; rintro e w1 ⟨xa, xc, Sd1, rfl, hdd, ho, hfw, hm⟩; have FW1 := hid hfw; have M1 := hid hm; clear hfw hm; have HD1 := hid hdd; have HO1 := hid ho; clear hdd ho)
    | (go_at_call 17; refine (KR.out w1 Sd1 FW1.out.size HD1.out).mono ?_; rintro e w2 ⟨ya, yc, Sr2, rfl, hdd, hsl, hf, hm⟩; have FW2 : Hid (Fr (fun k => Sd k ∨ Sr k) w w2) := hid ((FW1.out.mono (fun _ _ h => .inl h)).trans hf (fun _ _ h => .inr h)); have M2 := hid hm; clear hm; have HD2 := hid hdd; have HX2 := hid (HO1.out.sl.kept hf (fun _ k hk hS => by have h3 := (HO1.out.lt k hk).1; have h4 := HLT.out k hS; simp at h3; omega)); have EQ := hid (equal_any xa ya _ xc _ yc b1 b1 w2 HX2.out hsl); rw [decide_eq_true (rfl : b1 = b1)] at EQ; clear hdd hsl hf)
    | (go_at_call 18; refine EQ.out.mono ?_; rintro e w' ⟨rfl, rfl⟩))
  go_ret
  exact ⟨Sd1, Sr2, d', rfl, HD2.out, HU.out, FW2.out, M1.out, M2.out⟩

set_option maxRecDepth 20000 in
set_option maxHeartbeats 3200000 in
theorem ckStep_o {w0 w : World} {p q : Nat} {Sd Sr : Nat → Prop} {d : K.DK} (h : DD w0 w p q Sd Sr d d) (o : C.Op) (hd : o.do_ ≠ 0 ∧ o.do_ ≠ 1 ∧ o.do_ ≠ 2 ∧ o.do_ ≠ 3 ∧ o.do_ ≠ 4 ∧ o.do_ ≠ 5) (s : ByteArray) (ba : Option Addr) (bm bc : Nat) :
    Calls Tryz.prog 7 #[.pointer (some ⟨p, 0, none⟩), .pointer (some ⟨q, 0, none⟩), .agg #[.int .i64 o.do_, .int .i64 o.slot, .slice ba bm bc, .int .i64 o.k, .int .i64 o.keep, .string s]] w fun e w' => Sp7 w0 w Sd Sr p q (d.used + o.add) e w' := by
  have HB := hid h
  obtain ⟨h0, h1, h2, h3, h4, h5⟩ := hd
  have HU : Hid (d.used ≤ d.used + o.add) := hid (Nat.le_add_right _ _)
  clear h
  generalize o.do_ = od at *
  generalize o.k = ok at *
  generalize o.keep = op at *
  generalize o.slot = os at *
  go_enter Tryz.func7, Tryz.ntmps7
  go_wp2
  go_ret
  exact ⟨Sd, Sr, d, rfl, HB.out.kept (Fr.alloc (Fr.refl _ w) _), HU.out, Fr.alloc (Fr.refl _ w) _, fun _ h => .inl h, fun _ h => .inl h⟩

/-- an operation, done with both -/
theorem ckStep_any {w0 w : World} {p q : Nat} {Sd Sr : Nat → Prop} {d : K.DK} (h : DD w0 w p q Sd Sr d d) (o : C.Op) (s : ByteArray) (ba : Option Addr) (bm bc : Nat) (h6 : O7 w0 o s ba bm) (hc : d.used + o.add ≤ K.cap) :
    Calls Tryz.prog 7 #[.pointer (some ⟨p, 0, none⟩), .pointer (some ⟨q, 0, none⟩), .agg #[.int .i64 o.do_, .int .i64 o.slot, .slice ba bm bc, .int .i64 o.k, .int .i64 o.keep, .string s]] w fun e w' => Sp7 w0 w Sd Sr p q (d.used + o.add) e w' := by
  by_cases h0 : o.do_ = 0
  · exact ckStep_0 h o h0 s ba bm bc h6 hc
  by_cases h1 : o.do_ = 1
  · exact ckStep_1 h o h1 s ba bm bc h6 hc
  by_cases h2 : o.do_ = 2
  · exact ckStep_2 h o h2 s ba bm bc h6 hc
  by_cases h3 : o.do_ = 3
  · exact ckStep_3 h o h3 s ba bm bc h6 hc
  by_cases h4 : o.do_ = 4
  · exact ckStep_4 h o h4 s ba bm bc h6 hc
  by_cases h5 : o.do_ = 5
  · exact ckStep_5 h o h5 s ba bm bc h6 hc
  · exact ckStep_o h o ⟨h0, h1, h2, h3, h4, h5⟩ s ba bm bc

end Go.Proofs.YtogdjhhabcejgaaGreat

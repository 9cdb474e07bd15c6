/-
  CkptDoes: an operation, done with both disks: the law's 'step'.
-/
import Derived.Test.YtogdjhhabcejgaaGreatCRefSaveQ
import Derived.Test.YtogdjhhabcejgaaGreatMg47
import Derived.Test.YtogdjhhabcejgaaGreatMg48
namespace Go.Proofs.YtogdjhhabcejgaaGreat
open Go.RowKit Go.Maps
set_option linter.unusedVariables false

/-- what a step leaves -/
def Sp7 (w0 w : World) (Sd Sr : Nat → Prop) (p q u : Nat) (e : Ending) (w' : World) : Prop :=
  ∃ Sd' Sr' d', e = .returned (.bool true) ∧ DD w0 w' p q Sd' Sr' d' d' ∧ d'.used ≤ u ∧ Fr (fun k => Sd k ∨ Sr k) w w' ∧ (∀ k, Sd' k → Sd k ∨ w.heap.size ≤ k) ∧ (∀ k, Sr' k → Sr k ∨ w.heap.size ≤ k)
/-- how much an operation can add -/
def C.Op.add (o : C.Op) : Nat := 524322 * (o.b.length + 1)
theorem C.Op.add_ge (o : C.Op) : 524322 ≤ o.add ∧ o.b.length ≤ o.add := by
  unfold C.Op.add
  rw [Nat.mul_add, Nat.mul_one]
  exact ⟨Nat.le_add_left _ _, Nat.le_trans (Nat.le_mul_of_pos_left _ (Nat.succ_pos _)) (Nat.le_add_right _ _)⟩
set_option maxRecDepth 20000 in
set_option maxHeartbeats 3200000 in
theorem ckStep_0 {w0 w : World} {p q : Nat} {Sd Sr : Nat → Prop} {d : K.DK} (h : DD w0 w p q Sd Sr d d) (o : C.Op) (hdo : o.do_ = 0) (s : ByteArray) (ba : Option Addr) (bm bc : Nat) (h6 : O7 w0 o s ba bm) (hc : d.used + o.add ≤ K.cap) :
    Calls Tryz.prog 7 #[.pointer (some ⟨p, 0, none⟩), .pointer (some ⟨q, 0, none⟩), .agg #[.int .i64 o.do_, .int .i64 o.slot, .slice ba bm bc, .int .i64 o.k, .int .i64 o.keep, .string s]] w fun e w' => Sp7 w0 w Sd Sr p q (d.used + o.add) e w' := by
  rw [hdo]
  have h6 := hid h6
  have HB := hid h
  have hbl := h6.out.sl.1
  have HC : Hid (d.used + 524322 ≤ K.cap ∧ d.used + bm ≤ K.cap) := hid (by have hg := o.add_ge; generalize o.add = oa at hc hg; rw [hbl] at hg; exact ⟨by omega, by omega⟩)
  have hu : (C.save d o.slot o.b).2.used ≤ d.used + o.add := by
    have := C.save_used HB.out.dk.oks HC.out.1 o.slot o.b
    have hg := o.add_ge
    generalize o.add = oa at hc hg ⊢
    omega
  have KC : Hid (∀ W, Fr (fun _ => False) w W → Calls Tryz.prog 14 #[.pointer (some ⟨p, 0, none⟩), .int .i64 o.slot, .slice ba bm bc] W fun e w' => e = .returned (.int .i64 (C.save d o.slot o.b).1) ∧ ∃ Sd', DD w0 w' p q Sd' Sr (C.save d o.slot o.b).2 d ∧ Fr Sd W w' ∧ Fr Sd w w' ∧ ∀ k, Sd' k → Sd k ∨ w.heap.size ≤ k) := hid (fun W hf => by
    have h0 := HB.out.kept hf
    have k := save_any h0.dk o.slot h6.out.s0 h6.out.s1 ba bm bc o.b (h6.out.sl.kept h0.fr (fun _ _ _ h => h)) HC.out.1
    refine k.mono ?_
    rintro e w' ⟨rfl, ht⟩
    exact ⟨rfl, _, h0.d ht, ht.2, (hf.mono (T := Sd) (fun _ _ h => h.elim)).trans ht.2 (fun _ _ h => h), fun k hk => hk.1.imp id (Nat.le_trans hf.size)⟩)
  have KR : Hid (∀ W Sd', w.heap.size ≤ W.heap.size → DD w0 W p q Sd' Sr (C.save d o.slot o.b).2 d → Calls Tryz.prog 16 #[.pointer (some ⟨q, 0, none⟩), .int .i64 o.slot, .slice ba bm bc] W fun e w' => e = .returned (.int .i64 (C.save d o.slot o.b).1) ∧ ∃ Sr', DD w0 w' p q Sd' Sr' (C.save d o.slot o.b).2 (C.save d o.slot o.b).2 ∧ Fr Sr W w' ∧ ∀ k, Sr' k → Sr k ∨ w.heap.size ≤ k) := hid (fun W Sd' hz h1 => by
    have k := rsave_any h1.rk o.slot h6.out.s0 h6.out.s1 ba bm bc o.b (h6.out.sl.kept h1.fr (fun _ _ _ h => h)) HC.out.1
    refine k.mono ?_
    rintro e w' ⟨rfl, hr⟩
    exact ⟨rfl, _, h1.r hr, hr.2, fun k hk => hk.1.imp id (Nat.le_trans hz)⟩)
  obtain ⟨R, hR⟩ : ∃ R, C.save d o.slot o.b = R := ⟨_, rfl⟩
  obtain ⟨er, d'⟩ := R
  rw [hR] at KC KR hu
  simp only at KC KR hu
  have HU := hid hu
  have HNB : Hid (¬ Sd w.heap.size ∧ ¬ Sr w.heap.size) := hid ⟨fun hs => by have := h.dk.1 _ hs; omega, fun hs => by have := h.rk.1 _ hs; omega⟩
  clear hR h hc hdo hu hbl
  obtain ⟨ok, hok⟩ : ∃ x, o.k = x := ⟨_, rfl⟩
  obtain ⟨op, hop⟩ : ∃ x, o.keep = x := ⟨_, rfl⟩
  obtain ⟨os, hos⟩ : ∃ x, o.slot = x := ⟨_, rfl⟩
  rw [hok, hop, hos]
  rw [hos] at KC KR
  clear hok hop hos
  go_enter Tryz.func7, Tryz.ntmps7
  go_wp2_with fail
  go_region_held3 (fun w' => w'.cell? ⟨w.heap.size, 1, none⟩ = some (.int .i64 os) ∧ w'.cell? ⟨w.heap.size, 2, none⟩ = some (.slice ba bm bc)) (first | exact ⟨by simp, by simp⟩ | go_keep | exact s1 | exact s2)
    (first
      | (go_at_call 14; refine (KC.out _ (by first | exact Fr.alloc (Fr.refl _ w) _ | exact Fr.drew (Fr.alloc (Fr.refl _ w) _))).mono ?_; rintro e w1 ⟨rfl, Sd1, hdd, hf, hfw, hm⟩; have FW1 := hid hfw; have M1 := hid hm; clear hfw hm; have s1 : (fun w' : World => w'.cell? ⟨w.heap.size, 1, none⟩ = some (.int .i64 os) ∧ w'.cell? ⟨w.heap.size, 2, none⟩ = some (.slice ba bm bc)) w1 := ⟨cell_fr hf HNB.out.1 (by simp), cell_fr hf HNB.out.1 (by simp)⟩; have HD1 := hid hdd; clear hdd hf)
      | (go_at_call 16; refine (KR.out w1 Sd1 FW1.out.size HD1.out).mono ?_; rintro e w2 ⟨rfl, Sr2, hdd, hf, hm⟩; have FW2 : Hid (Fr (fun k => Sd k ∨ Sr k) w w2) := hid ((FW1.out.mono (fun _ _ h => .inl h)).trans hf (fun _ _ h => .inr h)); have M2 := hid hm; clear hm; have s2 : (fun w' : World => w'.cell? ⟨w.heap.size, 1, none⟩ = some (.int .i64 os) ∧ w'.cell? ⟨w.heap.size, 2, none⟩ = some (.slice ba bm bc)) w2 := ⟨cell_fr hf HNB.out.2 s1.1, cell_fr hf HNB.out.2 s1.2⟩; have HD2 := hid hdd; clear hdd hf))
  go_wp2
  go_ret
  exact ⟨Sd1, Sr2, d', by simp, HD2.out, HU.out, FW2.out, M1.out, M2.out⟩
set_option maxRecDepth 20000 in
set_option maxHeartbeats 3200000 in
theorem ckStep_2 {w0 w : World} {p q : Nat} {Sd Sr : Nat → Prop} {d : K.DK} (h : DD w0 w p q Sd Sr d d) (o : C.Op) (hdo : o.do_ = 2) (s : ByteArray) (ba : Option Addr) (bm bc : Nat) (h6 : O7 w0 o s ba bm) (hc : d.used + o.add ≤ K.cap) :
    Calls Tryz.prog 7 #[.pointer (some ⟨p, 0, none⟩), .pointer (some ⟨q, 0, none⟩), .agg #[.int .i64 o.do_, .int .i64 o.slot, .slice ba bm bc, .int .i64 o.k, .int .i64 o.keep, .string s]] w fun e w' => Sp7 w0 w Sd Sr p q (d.used + o.add) e w' := by
  rw [hdo]
  have h6 := hid h6
  have HB := hid h
  have hbl := h6.out.sl.1
  have HC : Hid (d.used + 524322 ≤ K.cap ∧ d.used + bm ≤ K.cap) := hid (by have hg := o.add_ge; generalize o.add = oa at hc hg; rw [hbl] at hg; exact ⟨by omega, by omega⟩)
  have hu : (K.fuse d o.k o.keep).2.used ≤ d.used + o.add := by
    have := K.fuse_used d o.k o.keep
    have hg := o.add_ge
    generalize o.add = oa at hc hg ⊢
    omega
  have KC : Hid (∀ W, Fr (fun _ => False) w W → Calls Tryz.prog 19 #[.pointer (some ⟨p, 0, none⟩), .int .i64 o.k, .int .i64 o.keep] W fun e w' => e = .returned (.int .i64 (K.fuse d o.k o.keep).1) ∧ ∃ Sd', DD w0 w' p q Sd' Sr (K.fuse d o.k o.keep).2 d ∧ Fr Sd W w' ∧ Fr Sd w w' ∧ ∀ k, Sd' k → Sd k ∨ w.heap.size ≤ k) := hid (fun W hf => by
    have h0 := HB.out.kept hf
    have k := fuse_any h0.dk o.k o.keep h6.out.k1 h6.out.p1
    refine k.mono ?_
    rintro e w' ⟨rfl, ht⟩
    exact ⟨rfl, _, h0.d ht, ht.2, (hf.mono (T := Sd) (fun _ _ h => h.elim)).trans ht.2 (fun _ _ h => h), fun k hk => hk.1.imp id (Nat.le_trans hf.size)⟩)
  have KR : Hid (∀ W Sd', w.heap.size ≤ W.heap.size → DD w0 W p q Sd' Sr (K.fuse d o.k o.keep).2 d → Calls Tryz.prog 20 #[.pointer (some ⟨q, 0, none⟩), .int .i64 o.k, .int .i64 o.keep] W fun e w' => e = .returned (.int .i64 (K.fuse d o.k o.keep).1) ∧ ∃ Sr', DD w0 w' p q Sd' Sr' (K.fuse d o.k o.keep).2 (K.fuse d o.k o.keep).2 ∧ Fr Sr W w' ∧ ∀ k, Sr' k → Sr k ∨ w.heap.size ≤ k) := hid (fun W Sd' hz h1 => by
    have k := rfuse_any h1.rk o.k o.keep h6.out.k1 h6.out.p1
    refine k.mono ?_
    rintro e w' ⟨rfl, hr⟩
    exact ⟨rfl, _, h1.r hr, hr.2, fun k hk => hk.1.imp id (Nat.le_trans hz)⟩)
  obtain ⟨R, hR⟩ : ∃ R, K.fuse d o.k o.keep = R := ⟨_, rfl⟩
  obtain ⟨er, d'⟩ := R
  rw [hR] at KC KR hu
  simp only at KC KR hu
  have HU := hid hu
  have HNB : Hid (¬ Sd w.heap.size ∧ ¬ Sr w.heap.size) := hid ⟨fun hs => by have := h.dk.1 _ hs; omega, fun hs => by have := h.rk.1 _ hs; omega⟩
  clear hR h hc hdo hu hbl
  obtain ⟨ok, hok⟩ : ∃ x, o.k = x := ⟨_, rfl⟩
  obtain ⟨op, hop⟩ : ∃ x, o.keep = x := ⟨_, rfl⟩
  obtain ⟨os, hos⟩ : ∃ x, o.slot = x := ⟨_, rfl⟩
  rw [hok, hop, hos]
  rw [hok, hop] at KC KR
  clear hok hop hos
  go_enter Tryz.func7, Tryz.ntmps7
  go_wp2_with fail
  go_region_held3 (fun w' => w'.cell? ⟨w.heap.size, 3, none⟩ = some (.int .i64 ok) ∧ w'.cell? ⟨w.heap.size, 4, none⟩ = some (.int .i64 op)) (first | exact ⟨by simp, by simp⟩ | go_keep | exact s1 | exact s2)
    (first
      | (go_at_call 19; refine (KC.out _ (by first | exact Fr.alloc (Fr.refl _ w) _ | exact Fr.drew (Fr.alloc (Fr.refl _ w) _))).mono ?_; rintro e w1 ⟨rfl, Sd1, hdd, hf, hfw, hm⟩; have FW1 := hid hfw; have M1 := hid hm; clear hfw hm; have s1 : (fun w' : World => w'.cell? ⟨w.heap.size, 3, none⟩ = some (.int .i64 ok) ∧ w'.cell? ⟨w.heap.size, 4, none⟩ = some (.int .i64 op)) w1 := ⟨cell_fr hf HNB.out.1 (by simp), cell_fr hf HNB.out.1 (by simp)⟩; have HD1 := hid hdd; clear hdd hf)
      | (go_at_call 20; refine (KR.out w1 Sd1 FW1.out.size HD1.out).mono ?_; rintro e w2 ⟨rfl, Sr2, hdd, hf, hm⟩; have FW2 : Hid (Fr (fun k => Sd k ∨ Sr k) w w2) := hid ((FW1.out.mono (fun _ _ h => .inl h)).trans hf (fun _ _ h => .inr h)); have M2 := hid hm; clear hm; have s2 : (fun w' : World => w'.cell? ⟨w.heap.size, 3, none⟩ = some (.int .i64 ok) ∧ w'.cell? ⟨w.heap.size, 4, none⟩ = some (.int .i64 op)) w2 := ⟨cell_fr hf HNB.out.2 s1.1, cell_fr hf HNB.out.2 s1.2⟩; have HD2 := hid hdd; clear hdd hf))
  go_wp2
  go_ret
  exact ⟨Sd1, Sr2, d', by simp, HD2.out, HU.out, FW2.out, M1.out, M2.out⟩
set_option maxRecDepth 20000 in
set_option maxHeartbeats 3200000 in
theorem ckStep_3 {w0 w : World} {p q : Nat} {Sd Sr : Nat → Prop} {d : K.DK} (h : DD w0 w p q Sd Sr d d) (o : C.Op) (hdo : o.do_ = 3) (s : ByteArray) (ba : Option Addr) (bm bc : Nat) (h6 : O7 w0 o s ba bm) (hc : d.used + o.add ≤ K.cap) :
    Calls Tryz.prog 7 #[.pointer (some ⟨p, 0, none⟩), .pointer (some ⟨q, 0, none⟩), .agg #[.int .i64 o.do_, .int .i64 o.slot, .slice ba bm bc, .int .i64 o.k, .int .i64 o.keep, .string s]] w fun e w' => Sp7 w0 w Sd Sr p q (d.used + o.add) e w' := by
  rw [hdo]
  have h6 := hid h6
  have HB := hid h
  have hbl := h6.out.sl.1
  have HC : Hid (d.used + 524322 ≤ K.cap ∧ d.used + bm ≤ K.cap) := hid (by have hg := o.add_ge; generalize o.add = oa at hc hg; rw [hbl] at hg; exact ⟨by omega, by omega⟩)
  have hu : (K.crash d o.keep).2.used ≤ d.used + o.add := by
    have := K.crash_used d o.keep
    have hg := o.add_ge
    generalize o.add = oa at hc hg ⊢
    omega
  have KC : Hid (∀ W, Fr (fun _ => False) w W → Calls Tryz.prog 21 #[.pointer (some ⟨p, 0, none⟩), .int .i64 o.keep] W fun e w' => e = .returned (.int .i64 (K.crash d o.keep).1) ∧ ∃ Sd', DD w0 w' p q Sd' Sr (K.crash d o.keep).2 d ∧ Fr Sd W w' ∧ Fr Sd w w' ∧ ∀ k, Sd' k → Sd k ∨ w.heap.size ≤ k) := hid (fun W hf => by
    have h0 := HB.out.kept hf
    have k := crash_any h0.dk o.keep h6.out.p1
    refine k.mono ?_
    rintro e w' ⟨rfl, ht⟩
    exact ⟨rfl, _, h0.d ht, ht.2, (hf.mono (T := Sd) (fun _ _ h => h.elim)).trans ht.2 (fun _ _ h => h), fun k hk => hk.1.imp id (Nat.le_trans hf.size)⟩)
  have KR : Hid (∀ W Sd', w.heap.size ≤ W.heap.size → DD w0 W p q Sd' Sr (K.crash d o.keep).2 d → Calls Tryz.prog 22 #[.pointer (some ⟨q, 0, none⟩), .int .i64 o.keep] W fun e w' => e = .returned (.int .i64 (K.crash d o.keep).1) ∧ ∃ Sr', DD w0 w' p q Sd' Sr' (K.crash d o.keep).2 (K.crash d o.keep).2 ∧ Fr Sr W w' ∧ ∀ k, Sr' k → Sr k ∨ w.heap.size ≤ k) := hid (fun W Sd' hz h1 => by
    have k := rcrash_any h1.rk o.keep h6.out.p1
    refine k.mono ?_
    rintro e w' ⟨rfl, hr⟩
    exact ⟨rfl, _, h1.r hr, hr.2, fun k hk => hk.1.imp id (Nat.le_trans hz)⟩)
  obtain ⟨R, hR⟩ : ∃ R, K.crash d o.keep = R := ⟨_, rfl⟩
  obtain ⟨er, d'⟩ := R
  rw [hR] at KC KR hu
  simp only at KC KR hu
  have HU := hid hu
  have HNB : Hid (¬ Sd w.heap.size ∧ ¬ Sr w.heap.size) := hid ⟨fun hs => by have := h.dk.1 _ hs; omega, fun hs => by have := h.rk.1 _ hs; omega⟩
  clear hR h hc hdo hu hbl
  obtain ⟨ok, hok⟩ : ∃ x, o.k = x := ⟨_, rfl⟩
  obtain ⟨op, hop⟩ : ∃ x, o.keep = x := ⟨_, rfl⟩
  obtain ⟨os, hos⟩ : ∃ x, o.slot = x := ⟨_, rfl⟩
  rw [hok, hop, hos]
  rw [hop] at KC KR
  clear hok hop hos
  go_enter Tryz.func7, Tryz.ntmps7
  go_wp2_with fail
  go_region_held3 (fun w' => w'.cell? ⟨w.heap.size, 4, none⟩ = some (.int .i64 op)) (first | exact by simp | go_keep | exact s1 | exact s2)
    (first
      | (go_at_call 21; refine (KC.out _ (by first | exact Fr.alloc (Fr.refl _ w) _ | exact Fr.drew (Fr.alloc (Fr.refl _ w) _))).mono ?_; rintro e w1 ⟨rfl, Sd1, hdd, hf, hfw, hm⟩; have FW1 := hid hfw; have M1 := hid hm; clear hfw hm; have s1 : (fun w' : World => w'.cell? ⟨w.heap.size, 4, none⟩ = some (.int .i64 op)) w1 := cell_fr hf HNB.out.1 (by simp); have HD1 := hid hdd; clear hdd hf)
      | (go_at_call 22; refine (KR.out w1 Sd1 FW1.out.size HD1.out).mono ?_; rintro e w2 ⟨rfl, Sr2, hdd, hf, hm⟩; have FW2 : Hid (Fr (fun k => Sd k ∨ Sr k) w w2) := hid ((FW1.out.mono (fun _ _ h => .inl h)).trans hf (fun _ _ h => .inr h)); have M2 := hid hm; clear hm; have s2 : (fun w' : World => w'.cell? ⟨w.heap.size, 4, none⟩ = some (.int .i64 op)) w2 := cell_fr hf HNB.out.2 s1; have HD2 := hid hdd; clear hdd hf))
  go_wp2
  go_ret
  exact ⟨Sd1, Sr2, d', by simp, HD2.out, HU.out, FW2.out, M1.out, M2.out⟩
set_option maxRecDepth 20000 in
set_option maxHeartbeats 3200000 in
theorem ckStep_4 {w0 w : World} {p q : Nat} {Sd Sr : Nat → Prop} {d : K.DK} (h : DD w0 w p q Sd Sr d d) (o : C.Op) (hdo : o.do_ = 4) (s : ByteArray) (ba : Option Addr) (bm bc : Nat) (h6 : O7 w0 o s ba bm) (hc : d.used + o.add ≤ K.cap) :
    Calls Tryz.prog 7 #[.pointer (some ⟨p, 0, none⟩), .pointer (some ⟨q, 0, none⟩), .agg #[.int .i64 o.do_, .int .i64 o.slot, .slice ba bm bc, .int .i64 o.k, .int .i64 o.keep, .string s]] w fun e w' => Sp7 w0 w Sd Sr p q (d.used + o.add) e w' := by
  rw [hdo]
  have h6 := hid h6
  have HB := hid h
  have hbl := h6.out.sl.1
  have HC : Hid (d.used + 524322 ≤ K.cap ∧ d.used + bm ≤ K.cap) := hid (by have hg := o.add_ge; generalize o.add = oa at hc hg; rw [hbl] at hg; exact ⟨by omega, by omega⟩)
  have hu : (K.restart d).2.used ≤ d.used + o.add := by
    have := K.restart_used d
    have hg := o.add_ge
    generalize o.add = oa at hc hg ⊢
    omega
  have KC : Hid (∀ W, Fr (fun _ => False) w W → Calls Tryz.prog 23 #[.pointer (some ⟨p, 0, none⟩)] W fun e w' => e = .returned (.int .i64 (K.restart d).1) ∧ ∃ Sd', DD w0 w' p q Sd' Sr (K.restart d).2 d ∧ Fr Sd W w' ∧ Fr Sd w w' ∧ ∀ k, Sd' k → Sd k ∨ w.heap.size ≤ k) := hid (fun W hf => by
    have h0 := HB.out.kept hf
    have k := restart_any h0.dk
    refine k.mono ?_
    rintro e w' ⟨rfl, ht⟩
    exact ⟨rfl, _, h0.d ht, ht.2, (hf.mono (T := Sd) (fun _ _ h => h.elim)).trans ht.2 (fun _ _ h => h), fun k hk => hk.1.imp id (Nat.le_trans hf.size)⟩)
  have KR : Hid (∀ W Sd', w.heap.size ≤ W.heap.size → DD w0 W p q Sd' Sr (K.restart d).2 d → Calls Tryz.prog 24 #[.pointer (some ⟨q, 0, none⟩)] W fun e w' => e = .returned (.int .i64 (K.restart d).1) ∧ ∃ Sr', DD w0 w' p q Sd' Sr' (K.restart d).2 (K.restart d).2 ∧ Fr Sr W w' ∧ ∀ k, Sr' k → Sr k ∨ w.heap.size ≤ k) := hid (fun W Sd' hz h1 => by
    have k := rrestart_any h1.rk
    refine k.mono ?_
    rintro e w' ⟨rfl, hr⟩
    exact ⟨rfl, _, h1.r hr, hr.2, fun k hk => hk.1.imp id (Nat.le_trans hz)⟩)
  obtain ⟨R, hR⟩ : ∃ R, K.restart d = R := ⟨_, rfl⟩
  obtain ⟨er, d'⟩ := R
  rw [hR] at KC KR hu
  simp only at KC KR hu
  have HU := hid hu
  have HNB : Hid (¬ Sd w.heap.size ∧ ¬ Sr w.heap.size) := hid ⟨fun hs => by have := h.dk.1 _ hs; omega, fun hs => by have := h.rk.1 _ hs; omega⟩
  clear hR h hc hdo hu hbl
  obtain ⟨ok, hok⟩ : ∃ x, o.k = x := ⟨_, rfl⟩
  obtain ⟨op, hop⟩ : ∃ x, o.keep = x := ⟨_, rfl⟩
  obtain ⟨os, hos⟩ : ∃ x, o.slot = x := ⟨_, rfl⟩
  rw [hok, hop, hos]
  clear hok hop hos
  go_enter Tryz.func7, Tryz.ntmps7
  go_wp2_with (first
      | (go_at_call 23; refine (KC.out _ (by first | exact Fr.alloc (Fr.refl _ w) _ | exact Fr.drew (Fr.alloc (Fr.refl _ w) _))).mono ?_; rintro e w1 ⟨rfl, Sd1, hdd, hf, hfw, hm⟩; have FW1 := hid hfw; have M1 := hid hm; clear hfw hm; have HD1 := hid hdd; clear hdd hf)
      | (go_at_call 24; refine (KR.out w1 Sd1 FW1.out.size HD1.out).mono ?_; rintro e w2 ⟨rfl, Sr2, hdd, hf, hm⟩; have FW2 : Hid (Fr (fun k => Sd k ∨ Sr k) w w2) := hid ((FW1.out.mono (fun _ _ h => .inl h)).trans hf (fun _ _ h => .inr h)); have M2 := hid hm; clear hm; have HD2 := hid hdd; clear hdd hf))
  go_wp2
  go_ret
  exact ⟨Sd1, Sr2, d', by simp, HD2.out, HU.out, FW2.out, M1.out, M2.out⟩
set_option maxRecDepth 20000 in
set_option maxHeartbeats 3200000 in
theorem ckStep_5 {w0 w : World} {p q : Nat} {Sd Sr : Nat → Prop} {d : K.DK} (h : DD w0 w p q Sd Sr d d) (o : C.Op) (hdo : o.do_ = 5) (s : ByteArray) (ba : Option Addr) (bm bc : Nat) (h6 : O7 w0 o s ba bm) (hc : d.used + o.add ≤ K.cap) :
    Calls Tryz.prog 7 #[.pointer (some ⟨p, 0, none⟩), .pointer (some ⟨q, 0, none⟩), .agg #[.int .i64 o.do_, .int .i64 o.slot, .slice ba bm bc, .int .i64 o.k, .int .i64 o.keep, .string s]] w fun e w' => Sp7 w0 w Sd Sr p q (d.used + o.add) e w' := by
  rw [hdo]
  have h6 := hid h6
  have HB := hid h
  have hbl := h6.out.sl.1
  have HC : Hid (d.used + 524322 ≤ K.cap ∧ d.used + bm ≤ K.cap) := hid (by have hg := o.add_ge; generalize o.add = oa at hc hg; rw [hbl] at hg; exact ⟨by omega, by omega⟩)
  have hu : (K.app d o.nm o.b).2.used ≤ d.used + o.add := by
    have := K.app_used HB.out.dk.oks.up o.nm o.b
    have hg := o.add_ge
    generalize o.add = oa at hc hg ⊢
    omega
  have KC : Hid (∀ W, Fr (fun _ => False) w W → Calls Tryz.prog 25 #[.pointer (some ⟨p, 0, none⟩), .string s, .slice ba bm bc] W fun e w' => e = .returned (.int .i64 (K.app d o.nm o.b).1) ∧ ∃ Sd', DD w0 w' p q Sd' Sr (K.app d o.nm o.b).2 d ∧ Fr Sd W w' ∧ Fr Sd w w' ∧ ∀ k, Sd' k → Sd k ∨ w.heap.size ≤ k) := hid (fun W hf => by
    have h0 := HB.out.kept hf
    have k := append_any h0.dk s h6.out.nz ba bm bc o.b (h6.out.sl.kept h0.fr (fun _ _ _ h => h)) h6.out.bm_ (fun _ => HC.out.2)
    rw [h6.out.nm] at k
    refine k.mono ?_
    rintro e w' ⟨rfl, ht⟩
    exact ⟨rfl, _, h0.d ht, ht.2, (hf.mono (T := Sd) (fun _ _ h => h.elim)).trans ht.2 (fun _ _ h => h), fun k hk => hk.1.imp id (Nat.le_trans hf.size)⟩)
  have KR : Hid (∀ W Sd', w.heap.size ≤ W.heap.size → DD w0 W p q Sd' Sr (K.app d o.nm o.b).2 d → Calls Tryz.prog 26 #[.pointer (some ⟨q, 0, none⟩), .string s, .slice ba bm bc] W fun e w' => e = .returned (.int .i64 (K.app d o.nm o.b).1) ∧ ∃ Sr', DD w0 w' p q Sd' Sr' (K.app d o.nm o.b).2 (K.app d o.nm o.b).2 ∧ Fr Sr W w' ∧ ∀ k, Sr' k → Sr k ∨ w.heap.size ≤ k) := hid (fun W Sd' hz h1 => by
    have k := rapp_any h1.rk s h6.out.nz ba bm bc o.b (h6.out.sl.kept h1.fr (fun _ _ _ h => h)) (fun hz' k hk e => by have := h6.out.sl.lt hz' k hk; have := h1.ger q h1.rk.sp; omega) h6.out.bm_ (fun _ => HC.out.2)
    rw [h6.out.nm] at k
    refine k.mono ?_
    rintro e w' ⟨rfl, hr⟩
    exact ⟨rfl, _, h1.r hr, hr.2, fun k hk => hk.1.imp id (Nat.le_trans hz)⟩)
  obtain ⟨R, hR⟩ : ∃ R, K.app d o.nm o.b = R := ⟨_, rfl⟩
  obtain ⟨er, d'⟩ := R
  rw [hR] at KC KR hu
  simp only at KC KR hu
  have HU := hid hu
  have HNB : Hid (¬ Sd w.heap.size ∧ ¬ Sr w.heap.size) := hid ⟨fun hs => by have := h.dk.1 _ hs; omega, fun hs => by have := h.rk.1 _ hs; omega⟩
  clear hR h hc hdo hu hbl
  obtain ⟨ok, hok⟩ : ∃ x, o.k = x := ⟨_, rfl⟩
  obtain ⟨op, hop⟩ : ∃ x, o.keep = x := ⟨_, rfl⟩
  obtain ⟨os, hos⟩ : ∃ x, o.slot = x := ⟨_, rfl⟩
  rw [hok, hop, hos]
  clear hok hop hos
  go_enter Tryz.func7, Tryz.ntmps7
  go_wp2_with fail
  go_region_held3 (fun w' => w'.cell? ⟨w.heap.size, 5, none⟩ = some (.string s) ∧ w'.cell? ⟨w.heap.size, 2, none⟩ = some (.slice ba bm bc)) (first | exact ⟨by simp, by simp⟩ | go_keep | exact s1 | exact s2)
    (first
      | (go_at_call 25; refine (KC.out _ (by first | exact Fr.alloc (Fr.refl _ w) _ | exact Fr.drew (Fr.alloc (Fr.refl _ w) _))).mono ?_; rintro e w1 ⟨rfl, Sd1, hdd, hf, hfw, hm⟩; have FW1 := hid hfw; have M1 := hid hm; clear hfw hm; have s1 : (fun w' : World => w'.cell? ⟨w.heap.size, 5, none⟩ = some (.string s) ∧ w'.cell? ⟨w.heap.size, 2, none⟩ = some (.slice ba bm bc)) w1 := ⟨cell_fr hf HNB.out.1 (by simp), cell_fr hf HNB.out.1 (by simp)⟩; have HD1 := hid hdd; clear hdd hf)
      | (go_at_call 26; refine (KR.out w1 Sd1 FW1.out.size HD1.out).mono ?_; rintro e w2 ⟨rfl, Sr2, hdd, hf, hm⟩; have FW2 : Hid (Fr (fun k => Sd k ∨ Sr k) w w2) := hid ((FW1.out.mono (fun _ _ h => .inl h)).trans hf (fun _ _ h => .inr h)); have M2 := hid hm; clear hm; have s2 : (fun w' : World => w'.cell? ⟨w.heap.size, 5, none⟩ = some (.string s) ∧ w'.cell? ⟨w.heap.size, 2, none⟩ = some (.slice ba bm bc)) w2 := ⟨cell_fr hf HNB.out.2 s1.1, cell_fr hf HNB.out.2 s1.2⟩; have HD2 := hid hdd; clear hdd hf))
  go_wp2
  go_ret
  exact ⟨Sd1, Sr2, d', by simp, HD2.out, HU.out, FW2.out, M1.out, M2.out⟩

end Go.Proofs.YtogdjhhabcejgaaGreat

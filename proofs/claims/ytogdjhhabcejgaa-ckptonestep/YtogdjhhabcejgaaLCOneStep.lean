/-
  CkptOneStep's walk.
-/
import Derived.Test.YtogdjhhabcejgaaCState
import Derived.Test.YtogdjhhabcejgaaCScript
import Derived.Test.YtogdjhhabcejgaaKMore
namespace Go.Proofs.Ytogdjhhabcejgaa
open Go.RowKit Go.Maps
set_option linter.unusedVariables false

/-- what the Saves ahead keep -/
def BI (w : World) (p : Nat) (room : Int) (wr : World) : Prop := ∃ (S : Nat → Prop) (o : Option (List UInt8)), Dk S wr p (C.dk room o) ∧ (∀ k, S k → w.heap.size ≤ k) ∧ Fr (fun _ => False) w wr ∧ (o.getD []).length ≤ 524322
theorem C.dk_used (room : Int) (o : Option (List UInt8)) : (C.dk room o).used = (o.getD []).length := C.used_of o
theorem BI.step {w : World} {p : Nat} {room : Int} {wr w' : World} {S : Nat → Prop} {o : Option (List UInt8)} (hS : ∀ k, S k → w.heap.size ≤ k) (hf : Fr (fun _ => False) w wr) (ho : (o.getD []).length ≤ 524322) (s : Int) (b : List UInt8) (h : Td S wr p (C.save (C.dk room o) s b).2 w') : BI w p room w' := by
  obtain ⟨S', hd, hS', hf', _⟩ := h.ge hS hf.size
  have hfr : Fr (fun _ => False) w w' := hf.trans hf' (fun i hi e => by have := hS i e; omega)
  rcases C.save_zero (d := C.dk room o) (o := o) rfl rfl rfl s b with e | ⟨hc, e⟩
  · rw [e] at hd
    exact ⟨S', o, hd, hS', hfr, ho⟩
  · rw [e] at hd
    exact ⟨S', some (C.enc s b).1, hd, hS', hfr, C.enc_length s b⟩

set_option maxHeartbeats 3200000 in
set_option maxRecDepth 20000 in
theorem ckptOneStep_walk (room : Int) (hr0 : -9223372036854775808 ≤ room) (hr1 : room ≤ 9223372036854775807) (sa : Option Addr) (sn sc : Nat) (ops : List C.Op) (s : Int) (h1 : -9223372036854775808 ≤ s) (h2 : s ≤ 9223372036854775807) (a : Option Addr) (n c : Nat) (bs : List UInt8) (k keep : Int) (hk : k ≤ 9223372036854775807) (hkp : keep ≤ 9223372036854775807) (w : World) (hs : Sc7 w sa sn ops) (hsl : sn ≤ 9223372036854775807) (h : Sl w a n bs) :
    Calls Try.prog 4 #[.int .i64 room, .slice sa sn sc, .int .i64 s, .slice a n c, .int .i64 k, .int .i64 keep] w fun e w' => e = .returned (.bool true) ∧ Below w.heap.size w w' := by
  have hbl := h.1
  by_cases hrm : room < 0
  · have KN := hid (new_neg room hrm hr0 w)
    clear hs h
    go_enter Try.func4, Try.ntmps4
    go_wp2_with (first
      | (go_at_call 14; refine KN.out.mono ?_; rintro e w1 ⟨rfl, rfl⟩)
      | (go_at_call 12; refine (ckBegun_any w).mono ?_; rintro e w2 ⟨rfl, hf2⟩; have F2 := hid hf2; clear hf2))
    go_ret
    exact ⟨rfl, F2.out.below (Nat.le_refl _) (fun _ _ h => h)⟩
  · have KN := hid (new_any room (by omega) hr1 w)
    have HSL := hid (fun W (hf : Fr (fun _ => False) w W) => h.kept hf (fun _ _ _ h => h))
    have HSC := hid hs
    clear hs h
    go_enter Try.func4, Try.ntmps4
    go_wp2_with (first
      | (go_at_call 14; refine KN.out.mono ?_; rintro e w1 ⟨rfl, ht1⟩; have HT1 := hid ht1; clear ht1)
      | (go_at_call 12; refine (ckBegun_any w1).mono ?_; rintro e w2 ⟨rfl, hf2⟩; have F12 := hid hf2; clear hf2))
    obtain ⟨p, hp⟩ : ∃ p, w.heap.size + 1 = p := ⟨_, rfl⟩
    rw [hp] at HT1 ⊢
    have HB0 : Hid (BI w p room w2) := hid (by
      obtain ⟨S1, hd1, hS1, hf1, _⟩ := HT1.out.ge (b := w.heap.size) (fun _ h => h.elim) (Nat.le_refl _)
      exact ⟨S1, none, hd1.kept F12.out (fun _ _ h => h), hS1, hf1.trans F12.out (fun _ _ h => h), by simp⟩)
    clear HT1 F12 hp
    go_loopw [41] (fun i wr => ∃ k : Nat, k ≤ sn ∧ i = .int .i64 k ∧ BI w p room wr) (fun i _ => sn - (intOf i).toNat)
    case atStart => exact ⟨0, by omega, rfl, HB0.out⟩
    case round =>
      obtain ⟨j, hj, rfl, S, o, hdk, hge, hfr, hol⟩ := hrel
      clear HB0
      by_cases hlt : j < sn
      · obtain ⟨b, off, q, rfl, _, nm, A, L, Cc, c0, c1, c2, c3, c4, c5, h6⟩ := HSC.out.at hfr hlt
        have fa : Fr (fun _ => False) wr (wr.alloc (.cells #[.int .i64 q.do_, .int .i64 q.slot, .slice A L Cc, .int .i64 q.k, .int .i64 q.keep, .string nm] 36)) := Fr.alloc (Fr.refl _ _) _
        have KS := hid (save_any (hdk.kept fa (fun _ _ h => h)) q.slot h6.s0 h6.s1 A L Cc q.b (h6.kept fa).sl (by rw [C.dk_used]; unfold K.cap; omega))
        have HST := hid (fun w' (ht : Td S (wr.alloc (.cells #[.int .i64 q.do_, .int .i64 q.slot, .slice A L Cc, .int .i64 q.k, .int .i64 q.keep, .string nm] 36)) p (C.save (C.dk room o) q.slot q.b).2 w') => BI.step hge hfr hol q.slot q.b (Td.pre fa ht))
        have HSK := hid (show BI w p room (wr.alloc (.cells #[.int .i64 q.do_, .int .i64 q.slot, .slice A L Cc, .int .i64 q.k, .int .i64 q.keep, .string nm] 36)) from ⟨S, o, hdk.kept fa (fun _ _ h => h), hge, hfr.trans fa (fun _ _ h => h), hol⟩)
        clear hdk hge hfr hol h6 fa
        generalize C.save (C.dk room o) q.slot q.b = R at KS HST
        generalize q.do_ = od at *
        generalize q.slot = os at *
        generalize q.k = okk at *
        generalize q.keep = okp at *
        by_cases hz : od = 0
        · subst hz
          go_wp2_with (first | (go_at_call 15; refine KS.out.mono ?_; rintro e w9 ⟨rfl, ht⟩; have HT := hid (HST.out w9 ht); clear ht))
          go_roundw
          case rel => exact ⟨j + 1, by omega, by go_num, HT.out⟩
          case measure => simp [intOf]; omega
        · go_wp2
          go_roundw
          case rel => exact ⟨j + 1, by omega, by go_num, HSK.out⟩
          case measure => simp [intOf]; omega
      · have KT := hid (state_any hdk)
        have hst : C.st (C.dk room o) = C.say o := C.st_of rfl
        rw [hst] at KT
        have KF := hid (fun W (hf : Fr (fun _ => False) wr W) => fuse_any (hdk.kept hf (fun _ _ h => h)) k keep hk hkp)
        have hS := hid (fun W (hf : Fr (fun _ => False) wr W) => hf)
        have HGE := hid hge
        have HLT := hid hdk.1
        have FR := hid hfr
        have HU : Hid ((C.dk room o).used + 524322 ≤ K.cap) := hid (by rw [C.dk_used]; unfold K.cap; omega)
        by_cases hneg : k < 0 ∨ keep < 0
        · have ef : K.fuse (C.dk room o) k keep = (1, C.dk room o) := by unfold K.fuse; rw [if_pos hneg]
          rw [ef] at KF
          simp only at KF
          generalize C.dk room o = dd at KF
          generalize C.say o = R at KT
          obtain ⟨t6, b6, e6⟩ := R
          simp only at KT
          clear hdk hge hfr hol hst ef HU
          have fin : ∀ (W W' : World) (S' : Nat → Prop), Fr (fun _ => False) wr W → Td S W p dd W' → Below w.heap.size w W' := fun W W' _ hf ht => ((FR.out.trans hf (fun _ _ h => h)).trans ht.2 (fun i hi e => by have := HGE.out i e; omega)).below (Nat.le_refl _) (fun _ _ h => h)
          have FIN := hid fin
          clear fin
          by_cases hk0 : k < 0
          · clear hneg
            go_wp2_with (first
              | (go_at_call 16; refine KT.out.mono ?_; rintro e w6 ⟨xa, xc, rfl, ho6, hf6⟩; have F6 := hid hf6; clear ho6 hf6)
              | (go_at_call 17; refine (KF.out w6 F6.out).mono ?_; rintro e w7 ⟨rfl, ht7⟩; have HT7 := hid ht7; clear ht7))
            go_ret
            exact ⟨rfl, FIN.out w6 w7 S F6.out HT7.out⟩
          · have hk1 : keep < 0 := hneg.resolve_left hk0
            clear hneg
            go_wp2_with (first
              | (go_at_call 16; refine KT.out.mono ?_; rintro e w6 ⟨xa, xc, rfl, ho6, hf6⟩; have F6 := hid hf6; clear ho6 hf6)
              | (go_at_call 17; refine (KF.out w6 F6.out).mono ?_; rintro e w7 ⟨rfl, ht7⟩; have HT7 := hid ht7; clear ht7))
            go_ret
            exact ⟨rfl, FIN.out w6 w7 S F6.out HT7.out⟩
        · have ef : K.fuse (C.dk room o) k keep = (0, { C.dk room o with left := k, keep := keep }) := by unfold K.fuse; rw [if_neg hneg, if_neg (by show ¬ (false = true); simp)]
          rw [ef] at KF
          simp only at KF
          have hone := C.one_step (d := { C.dk room o with left := k, keep := keep }) (o := o) rfl rfl (by show 0 ≤ k; omega) s bs
          have hu2 : ({ C.dk room o with left := k, keep := keep } : K.DK).used + 524322 ≤ K.cap := HU.out
          generalize ({ C.dk room o with left := k, keep := keep } : K.DK) = dd at KF hone hu2
          have KS := hid (fun (S' : Nat → Prop) W (hd : Dk S' W p dd) (hx : Sl W a n bs) => save_any hd s h1 h2 a n c bs hx hu2)
          have KT2 := hid (fun (S' : Nat → Prop) W (hd : Dk S' W p (C.save dd s bs).2) => state_any hd)
          generalize C.say o = R at KT hone
          generalize C.save dd s bs = V at KS KT2 hone
          generalize C.st V.2 = Z at KT2 hone
          obtain ⟨f7, d7⟩ := V
          obtain ⟨t6, b6, e6⟩ := R
          obtain ⟨t8, b8, e8⟩ := Z
          simp only at KT KS KT2 hone
          clear hdk hge hfr hol hst ef HU hu2 hneg
          clear hbl
          rcases hone with ⟨hz, hne⟩ | ⟨hz, hf0⟩
          · simp only [Prod.mk.injEq] at hz
            obtain ⟨rfl, rfl, rfl⟩ := hz
            go_wp2_with (first
              | (go_at_call 16; refine (KT2.out _ w8 HT8.out.1).mono ?_; rintro e w9 ⟨ya, yc, rfl, ho9, hf9⟩; have HO9 := hid ho9; have HX9 := hid (HX8.out.kept hf9 (fun _ _ h => h)); have F9 := hid (F8.out.trans hf9 (fun _ _ h => h)); have EQ := hid (equal_any xa ya _ xc _ yc b8 b8 w9 HX9.out.sl HO9.out.sl); rw [decide_eq_true (rfl : b8 = b8)] at EQ; clear ho9 hf9)
              | (go_at_call 16; refine KT.out.mono ?_; rintro e w6 ⟨xa, xc, rfl, ho6, hf6⟩; have HO6 := hid ho6; have F6 := hid hf6; clear ho6 hf6)
              | (go_at_call 17; refine (KF.out w6 F6.out).mono ?_; rintro e w7 ⟨rfl, ht7⟩; have HX7 := hid (HO6.out.kept ht7.2 (fun k hk hS => by have h3 := (HO6.out.lt k hk).1; have h4 := HLT.out k hS; omega)); have HT7 := hid ht7; have F7 : Hid (Fr (fun _ => False) w w7) := hid ((FR.out.trans F6.out (fun _ _ h => h)).trans HT7.out.2 (fun i hi e => by have := HGE.out i e; omega)); clear ht7)
              | (go_at_call 15; refine (KS.out _ w7 HT7.out.1 (HSL.out w7 F7.out)).mono ?_; rintro e w8 ⟨rfl, ht8⟩; have HX8 := hid (HX7.out.kept ht8.2 (fun k hk hS => by have h3 := HO6.out.lt k hk; rcases hS.1 with h4 | h4; have h5 := HLT.out k h4; omega; omega)); have HT8 := hid (Td.trans HT7.out ht8); have F8 : Hid (Fr (fun _ => False) w w8) := hid ((FR.out.trans F6.out (fun _ _ h => h)).trans HT8.out.2 (fun i hi e => by have := HGE.out i e; omega)); clear ht8)
              | (go_at_call 13; refine EQ.out.mono ?_; rintro e w' ⟨rfl, rfl⟩))
            go_ret
            exact ⟨rfl, F9.out.below (Nat.le_refl _) (fun _ _ h => h)⟩
          · simp only [Prod.mk.injEq] at hz
            obtain ⟨rfl, rfl, rfl⟩ := hz
            subst hf0
            by_cases he : e6 = 0
            · subst he
              by_cases ht : t6 = t8
              · subst ht
                by_cases hb : b6 = b8
                · subst hb
                  go_wp2_with (first
                    | (go_at_call 16; refine (KT2.out _ w8 HT8.out.1).mono ?_; rintro e w9 ⟨ya, yc, rfl, ho9, hf9⟩; have HO9 := hid ho9; have HX9 := hid (HX8.out.kept hf9 (fun _ _ h => h)); have F9 := hid (F8.out.trans hf9 (fun _ _ h => h)); have EQ := hid (equal_any xa ya _ xc _ yc b6 b6 w9 HX9.out.sl HO9.out.sl); have EQ2 := hid (equal_any xa a _ xc n c b6 b6 w9 HX9.out.sl (HSL.out w9 F9.out)); rw [decide_eq_true (rfl : b6 = b6)] at EQ EQ2; clear ho9 hf9)
                    | (go_at_call 16; refine KT.out.mono ?_; rintro e w6 ⟨xa, xc, rfl, ho6, hf6⟩; have HO6 := hid ho6; have F6 := hid hf6; clear ho6 hf6)
                    | (go_at_call 17; refine (KF.out w6 F6.out).mono ?_; rintro e w7 ⟨rfl, ht7⟩; have HX7 := hid (HO6.out.kept ht7.2 (fun k hk hS => by have h3 := (HO6.out.lt k hk).1; have h4 := HLT.out k hS; omega)); have HT7 := hid ht7; have F7 : Hid (Fr (fun _ => False) w w7) := hid ((FR.out.trans F6.out (fun _ _ h => h)).trans HT7.out.2 (fun i hi e => by have := HGE.out i e; omega)); clear ht7)
                    | (go_at_call 15; refine (KS.out _ w7 HT7.out.1 (HSL.out w7 F7.out)).mono ?_; rintro e w8 ⟨rfl, ht8⟩; have HX8 := hid (HX7.out.kept ht8.2 (fun k hk hS => by have h3 := HO6.out.lt k hk; rcases hS.1 with h4 | h4; have h5 := HLT.out k h4; omega; omega)); have HT8 := hid (Td.trans HT7.out ht8); have F8 : Hid (Fr (fun _ => False) w w8) := hid ((FR.out.trans F6.out (fun _ _ h => h)).trans HT8.out.2 (fun i hi e => by have := HGE.out i e; omega)); clear ht8)
                    | (go_at_call 13; refine EQ.out.mono ?_; rintro e w' ⟨rfl, rfl⟩)
                    | (go_at_call 13; refine EQ2.out.mono ?_; rintro e w' ⟨rfl, rfl⟩))
                  go_ret
                  exact ⟨rfl, F9.out.below (Nat.le_refl _) (fun _ _ h => h)⟩
                · have hbf : decide (b6 = b8) = false := decide_eq_false hb
                  go_wp2_with (first
                    | (go_at_call 16; refine (KT2.out _ w8 HT8.out.1).mono ?_; rintro e w9 ⟨ya, yc, rfl, ho9, hf9⟩; have HO9 := hid ho9; have HX9 := hid (HX8.out.kept hf9 (fun _ _ h => h)); have F9 := hid (F8.out.trans hf9 (fun _ _ h => h)); have EQ := hid (equal_any xa ya _ xc _ yc b6 b8 w9 HX9.out.sl HO9.out.sl); rw [hbf] at EQ; have EQ2 := hid (equal_any ya a _ yc n c b8 b8 w9 HO9.out.sl (HSL.out w9 F9.out)); rw [decide_eq_true (rfl : b8 = b8)] at EQ2; clear ho9 hf9)
                    | (go_at_call 16; refine KT.out.mono ?_; rintro e w6 ⟨xa, xc, rfl, ho6, hf6⟩; have HO6 := hid ho6; have F6 := hid hf6; clear ho6 hf6)
                    | (go_at_call 17; refine (KF.out w6 F6.out).mono ?_; rintro e w7 ⟨rfl, ht7⟩; have HX7 := hid (HO6.out.kept ht7.2 (fun k hk hS => by have h3 := (HO6.out.lt k hk).1; have h4 := HLT.out k hS; omega)); have HT7 := hid ht7; have F7 : Hid (Fr (fun _ => False) w w7) := hid ((FR.out.trans F6.out (fun _ _ h => h)).trans HT7.out.2 (fun i hi e => by have := HGE.out i e; omega)); clear ht7)
                    | (go_at_call 15; refine (KS.out _ w7 HT7.out.1 (HSL.out w7 F7.out)).mono ?_; rintro e w8 ⟨rfl, ht8⟩; have HX8 := hid (HX7.out.kept ht8.2 (fun k hk hS => by have h3 := HO6.out.lt k hk; rcases hS.1 with h4 | h4; have h5 := HLT.out k h4; omega; omega)); have HT8 := hid (Td.trans HT7.out ht8); have F8 : Hid (Fr (fun _ => False) w w8) := hid ((FR.out.trans F6.out (fun _ _ h => h)).trans HT8.out.2 (fun i hi e => by have := HGE.out i e; omega)); clear ht8)
                    | (go_at_call 13; refine EQ.out.mono ?_; rintro e w' ⟨rfl, rfl⟩)
                    | (go_at_call 13; refine EQ2.out.mono ?_; rintro e w' ⟨rfl, rfl⟩))
                  go_ret
                  exact ⟨rfl, F9.out.below (Nat.le_refl _) (fun _ _ h => h)⟩
              · have ht' : ¬ t8 = t6 := fun e => ht e.symm
                go_wp2_with (first
                  | (go_at_call 16; refine (KT2.out _ w8 HT8.out.1).mono ?_; rintro e w9 ⟨ya, yc, rfl, ho9, hf9⟩; have HO9 := hid ho9; have HX9 := hid (HX8.out.kept hf9 (fun _ _ h => h)); have F9 := hid (F8.out.trans hf9 (fun _ _ h => h)); have EQ2 := hid (equal_any ya a _ yc n c b8 b8 w9 HO9.out.sl (HSL.out w9 F9.out)); rw [decide_eq_true (rfl : b8 = b8)] at EQ2; clear ho9 hf9)
                  | (go_at_call 16; refine KT.out.mono ?_; rintro e w6 ⟨xa, xc, rfl, ho6, hf6⟩; have HO6 := hid ho6; have F6 := hid hf6; clear ho6 hf6)
                  | (go_at_call 17; refine (KF.out w6 F6.out).mono ?_; rintro e w7 ⟨rfl, ht7⟩; have HX7 := hid (HO6.out.kept ht7.2 (fun k hk hS => by have h3 := (HO6.out.lt k hk).1; have h4 := HLT.out k hS; omega)); have HT7 := hid ht7; have F7 : Hid (Fr (fun _ => False) w w7) := hid ((FR.out.trans F6.out (fun _ _ h => h)).trans HT7.out.2 (fun i hi e => by have := HGE.out i e; omega)); clear ht7)
                  | (go_at_call 15; refine (KS.out _ w7 HT7.out.1 (HSL.out w7 F7.out)).mono ?_; rintro e w8 ⟨rfl, ht8⟩; have HX8 := hid (HX7.out.kept ht8.2 (fun k hk hS => by have h3 := HO6.out.lt k hk; rcases hS.1 with h4 | h4; have h5 := HLT.out k h4; omega; omega)); have HT8 := hid (Td.trans HT7.out ht8); have F8 : Hid (Fr (fun _ => False) w w8) := hid ((FR.out.trans F6.out (fun _ _ h => h)).trans HT8.out.2 (fun i hi e => by have := HGE.out i e; omega)); clear ht8)
                  | (go_at_call 13; refine EQ2.out.mono ?_; rintro e w' ⟨rfl, rfl⟩))
                go_ret
                exact ⟨rfl, F9.out.below (Nat.le_refl _) (fun _ _ h => h)⟩
            · have he' : ¬ 0 = e6 := fun e => he e.symm
              go_wp2_with (first
                | (go_at_call 16; refine (KT2.out _ w8 HT8.out.1).mono ?_; rintro e w9 ⟨ya, yc, rfl, ho9, hf9⟩; have HO9 := hid ho9; have HX9 := hid (HX8.out.kept hf9 (fun _ _ h => h)); have F9 := hid (F8.out.trans hf9 (fun _ _ h => h)); have EQ2 := hid (equal_any ya a _ yc n c b8 b8 w9 HO9.out.sl (HSL.out w9 F9.out)); rw [decide_eq_true (rfl : b8 = b8)] at EQ2; clear ho9 hf9)
                | (go_at_call 16; refine KT.out.mono ?_; rintro e w6 ⟨xa, xc, rfl, ho6, hf6⟩; have HO6 := hid ho6; have F6 := hid hf6; clear ho6 hf6)
                | (go_at_call 17; refine (KF.out w6 F6.out).mono ?_; rintro e w7 ⟨rfl, ht7⟩; have HX7 := hid (HO6.out.kept ht7.2 (fun k hk hS => by have h3 := (HO6.out.lt k hk).1; have h4 := HLT.out k hS; omega)); have HT7 := hid ht7; have F7 : Hid (Fr (fun _ => False) w w7) := hid ((FR.out.trans F6.out (fun _ _ h => h)).trans HT7.out.2 (fun i hi e => by have := HGE.out i e; omega)); clear ht7)
                | (go_at_call 15; refine (KS.out _ w7 HT7.out.1 (HSL.out w7 F7.out)).mono ?_; rintro e w8 ⟨rfl, ht8⟩; have HX8 := hid (HX7.out.kept ht8.2 (fun k hk hS => by have h3 := HO6.out.lt k hk; rcases hS.1 with h4 | h4; have h5 := HLT.out k h4; omega; omega)); have HT8 := hid (Td.trans HT7.out ht8); have F8 : Hid (Fr (fun _ => False) w w8) := hid ((FR.out.trans F6.out (fun _ _ h => h)).trans HT8.out.2 (fun i hi e => by have := HGE.out i e; omega)); clear ht8)
                | (go_at_call 13; refine EQ2.out.mono ?_; rintro e w' ⟨rfl, rfl⟩))
              go_ret
              exact ⟨rfl, F9.out.below (Nat.le_refl _) (fun _ _ h => h)⟩

end Go.Proofs.Ytogdjhhabcejgaa

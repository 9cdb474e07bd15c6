/-
  CkptLean's walk.
-/
import Derived.Test.YtogdjhhabcejgaaCBegun
import Derived.Test.YtogdjhhabcejgaaCScript
import Derived.Test.YtogdjhhabcejgaaKMore
import Derived.Test.YtogdjhhabcejgaaKIt
namespace Go.Proofs.Ytogdjhhabcejgaa
open Go.RowKit Go.Maps Go.Shelf
set_option linter.unusedVariables false
attribute [local go_sem] Oper.semAt_some

theorem C.dk_usedL (room : Int) (o : Option (List UInt8)) : (C.dk room o).used = (o.getD []).length := C.used_of o
/-- what the Saves ahead keep -/
def BL (w : World) (p : Nat) (wr : World) : Prop := ∃ (S : Nat → Prop) (o : Option (List UInt8)), Dk S wr p (C.dk 16777216 o) ∧ (∀ k, S k → w.heap.size ≤ k) ∧ Fr (fun _ => False) w wr ∧ (o.getD []).length ≤ 524322
theorem BL.step {w : World} {p : Nat} {wr w' : World} {S : Nat → Prop} {o : Option (List UInt8)} (hS : ∀ k, S k → w.heap.size ≤ k) (hf : Fr (fun _ => False) w wr) (ho : (o.getD []).length ≤ 524322) (s : Int) (b : List UInt8) (h : Td S wr p (C.save (C.dk 16777216 o) s b).2 w') : BL w p w' := by
  obtain ⟨S', hd, hS', hf', _⟩ := h.ge hS hf.size
  have hfr : Fr (fun _ => False) w w' := hf.trans hf' (fun i hi e => by have := hS i e; omega)
  rcases C.save_zero (d := C.dk 16777216 o) (o := o) rfl rfl rfl s b with e | ⟨hc, e⟩
  · rw [e] at hd
    exact ⟨S', o, hd, hS', hfr, ho⟩
  · rw [e] at hd
    exact ⟨S', some (C.enc s b).1, hd, hS', hfr, C.enc_length s b⟩

/-- what the loop over the names keeps: n's cell -/
def NIc (wn : World) (nb : Nat) (pre : List K.Nm) (W : World) : Prop := Fr (fun k => k = nb) wn W ∧ W.heap[nb]? = some (.cells #[.int .i64 (pre.length : Nat)] 3 (0, 0))
theorem NIc.own (wn : World) (nb : Nat) (hn : nb < wn.heap.size) : OwnFrom wn.heap.size (NIc wn nb) := by
  rintro pre A B row ⟨h1, h2⟩ hg hr
  exact ⟨h1.trans (Fr.of_grown hg) (fun i hi e => by have := (hr i e).1; omega), (Fr.of_grown hg).cells h2 (fun e => by have := (hr _ e).1; omega)⟩
set_option maxHeartbeats 3200000 in
set_option maxRecDepth 100000 in
theorem ckptLean_walk (sa : Option Addr) (sn sc : Nat) (ops : List C.Op) (s : Int) (h1 : -9223372036854775808 ≤ s) (h2 : s ≤ 9223372036854775807) (a : Option Addr) (n c : Nat) (bs : List UInt8) (w : World) (hs : Sc7 w sa sn ops) (hsl : sn ≤ 9223372036854775807) (h : Sl w a n bs) :
    Calls Try.prog 5 #[.slice sa sn sc, .int .i64 s, .slice a n c] w fun e w' => e = .returned (.bool true) ∧ Below w.heap.size w w' := by
  have HBLN := hid h.1
  have HSL := hid (fun W (hf : Fr (fun _ => False) w W) => h.kept hf (fun _ _ _ h => h))
  have HSC := hid hs
  have KN := hid (fun W => new_any 16777216 (by omega) (by omega) W)
  clear hs h
  refine (callsIn_wide (n := 8)).1 ?_
  refine callsIn_of_wp_marks Try.func5 rfl trivial ?_ rfl
  simp only [Try.ntmps5, List.size_toArray, List.length_cons, List.length_nil, Nat.reduceAdd, Nat.reduceSub, Array.replicate_succ, Array.replicate_zero, List.push_toArray, List.append_toArray, List.nil_append, List.cons_append]
  refine wpIn_wide.2 ?_
  go_wp2_with (first
    | (go_at_call 14; refine (KN.out _).mono ?_; rintro e w1 ⟨rfl, ht1⟩; have HT1 := hid ht1; clear ht1)
    | (go_at_call 12; refine (ckBegun_any w1).mono ?_; rintro e w2 ⟨rfl, hf2⟩; have F12 := hid hf2; clear hf2))
  obtain ⟨p, hp⟩ : ∃ p, w.heap.size + 1 = p := ⟨_, rfl⟩
  rw [hp] at HT1 ⊢
  have HB0 : Hid (BL w p w2) := hid (by
    obtain ⟨S1, hd1, hS1, hf1, _⟩ := HT1.out.ge (b := w.heap.size) (fun _ h => h.elim) (Nat.le_refl _)
    exact ⟨S1, none, hd1.kept F12.out (fun _ _ h => h), hS1, hf1.trans F12.out (fun _ _ h => h), by simp⟩)
  clear HT1 F12 hp
  go_loopw [28] (fun i wr => ∃ k : Nat, k ≤ sn ∧ i = .int .i64 k ∧ BL w p wr) (fun i _ => sn - (intOf i).toNat)
  case atStart => exact ⟨0, by omega, rfl, HB0.out⟩
  case round =>
    obtain ⟨j, hj, rfl, S, o, hdk, hge, hfr, hol⟩ := hrel
    clear HB0
    by_cases hlt : j < sn
    · obtain ⟨b, off, q, rfl, _, nm, A, L, Cc, c0, c1, c2, c3, c4, c5, h6⟩ := HSC.out.at hfr hlt
      have fa : Fr (fun _ => False) wr (wr.alloc (.cells #[.int .i64 q.do_, .int .i64 q.slot, .slice A L Cc, .int .i64 q.k, .int .i64 q.keep, .string nm] 36)) := Fr.alloc (Fr.refl _ _) _
      have KS := hid (save_any (hdk.kept fa (fun _ _ h => h)) q.slot h6.s0 h6.s1 A L Cc q.b (h6.kept fa).sl (by rw [C.dk_usedL]; unfold K.cap; omega))
      have HST := hid (fun w' (ht : Td S (wr.alloc (.cells #[.int .i64 q.do_, .int .i64 q.slot, .slice A L Cc, .int .i64 q.k, .int .i64 q.keep, .string nm] 36)) p (C.save (C.dk 16777216 o) q.slot q.b).2 w') => BL.step hge hfr hol q.slot q.b (Td.pre fa ht))
      have HSK := hid (show BL w p (wr.alloc (.cells #[.int .i64 q.do_, .int .i64 q.slot, .slice A L Cc, .int .i64 q.k, .int .i64 q.keep, .string nm] 36)) from ⟨S, o, hdk.kept fa (fun _ _ h => h), hge, hfr.trans fa (fun _ _ h => h), hol⟩)
      clear hdk hge hfr hol h6 fa
      generalize C.save (C.dk 16777216 o) q.slot q.b = R at KS HST
      generalize q.do_ = od at *
      generalize q.slot = os at *
      generalize q.k = okk at *
      generalize q.keep = okp at *
      by_cases hz : od = 0
      · subst hz
        by_cases hL : (L : Int) < 4096
        · go_wp2_with (first | (go_at_call 15; refine KS.out.mono ?_; rintro e w9 ⟨rfl, ht⟩; have HT := hid (HST.out w9 ht); clear ht))
          go_roundw
          case rel => exact ⟨j + 1, by omega, by go_num, HT.out⟩
          case measure => simp [intOf]; omega
        · go_wp2
          go_roundw
          case rel => exact ⟨j + 1, by omega, by go_num, HSK.out⟩
          case measure => simp [intOf]; omega
      · go_wp2
        go_roundw
        case rel => exact ⟨j + 1, by omega, by go_num, HSK.out⟩
        case measure => simp [intOf]; omega
    · have HD := hid hdk
      have HGE := hid hge
      have FR := hid hfr
      have hus : (C.dk 16777216 o).used = (o.getD []).length := C.dk_usedL _ _
      have ef : K.fuse (C.dk 16777216 o) 5 0 = (0, { C.dk 16777216 o with left := 5, keep := 0 }) := rfl
      have KU := hid (used_dk hdk)
      have KF := hid (fun W (hf : Fr (fun _ => False) wr W) => fuse_any (hdk.kept hf (fun _ _ h => h)) 5 0 (by omega) (by omega))
      rw [ef] at KF
      simp only at KF
      have hsv := C.save_ok (d := { C.dk 16777216 o with left := 5, keep := 0 }) (o := o) rfl rfl (.inr (by show (4 : Int) ≤ 5; omega)) s bs (by show ((C.dk 16777216 o).used : Int) + 524322 ≤ 16777216; omega)
      have KS := hid (fun (S' : Nat → Prop) W (hd : Dk S' W p { C.dk 16777216 o with left := 5, keep := 0 }) (hx : Sl W a n bs) => save_any hd s h1 h2 a n c bs hx (by show (C.dk 16777216 o).used + 524322 ≤ 200000000000000; omega))
      have KE := hid (fun W (hf : Fr (fun _ => False) w W) => encode_any s h1 h2 a n c bs W (HSL.out W hf))
      rw [C.enc_snd] at KE
      have KW := hid (fun (S' : Nat → Prop) W d (hd : Dk S' W p d) => down_any hd)
      have KU2 := hid (fun (S' : Nat → Prop) W d (hd : Dk S' W p d) => used_dk hd)
      rw [HBLN.out] at hsv KE
      clear hdk hge hfr hol ef
      rcases hsv with ⟨hk, ek⟩ | ⟨hk, l, ek, _⟩
      · rw [ek] at KS
        simp only at KS
        have hus2 : ({ C.dk 16777216 o with left := 5, keep := 0 } : K.DK).used = (C.dk 16777216 o).used := rfl
        have hdn : ({ C.dk 16777216 o with left := 5, keep := 0 } : K.DK).down = false := rfl
        generalize ({ C.dk 16777216 o with left := 5, keep := 0 } : K.DK) = dd at KF KS hus2 hdn
        rw [← hus2] at KU
        generalize C.chk s n = er at KS KE hk
        generalize (C.enc s bs).1 = x at KE
        clear hus ek hus2
        have KW2 := hid (fun (S' : Nat → Prop) W (hd : Dk S' W p dd) => KW.out S' W dd hd)
        rw [hdn] at KW2
        have KU3 := hid (fun (S' : Nat → Prop) W (hd : Dk S' W p dd) => KU2.out S' W dd hd)
        generalize dd.used = ud at KU KU3
        clear hdn
        go_wp2_with (first
          | (go_at_call 18; refine (KU3.out _ w8 HT7.out.1).mono ?_; rintro e w9 ⟨rfl, hf9⟩; have F9 := hid hf9; clear hf9)
          | (go_at_call 18; refine KU.out.mono ?_; rintro e w5 ⟨rfl, hf5⟩; have F5 := hid hf5; clear hf5)
          | (go_at_call 17; refine (KF.out w5 F5.out).mono ?_; rintro e w6 ⟨rfl, ht6⟩; have HT6 := hid (Td.pre F5.out ht6); have F6 : Hid (Fr (fun _ => False) w w6) := hid (FR.out.trans HT6.out.2 (fun i hi e => by have := HGE.out i e; omega)); clear ht6)
          | (go_at_call 8; refine (KE.out w6 F6.out).mono ?_; rintro e w7 ⟨xa, xc, rfl, ho7, hf7⟩; have HD7 := hid (HT6.out.1.kept hf7 (fun _ _ h => h)); have F67 := hid hf7; have F7 := hid (F6.out.trans hf7 (fun _ _ h => h)); clear ho7 hf7)
          | (go_at_call 15; refine (KS.out _ w7 HD7.out (HSL.out w7 F7.out)).mono ?_; rintro e w8 ⟨rfl, ht8⟩; have HT7 := hid (Td.trans HT6.out (Td.pre F67.out ht8)); clear ht8)
          | (go_at_call 19; refine (KW2.out _ w8 HT7.out.1).mono ?_; rintro e w' ⟨rfl, rfl⟩))
        have f9 : Fr (fun _ => False) w w9 := (FR.out.trans HT7.out.2 (fun i hi e => by have := HGE.out i e; omega)).trans F9.out (fun _ _ h => h)
        refine ⟨.bool true, ?_, rfl, f9.below (Nat.le_refl _) (fun _ _ h => h)⟩
        simp [results, Try.f5, go_sem]
      · rw [ek] at KS
        simp only at KS
        rw [hk] at KE
        obtain ⟨x, hx⟩ : ∃ x, (C.enc s bs).1 = x := ⟨_, rfl⟩
        rw [hx] at KE KS
        have hnm : K.names ({ C.dk 16777216 o with fs := C.fsOf (some x), left := l, keep := 0 } : K.DK) = [C.ck] := rfl
        have hus2 : ({ C.dk 16777216 o with fs := C.fsOf (some x), left := l, keep := 0 } : K.DK).used = x.length := C.used_of (some x)
        have hdn : ({ C.dk 16777216 o with fs := C.fsOf (some x), left := l, keep := 0 } : K.DK).down = false := rfl
        generalize ({ C.dk 16777216 o with left := 5, keep := 0 } : K.DK) = dd at KF KS
        have KS2 : Hid (∀ (S' : Nat → Prop) W (hd : Dk S' W p dd) (hx : Sl W a n bs), Calls Try.prog 15 #[.pointer (some ⟨p, 0, none⟩), .int .i64 s, .slice a n c] W fun e w' => e = .returned (.int .i64 0) ∧ Td S' W p { C.dk 16777216 o with fs := C.fsOf (some x), left := l, keep := 0 } w') := KS
        clear KS
        generalize ({ C.dk 16777216 o with fs := C.fsOf (some x), left := l, keep := 0 } : K.DK) = de at KS2 hnm hus2 hdn
        have KNM := hid (fun (S' : Nat → Prop) W (hd : Dk S' W p de) => names_any hd)
        unfold Nr at KNM
        rw [hnm] at KNM
        have KW2 := hid (fun (S' : Nat → Prop) W (hd : Dk S' W p de) => KW.out S' W de hd)
        rw [hdn] at KW2
        have KU3 := hid (fun (S' : Nat → Prop) W (hd : Dk S' W p de) => KU2.out S' W de hd)
        rw [hus2] at KU3
        generalize (C.dk 16777216 o).used = ud at KU
        clear hnm hus2 hdn hus ek hx
        go_wp2_with (first
          | (go_at_call 18; refine KU.out.mono ?_; rintro e w5 ⟨rfl, hf5⟩; have F5 := hid hf5; clear hf5)
          | (go_at_call 17; refine (KF.out w5 F5.out).mono ?_; rintro e w6 ⟨rfl, ht6⟩; have HT6 := hid (Td.pre F5.out ht6); have F6 : Hid (Fr (fun _ => False) w w6) := hid (FR.out.trans HT6.out.2 (fun i hi e => by have := HGE.out i e; omega)); clear ht6)
          | (go_at_call 8; refine (KE.out w6 F6.out).mono ?_; rintro e w7 ⟨xa, xc, rfl, ho7, hf7⟩; have HD7 := hid (HT6.out.1.kept hf7 (fun _ _ h => h)); have F67 := hid hf7; have F7 := hid (F6.out.trans hf7 (fun _ _ h => h)); clear ho7 hf7)
          | (go_at_call 15; refine (KS2.out _ w7 HD7.out (HSL.out w7 F7.out)).mono ?_; rintro e w8 ⟨rfl, ht8⟩; have HT8 := hid (Td.trans HT6.out (Td.pre F67.out ht8)); clear ht8)
          | (go_at_call 19; refine (KW2.out _ w8 HT8.out.1).mono ?_; rintro e w' ⟨rfl, rfl⟩)
          | (go_at_call 20; refine (KNM.out _ _ (HT8.out.1.kept (Fr.alloc (Fr.refl (fun _ => False) w8) _) (fun _ _ h => h))).mono ?_; rintro e wn ⟨B, na, cap, rfl, hB, hNs, hNk, hfn⟩; have HB := hid hB; have HNs := hid hNs; have HNk := hid hNk; have HFn := hid hfn; have HBX := hid (hfn.cells (Go.heap_alloc_new w8 _) (fun h => h)); clear hB hNs hNk hfn))
        obtain ⟨nb, hnb⟩ : ∃ nb, w8.heap.size = nb := ⟨_, rfl⟩
        rw [hnb] at HBX ⊢
        have hln : nb < wn.heap.size := lt_of_row HBX.out
        have HKN : Hid (∀ k, Nk B na [C.ck] k → k < wn.heap.size ∧ k ≠ nb) := hid (fun k hk => by have h3 := HNk.out k hk; rw [World.size_alloc] at h3; exact ⟨h3.2, by omega⟩)
        have HDN := hid ((HT8.out.1.kept (Fr.alloc (Fr.refl (fun _ => False) w8) (.cells #[.int .i64 0] 3)) (fun _ _ h => h)).kept HFn.out (fun _ _ h => h))
        have F8 : Hid (Fr (fun _ => False) w w8) := hid (FR.out.trans HT8.out.2 (fun i hi e => by have := HGE.out i e; omega))
        have FN : Hid (Fr (fun _ => False) w wn) := hid ((F8.out.trans (Fr.alloc (Fr.refl (fun _ => False) w8) (.cells #[.int .i64 0] 3)) (fun _ _ h => h)).trans HFn.out (fun _ _ h => h))
        have hzw := F8.out.size
        have HNI := hid (show NIc wn nb [] wn from ⟨Fr.refl _ _, HBX.out⟩)
        have HX8 : Hid (∀ k, Nx S wr w8 k → k ≠ nb) := hid (fun k hk => by have h3 := hk.2; omega)
        have hzn : w.heap.size ≤ nb := by omega
        clear HNk hnb HT8
        refine (wpIn_wide (n := 8)).1 ?_
        refine wp_of_actC (fun a0 ha0 => ?_)
        refine wpIn_rangeFunc_ownG (w := wn) rfl (by omega) (gf := 46) (lb := #[.pointer (some ⟨B, 0, none⟩)]) (by rw [ha0]; rfl) trivial (enters_of Try.func46 (by kernel_rfl) rfl)
          (names1_stops Fence.wide _ trivial rfl (by omega) B cap na [C.ck] (by simp) wn HB.out HNs.out) (fun h k => h.trans k)
          (fun W l o o' hl hW _ _ k hk => World.putObj_heap_other (fun e => by have := (HKN.out k hk).1; omega))
          (Below.refl _ _) (fun _ => rfl) (NIc wn nb) (fun _ _ _ => False) (NIc.own wn nb hln) (fun _ _ _ _ _ hs _ _ => hs) HNI.out
          (fun x => { tmps := a0.tmps.setIfInBounds 78 (encStr x), defers := [] }) ?assign ?body ?done ?stop
        case assign =>
          subst ha0
          intro l x W K hK
          gi_wp2
          exact hK
        case stop =>
          rintro D c pre W _ hp h _
          exact h.elim
        case body =>
          subst ha0
          rintro l pre y W ⟨hfr2, hn0⟩ hlt2
          have hp0 : pre = [] := List.length_eq_zero_iff.1 (Nat.lt_one_iff.1 hlt2)
          subst hp0
          have c0 := cell_of (j := 0) hn0 rfl
          have z0 := frozen_of_row (j := 0) hn0
          have HN0 := hid hn0
          have HFR := hid hfr2
          simp only [List.length_nil] at c0
          clear hfr2 hn0
          gi_wp2
          have f9 : Fr (fun k => k = nb) W (W.setCell ⟨nb, 0, none⟩ (.int .i64 1)) := Fr.setCell (p := ⟨nb, 0, none⟩) (S := fun k => k = nb) (Fr.refl _ _) (fun _ => rfl) _
          have hle := HFR.out.size
          refine ⟨⟨f9.size, fun k o hk h0 _ => f9.cells h0 (fun e => by omega)⟩, fun k hk => f9.block k (by have := (HKN.out k hk).1; omega) (HKN.out k hk).2, HFR.out.trans f9 (fun _ _ h => h), ?_⟩
          rw [setCell_row HN0.out]
          rfl
        case done =>
          subst ha0
          rintro D0 xs W0 hD hxs ⟨hfr2, hn0⟩ hK0
          rw [hxs] at hn0
          have c0 := cell_of (j := 0) hn0 rfl
          simp only [List.length_cons, List.length_nil] at c0
          have HDW := hid (HDN.out.kept hfr2 (fun k hk e => HX8.out k hk e))
          have FW : Hid (Fr (fun _ => False) w W0) := hid (FN.out.trans hfr2 (fun i hi e => by omega))
          clear hfr2 hn0
          gi_wp2_with fail
          go_wp2_with (first
            | (go_at_call 18; refine (KU3.out _ W0 HDW.out).mono ?_; rintro e w9 ⟨rfl, hf9⟩; have hK9 := hf9.cells hK0 (fun h => h); have F9 := hid (FW.out.trans hf9 (fun _ _ h => h)); clear hf9))
          refine ⟨by simp, .inl ⟨_, _, rfl, run_takeDeferred hK9, ?_⟩⟩
          have hwn := FN.out.size
          have f10 : Fr (fun _ => False) w (w9.putObj D0 (.deferred none)) := F9.out.trans (Fr.of_grown (grownBy_putObj' _ D0 _)) (fun i hi e => by simp at e; omega)
          refine ⟨.bool true, ?_, rfl, f10.below (Nat.le_refl _) (fun _ _ h => h)⟩
          simp [results, Try.f5, go_sem]

end Go.Proofs.Ytogdjhhabcejgaa

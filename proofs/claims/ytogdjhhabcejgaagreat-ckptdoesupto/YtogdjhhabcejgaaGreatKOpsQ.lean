/-
  The contracts of a disk: isMade, Used, fall.
-/
import Derived.Test.YtogdjhhabcejgaaGreatKRangeQ
import Derived.WalkSpells
namespace Go.Proofs.YtogdjhhabcejgaaGreat
open Go.RowKit Go.Maps
set_option linter.unusedVariables false

theorem made_any (w : World) (p mb : Nat) (c1 : w.cell? ⟨p, 2, none⟩ = some (.map (some mb))) :
    Calls Tryz.prog 27 #[.pointer (some ⟨p, 0, none⟩)] w fun e w' => e = .returned (.bool true) ∧ w = w' := by
  have q : (binOp .neq 42 (.map (some mb)) (.map none)).run Tryz.prog w = .ok (.bool true) w := run_neq_map_nil w _ _ _ (some mb) Tryz.underlying42
  go_enter Tryz.func27, Tryz.ntmps27
  go_wp2
  go_ret
  exact ⟨rfl, rfl⟩

/-- what is left of the names -/
def nl (left : Lit → Bool) : K.Nm → Bool := fun z => left (.string z)
theorem nl_step (left : Lit → Bool) (x : K.Nm) : nl (fun z => left z && !z.sameKey (.string x)) = fun z => nl left z && !(z == x) := rfl
theorem nl_start {l : List (K.Nm × Nat)} : nl (Maps.has (K.toD l)) = fun z => (K.get z l).isSome := by
  funext z
  exact K.toD_has z l

theorem used_any (c : Cl) (w : World) (p mb : Nat) (l : List (K.Nm × FM)) (d : K.DK) (h : Dm c w p mb l d) (ho : K.Ok d) :
    Calls Tryz.prog 8 #[.pointer (some ⟨p, 0, none⟩)] w fun e w' => e = .returned (.int .i64 (d.used : Nat)) ∧ Fr (fun _ => False) w w' := by
  have k1 := h.k.2.1
  have ku := h.ku
  generalize d.used = u at ku ⊢
  clear h ho
  go_enter Tryz.func8, Tryz.ntmps8
  go_wp2_with (first
    | (go_at_call 27; refine (made_any _ p mb k1).mono ?_; rintro e w' ⟨rfl, rfl⟩))
  go_ret
  exact ⟨rfl, Fr.refl _ _⟩

/-- THE DISK HAS TURNED, AND IT ALONE: it is d' now. -/
def Tn (c : Cl) (w : World) (p mb : Nat) (d' : K.DK) (w' : World) : Prop := ∃ c' l', Dm c' w' p mb l' d' ∧ Fr (fun k => c k ≠ none) w w' ∧ (∀ k, c' k ≠ none → c k ≠ none ∨ w.heap.size ≤ k)

set_option maxHeartbeats 3200000 in
set_option maxRecDepth 20000 in
theorem fall_any (c : Cl) (w : World) (p mb : Nat) (l : List (K.Nm × FM)) (d : K.DK) (h : Dm c w p mb l d) (ho : K.Ok d) (keep : Int) (hk0 : 0 ≤ keep) (hk1 : keep ≤ 9223372036854775807) :
    Calls Tryz.prog 43 #[.pointer (some ⟨p, 0, none⟩), .int .i64 keep] w fun e w' => (∃ v, e = .returned v) ∧ Tn c w p mb (K.fall keep d) w' := by
  have k1 := h.k.2.1
  have hmb := h.mp.lt
  have HD := hid h
  have HO := hid ho
  have hu : K.Up d.fs := ho.up
  have HU := hid hu
  clear h ho hu
  have qu := frozen_of_row (j := 1) HD.out.at_
  have ku := HD.out.ku
  have hcp : c p ≠ none := by rw [HD.out.cp]; simp
  have hpm : mb ≠ p := fun e => by have := HD.out.cm; rw [e, HD.out.cp] at this; simp at this
  have fu : Fr (fun k => k = p) w (w.setCell ⟨p, 1, none⟩ (.int .i64 0)) := Fr.setCell (p := ⟨p, 1, none⟩) (S := fun k => k = p) (Fr.refl _ _) (fun _ => rfl) _
  have HDU := hid (show Du c (w.setCell ⟨p, 1, none⟩ (.int .i64 0)) p mb l d 0 from HD.out.own fu (by rw [setCell_row HD.out.at_]; rfl) rfl)
  have HFU := hid (show Fr (fun k => c k ≠ none) w (w.setCell ⟨p, 1, none⟩ (.int .i64 0)) from fu.mono (fun i _ e => e ▸ hcp))
  have k2' : (w.setCell ⟨p, 1, none⟩ (.int .i64 0)).cell? ⟨p, 2, none⟩ = some (.map (some mb)) := HDU.out.k.2.1
  have hszu : (w.setCell ⟨p, 1, none⟩ (.int .i64 0)).heap.size = w.heap.size := setCell_size _ _ _
  obtain ⟨wu, hwu⟩ : ∃ wu, wu = w.setCell ⟨p, 1, none⟩ (.int .i64 0) := ⟨_, rfl⟩
  rw [← hwu] at HDU HFU k2' hszu
  have HCP := hid hcp
  have HPM := hid hpm
  clear fu hcp hpm
  go_enter Tryz.func43, Tryz.ntmps43
  go_wp2_with (first
    | (rw [← hwu]; clear hwu)
    | (at_range; refine wpList_range_own _ rfl _ 42 rfl 9 64 keyed Tryz.underlying42 fileElem mb _ _ rfl HDU.out.mp ?_; intro w0 hrg0 hg0 hs0))
  go_frame
  rw [hszu]
  go_loopw [5] (fun _ wr => ∃ left cnt c1 l1, wr.ranges Tryz.prog 9 fileElem mb w.heap.size (K.mp FM.g l).length (K.toD (K.mp FM.g l)) left cnt ∧ Du c1 wr p mb l1 { d with fs := K.fsN (K.tear keep) (nl left) d.fs } (K.totN (nl left) (fun f => (K.tear keep f).len) d.fs : Nat) ∧ K.mp FM.g l1 = K.mp FM.g l ∧ c1 w.heap.size = none ∧ w.heap.size < wr.heap.size ∧ Fr (fun k => c k ≠ none) w wr ∧ (∀ k, c1 k ≠ none → c k ≠ none ∨ w.heap.size ≤ k))
    (fun _ wr => wr.rangeLeft mb w.heap.size)
  case atStart =>
    rw [hszu] at hrg0 hs0
    have f0 : Fr (fun _ => False) wu w0 := ⟨hg0.os, hg0.tape, hg0.output, hg0.size, fun k hk _ => hg0.block k hk (by simp)⟩
    refine ⟨_, _, c, l, hrg0, ?_, rfl, ?_, by omega, HFU.out.trans (f0.mono (fun _ _ h => h.elim)) (fun _ _ h => h), fun k hk => .inl hk⟩
    · have ha : ∀ q ∈ d.fs, nl (Maps.has (K.toD (K.mp FM.g l))) q.1 = true := fun q hq => by
        rw [nl_start]
        rw [← HD.out.fs] at hq
        obtain ⟨r, hr, rfl⟩ := K.mem_mp.1 hq
        have := K.get_of_mem ((HD.out.up HO.out.up).mp FM.g) (K.mem_mp.2 ⟨r, hr, rfl⟩)
        simp [this]
      have e : K.fsN (K.tear keep) (nl (Maps.has (K.toD (K.mp FM.g l)))) d.fs = d.fs := K.fsN_start ha
      rw [e, K.totN_start ha]
      exact HDU.out.kept f0 (fun _ _ h => h)
    · cases e : c w.heap.size with
      | none => rfl
      | some t => exact absurd (HD.out.lt _ (by rw [e]; simp)) (Nat.lt_irrefl _)
  case round =>
    obtain ⟨left, cnt, c1, l1, hrg, hdm, hgs, hcr, hsz, hfr, hnw⟩ := hrel
    have HR := hid hrg
    have HFR := hid hfr
    have HD1 := hid hdm
    have HN := hid hnw
    have HG := hid hgs
    clear hrg hfr hdm hnw hgs
    go_wp2_with (first
      | (at_next; refine wpList_next_file _ rfl _ rfl mb w.heap.size _ _ left cnt rfl HR.out ?_ ?_))
    · intro _ hl0
      have kk := HD1.out.k
      have q2 := frozen_of_row (j := 3) HD1.out.at_
      have q3 := frozen_of_row (j := 4) HD1.out.at_
      have q4 := frozen_of_row (j := 5) HD1.out.at_
      obtain ⟨kk0, kk1, kk2, kk3, kk4⟩ := kk
      simp only at kk2 kk3 kk4
      go_wp2
      go_end0
      refine ⟨⟨_, rfl⟩, c1, l1, ?_, ?_, HN.out⟩
      · have hfs : K.fsN (K.tear keep) (nl left) d.fs = K.mp (K.tear keep) d.fs := K.fsN_end (fun q _ => hl0 _)
        have hus : K.totN (nl left) (fun f => (K.tear keep f).len) d.fs = (K.fall keep d).used := by
          rw [K.totN_end (fun q _ => hl0 _)]
          unfold K.DK.used K.fall
          simp only
          rw [K.tot_mp]
        refine HD1.out.own (d' := K.fall keep d) (Fr.setCell (p := ⟨p, 5, none⟩) (S := fun k => k = p) (Fr.setCell (p := ⟨p, 4, none⟩) (S := fun k => k = p) (Fr.setCell (p := ⟨p, 3, none⟩) (S := fun k => k = p) (Fr.refl _ _) (fun _ => rfl) _) (fun _ => rfl) _) (fun _ => rfl) _) ?_ hfs.symm
        rw [setCell_row (setCell_row (setCell_row HD1.out.at_ _) _) _, hus]
        rfl
      · have hcp : c p ≠ none := HCP.out
        exact Fr.setCell (p := ⟨p, 5, none⟩) (Fr.setCell (p := ⟨p, 4, none⟩) (Fr.setCell (p := ⟨p, 3, none⟩) HFR.out (fun _ => hcp) _) (fun _ => hcp) _) (fun _ => hcp) _
    · intro x g w1 cnt1 hlx hgx hrg1 hlt1 hg1 hs1 hen
      rw [← HG.out] at hgx
      obtain ⟨m, hm, rfl, hmf⟩ := HD1.out.file hgx
      have hmf := K.fsN_mem hmf hlx
      have hst := K.fsN_step (K.tear keep) (L := nl left) HU.out hmf hlx
      have hut := K.totN_step (L := nl left) (fun f => (K.tear keep f).len) HU.out hmf hlx
      have hle2 := K.totN_le (fun z => nl left z && !(z == x)) (fun f => (K.tear keep f).len) d.fs
      have hle3 : K.tot (fun f => (K.tear keep f).len) d.fs ≤ d.used := K.tot_le (fun q _ => K.len_tear keep q.2)
      have huc := HO.out.uc
      have f1 : Fr (fun k => k = w.heap.size) wr w1 := (Fr.of_grown hg1).mono (fun i _ e => by simp at e; exact e.symm)
      have hd1 := HD1.out.kept f1 (fun k hk e => hk (e ▸ hcr))
      have hbd : m.sf.length + m.tl.length ≤ K.cap := by
        have := K.tot_mem K.F.len hmf
        have := HO.out.uc
        unfold K.DK.used at this
        simp only [K.F.len, FM.f] at *
        omega
      have hfm := hd1.fl _ hm
      have KS := hid (ftear_any c1 w1 m hfm hd1.lt hbd keep hk0 hk1)
      have hup : K.Up l1 := hd1.up (K.fsN_up HU.out)
      have hmo : ∀ k, m.own k → c1 k ≠ none := fun k hk => hfm.own_col hk
      have hne := hd1.ne hm
      have HST := hid hst
      have HF1 := hid f1
      have HRG := hid hrg1
      have HDD := hid hd1
      have HMO := hid hmo
      have HNE := hid hne
      have HUP := hid hup
      have HBD := hid hbd
      obtain ⟨tN, htN⟩ : ∃ t, K.totN (nl left) (fun f => (K.tear keep f).len) d.fs = t := ⟨_, rfl⟩
      obtain ⟨tL, htL⟩ : ∃ t, (K.tear keep m.f).len = t := ⟨_, rfl⟩
      simp only [htL] at hut
      rw [htN] at hut HDD
      have hb64 : (tN : Int) + (tL : Int) ≤ 9223372036854775807 := by
        have : K.cap = 200000000000000 := rfl
        omega
      have hwr : IntKind.i64.wrap ((tN : Int) + (tL : Int)) = (tN : Int) + (tL : Int) := by rw [IntKind.wrap_i64]; omega
      have HUT := hid hut
      have HTL := hid htL
      clear hst f1 hbd hrg1 hmf hd1 hfm hmo hne hup hut hle2 hle3 huc htN htL
      go_wp2_with (first
        | (go_at_call 79; refine KS.out.mono ?_; rintro e w2 ⟨⟨v2, rfl⟩, c2, m2, hfs, hm2⟩; have HFS := hid hfs; have HM2 := hid hm2; clear hfs hm2))
      have hd2 := HDD.out.step HUP.out hm HFS.out.g HFS.out.fr HFS.out.le HFS.out.fl HFS.out.lt
      rw [HM2.out, HST.out] at hd2
      have hbd2 : m2.sf.length + m2.tl.length ≤ K.cap := by
        have h1 := K.len_tear keep m.f
        rw [← HM2.out] at h1
        have h2 := HBD.out
        simp only [K.F.len, FM.f] at h1
        omega
      have hl2 : m2.f.len = tL := by rw [HM2.out, HTL.out]
      have hkk := hd2.ku
      have hqq := frozen_of_row (j := 1) hd2.at_
      have hgm : m.g = m2.g := HFS.out.g.symm
      have KZ0 : ∀ W, Fr (fun _ => False) w2 W → Calls Tryz.prog 80 #[.pointer (some ⟨m.g, 0, none⟩)] W fun e w' => e = .returned (.int .i64 (tL : Int)) ∧ Fr (fun _ => False) w2 w' := fun W hW => by
        rw [hgm, ← hl2]
        refine (fsize_any c2 W m2 (HFS.out.fl.kept hW (fun _ _ h => h)) hbd2).mono ?_
        rintro e w' ⟨rfl, n, rfl⟩
        exact ⟨rfl, hW.trans (Fr.drewN _ _) (fun _ _ h => h)⟩
      have KZ := hid KZ0
      have KU := hid (fun W (hW : Fr (fun _ => False) w2 W) => cell_fr hW (fun h => h) hkk)
      have KQ := hid (fun W (hW : Fr (fun _ => False) w2 W) => frozen_of_row (j := 1) (hW.cells hd2.at_ (fun h => h)))
      have HDT := hid hd2
      clear hd2 hqq KZ0 hgm hl2 hbd2
      have fin : ∀ w3, Fr (fun _ => False) w2 w3 → ∃ left' cnt' c' l', (w3.setCell ⟨p, 1, none⟩ (.int .i64 ((tN : Int) + (tL : Int)))).ranges Tryz.prog 9 fileElem mb w.heap.size (K.mp FM.g l).length (K.toD (K.mp FM.g l)) left' cnt' ∧ Du c' (w3.setCell ⟨p, 1, none⟩ (.int .i64 ((tN : Int) + (tL : Int)))) p mb l' { d with fs := K.fsN (K.tear keep) (nl left') d.fs } (K.totN (nl left') (fun f => (K.tear keep f).len) d.fs : Nat) ∧ K.mp FM.g l' = K.mp FM.g l ∧ c' w.heap.size = none ∧ w.heap.size < (w3.setCell ⟨p, 1, none⟩ (.int .i64 ((tN : Int) + (tL : Int)))).heap.size ∧ Fr (fun k => c k ≠ none) w (w3.setCell ⟨p, 1, none⟩ (.int .i64 ((tN : Int) + (tL : Int)))) ∧ (∀ k, c' k ≠ none → c k ≠ none ∨ w.heap.size ≤ k) := fun w3 hf3 => by
        have hpc1 : c1 p ≠ none := by rw [HDD.out.cp]; simp
        have hrk : w2.ranges Tryz.prog 9 fileElem mb w.heap.size (K.mp FM.g l).length (K.toD (K.mp FM.g l)) (fun z => left z && !z.sameKey (.string x)) cnt1 := ranges_kept HRG.out HFS.out.fr HNE.out.2 (fun e => HMO.out _ e hcr)
        have fs3 : Fr (fun k => k = p) w2 (w3.setCell ⟨p, 1, none⟩ (.int .i64 ((tN : Int) + (tL : Int)))) := Fr.setCell (p := ⟨p, 1, none⟩) (S := fun k => k = p) (hf3.mono (fun _ _ h => h.elim)) (fun _ => rfl) _
        have hf2 : Fr (fun k => c k ≠ none) w w2 := (HFR.out.trans HF1.out (fun i hi e => by omega)).trans HFS.out.fr (fun i hi e => (HN.out i (HMO.out i e)).resolve_right (by omega))
        refine ⟨_, cnt1, c2, K.upd x m2 l1, ranges_kept hrk fs3 HPM.out (fun e => hpc1 (e ▸ hcr)), ?_, ?_, HFS.out.col w.heap.size hcr (by omega), ?_, hf2.trans fs3 (fun i _ e => e ▸ HCP.out), fun k hk => ?_⟩
        rotate_left 1
        · show K.mp FM.g (K.upd x m2 l1) = K.mp FM.g l
          rw [K.mp_upd, HFS.out.g, K.upd_same (HUP.out.mp _) (K.mem_mp.2 ⟨_, hm, rfl⟩), HG.out]
        · have h1 := fs3.size
          have h2 := HFS.out.fr.size
          omega
        · rcases HFS.out.nw k hk with h1 | h1
          · exact HN.out k h1
          · exact .inr (by omega)
        · refine ((HDT.out.kept hf3 (fun _ _ h => h)).own (Fr.setCell (p := ⟨p, 1, none⟩) (S := fun k => k = p) (Fr.refl _ _) (fun _ => rfl) _) ?_ rfl)
          rw [setCell_row (hf3.cells HDT.out.at_ (fun h => h)), nl_step, HUT.out]
          rfl
      have hmeas : ∀ w3, Fr (fun _ => False) w2 w3 → (w3.setCell ⟨p, 1, none⟩ (.int .i64 ((tN : Int) + (tL : Int)))).rangeLeft mb w.heap.size < wr.rangeLeft mb w.heap.size := fun w3 hf3 => by
        have hpc1 : c1 p ≠ none := by rw [HDD.out.cp]; simp
        have hrk : w2.ranges Tryz.prog 9 fileElem mb w.heap.size (K.mp FM.g l).length (K.toD (K.mp FM.g l)) (fun z => left z && !z.sameKey (.string x)) cnt1 := ranges_kept HRG.out HFS.out.fr HNE.out.2 (fun e => HMO.out _ e hcr)
        have fs3 : Fr (fun k => k = p) w2 (w3.setCell ⟨p, 1, none⟩ (.int .i64 ((tN : Int) + (tL : Int)))) := Fr.setCell (p := ⟨p, 1, none⟩) (S := fun k => k = p) (hf3.mono (fun _ _ h => h.elim)) (fun _ => rfl) _
        rw [World.ranges.left_eq (ranges_kept hrk fs3 HPM.out (fun e => hpc1 (e ▸ hcr))), World.ranges.left_eq HR.out]
        exact hlt1
      have FIN := hid fin
      have MEA := hid hmeas
      clear fin hmeas
      go_region_with (first
          | (go_at_call 80; refine (KZ.out _ (by first | exact Fr.refl _ _ | exact Fr.drew (Fr.refl _ _) | exact Fr.drewN _ _)).mono ?_; rintro e w3 ⟨rfl, hf3⟩; have s1 := KU.out _ hf3; have s2 := KQ.out _ hf3; have F3 := hid hf3; clear hf3))
      all_goals (go_roundw; (case rel => (repeat apply Exists.intro); exact ⟨FIN.out w3 F3.out, rfl⟩); (case measure => exact MEA.out w3 F3.out))

end Go.Proofs.YtogdjhhabcejgaaGreat

/-
  The contracts of a disk: isMade, Used, fall.
-/
import Derived.Test.YtcdilhbcfgccmaaKRange
import Derived.WalkSpells
namespace Go.Proofs.Ytcdilhbcfgccmaa
open Go.RowKit Go.Maps
set_option linter.unusedVariables false

theorem made_any (w : World) (p mb : Nat) (c1 : w.cell? ⟨p, 1, none⟩ = some (.map (some mb))) :
    Calls Try.prog 42 #[.pointer (some ⟨p, 0, none⟩)] w fun e w' => e = .returned (.bool true) ∧ w = w' := by
  have q : (binOp .neq 56 (.map (some mb)) (.map none)).run Try.prog w = .ok (.bool true) w := run_neq_map_nil w _ _ _ (some mb) Try.underlying56
  go_enter Try.func42, Try.ntmps42
  go_wp2
  go_ret
  exact ⟨rfl, rfl⟩

/-- what is left of the names -/
def nl (left : Lit → Bool) : K.Nm → Bool := fun z => left (.string z)
theorem nl_step (left : Lit → Bool) (x : K.Nm) : nl (fun z => left z && !z.sameKey (.string x)) = fun z => nl left z && !(z == x) := rfl
theorem nl_start {l : List (K.Nm × Nat)} : nl (Maps.has (K.toD l)) = fun z => (K.get z l).isSome := by
  funext z
  exact K.toD_has z l

set_option maxHeartbeats 1600000 in
theorem used_any (c : Cl) (w : World) (p mb : Nat) (l : List (K.Nm × FM)) (d : K.DK) (h : Dm c w p mb l d) (ho : K.Ok d) :
    Calls Try.prog 14 #[.pointer (some ⟨p, 0, none⟩)] w fun e w' => e = .returned (.int .i64 (d.used : Nat)) ∧ Fr (fun _ => False) w w' := by
  have k1 := h.k.2.1
  have hmb := h.mp.lt
  have HD := hid h
  have HO := hid ho
  clear h ho
  go_enter Try.func14, Try.ntmps14
  go_wp2_with (first
    | (go_at_call 42; refine (made_any _ p mb k1).mono ?_; rintro e w' ⟨rfl, rfl⟩)
    | (at_range; refine wpList_range_own _ rfl _ 56 rfl 9 72 keyed Try.underlying56 fileElem mb _ _ rfl HD.out.mp ?_; intro w0 hrg0 hg0 hs0))
  go_frame
  go_loopw [3] (fun t wr => ∃ left cnt, t = .int .i64 (K.totN (nl left) K.F.len d.fs : Nat) ∧ wr.ranges Try.prog 9 fileElem mb w.heap.size (K.mp FM.g l).length (K.toD (K.mp FM.g l)) left cnt ∧ Fr (fun _ => False) w wr)
    (fun _ wr => wr.rangeLeft mb w.heap.size)
  case atStart =>
    refine ⟨_, _, ?_, hrg0, ⟨hg0.os, hg0.tape, hg0.output, hg0.size, fun k hk _ => hg0.block k hk (by simp)⟩⟩
    rw [nl_start, K.totN_start (fun q hq => ?_)]
    · rfl
    · rw [← HD.out.fs] at hq
      obtain ⟨r, hr, rfl⟩ := K.mem_mp.1 hq
      have := K.get_of_mem ((HD.out.up HO.out.up).mp FM.g) (K.mem_mp.2 ⟨r, hr, rfl⟩)
      simp [this]
  case round =>
    obtain ⟨left, cnt, rfl, hrg, hfr⟩ := hrel
    have HR := hid hrg
    have HFR := hid hfr
    have hle := K.totN_le (nl left) K.F.len d.fs
    have hur := HO.out.ur
    have hr1 := HO.out.r1
    unfold K.DK.used at hur
    clear hrg hfr
    go_wp2_with (first
      | (at_next; refine wpList_next_file _ rfl _ rfl mb w.heap.size _ _ left cnt rfl HR.out ?_ ?_))
    · intro _ hl0
      have hend : K.totN (nl left) K.F.len d.fs = d.used := K.totN_end (fun q _ => hl0 _)
      go_wp2
      go_ret
      exact ⟨ret_int (by rw [hend]), HFR.out⟩
    · intro x g w1 cnt1 hlx hgx hrg1 hlt1 hg1 hs1 hen
      obtain ⟨m, hm, rfl, hmf⟩ := HD.out.file hgx
      have hst := K.totN_step (L := nl left) K.F.len HO.out.up hmf hlx
      have hle2 := K.totN_le (fun z => nl left z && !(z == x)) K.F.len d.fs
      have f1 : Fr (fun _ => False) w w1 := HFR.out.trans (Fr.of_grown hg1) (fun i hi e => by simp at e; omega)
      have hbd : m.sf.length + m.tl.length ≤ K.cap := by
        have := K.tot_mem K.F.len hmf
        have := HO.out.uc
        unfold K.DK.used at this
        simp only [K.F.len, FM.f] at *
        omega
      have KS := hid (fsize_any c w1 m ((HD.out.fl _ hm).kept f1 (fun _ _ h => h)) hbd)
      have HST := hid hst
      have HF1 := hid f1
      have HRG := hid hrg1
      have hfl : m.f.len + K.totN (nl left) K.F.len d.fs ≤ 9223372036854775807 := by omega
      obtain ⟨fl, hfl'⟩ : ∃ fl, m.f.len = fl := ⟨_, rfl⟩
      rw [hfl'] at KS HST hfl
      clear hst hle2 f1 hbd hrg1 hmf hfl'
      go_wp2_with (first
        | (go_at_call 43; refine KS.out.mono ?_; rintro e w2 ⟨rfl, n2, rfl⟩))
      go_roundw
      case rel => exact ⟨_, cnt1, by rw [nl_step, HST.out]; first | go_num | rfl, ranges_kept HRG.out (Fr.drewN (S := fun _ => False) _ _) (fun h => h) (fun h => h), HF1.out.trans (Fr.drewN _ _) (fun _ _ h => h)⟩
      case measure => rw [World.ranges.left_eq (ranges_kept HRG.out (Fr.drewN (S := fun _ => False) _ _) (fun h => h) (fun h => h)), World.ranges.left_eq HR.out]; exact hlt1

/-- THE DISK HAS TURNED, AND IT ALONE: it is d' now. -/
def Tn (c : Cl) (w : World) (p mb : Nat) (d' : K.DK) (w' : World) : Prop := ∃ c' l', Dm c' w' p mb l' d' ∧ Fr (fun k => c k ≠ none) w w' ∧ (∀ k, c' k ≠ none → c k ≠ none ∨ w.heap.size ≤ k)

set_option maxHeartbeats 3200000 in
theorem fall_any (c : Cl) (w : World) (p mb : Nat) (l : List (K.Nm × FM)) (d : K.DK) (h : Dm c w p mb l d) (ho : K.Ok d) (keep : Int) (hk0 : 0 ≤ keep) (hk1 : keep ≤ 9223372036854775807) :
    Calls Try.prog 46 #[.pointer (some ⟨p, 0, none⟩), .int .i64 keep] w fun e w' => (∃ v, e = .returned v) ∧ Tn c w p mb (K.fall keep d) w' := by
  have k1 := h.k.2.1
  have hmb := h.mp.lt
  have HD := hid h
  have HO := hid ho
  have hu : K.Up d.fs := ho.up
  have HU := hid hu
  clear h ho hu
  go_enter Try.func46, Try.ntmps46
  go_wp2_with (first
    | (at_range; refine wpList_range_own _ rfl _ 56 rfl 9 72 keyed Try.underlying56 fileElem mb _ _ rfl HD.out.mp ?_; intro w0 hrg0 hg0 hs0))
  go_frame
  go_loopw [5] (fun _ wr => ∃ left cnt c1 l1, wr.ranges Try.prog 9 fileElem mb w.heap.size (K.mp FM.g l).length (K.toD (K.mp FM.g l)) left cnt ∧ Dm c1 wr p mb l1 { d with fs := K.fsN (K.tear keep) (nl left) d.fs } ∧ K.mp FM.g l1 = K.mp FM.g l ∧ c1 w.heap.size = none ∧ w.heap.size < wr.heap.size ∧ Fr (fun k => c k ≠ none) w wr ∧ (∀ k, c1 k ≠ none → c k ≠ none ∨ w.heap.size ≤ k))
    (fun _ wr => wr.rangeLeft mb w.heap.size)
  case atStart =>
    have f0 : Fr (fun _ => False) w w0 := ⟨hg0.os, hg0.tape, hg0.output, hg0.size, fun k hk _ => hg0.block k hk (by simp)⟩
    refine ⟨_, _, c, l, hrg0, ?_, rfl, ?_, by omega, f0.mono (fun _ _ h => h.elim), fun k hk => .inl hk⟩
    · have e : K.fsN (K.tear keep) (nl (Maps.has (K.toD (K.mp FM.g l)))) d.fs = d.fs := by
        rw [nl_start, K.fsN_start (fun q hq => ?_)]
        rw [← HD.out.fs] at hq
        obtain ⟨r, hr, rfl⟩ := K.mem_mp.1 hq
        have := K.get_of_mem ((HD.out.up HO.out.up).mp FM.g) (K.mem_mp.2 ⟨r, hr, rfl⟩)
        simp [this]
      rw [e]
      exact HD.out.kept f0 (fun _ _ h => h)
    · cases e : c w.heap.size with
      | none => rfl
      | some t => exact absurd (HD.out.lt _ (by rw [e]; simp)) (Nat.lt_irrefl _)
  case round =>
    obtain ⟨left, cnt, c1, l1, hrg, hdm, hgs, hcr, hsz, hfr, hnw⟩ := hrel
    have HR := hid hrg
    have HFR := hid hfr
    have HD1 := hid hdm
    have HN := hid hnw
    have HG := hid hgs
    clear hrg hfr hdm hnw hgs
    go_wp2_with (first
      | (at_next; refine wpList_next_file _ rfl _ rfl mb w.heap.size _ _ left cnt rfl HR.out ?_ ?_))
    · intro _ hl0
      have kk := HD1.out.k
      have q2 := frozen_of_row (j := 2) HD1.out.at_
      have q3 := frozen_of_row (j := 3) HD1.out.at_
      have q4 := frozen_of_row (j := 4) HD1.out.at_
      obtain ⟨kk0, kk1, kk2, kk3, kk4⟩ := kk
      simp only at kk2 kk3 kk4
      go_wp2
      go_end0
      refine ⟨⟨_, rfl⟩, c1, l1, ?_, ?_, HN.out⟩
      · have hfs : K.fsN (K.tear keep) (nl left) d.fs = K.mp (K.tear keep) d.fs := K.fsN_end (fun q _ => hl0 _)
        refine HD1.out.own (d' := K.fall keep d) (Fr.setCell (p := ⟨p, 4, none⟩) (S := fun k => k = p) (Fr.setCell (p := ⟨p, 3, none⟩) (S := fun k => k = p) (Fr.setCell (p := ⟨p, 2, none⟩) (S := fun k => k = p) (Fr.refl _ _) (fun _ => rfl) _) (fun _ => rfl) _) (fun _ => rfl) _) ?_ hfs.symm
        rw [setCell_row (setCell_row (setCell_row HD1.out.at_ _) _) _]
        rfl
      · have hcp : c p ≠ none := by rw [HD.out.cp]; simp
        exact Fr.setCell (p := ⟨p, 4, none⟩) (Fr.setCell (p := ⟨p, 3, none⟩) (Fr.setCell (p := ⟨p, 2, none⟩) HFR.out (fun _ => hcp) _) (fun _ => hcp) _) (fun _ => hcp) _
    · intro x g w1 cnt1 hlx hgx hrg1 hlt1 hg1 hs1 hen
      rw [← HG.out] at hgx
      obtain ⟨m, hm, rfl, hmf⟩ := HD1.out.file hgx
      have hmf := K.fsN_mem hmf hlx
      have hst := K.fsN_step (K.tear keep) (L := nl left) HU.out hmf hlx
      have f1 : Fr (fun k => k = w.heap.size) wr w1 := (Fr.of_grown hg1).mono (fun i _ e => by simp at e; exact e.symm)
      have hd1 := HD1.out.kept f1 (fun k hk e => hk (e ▸ hcr))
      have hbd : m.sf.length + m.tl.length ≤ K.cap := by
        have := K.tot_mem K.F.len hmf
        have := HO.out.uc
        unfold K.DK.used at this
        simp only [K.F.len, FM.f] at *
        omega
      have hfm := hd1.fl _ hm
      have KS := hid (ftear_any c1 w1 m hfm hd1.lt hbd keep hk0 hk1)
      have hup : K.Up l1 := hd1.up (K.fsN_up HU.out)
      have hmo : ∀ k, m.own k → c1 k ≠ none := fun k hk => hfm.own_col hk
      have hne := hd1.ne hm
      have HST := hid hst
      have HF1 := hid f1
      have HRG := hid hrg1
      have HDD := hid hd1
      have HMO := hid hmo
      have HNE := hid hne
      have HUP := hid hup
      clear hst f1 hbd hrg1 hmf hd1 hfm hmo hne hup
      go_wp2_with (first
        | (go_at_call 63; refine KS.out.mono ?_; rintro e w2 ⟨⟨v2, rfl⟩, c2, m2, hfs, hm2⟩; have HFS := hid hfs; have HM2 := hid hm2; clear hfs hm2))
      have hrk : w2.ranges Try.prog 9 fileElem mb w.heap.size (K.mp FM.g l).length (K.toD (K.mp FM.g l)) (fun z => left z && !z.sameKey (.string x)) cnt1 := ranges_kept HRG.out HFS.out.fr HNE.out.2 (fun e => HMO.out _ e hcr)
      have hd2 := HDD.out.step HUP.out hm HFS.out.g HFS.out.fr HFS.out.le HFS.out.fl HFS.out.lt
      rw [HM2.out, HST.out] at hd2
      have hgg : K.mp FM.g (K.upd x m2 l1) = K.mp FM.g l := by
        rw [K.mp_upd, HFS.out.g, K.upd_same (HUP.out.mp _) (K.mem_mp.2 ⟨_, hm, rfl⟩), HG.out]
      have hf2 : Fr (fun k => c k ≠ none) w w2 := (HFR.out.trans HF1.out (fun i hi e => by omega)).trans HFS.out.fr (fun i hi e => (HN.out i (HMO.out i e)).resolve_right (by omega))
      have hc2 := HFS.out.col w.heap.size hcr (by omega)
      have hs2 := HFS.out.fr.size
      have hn2 : ∀ k, c2 k ≠ none → c k ≠ none ∨ w.heap.size ≤ k := fun k hk => by
        rcases HFS.out.nw k hk with h1 | h1
        · exact HN.out k h1
        · exact .inr (by omega)
      go_roundw
      case rel => exact ⟨_, cnt1, c2, _, hrk, hd2, hgg, hc2, by omega, hf2, hn2⟩
      case measure => rw [World.ranges.left_eq hrk, World.ranges.left_eq HR.out]; exact hlt1

end Go.Proofs.Ytcdilhbcfgccmaa

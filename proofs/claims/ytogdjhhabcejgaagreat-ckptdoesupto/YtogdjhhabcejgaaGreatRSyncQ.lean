/-
  The document's disk: Sync.
-/
import Derived.Test.YtogdjhhabcejgaaGreatRCrashQ
namespace Go.Proofs.YtogdjhhabcejgaaGreat
open Go.RowKit Go.Maps
set_option linter.unusedVariables false

set_option maxHeartbeats 1600000 in
theorem rblows_m {w : World} {p : Nat} {fa : Option Addr} {fc : Nat} {l : List RM} {kp : Int} {d : K.DK} (hm : Rm w p fa fc l kp d) (ho : K.Ok d) :
    Calls Tryz.prog 49 #[.pointer (some ⟨p, 0, none⟩)] w fun e w' => e = .returned (.bool (K.blow d).1) ∧ Rm w' p fa fc l kp (K.blow d).2 ∧ Fr (fun k => k = p) w w' := by
  have hl0 := ho.l0
  have hl1 := ho.l1
  obtain ⟨_, _, c2, _, _⟩ := hm.c
  have z2 := frozen_of_row (j := 2) hm.at_
  by_cases e0 : d.left = 0
  · have e : K.blow d = (false, d) := by unfold K.blow; rw [if_pos e0]
    rw [e]
    rw [e0] at c2
    have HM := hid hm
    clear ho hm e hl0 hl1 e0
    go_enter Tryz.func49, Tryz.ntmps49
    go_wp2
    go_ret
    exact ⟨rfl, HM.out, Fr.refl _ _⟩
  · have e : K.blow d = (decide (d.left = 1), { d with left := d.left - 1 }) := by unfold K.blow; rw [if_neg e0]
    rw [e]
    have hf : Fr (fun k => k = p) w (w.setCell ⟨p, 2, none⟩ (.int .i64 (d.left - 1))) := Fr.setCell (p := ⟨p, 2, none⟩) (S := fun k => k = p) (Fr.refl _ _) (fun _ => rfl) _
    have HT := hid (And.intro (hm.own (d' := { d with left := d.left - 1 }) hf (by rw [setCell_row hm.at_]; rfl) hm.kp0 hm.kp1 (fun _ => hm.kpe e0) rfl) hf)
    obtain ⟨lf, hlf⟩ : ∃ lf, d.left = lf := ⟨_, rfl⟩
    rw [hlf] at c2 hl0 hl1 e0
    have hb0 : (lf == 0) = false := by simpa using e0
    rw [hlf] at HT ⊢
    clear ho hm e hf hlf
    by_cases e1 : lf = 1
    · subst e1
      go_enter Tryz.func49, Tryz.ntmps49
      go_wp2
      go_ret
      exact ⟨rfl, HT.out⟩
    · have hb1 : (lf - 1 == 0) = false := by simp; omega
      go_enter Tryz.func49, Tryz.ntmps49
      go_wp2
      go_ret
      exact ⟨ret_bool (by simp [e1]), HT.out⟩
namespace K
/-- a change: the fuse, and the crash in its midst -/
theorem burn_blow (d : DK) (h : Ok d) : ((blow d).1 = false ∧ burn d = (0, (blow d).2)) ∨ ((blow d).1 = true ∧ d.left ≠ 0 ∧ burn d = (7, fall d.keep d) ∧ ∀ k, fall k (blow d).2 = fall k d) := by
  have := h.l0
  unfold blow burn
  by_cases h0 : d.left = 0
  · rw [if_pos h0, if_pos h0]; exact .inl ⟨rfl, rfl⟩
  · rw [if_neg h0, if_neg h0]
    by_cases h1 : 1 < d.left
    · rw [if_pos h1]; exact .inl ⟨by simp; omega, rfl⟩
    · rw [if_neg h1]; exact .inr ⟨by simp; omega, h0, rfl, fun k => rfl⟩
theorem blow_fs (d : DK) : (blow d).2.fs = d.fs ∧ (blow d).2.down = d.down ∧ (blow d).2.room = d.room := by
  unfold blow
  split <;> exact ⟨rfl, rfl, rfl⟩
end K
/-- one file is another one -/
theorem Rm.setFile {w w' : World} {p g fc : Nat} {l : List RM} {kp : Int} {d : K.DK} (h : Rm w p (some ⟨g, 0, none⟩) fc l kp d) {i : Nat} {m' : RM} (hr : Rw w' (some ⟨g, 0, none⟩) fc (l.set i m')) (hf : Fr (fun k => k = g) w w') (hb : Sl w' m'.a m'.b.length m'.b ∧ m'.sy ≤ m'.b.length ∧ m'.b.length ≤ m'.c) (hx : 0 < m'.b.length → ∀ k, blk m'.a = some k → k ≠ p ∧ k ≠ g) :
    Rm w' p (some ⟨g, 0, none⟩) fc (l.set i m') kp { d with fs := d.fs.set i m'.kf } := by
  have hpg : p ≠ g := fun e => h.rp (by simp [blk, e])
  refine ⟨by rw [List.length_set]; exact hf.cells h.at_ hpg, h.kp0, h.kp1, h.kpe, hr, h.rp, fun m hm => ?_, fun m hm hz k hk => ?_, by rw [List.map_set, h.fs]⟩
  · rcases List.mem_or_eq_of_mem_set hm with hm | rfl
    · have := h.by_ m hm
      exact ⟨this.1.kept hf (fun hz k hk e => (h.bx m hm hz k hk).2 (by simp [blk, e])), this.2⟩
    · exact hb
  · rcases List.mem_or_eq_of_mem_set hm with hm | rfl
    · exact h.bx m hm hz k hk
    · have := hx hz k hk
      exact ⟨this.1, by simp [blk]; exact fun e => this.2 e.symm⟩

/-- the world of a document's disk, with what lies where -/
structure Rx (S : Nat → Prop) (w : World) (p : Nat) (fa : Option Addr) (fc : Nat) (l : List RM) (kp : Int) (d : K.DK) : Prop where
  lt : ∀ k, S k → k < w.heap.size
  ok : K.Ok d
  rm : Rm w p fa fc l kp d
  sp : S p
  sr : ∀ k, blk fa = some k → S k
  sb : ∀ m ∈ l, 0 < m.b.length → ∀ k, blk m.a = some k → S k
theorem Rx.rk {S : Nat → Prop} {w : World} {p : Nat} {fa : Option Addr} {fc : Nat} {l : List RM} {kp : Int} {d : K.DK} (h : Rx S w p fa fc l kp d) : Rk S w p d := ⟨h.lt, h.ok, fa, fc, l, kp, h.rm, h.sp, h.sr, h.sb⟩
theorem Rk.rx {S : Nat → Prop} {w : World} {p : Nat} {d : K.DK} (h : Rk S w p d) : ∃ fa fc l kp, Rx S w p fa fc l kp d := by
  obtain ⟨h1, ho, fa, fc, l, kp, hm, h4, h5, h6⟩ := h
  exact ⟨fa, fc, l, kp, h1, ho, hm, h4, h5, h6⟩
theorem Rx.kept {S : Nat → Prop} {w w' : World} {p : Nat} {fa : Option Addr} {fc : Nat} {l : List RM} {kp : Int} {d : K.DK} (h : Rx S w p fa fc l kp d) (hf : Fr (fun _ => False) w w') : Rx S w' p fa fc l kp d :=
  ⟨fun k hk => Nat.lt_of_lt_of_le (h.lt k hk) hf.size, h.ok, h.rm.kept hf (fun h => h) (fun _ _ h => h) (fun _ _ _ _ _ h => h), h.sp, h.sr, h.sb⟩
theorem Rx.rt {S : Nat → Prop} {w w' : World} {p : Nat} {fa : Option Addr} {fc : Nat} {l : List RM} {kp : Int} {d : K.DK} (h : Rx S w' p fa fc l kp d) (h1 : ∀ k, S k → k < w.heap.size) (hf : Fr S w w') : Rt S w p d w' := ⟨h.rk.mono (Nx.of h1 hf.size) Nx.lt, hf⟩
theorem Rt.preS {S : Nat → Prop} {w w1 w' : World} {p : Nat} {d : K.DK} (hf : Fr S w w1) (h : Rt S w1 p d w') : Rt S w p d w' :=
  ⟨h.1.mono (fun k hk => ⟨hk.1.imp id (Nat.le_trans hf.size), hk.2⟩) Nx.lt, hf.trans h.2 (fun _ _ h => h)⟩
theorem Rx.set {S : Nat → Prop} {w w' : World} {p g fc : Nat} {l : List RM} {kp : Int} {d : K.DK} (h : Rx S w p (some ⟨g, 0, none⟩) fc l kp d) {i : Nat} {m' : RM} (hr : Rw w' (some ⟨g, 0, none⟩) fc (l.set i m')) (hf : Fr (fun k => k = g) w w') (hb : Sl w' m'.a m'.b.length m'.b ∧ m'.sy ≤ m'.b.length ∧ m'.b.length ≤ m'.c) (hx : 0 < m'.b.length → ∀ k, blk m'.a = some k → k ≠ p ∧ k ≠ g ∧ S k) (ho : K.Ok { d with fs := d.fs.set i m'.kf }) :
    Rx S w' p (some ⟨g, 0, none⟩) fc (l.set i m') kp { d with fs := d.fs.set i m'.kf } :=
  ⟨fun k hk => Nat.lt_of_lt_of_le (h.lt k hk) hf.size, ho, h.rm.setFile hr hf hb (fun hz k hk => ⟨(hx hz k hk).1, (hx hz k hk).2.1⟩), h.sp, h.sr, fun m hm hz k hk => by
    rcases List.mem_or_eq_of_mem_set hm with hm | rfl
    · exact h.sb m hm hz k hk
    · exact (hx hz k hk).2.2⟩
/-- what a change's fuse does: nothing, or the disk crashes in its midst -/
theorem rblows_x {S : Nat → Prop} {w : World} {p : Nat} {fa : Option Addr} {fc : Nat} {l : List RM} {kp : Int} {d : K.DK} (h : Rx S w p fa fc l kp d) :
    Calls Tryz.prog 49 #[.pointer (some ⟨p, 0, none⟩)] w fun e w' => e = .returned (.bool (K.blow d).1) ∧ Rx S w' p fa fc l kp (K.blow d).2 ∧ Fr (fun k => k = p) w w' :=
  (rblows_m h.rm h.ok).mono fun e w' ⟨h1, h2, h3⟩ => ⟨h1, ⟨fun k hk => Nat.lt_of_lt_of_le (h.lt k hk) h3.size, K.ok_blow h.ok, h2, h.sp, h.sr, h.sb⟩, h3⟩
set_option maxHeartbeats 1600000 in
theorem rsync_any {S : Nat → Prop} {w : World} {p : Nat} {d : K.DK} (h : Rk S w p d) (s : ByteArray) (hz : s.size ≤ maxLen) :
    Calls Tryz.prog 39 #[.pointer (some ⟨p, 0, none⟩), .string s] w fun e w' => e = .returned (.int .i64 (K.syn d s.data.toList).1) ∧ Rt S w p (K.syn d s.data.toList).2 w' := by
  have HT := hid (fun W b bc hf hb => rthere1 h s hz W b bc hf hb)
  have HK := hid h
  have HOK := hid (K.ok_syn h.2.1 s.data.toList)
  obtain ⟨fa, fc, l, kp, hx⟩ := h.rx
  clear h
  generalize s.data.toList = n at HT HOK ⊢
  by_cases h0 : K.fnd d n = 0
  · obtain ⟨f, hg⟩ := fnd_some h0
    have hdn := K.fnd_down h0
    obtain ⟨hlt, m, g, hlm, hmem, hnm, hmf, rfl, q0, q1, q2⟩ := hx.rm.file hx.ok.up hg
    have hby := hx.rm.by_ m hmem
    have hfiles := hx.ok.files
    rw [← hx.rm.len] at hfiles
    obtain ⟨ps, hps⟩ : ∃ ps, K.pos d.fs n = ps := ⟨_, rfl⟩
    rw [h0] at HT
    have HT2 : Hid (∀ (W : World) (b bc : Nat), Fr (fun _ => False) w W → W.cell? ⟨b, 0, none⟩ = some (.string s) → Calls Tryz.prog 74 #[.pointer (some ⟨p, 0, none⟩), .slice (some ⟨b, 0, none⟩) 1 bc] W fun e w' => e = .returned (.tuple #[.int .i64 (ps : Nat), .int .i64 0]) ∧ Fr (fun _ => False) W w') := hid (fun W b bc hf hb => by
      have := HT.out W b bc hf hb
      rw [rth_ok rfl, hps] at this
      exact this)
    rw [hps] at hlt hlm
    obtain ⟨ln, hln⟩ : ∃ ln, l.length = ln := ⟨_, rfl⟩
    have HLN := hid hln
    rw [hln] at hlt hfiles
    have hi : (ps : Int) < (ln : Int) := by omega
    have HX := hid hx
    have HPS := hid hps
    have HLM := hid hlm
    have HBY := hid hby
    have HMM := hid (And.intro hmem (And.intro hnm hmf))
    have HG := hid hg
    have H0 := hid h0
    have HDN := hid hdn
    clear hx h0 hg hdn hlm hmem hnm hmf q0 q1 q2 hby hps hln HT
    go_enter Tryz.func39, Tryz.ntmps39
    go_wp2_with fail
    refine (HT2.out _ _ _ (Fr.alloc (Fr.refl _ _) _) (by simp)).mono ?_
    rintro e w1 ⟨rfl, hf1⟩
    have f1 : Fr (fun _ => False) w w1 := (Fr.alloc (Fr.refl _ _) _).trans hf1 (fun _ _ h => h)
    have F1 := hid f1
    have KB := hid (rblows_x (HX.out.kept f1))
    clear hf1 f1 HT2
    go_wp2_with fail
    rcases K.burn_blow d HX.out.ok with ⟨b1, b2⟩ | ⟨b1, b2, b3, b4⟩
    · rw [b1] at KB
      have E1 := hid (show K.syn d n = (0, { (K.blow d).2 with fs := K.put n ⟨f.all, []⟩ d.fs }) by unfold K.syn; rw [if_neg (by simp [H0.out]), if_neg (by simp [b2]), HG.out, b2])
      clear b1 b2
      refine KB.out.mono ?_
      rintro e w2 ⟨rfl, hx2, hf2⟩
      obtain ⟨c0, c1, c2, c3, c4⟩ := hx2.rm.c
      rw [HLN.out] at c1
      have hrow := hx2.rm.row
      obtain ⟨g', hga, r0, r1, r2⟩ := hrow.at HLM.out
      simp only [Option.some.injEq, Addr.mk.injEq, and_true] at hga
      subst hga
      have z2 := hrow.frozen (ps * 3 + 2)
      have HX2 := hid hx2
      have F2 := hid hf2
      obtain ⟨bl, hbl⟩ : ∃ bl, m.b.length = bl := ⟨_, rfl⟩
      rw [hbl] at r1
      have HBL := hid hbl
      clear hx2 hf2 hrow KB hbl c0 c2 c3 c4 r0
      go_wp2
      go_region
      go_wp2
      go_ret
      have hf3 : Fr (fun k => k = g) w2 (w2.drew.setCell ⟨g, ps * 3 + 2, none⟩ (.int .i64 (bl : Int))) := Fr.setCell (p := ⟨g, ps * 3 + 2, none⟩) (S := fun k => k = g) (Fr.drew (Fr.refl _ _)) (fun _ => rfl) _
      have hr3 : Rw (w2.drew.setCell ⟨g, ps * 3 + 2, none⟩ (.int .i64 (bl : Int))) (some ⟨g, 0, none⟩) fc (l.set ps { m with sy := m.b.length }) := by
        have h8 : Rw w2.drew (some ⟨g, 0, none⟩) fc l := HX2.out.rm.row.kept (Fr.drew (Fr.refl (fun _ => False) _)) (fun _ _ h => h)
        refine h8.set (by simp) ?_
        have := rcs_set2 (m' := { m with sy := m.b.length }) HLM.out rfl rfl rfl rfl
        rw [← this, HBL.out]
      have hmem := HMM.out.1
      have hb2 := HX2.out.rm.by_ m hmem
      have ekf : ({ m with sy := m.b.length } : RM).kf = (n, ⟨f.all, []⟩) := by
        simp only [RM.kf, RM.f, List.take_length, List.drop_length]
        rw [HMM.out.2.1, ← HMM.out.2.2, m.all]
      have efs : (K.blow d).2.fs.set ps (n, ⟨f.all, []⟩) = K.put n ⟨f.all, []⟩ d.fs := by
        rw [(K.blow_fs d).1, K.put_upd HX.out.ok.up (K.get_mem HG.out), K.upd_at HX.out.ok.up HG.out, HPS.out]
      have hok := HOK.out
      rw [E1.out] at hok ⊢
      have hx3 := HX2.out.set (i := ps) (m' := { m with sy := m.b.length }) hr3 hf3 ⟨hb2.1.kept hf3 (fun hz k hk e => by subst e; exact (HX2.out.rm.bx m hmem hz k hk).2 (by simp [blk])), Nat.le_refl _, hb2.2.2⟩ (fun hz k hk => ⟨(HX2.out.rm.bx m hmem hz k hk).1, fun e => (HX2.out.rm.bx m hmem hz k hk).2 (by simp [blk, e]), HX2.out.sb m hmem hz k hk⟩) (by rw [ekf, efs]; exact hok)
      rw [ekf, efs] at hx3
      exact ⟨rfl, hx3.rt HX.out.lt (((F1.out.mono (fun _ _ h => h.elim)).trans (F2.out.mono (T := S) (fun i _ e => e ▸ HX.out.sp)) (fun _ _ h => h)).trans (hf3.mono (T := S) (fun i _ e => e ▸ HX.out.sr g rfl)) (fun _ _ h => h))⟩
    · rw [b1] at KB
      have E1 := hid (show K.syn d n = (7, K.fall d.keep d) by unfold K.syn; rw [if_neg (by simp [H0.out]), if_pos (by simp [b3]), b3])
      have HKP := hid (HX.out.rm.kpe b2)
      have HB4 := hid b4
      clear b1 b2 b3 b4
      refine KB.out.mono ?_
      rintro e w2 ⟨rfl, hx2, hf2⟩
      obtain ⟨_, _, _, c3, _⟩ := hx2.rm.c
      have KX := rcrash_any hx2.rk kp hx2.rm.kp1
      have eX : K.crash (K.blow d).2 kp = (0, K.fall d.keep d) := by
        unfold K.crash
        rw [if_neg (by have := hx2.rm.kp0; omega), if_neg (by rw [(K.blow_fs d).2.1, HDN.out]; simp), HKP.out, HB4.out]
      rw [eX] at KX
      have HKX := hid KX
      have F2 := hid hf2
      have HSP := hid hx2.sp
      clear hx2 hf2 KX eX KB
      go_wp2_with (first | (go_at_call 22; refine HKX.out.mono ?_; rintro e w3 ⟨rfl, ht3⟩; have HT3 := hid ht3; clear ht3))
      go_ret
      rw [E1.out]
      exact ⟨rfl, Rt.preS ((F1.out.mono (fun _ _ h => h.elim)).trans (F2.out.mono (T := S) (fun i _ e => e ▸ HX.out.sp)) (fun _ _ h => h)) HT3.out⟩
  · have HT2 : Hid (∀ (W : World) (b bc : Nat), Fr (fun _ => False) w W → W.cell? ⟨b, 0, none⟩ = some (.string s) → Calls Tryz.prog 74 #[.pointer (some ⟨p, 0, none⟩), .slice (some ⟨b, 0, none⟩) 1 bc] W fun e w' => e = .returned (.tuple #[.int .i64 0, .int .i64 (K.fnd d n)]) ∧ Fr (fun _ => False) W w') := hid (fun W b bc hf hb => by
      have := HT.out W b bc hf hb
      rw [rth_no h0] at this
      exact this)
    have e : K.syn d n = (K.fnd d n, d) := by unfold K.syn; rw [if_pos h0]
    rw [e]
    obtain ⟨R, hR⟩ : ∃ R, K.fnd d n = R := ⟨_, rfl⟩
    rw [hR] at HT2 h0 ⊢
    have hb0 : (R == 0) = false := by simpa using h0
    clear hx h0 hR HT e HOK
    go_enter Tryz.func39, Tryz.ntmps39
    go_wp2_with fail
    refine (HT2.out _ _ _ (Fr.alloc (Fr.refl _ _) _) (by simp)).mono ?_
    rintro e w1 ⟨rfl, hf1⟩
    have F1 : Hid (Fr (fun _ => False) w w1) := hid ((Fr.alloc (Fr.refl _ _) _).trans hf1 (fun _ _ h => h))
    clear hf1
    go_wp2
    go_ret
    exact ⟨rfl, Rt.refl HK.out F1.out⟩

end Go.Proofs.YtogdjhhabcejgaaGreat

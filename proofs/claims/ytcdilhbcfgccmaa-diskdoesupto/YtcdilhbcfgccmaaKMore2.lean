/-
  The contracts of a disk: Sync, Remove, Rename.
-/
import Derived.Test.YtcdilhbcfgccmaaKMore
namespace Go.Proofs.Ytcdilhbcfgccmaa
open Go.RowKit Go.Maps
set_option linter.unusedVariables false

/-- the same files under other names -/
theorem Dm.remap {c : Cl} {w w' : World} {p mb : Nat} {l l' : List (K.Nm × FM)} {d : K.DK} (h : Dm c w p mb l d) (hf : Fr (fun k => k = mb) w w') (hom : OM w' mb (K.mp FM.g l')) (hm : ∀ q ∈ l', ∃ n, (n, q.2) ∈ l) (hi : ∀ q ∈ l', ∀ r ∈ l', q.2.g = r.2.g → q = r) :
    Dm c w' p mb l' { d with fs := K.mp FM.f l' } := by
  have hpm : p ≠ mb := fun e => by have := h.cm; rw [← e, h.cp] at this; simp at this
  refine ⟨hf.cells h.at_ hpm, h.cp, h.cm, hom, fun q hq => ?_, hi, rfl, fun k hk => Nat.lt_of_lt_of_le (h.lt k hk) hf.size⟩
  obtain ⟨n, hn⟩ := hm q hq
  exact (h.fl _ hn).kept hf (fun k hk e => (h.ne hn).2 (e ▸ hk))
theorem Dm.same {c : Cl} {w : World} {p mb : Nat} {l : List (K.Nm × FM)} {d d' : K.DK} (h : Dm c w p mb l d) (e : d = d') : Dm c w p mb l d' := e ▸ h

set_option maxHeartbeats 1600000 in
theorem sync_any {S : Nat → Prop} {w : World} {p : Nat} {d : K.DK} (h : Dk S w p d) (s : ByteArray) (hz : s.size ≤ maxLen) :
    Calls Try.prog 27 #[.pointer (some ⟨p, 0, none⟩), .string s] w fun e w' => e = .returned (.int .i64 (K.syn d s.data.toList).1) ∧ Td S w p (K.syn d s.data.toList).2 w' := by
  have HK := hid h
  have HOK := hid (K.ok_syn h.2.1 s.data.toList)
  obtain ⟨c, mb, l, hS, ho, hc, hd⟩ := h.tn
  have HFi := hid (find_any c w p mb l d hd s hz)
  have hget := hid (hd.get s.data.toList).1
  generalize s.data.toList = n at HOK HFi hget ⊢
  obtain ⟨R, hR⟩ : ∃ R, K.syn d n = R := ⟨_, rfl⟩
  rw [hR] at HOK ⊢
  have HR := hid hR
  clear hR
  have HD := hid hd
  have HO := hid ho
  have HS := hid hS
  have HC := hid hc
  have HUP := hid (hd.up ho.up)
  clear h hS ho hc hd hz
  go_enter Try.func27, Try.ntmps27
  go_wp2_with fail
  refine HFi.out.mono ?_
  rintro e w1 ⟨hfd | hfd, hf⟩
  · obtain ⟨hne, rfl⟩ := hfd
    have E1 := hid (HR.out.symm.trans (show K.syn d n = (K.fnd d n, d) by unfold K.syn; rw [if_pos hne]))
    have HF := hid hf
    have hb : (K.fnd d n == 0) = false := by simpa using hne
    generalize K.fnd d n = R' at hb E1 ⊢
    clear hne hf
    go_wp2
    go_ret
    rw [E1.out]
    exact ⟨rfl, Td.refl HK.out HF.out⟩
  · obtain ⟨h0, m, hm, rfl⟩ := hfd
    have hgf : K.get n d.fs = some m.f := by rw [hget.out, hm]; rfl
    have hmem := K.get_mem hm
    have hmf : (n, m.f) ∈ d.fs := K.get_mem hgf
    have hd1 := HD.out.kept hf (fun _ _ h => h)
    have HBU := hid (burn_any c w1 p mb l d hd1 HO.out)
    rcases K.burn_cases d with ⟨b0, b1, b2, b3, b4⟩ | ⟨b0, b1⟩
    · have E1 := hid (HR.out.symm.trans (show K.syn d n = (0, { (K.burn d).2 with fs := K.put n ⟨m.f.all, []⟩ d.fs }) by
        unfold K.syn; rw [if_neg (by simp [h0]), if_neg (by simp [b0]), hgf]))
      rw [E1.out] at HOK
      rw [b0] at HBU
      have HF := hid hf
      have hbd := hid (Ok_len HO.out hmf)
      have hB0 := hid b0
      have hB1 := hid b1
      clear hf h0 b0 b1 b2 b3 b4 hd1
      go_wp2_with fail
      refine HBU.out.mono ?_
      rintro e w2 ⟨rfl, hbn⟩
      have hbn' : Dm c w2 p mb l (K.burn d).2 ∧ Fr (fun k => c k ≠ none) w1 w2 := by
        rcases hbn with ⟨_, h1, h2⟩ | ⟨h1, _⟩
        · exact ⟨h1, h2⟩
        · rw [hB0.out] at h1; cases h1
      obtain ⟨hd2, hf2⟩ := hbn'
      have KS := hid (fsync_any c w2 m (hd2.fl _ hmem) hd2.lt hbd.out)
      have HD2 := hid hd2
      have HF2 := hid hf2
      clear hbn hd2 hf2
      go_wp2_with (first | (go_at_call 56; refine KS.out.mono ?_; rintro e w3 ⟨⟨v, rfl⟩, c3, m3, hfs, hm3⟩; have HFS := hid hfs; have HM3 := hid hm3; clear hfs hm3))
      go_ret
      rw [E1.out]
      refine ⟨rfl, Tn.td HS.out HC.out ⟨c3, _, (HD2.out.step HUP.out hmem HFS.out.g HFS.out.fr HFS.out.le HFS.out.fl HFS.out.lt).same ?_, ?_, ?_⟩ HOK.out⟩
      · rw [hB1.out, HM3.out, K.put_upd HO.out.up hmf]; rfl
      · exact ((HF.out.mono (fun _ _ h => h.elim)).trans HF2.out (fun _ _ h => h)).trans HFS.out.fr (fun i _ e => (HD2.out.fl _ hmem).own_col e)
      · intro k hk
        refine (HFS.out.nw k hk).imp id (fun h => ?_)
        have := HF.out.size
        have := HF2.out.size
        omega
    · have E1 := hid (HR.out.symm.trans (show K.syn d n = K.burn d by
        unfold K.syn; rw [if_neg (by simp [h0]), if_pos (by simp [b0])]))
      rw [E1.out] at HOK
      rw [b0] at HBU
      have B0 := hid b0
      have HF := hid hf
      clear hf h0 b0 b1 hd1
      go_wp2_with fail
      refine HBU.out.mono ?_
      rintro e w2 ⟨rfl, hbn⟩
      have HBN := hid hbn
      clear hbn
      go_wp2
      go_ret
      rw [E1.out, B0.out]
      exact ⟨rfl, (HBN.out.tn.pre (HF.out.mono (fun _ _ h => h.elim)) (fun k hk => .inl hk)).td HS.out HC.out HOK.out⟩

set_option maxHeartbeats 1600000 in
set_option maxRecDepth 20000 in
theorem remove_any {S : Nat → Prop} {w : World} {p : Nat} {d : K.DK} (h : Dk S w p d) (s : ByteArray) (hz : s.size ≤ maxLen) :
    Calls Try.prog 28 #[.pointer (some ⟨p, 0, none⟩), .string s] w fun e w' => e = .returned (.int .i64 (K.rem d s.data.toList).1) ∧ Td S w p (K.rem d s.data.toList).2 w' := by
  have HK := hid h
  have HOK := hid (K.ok_rem h.2.1 s.data.toList)
  obtain ⟨c, mb, l, hS, ho, hc, hd⟩ := h.tn
  have HFi := hid (find_any c w p mb l d hd s hz)
  have hget := hid (hd.get s.data.toList).1
  have hkey := hid (WideMaps.keyOf_string_mk (P := Try.prog) Try.underlying9 hz)
  generalize s.data.toList = n at HOK HFi hget hkey ⊢
  obtain ⟨R, hR⟩ : ∃ R, K.rem d n = R := ⟨_, rfl⟩
  rw [hR] at HOK ⊢
  have HR := hid hR
  clear hR
  have HD := hid hd
  have HO := hid ho
  have HS := hid hS
  have HC := hid hc
  clear h hS ho hc hd hz
  go_enter Try.func28, Try.ntmps28
  go_wp2_with fail
  refine HFi.out.mono ?_
  rintro e w1 ⟨hfd | hfd, hf⟩
  · obtain ⟨hne, rfl⟩ := hfd
    have E1 := hid (HR.out.symm.trans (show K.rem d n = (K.fnd d n, d) by unfold K.rem; rw [if_pos hne]))
    have HF := hid hf
    have hb : (K.fnd d n == 0) = false := by simpa using hne
    generalize K.fnd d n = R' at hb E1 ⊢
    clear hne hf
    go_wp2
    go_ret
    rw [E1.out]
    exact ⟨rfl, Td.refl HK.out HF.out⟩
  · obtain ⟨h0, m, hm, rfl⟩ := hfd
    have hd1 := HD.out.kept hf (fun _ _ h => h)
    have HBU := hid (burn_any c w1 p mb l d hd1 HO.out)
    rcases K.burn_cases d with ⟨b0, b1, b2, b3, b4⟩ | ⟨b0, b1⟩
    · have E1 := hid (HR.out.symm.trans (show K.rem d n = (0, { (K.burn d).2 with fs := K.del n d.fs }) by
        unfold K.rem; rw [if_neg (by simp [h0]), if_neg (by simp [b0])]))
      rw [E1.out] at HOK
      rw [b0] at HBU
      have HF := hid hf
      have hB0 := hid b0
      clear hf h0 b0 b1 b2 b3 b4 hd1
      go_wp2_with fail
      refine HBU.out.mono ?_
      rintro e w2 ⟨rfl, hbn⟩
      have hbn' : Dm c w2 p mb l (K.burn d).2 ∧ Fr (fun k => c k ≠ none) w1 w2 := by
        rcases hbn with ⟨_, h1, h2⟩ | ⟨h1, _⟩
        · exact ⟨h1, h2⟩
        · rw [hB0.out] at h1; cases h1
      obtain ⟨hd2, hf2⟩ := hbn'
      have k1 := hd2.k.2.1
      have HD2 := hid hd2
      have HF2 := hid hf2
      clear hbn hd2 hf2
      go_wp2_with (first | (at_delete; refine wpList_delete_own _ rfl _ _ 56 9 rfl 72 keyed Try.underlying56 fileElem mb _ _ rfl HD2.out.mp _ (.string n) rfl hkey.out ?_; intro w3 hown3 hturn3; rw [K.toD_del] at hown3; have HO3 := hid hown3; have HT3 := hid hturn3; clear hown3 hturn3))
      go_ret
      rw [E1.out]
      have fm : Fr (fun k => k = mb) w2 w3 := (Fr.of_grown HT3.out.grown).mono (fun i _ e => by simp at e; exact e.symm)
      refine ⟨rfl, Tn.td HS.out HC.out ⟨c, K.del n l, (HD2.out.remap fm (by rw [K.mp_del]; exact OM.tight HO3.out) (fun q hq => ⟨q.1, (K.mem_del.1 hq).1⟩) (fun q hq r hr e => HD2.out.inj q (K.mem_del.1 hq).1 r (K.mem_del.1 hr).1 e)).same ?_, ?_, fun k hk => .inl hk⟩ HOK.out⟩
      · rw [K.mp_del, HD.out.fs]
      · have hcm : c mb ≠ none := by rw [HD.out.cm]; simp
        exact ((HF.out.mono (fun _ _ h => h.elim)).trans HF2.out (fun _ _ h => h)).trans fm (fun i _ e => e ▸ hcm)
    · have E1 := hid (HR.out.symm.trans (show K.rem d n = K.burn d by
        unfold K.rem; rw [if_neg (by simp [h0]), if_pos (by simp [b0])]))
      rw [E1.out] at HOK
      rw [b0] at HBU
      have B0 := hid b0
      have HF := hid hf
      clear hf h0 b0 b1 hd1
      go_wp2_with fail
      refine HBU.out.mono ?_
      rintro e w2 ⟨rfl, hbn⟩
      have HBN := hid hbn
      clear hbn
      go_wp2
      go_ret
      rw [E1.out, B0.out]
      exact ⟨rfl, (HBN.out.tn.pre (HF.out.mono (fun _ _ h => h.elim)) (fun k hk => .inl hk)).td HS.out HC.out HOK.out⟩

theorem K.rdy_of2 {d : K.DK} {n m : K.Nm} (h : K.rdy2 d n m = 0) : K.rdy d n = 0 := by
  unfold K.rdy2 at h
  unfold K.rdy
  by_cases h1 : d.down = true
  · rw [if_pos h1] at h; cases h
  · rw [if_neg h1] at h ⊢
    by_cases h2 : K.bad n
    · rw [if_pos h2] at h; cases h
    · rw [if_neg h2]
theorem K.fnd_none {d : K.DK} {n : K.Nm} (h : K.rdy d n = 0) (hg : K.fnd d n ≠ 0) : K.fnd d n = 4 ∧ K.get n d.fs = none := by
  unfold K.fnd at hg ⊢
  rw [if_neg (by simp [h])] at hg ⊢
  by_cases h1 : K.get n d.fs = none
  · rw [if_pos h1]; exact ⟨rfl, h1⟩
  · rw [if_neg h1] at hg; exact absurd rfl hg

set_option maxHeartbeats 3200000 in
set_option maxRecDepth 20000 in
theorem rename_any {S : Nat → Prop} {w : World} {p : Nat} {d : K.DK} (h : Dk S w p d) (s t : ByteArray) (hz : s.size ≤ maxLen) (hzt : t.size ≤ maxLen) :
    Calls Try.prog 29 #[.pointer (some ⟨p, 0, none⟩), .string s, .string t] w fun e w' => e = .returned (.int .i64 (K.ren d s.data.toList t.data.toList).1) ∧ Td S w p (K.ren d s.data.toList t.data.toList).2 w' := by
  have HK := hid h
  have HOK := hid (K.ok_ren h.2.1 s.data.toList t.data.toList)
  obtain ⟨c, mb, l, hS, ho, hc, hd⟩ := h.tn
  have HRY := hid (ready2 hd s t hz hzt)
  have HFi := hid (fun W (hf : Fr (fun _ => False) w W) => find_any c W p mb l d (hd.kept hf (fun _ _ h => h)) s hz)
  have hget := hid (hd.get s.data.toList).1
  have hkey := hid (WideMaps.keyOf_string_mk (P := Try.prog) Try.underlying9 hz)
  have hkeyt := hid (WideMaps.keyOf_string_mk (P := Try.prog) Try.underlying9 hzt)
  generalize s.data.toList = n at HOK HFi hget hkey HRY ⊢
  generalize t.data.toList = m' at HOK hkeyt HRY ⊢
  obtain ⟨R, hR⟩ : ∃ R, K.ren d n m' = R := ⟨_, rfl⟩
  rw [hR] at HOK ⊢
  have HR := hid hR
  clear hR
  have HD := hid hd
  have HO := hid ho
  have HS := hid hS
  have HC := hid hc
  have HUP := hid (hd.up ho.up)
  have hfiles := ho.files
  rw [← hd.len] at hfiles
  have HFL := hid hfiles
  clear h hS ho hc hd hz hzt hfiles
  by_cases hr : K.rdy2 d n m' = 0
  · rw [hr] at HRY
    have HR2 := hid hr
    have HR1 := hid (K.rdy_of2 hr)
    clear hr
    go_enter Try.func29, Try.ntmps29
    go_wp2_with fail
    refine (HRY.out _ _ _ (Fr.alloc (Fr.refl _ _) _) (by simp) (by simp)).mono ?_
    rintro e w0 ⟨rfl, hw0⟩
    have f0 : Fr (fun _ => False) w w0 := hw0 ▸ Fr.alloc (Fr.refl _ _) _
    have F0 := hid f0
    clear hw0 f0
    go_wp2_with fail
    refine (HFi.out _ F0.out).mono ?_
    rintro e w1 ⟨hfd | hfd, hf⟩
    · obtain ⟨hne, rfl⟩ := hfd
      have h4 := K.fnd_none HR1.out hne
      have E1 := hid (HR.out.symm.trans (show K.ren d n m' = (4, d) by unfold K.ren; rw [if_neg (by simp [HR2.out]), if_pos h4.2]))
      have HF := hid (F0.out.trans hf (fun _ _ h => h))
      rw [h4.1]
      clear hne hf h4
      go_wp2
      go_ret
      rw [E1.out]
      exact ⟨rfl, Td.refl HK.out HF.out⟩
    · obtain ⟨h0, m, hm, rfl⟩ := hfd
      have hf := F0.out.trans hf (fun _ _ h => h)
      have hgf : K.get n d.fs = some m.f := by rw [hget.out, hm]; rfl
      have hmem := K.get_mem hm
      have hd1 := HD.out.kept hf (fun _ _ h => h)
      have HBU := hid (burn_any c w1 p mb l d hd1 HO.out)
      rcases K.burn_cases d with ⟨b0, b1, b2, b3, b4⟩ | ⟨b0, b1⟩
      · have E1 := hid (HR.out.symm.trans (show K.ren d n m' = (0, { (K.burn d).2 with fs := K.put m' m.f (K.del n d.fs) }) by
          unfold K.ren; rw [if_neg (by simp [HR2.out]), if_neg (by simp [hgf]), if_neg (by simp [b0]), hgf]))
        rw [E1.out] at HOK
        rw [b0] at HBU
        have HF := hid hf
        have hB0 := hid b0
        clear hf h0 b0 b1 b2 b3 b4 hd1
        go_wp2_with fail
        refine HBU.out.mono ?_
        rintro e w2 ⟨rfl, hbn⟩
        have hbn' : Dm c w2 p mb l (K.burn d).2 ∧ Fr (fun k => c k ≠ none) w1 w2 := by
          rcases hbn with ⟨_, h1, h2⟩ | ⟨h1, _⟩
          · exact ⟨h1, h2⟩
          · rw [hB0.out] at h1; cases h1
        obtain ⟨hd2, hf2⟩ := hbn'
        have k1 := hd2.k.2.1
        have hpm : p ≠ mb := fun e => by have := hd2.cm; rw [← e, hd2.cp] at this; simp at this
        have HPM := hid hpm
        have HD2 := hid hd2
        have HF2 := hid hf2
        have hml : (K.mp FM.g l).length < maxLen := by
          have := HFL.out
          rw [K.length_mp]
          unfold maxLen
          omega
        have HML := hid hml
        clear hbn hd2 hf2 hpm hml
        go_wp2_with (first
          | (at_delete; refine wpList_delete_own _ rfl _ _ 56 9 rfl 72 keyed Try.underlying56 fileElem mb _ _ rfl HD2.out.mp _ (.string n) rfl hkey.out ?_; intro w3 hown3 hturn3; rw [K.toD_del] at hown3; have fm3 : Fr (fun k => k = mb) w2 w3 := (Fr.of_grown hturn3.grown).mono (fun i _ e => by simp at e; exact e.symm); have k13 := cell_fr fm3 HPM.out k1; have HO3 := hid hown3; have FM3 := hid fm3; clear hown3 hturn3 fm3)
          | (at_mapUpdate; refine wpList_mapUpdate_own _ rfl _ _ _ 56 rfl 9 72 keyed Try.underlying56 fileElem mb _ (K.toD (K.del n (K.mp FM.g l))) rfl HO3.out HML.out _ _ (.string m') rfl rfl hkeyt.out (.held m.g) [] rfl ?_; intro w4 hown4 hg4; rw [K.toD_put] at hown4; have HO4 := hid hown4; have FM4 := hid (FM3.out.trans ((Fr.of_grown hg4).mono (T := fun k => k = mb) (fun i _ e => by simp at e; exact e.symm)) (fun _ _ h => h)); clear hown4 hg4))
        go_ret
        rw [E1.out]
        have hfn : ∀ q ∈ K.put m' m (K.del n l), (q.1 = m' ∧ q.2 = m) ∨ (q ∈ l ∧ q.1 ≠ n ∧ q.1 ≠ m') := fun q hq => by
          rcases K.mem_put.1 hq with rfl | ⟨hq, h1⟩
          · exact .inl ⟨rfl, rfl⟩
          · exact .inr ⟨(K.mem_del.1 hq).1, (K.mem_del.1 hq).2, h1⟩
        refine ⟨rfl, Tn.td HS.out HC.out ⟨c, K.put m' m (K.del n l), (HD2.out.remap FM4.out (by rw [K.mp_put, K.mp_del]; exact OM.tight HO4.out) (fun q hq => ?_) (fun q hq r hr e => ?_)).same ?_, ?_, fun k hk => .inl hk⟩ HOK.out⟩
        · rcases hfn q hq with ⟨_, h2⟩ | ⟨h1, _⟩
          · exact ⟨n, by rw [h2]; exact hmem⟩
          · exact ⟨q.1, h1⟩
        · rcases hfn q hq with ⟨q1, q2⟩ | ⟨q1, q2, q3⟩
          · rcases hfn r hr with ⟨r1, r2⟩ | ⟨r1, r2, r3⟩
            · exact Prod.ext (q1.trans r1.symm) (q2.trans r2.symm)
            · rw [q2] at e
              exact absurd (by rw [← HD2.out.inj _ hmem r r1 e]) r2
          · rcases hfn r hr with ⟨r1, r2⟩ | ⟨r1, r2, r3⟩
            · rw [r2] at e
              exact absurd (by rw [HD2.out.inj q q1 _ hmem e]) q2
            · exact HD2.out.inj q q1 r r1 e
        · rw [K.mp_put, K.mp_del, HD.out.fs]
        · have hcm : c mb ≠ none := by rw [HD.out.cm]; simp
          exact ((HF.out.mono (fun _ _ h => h.elim)).trans HF2.out (fun _ _ h => h)).trans FM4.out (fun i _ e => e ▸ hcm)
      · have E1 := hid (HR.out.symm.trans (show K.ren d n m' = K.burn d by
          unfold K.ren; rw [if_neg (by simp [HR2.out]), if_neg (by simp [hgf]), if_pos (by simp [b0])]))
        rw [E1.out] at HOK
        rw [b0] at HBU
        have B0 := hid b0
        have HF := hid hf
        clear hf h0 b0 b1 hd1
        go_wp2_with fail
        refine HBU.out.mono ?_
        rintro e w2 ⟨rfl, hbn⟩
        have HBN := hid hbn
        clear hbn
        go_wp2
        go_ret
        rw [E1.out, B0.out]
        exact ⟨rfl, (HBN.out.tn.pre (HF.out.mono (fun _ _ h => h.elim)) (fun k hk => .inl hk)).td HS.out HC.out HOK.out⟩
  · have E1 := hid (HR.out.symm.trans (show K.ren d n m' = (K.rdy2 d n m', d) by unfold K.ren; rw [if_pos hr]))
    generalize K.rdy2 d n m' = R2 at hr HRY E1
    have hb : (R2 == 0) = false := by simpa using hr
    clear hr
    go_enter Try.func29, Try.ntmps29
    go_wp2_with (first | (go_at_call 53; refine (HRY.out _ _ _ (Fr.alloc (Fr.refl _ _) _) (by simp) (by simp)).mono ?_; rintro e w0 ⟨rfl, hw0⟩; have F0 := hid (show Fr (fun _ => False) w w0 from hw0 ▸ Fr.alloc (Fr.refl _ _) _); clear hw0))
    go_ret
    rw [E1.out]
    exact ⟨rfl, Td.refl HK.out F0.out⟩

end Go.Proofs.Ytcdilhbcfgccmaa

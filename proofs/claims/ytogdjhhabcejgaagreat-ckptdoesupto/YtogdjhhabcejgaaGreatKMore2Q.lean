/-
  The contracts of a disk: Sync, Remove, Rename.
-/
import Derived.Test.YtogdjhhabcejgaaGreatMg18
namespace Go.Proofs.YtogdjhhabcejgaaGreat
open Go.RowKit Go.Maps
set_option linter.unusedVariables false

/-- the same files under other names -/
theorem Du.remap {c : Cl} {w w' : World} {p mb : Nat} {l l' : List (K.Nm × FM)} {d : K.DK} {u : Int} (h : Du c w p mb l d u) (hf : Fr (fun k => k = mb) w w') (hom : OM w' mb (K.mp FM.g l')) (hm : ∀ q ∈ l', ∃ n, (n, q.2) ∈ l) (hi : ∀ q ∈ l', ∀ r ∈ l', q.2.g = r.2.g → q = r) :
    Du c w' p mb l' { d with fs := K.mp FM.f l' } u := by
  have hpm : p ≠ mb := fun e => by have := h.cm; rw [← e, h.cp] at this; simp at this
  refine ⟨hf.cells h.at_ hpm, h.cp, h.cm, hom, fun q hq => ?_, hi, rfl, fun k hk => Nat.lt_of_lt_of_le (h.lt k hk) hf.size⟩
  obtain ⟨n, hn⟩ := hm q hq
  exact (h.fl _ hn).kept hf (fun k hk e => (h.ne hn).2 (e ▸ hk))
theorem Du.same {c : Cl} {w : World} {p mb : Nat} {l : List (K.Nm × FM)} {d d' : K.DK} {u : Int} (h : Du c w p mb l d u) (e : d = d') (hu : u = (d'.used : Nat)) : Dm c w p mb l d' := by
  subst e
  subst hu
  exact h
theorem Du.same' {c : Cl} {w : World} {p mb : Nat} {l : List (K.Nm × FM)} {d d' : K.DK} {u u' : Int} (h : Du c w p mb l d u) (e : d = d') (hu : u = u') : Du c w p mb l d' u' := by
  subst e
  subst hu
  exact h
namespace K
theorem put_del {α : Type} {l : List (Nm × α)} (h : Up l) (n : Nm) (v : α) : put n v (del n l) = put n v l :=
  up_ext ((h.del n).put n v) (h.put n v) (fun p => by
    constructor
    · intro hp
      rcases mem_put.1 hp with rfl | ⟨hp, hk⟩
      · exact mem_put.2 (.inl rfl)
      · exact mem_put.2 (.inr ⟨(mem_del.1 hp).1, hk⟩)
    · intro hp
      rcases mem_put.1 hp with rfl | ⟨hp, hk⟩
      · exact mem_put.2 (.inl rfl)
      · exact mem_put.2 (.inr ⟨mem_del.2 ⟨hp, hk⟩, hk⟩))
theorem tot_del_some {α : Type} (f : α → Nat) {l : List (Nm × α)} (h : Up l) {n : Nm} {v : α} (hg : get n l = some v) : tot f (del n l) + f v = tot f l := by
  have := tot_del f h n
  rw [hg] at this
  simp only at this
  omega
end K
/-- a file under another name -/
theorem Du.renamed {c : Cl} {w w' : World} {p mb : Nat} {l : List (K.Nm × FM)} {d : K.DK} {u : Int} (h : Du c w p mb l d u) {n : K.Nm} {m : FM} (hn : ∀ q ∈ l, q.2.g ≠ m.g) (hm : Fl c w m) (hmo : ¬ m.own mb) (hf : Fr (fun k => k = mb) w w') (hom : OM w' mb (K.mp FM.g (K.put n m l))) :
    Du c w' p mb (K.put n m l) { d with fs := K.mp FM.f (K.put n m l) } u := by
  have hpm : p ≠ mb := fun e => by have := h.cm; rw [← e, h.cp] at this; simp at this
  refine ⟨hf.cells h.at_ hpm, h.cp, h.cm, hom, fun q hq => ?_, fun q hq r hr e => ?_, rfl, fun k hk => Nat.lt_of_lt_of_le (h.lt k hk) hf.size⟩
  · rcases K.mem_put.1 hq with rfl | ⟨hq, _⟩
    · exact hm.kept hf (fun k hk e => hmo (e ▸ hk))
    · exact (h.fl _ hq).kept hf (fun k hk e => (h.ne hq).2 (e ▸ hk))
  · rcases K.mem_put.1 hq with rfl | ⟨hq, _⟩
    · rcases K.mem_put.1 hr with rfl | ⟨hr, _⟩
      · rfl
      · exact absurd e.symm (hn r hr)
    · rcases K.mem_put.1 hr with rfl | ⟨hr, _⟩
      · exact absurd e (hn q hq)
      · exact h.inj q hq r hr e

set_option maxHeartbeats 1600000 in
set_option maxRecDepth 20000 in
theorem drop_any (c : Cl) (w : World) (p mb : Nat) (l : List (K.Nm × FM)) (d : K.DK) (u : Int) (h : Du c w p mb l d u) (s : ByteArray) (hz : s.size ≤ maxLen) (m : FM) (hm : K.get s.data.toList l = some m) (hb : m.sf.length + m.tl.length ≤ K.cap) (hu0 : (m.f.len : Int) ≤ u) (hu1 : u ≤ K.cap) :
    Calls Tryz.prog 62 #[.pointer (some ⟨p, 0, none⟩), .string s, .pointer (some ⟨m.g, 0, none⟩)] w fun e w' => (∃ v, e = .returned v) ∧ Du c w' p mb (K.del s.data.toList l) { d with fs := K.del s.data.toList d.fs } (u - m.f.len) ∧ Fr (fun k => k = p ∨ k = mb) w w' := by
  have hkey := hid (WideMaps.keyOf_string_mk (P := Tryz.prog) Tryz.underlying9 hz)
  generalize s.data.toList = n at hm hkey ⊢
  have k1 := h.k.2.1
  have HD := hid h
  have hpm : p ≠ mb := fun e => by have := h.cm; rw [← e, h.cp] at this; simp at this
  have HPM := hid hpm
  have HM := hid hm
  have HB := hid hb
  have hcap : K.cap = 200000000000000 := rfl
  obtain ⟨ml, hml⟩ : ∃ ml, m.f.len = ml := ⟨_, rfl⟩
  rw [hml] at hu0 ⊢
  have HL := hid hml
  have hl0 : (0 : Int) ≤ (ml : Int) := by omega
  have hwr : IntKind.i64.wrap (u - (ml : Int)) = u - (ml : Int) := by rw [IntKind.wrap_i64]; omega
  clear h hz hpm hm hb hml
  go_enter Tryz.func62, Tryz.ntmps62
  go_wp2_with (first | (at_delete; refine wpList_delete_own _ rfl _ _ 42 9 rfl 64 keyed Tryz.underlying42 fileElem mb _ _ rfl HD.out.mp _ (.string n) rfl hkey.out ?_; intro w3 hown3 hturn3; rw [K.toD_del] at hown3; have HO3 := hid hown3; have HT3 := hid hturn3; clear hown3 hturn3))
  have hmem := K.get_mem HM.out
  have fm : Fr (fun k => k = mb) w w3 := (Fr.of_grown HT3.out.grown).mono (fun i _ e => by simp at e; exact e.symm)
  have hfl : Fl c w3 m := (HD.out.fl _ hmem).kept fm (fun k hk e => (HD.out.ne hmem).2 (e ▸ hk))
  have hd3 : Du c w3 p mb (K.del n l) { d with fs := K.del n d.fs } u := (HD.out.remap fm (by rw [K.mp_del]; exact OM.tight HO3.out) (fun q hq => ⟨q.1, (K.mem_del.1 hq).1⟩) (fun q hq r hr e => HD.out.inj q (K.mem_del.1 hq).1 r (K.mem_del.1 hr).1 e)).same' (by rw [K.mp_del, HD.out.fs]) rfl
  have k3 := hd3.ku
  have KZ0 : ∀ W, Fr (fun _ => False) w3 W → Calls Tryz.prog 80 #[.pointer (some ⟨m.g, 0, none⟩)] W fun e w' => e = .returned (.int .i64 (ml : Int)) ∧ Fr (fun _ => False) w3 w' := fun W hW => by
    rw [← HL.out]
    refine (fsize_any c W m (hfl.kept hW (fun _ _ h => h)) HB.out).mono ?_
    rintro e w' ⟨rfl, n, rfl⟩
    exact ⟨rfl, hW.trans (Fr.drewN _ _) (fun _ _ h => h)⟩
  have KZ := hid KZ0
  have KU := hid (fun W (hW : Fr (fun _ => False) w3 W) => cell_fr hW (fun h => h) k3)
  have KQ := hid (fun W (hW : Fr (fun _ => False) w3 W) => frozen_of_row (j := 1) (hW.cells hd3.at_ (fun h => h)))
  have fin : ∀ w4, Fr (fun _ => False) w3 w4 → Du c (w4.setCell ⟨p, 1, none⟩ (.int .i64 (u - (ml : Int)))) p mb (K.del n l) { d with fs := K.del n d.fs } (u - (ml : Int)) ∧ Fr (fun k => k = p ∨ k = mb) w (w4.setCell ⟨p, 1, none⟩ (.int .i64 (u - (ml : Int)))) := fun w4 hf4 => by
    refine ⟨(hd3.kept hf4 (fun _ _ h => h)).own (Fr.setCell (p := ⟨p, 1, none⟩) (S := fun k => k = p) (Fr.refl _ _) (fun _ => rfl) _) ?_ rfl, ?_⟩
    · rw [setCell_row (hf4.cells hd3.at_ (fun h => h))]
      rfl
    · exact Fr.setCell (p := ⟨p, 1, none⟩) ((fm.mono (fun i _ e => .inr e)).trans (hf4.mono (fun _ _ h => h.elim)) (fun _ _ h => h)) (fun _ => .inl rfl) _
  have FIN := hid fin
  clear fin KZ0 hd3 hfl fm hmem
  go_region_with (first
    | (go_at_call 80; refine (KZ.out _ (by first | exact Fr.refl _ _ | exact Fr.drew (Fr.refl _ _) | exact Fr.drewN _ _)).mono ?_; rintro e w4 ⟨rfl, hf4⟩; have s1 := KU.out _ hf4; have s2 := KQ.out _ hf4; have F4 := hid hf4; clear hf4))
  all_goals (go_end0; exact ⟨⟨_, rfl⟩, FIN.out w4 F4.out⟩)



set_option maxHeartbeats 1600000 in
theorem sync_any {S : Nat → Prop} {w : World} {p : Nat} {d : K.DK} (h : Dk S w p d) (s : ByteArray) (hz : s.size ≤ maxLen) :
    Calls Tryz.prog 33 #[.pointer (some ⟨p, 0, none⟩), .string s] w fun e w' => e = .returned (.int .i64 (K.syn d s.data.toList).1) ∧ Td S w p (K.syn d s.data.toList).2 w' := by
  have HK := hid h
  have HOK := hid (K.ok_syn h.2.1 s.data.toList)
  obtain ⟨c, mb, l, hS, ho, hc, hd⟩ := h.tn
  have HFi := hid (find_any c w p mb l d hd s hz)
  have hget := hid (hd.get s.data.toList).1
  generalize s.data.toList = n at HOK HFi hget ⊢
  obtain ⟨R, hR⟩ : ∃ R, K.syn d n = R := ⟨_, rfl⟩
  rw [hR] at HOK ⊢
  have HR := hid hR
  clear hR
  have HD := hid hd
  have HO := hid ho
  have HS := hid hS
  have HC := hid hc
  have HUP := hid (hd.up ho.up)
  clear h hS ho hc hd hz
  go_enter Tryz.func33, Tryz.ntmps33
  go_wp2_with fail
  refine HFi.out.mono ?_
  rintro e w1 ⟨hfd | hfd, hf⟩
  · obtain ⟨hne, rfl⟩ := hfd
    have E1 := hid (HR.out.symm.trans (show K.syn d n = (K.fnd d n, d) by unfold K.syn; rw [if_pos hne]))
    have HF := hid hf
    have hb : (K.fnd d n == 0) = false := by simpa using hne
    generalize K.fnd d n = R' at hb E1 ⊢
    clear hne hf
    go_wp2
    go_ret
    rw [E1.out]
    exact ⟨rfl, Td.refl HK.out HF.out⟩
  · obtain ⟨h0, m, hm, rfl⟩ := hfd
    have hgf : K.get n d.fs = some m.f := by rw [hget.out, hm]; rfl
    have hmem := K.get_mem hm
    have hmf : (n, m.f) ∈ d.fs := K.get_mem hgf
    have hd1 := HD.out.kept hf (fun _ _ h => h)
    have HBU := hid (burn_any c w1 p mb l d hd1 HO.out)
    rcases K.burn_cases d with ⟨b0, b1, b2, b3, b4⟩ | ⟨b0, b1⟩
    · have E1 := hid (HR.out.symm.trans (show K.syn d n = (0, { (K.burn d).2 with fs := K.put n ⟨m.f.all, []⟩ d.fs }) by
        unfold K.syn; rw [if_neg (by simp [h0]), if_neg (by simp [b0]), hgf]))
      rw [E1.out] at HOK
      rw [b0] at HBU
      have HF := hid hf
      have hbd := hid (Ok_len HO.out hmf)
      have hB0 := hid b0
      have hB1 := hid b1
      clear hf h0 b0 b1 b2 b3 b4 hd1
      go_wp2_with fail
      refine HBU.out.mono ?_
      rintro e w2 ⟨rfl, hbn⟩
      have hbn' : Dm c w2 p mb l (K.burn d).2 ∧ Fr (fun k => c k ≠ none) w1 w2 := by
        rcases hbn with ⟨_, h1, h2⟩ | ⟨h1, _⟩
        · exact ⟨h1, h2⟩
        · rw [hB0.out] at h1; cases h1
      obtain ⟨hd2, hf2⟩ := hbn'
      have KS := hid (fsync_any c w2 m (hd2.fl _ hmem) hd2.lt hbd.out)
      have HD2 := hid hd2
      have HF2 := hid hf2
      clear hbn hd2 hf2
      go_wp2_with (first | (go_at_call 61; refine KS.out.mono ?_; rintro e w3 ⟨⟨v, rfl⟩, c3, m3, hfs, hm3⟩; have HFS := hid hfs; have HM3 := hid hm3; clear hfs hm3))
      go_ret
      rw [E1.out]
      refine ⟨rfl, Tn.td HS.out HC.out ⟨c3, _, (HD2.out.step HUP.out hmem HFS.out.g HFS.out.fr HFS.out.le HFS.out.fl HFS.out.lt).same ?_ ?_, ?_, ?_⟩ HOK.out⟩
      · rw [hB1.out, HM3.out, K.put_upd HO.out.up hmf]; rfl
      · have hu1 : (K.burn d).2.used = d.used := by unfold K.DK.used; rw [hB1.out]
        have hu2 : K.tot K.F.len (K.put n ⟨m.f.all, []⟩ d.fs) = K.tot K.F.len d.fs := by
          have := K.tot_put K.F.len HO.out.up n ⟨m.f.all, []⟩
          rw [K.get_of_mem HO.out.up hmf] at this
          simp only [K.F.len, K.F.all, List.length_append, List.length_nil, Nat.add_zero] at this
          exact Nat.add_right_cancel this
        rw [hu1]
        exact congrArg Nat.cast hu2.symm
      · exact ((HF.out.mono (fun _ _ h => h.elim)).trans HF2.out (fun _ _ h => h)).trans HFS.out.fr (fun i _ e => (HD2.out.fl _ hmem).own_col e)
      · intro k hk
        refine (HFS.out.nw k hk).imp id (fun h => ?_)
        have := HF.out.size
        have := HF2.out.size
        omega
    · have E1 := hid (HR.out.symm.trans (show K.syn d n = K.burn d by
        unfold K.syn; rw [if_neg (by simp [h0]), if_pos (by simp [b0])]))
      rw [E1.out] at HOK
      rw [b0] at HBU
      have B0 := hid b0
      have HF := hid hf
      clear hf h0 b0 b1 hd1
      go_wp2_with fail
      refine HBU.out.mono ?_
      rintro e w2 ⟨rfl, hbn⟩
      have HBN := hid hbn
      clear hbn
      go_wp2
      go_ret
      rw [E1.out, B0.out]
      exact ⟨rfl, (HBN.out.tn.pre (HF.out.mono (fun _ _ h => h.elim)) (fun k hk => .inl hk)).td HS.out HC.out HOK.out⟩

set_option maxHeartbeats 1600000 in
set_option maxRecDepth 20000 in
theorem remove_any {S : Nat → Prop} {w : World} {p : Nat} {d : K.DK} (h : Dk S w p d) (s : ByteArray) (hz : s.size ≤ maxLen) :
    Calls Tryz.prog 59 #[.pointer (some ⟨p, 0, none⟩), .string s] w fun e w' => e = .returned (.int .i64 (K.rem d s.data.toList).1) ∧ Td S w p (K.rem d s.data.toList).2 w' := by
  have HK := hid h
  have HOK := hid (K.ok_rem h.2.1 s.data.toList)
  obtain ⟨c, mb, l, hS, ho, hc, hd⟩ := h.tn
  have HFi := hid (find_any c w p mb l d hd s hz)
  have hget := hid (hd.get s.data.toList).1
  obtain ⟨n, hn⟩ : ∃ n, s.data.toList = n := ⟨_, rfl⟩
  rw [hn] at HOK HFi hget ⊢
  have HN := hid hn
  have HZ := hid hz
  obtain ⟨R, hR⟩ : ∃ R, K.rem d n = R := ⟨_, rfl⟩
  rw [hR] at HOK ⊢
  have HR := hid hR
  clear hR
  have HD := hid hd
  have HO := hid ho
  have HS := hid hS
  have HC := hid hc
  clear h hS ho hc hd hz hn
  go_enter Tryz.func59, Tryz.ntmps59
  go_wp2_with fail
  refine HFi.out.mono ?_
  rintro e w1 ⟨hfd | hfd, hf⟩
  · obtain ⟨hne, rfl⟩ := hfd
    have E1 := hid (HR.out.symm.trans (show K.rem d n = (K.fnd d n, d) by unfold K.rem; rw [if_pos hne]))
    have HF := hid hf
    have hb : (K.fnd d n == 0) = false := by simpa using hne
    generalize K.fnd d n = R' at hb E1 ⊢
    clear hne hf
    go_wp2
    go_ret
    rw [E1.out]
    exact ⟨rfl, Td.refl HK.out HF.out⟩
  · obtain ⟨h0, m, hm, rfl⟩ := hfd
    have hd1 := HD.out.kept hf (fun _ _ h => h)
    have HBU := hid (burn_any c w1 p mb l d hd1 HO.out)
    rcases K.burn_cases d with ⟨b0, b1, b2, b3, b4⟩ | ⟨b0, b1⟩
    · have E1 := hid (HR.out.symm.trans (show K.rem d n = (0, { (K.burn d).2 with fs := K.del n d.fs }) by
        unfold K.rem; rw [if_neg (by simp [h0]), if_neg (by simp [b0])]))
      rw [E1.out] at HOK
      rw [b0] at HBU
      have HF := hid hf
      have hB0 := hid b0
      have hB1 := hid b1
      clear hf h0 b0 b1 b2 b3 b4 hd1
      go_wp2_with fail
      refine HBU.out.mono ?_
      rintro e w2 ⟨rfl, hbn⟩
      have hbn' : Dm c w2 p mb l (K.burn d).2 ∧ Fr (fun k => c k ≠ none) w1 w2 := by
        rcases hbn with ⟨_, h1, h2⟩ | ⟨h1, _⟩
        · exact ⟨h1, h2⟩
        · rw [hB0.out] at h1; cases h1
      obtain ⟨hd2, hf2⟩ := hbn'
      have hmem := K.get_mem hm
      have hmf : (n, m.f) ∈ d.fs := by rw [← HD.out.fs]; exact K.mem_mp.2 ⟨_, hmem, rfl⟩
      have hgf : K.get n d.fs = some m.f := K.get_of_mem HO.out.up hmf
      have hu1 : (K.burn d).2.used = d.used := by unfold K.DK.used; rw [hB1.out]
      have hle : m.f.len ≤ d.used := K.tot_mem K.F.len hmf
      have hud := K.tot_del_some K.F.len HO.out.up hgf
      have KD := hid (drop_any c w2 p mb l (K.burn d).2 _ hd2 s HZ.out m (by rw [HN.out]; exact hm) (Ok_len HO.out hmf) (by rw [hu1]; omega) (by rw [hu1]; have := HO.out.uc; omega))
      have HF2 := hid hf2
      have HUD := hid hud
      have HU1 := hid hu1
      have HLE := hid hle
      clear hbn hd2 hf2 hud hu1 hle hgf
      go_wp2_with (first | (go_at_call 62; refine KD.out.mono ?_; rintro e w3 ⟨⟨v, rfl⟩, hd3, hf3⟩; have HD3 := hid hd3; have HF3 := hid hf3; clear hd3 hf3))
      go_ret
      rw [E1.out]
      refine ⟨rfl, Tn.td HS.out HC.out ⟨c, _, HD3.out.same ?_ ?_, ?_, fun k hk => .inl hk⟩ HOK.out⟩
      · rw [HN.out, hB1.out]
      · rw [HU1.out]
        have h1 := HUD.out
        have h2 := HLE.out
        show (d.used : Int) - _ = ((K.tot K.F.len (K.del n d.fs) : Nat) : Int)
        unfold K.DK.used at *
        omega
      · have hcm : c mb ≠ none := by rw [HD.out.cm]; simp
        have hcp : c p ≠ none := by rw [HD.out.cp]; simp
        exact ((HF.out.mono (fun _ _ h => h.elim)).trans HF2.out (fun _ _ h => h)).trans HF3.out (fun i _ e => e.elim (fun e => e ▸ hcp) (fun e => e ▸ hcm))
    · have E1 := hid (HR.out.symm.trans (show K.rem d n = K.burn d by
        unfold K.rem; rw [if_neg (by simp [h0]), if_pos (by simp [b0])]))
      rw [E1.out] at HOK
      rw [b0] at HBU
      have B0 := hid b0
      have HF := hid hf
      clear hf h0 b0 b1 hd1
      go_wp2_with fail
      refine HBU.out.mono ?_
      rintro e w2 ⟨rfl, hbn⟩
      have HBN := hid hbn
      clear hbn
      go_wp2
      go_ret
      rw [E1.out, B0.out]
      exact ⟨rfl, (HBN.out.tn.pre (HF.out.mono (fun _ _ h => h.elim)) (fun k hk => .inl hk)).td HS.out HC.out HOK.out⟩

theorem K.rdy_of2 {d : K.DK} {n m : K.Nm} (h : K.rdy2 d n m = 0) : K.rdy d n = 0 := by
  unfold K.rdy2 at h
  unfold K.rdy
  by_cases h1 : d.down = true
  · rw [if_pos h1] at h; cases h
  · rw [if_neg h1] at h ⊢
    by_cases h2 : K.bad n
    · rw [if_pos h2] at h; cases h
    · rw [if_neg h2]
theorem K.fnd_none {d : K.DK} {n : K.Nm} (h : K.rdy d n = 0) (hg : K.fnd d n ≠ 0) : K.fnd d n = 4 ∧ K.get n d.fs = none := by
  unfold K.fnd at hg ⊢
  rw [if_neg (by simp [h])] at hg ⊢
  by_cases h1 : K.get n d.fs = none
  · rw [if_pos h1]; exact ⟨rfl, h1⟩
  · rw [if_neg h1] at hg; exact absurd rfl hg

set_option maxHeartbeats 3200000 in
set_option maxRecDepth 20000 in
theorem rename_any {S : Nat → Prop} {w : World} {p : Nat} {d : K.DK} (h : Dk S w p d) (s t : ByteArray) (hz : s.size ≤ maxLen) (hzt : t.size ≤ maxLen) :
    Calls Tryz.prog 34 #[.pointer (some ⟨p, 0, none⟩), .string s, .string t] w fun e w' => e = .returned (.int .i64 (K.ren d s.data.toList t.data.toList).1) ∧ Td S w p (K.ren d s.data.toList t.data.toList).2 w' := by
  have HK := hid h
  have HOK := hid (K.ok_ren h.2.1 s.data.toList t.data.toList)
  obtain ⟨c, mb, l, hS, ho, hc, hd⟩ := h.tn
  have HRY := hid (ready2 hd s t hz hzt)
  have HFi := hid (fun W (hf : Fr (fun _ => False) w W) => find_any c W p mb l d (hd.kept hf (fun _ _ h => h)) s hz)
  have hget := hid (hd.get s.data.toList).1
  have hkey := hid (WideMaps.keyOf_string_mk (P := Tryz.prog) Tryz.underlying9 hz)
  have hkeyt := hid (WideMaps.keyOf_string_mk (P := Tryz.prog) Tryz.underlying9 hzt)
  generalize s.data.toList = n at HOK HFi hget hkey HRY ⊢
  obtain ⟨m', hnt⟩ : ∃ n, t.data.toList = n := ⟨_, rfl⟩
  rw [hnt] at HOK hkeyt HRY ⊢
  have HNT := hid hnt
  have HZT := hid hzt
  obtain ⟨R, hR⟩ : ∃ R, K.ren d n m' = R := ⟨_, rfl⟩
  rw [hR] at HOK ⊢
  have HR := hid hR
  clear hR
  have HD := hid hd
  have HO := hid ho
  have HS := hid hS
  have HC := hid hc
  have HUP := hid (hd.up ho.up)
  have hfiles := ho.files
  rw [← hd.len] at hfiles
  have HFL := hid hfiles
  clear h hS ho hc hd hz hzt hfiles hnt
  by_cases hr : K.rdy2 d n m' = 0
  · rw [hr] at HRY
    have HR2 := hid hr
    have HR1 := hid (K.rdy_of2 hr)
    clear hr
    go_enter Tryz.func34, Tryz.ntmps34
    go_wp2_with fail
    refine (HRY.out _ _ _ (Fr.alloc (Fr.refl _ _) _) (by simp) (by simp)).mono ?_
    rintro e w0 ⟨rfl, hw0⟩
    have f0 : Fr (fun _ => False) w w0 := hw0 ▸ Fr.alloc (Fr.refl _ _) _
    have F0 := hid f0
    clear hw0 f0
    go_wp2_with fail
    refine (HFi.out _ F0.out).mono ?_
    rintro e w1 ⟨hfd | hfd, hf⟩
    · obtain ⟨hne, rfl⟩ := hfd
      have h4 := K.fnd_none HR1.out hne
      have E1 := hid (HR.out.symm.trans (show K.ren d n m' = (4, d) by unfold K.ren; rw [if_neg (by simp [HR2.out]), if_pos h4.2]))
      have HF := hid (F0.out.trans hf (fun _ _ h => h))
      rw [h4.1]
      clear hne hf h4
      go_wp2
      go_ret
      rw [E1.out]
      exact ⟨rfl, Td.refl HK.out HF.out⟩
    · obtain ⟨h0, m, hm, rfl⟩ := hfd
      have hf := F0.out.trans hf (fun _ _ h => h)
      have hgf : K.get n d.fs = some m.f := by rw [hget.out, hm]; rfl
      have hmem := K.get_mem hm
      have hd1 := HD.out.kept hf (fun _ _ h => h)
      have HBU := hid (burn_any c w1 p mb l d hd1 HO.out)
      rcases K.burn_cases d with ⟨b0, b1, b2, b3, b4⟩ | ⟨b0, b1⟩
      · have E1 := hid (HR.out.symm.trans (show K.ren d n m' = (0, { (K.burn d).2 with fs := K.put m' m.f (K.del n d.fs) }) by
          unfold K.ren; rw [if_neg (by simp [HR2.out]), if_neg (by simp [hgf]), if_neg (by simp [b0]), hgf]))
        rw [E1.out] at HOK
        rw [b0] at HBU
        have HF := hid hf
        have hB0 := hid b0
        have hB1 := hid b1
        clear hf h0 b0 b1 b2 b3 b4 hd1
        go_wp2_with fail
        refine HBU.out.mono ?_
        rintro e w2 ⟨rfl, hbn⟩
        have hbn' : Dm c w2 p mb l (K.burn d).2 ∧ Fr (fun k => c k ≠ none) w1 w2 := by
          rcases hbn with ⟨_, h1, h2⟩ | ⟨h1, _⟩
          · exact ⟨h1, h2⟩
          · rw [hB0.out] at h1; cases h1
        obtain ⟨hd2, hf2⟩ := hbn'
        have k1 := hd2.k.2.1
        have hpm : p ≠ mb := fun e => by have := hd2.cm; rw [← e, hd2.cp] at this; simp at this
        have HPM := hid hpm
        have HD2 := hid hd2
        have HF2 := hid hf2
        have hml : ∀ l4 : List (K.Nm × FM), l4.length ≤ l.length → (K.mp FM.g l4).length < maxLen := fun l4 h4 => by
          have := HFL.out
          rw [K.length_mp]
          unfold maxLen
          omega
        have HML := hid hml
        have hmf : (n, m.f) ∈ d.fs := by rw [← HD.out.fs]; exact K.mem_mp.2 ⟨_, hmem, rfl⟩
        have HMF := hid hmf
        have hu1 : (K.burn d).2.used = d.used := by unfold K.DK.used; rw [hB1.out]
        have HU1 := hid hu1
        have HMEM := hid hmem
        clear hbn hd2 hf2 hpm hml hmf hu1 hmem hgf
        have hgd : K.get n d.fs = some m.f := K.get_of_mem HO.out.up HMF.out
        have h3 : ∀ w3, Fr (fun k => k = mb) w2 w3 → OM w3 mb (K.del n (K.mp FM.g l)) → Du c w3 p mb (K.del n l) { (K.burn d).2 with fs := K.del n d.fs } (d.used : Nat) := fun w3 fm3 ho3 => (HD2.out.remap fm3 (by rw [K.mp_del]; exact ho3) (fun q hq => ⟨q.1, (K.mem_del.1 hq).1⟩) (fun q hq r hr e => HD2.out.inj q (K.mem_del.1 hq).1 r (K.mem_del.1 hr).1 e)).same' (by rw [K.mp_del, HD.out.fs]) (by rw [HU1.out])
        have hul : K.Up (K.del n l) := HUP.out.del n
        have hlk : K.get t.data.toList (K.mp FM.g (K.del n l)) = (K.get m' (K.del n l)).map FM.g := by rw [HNT.out, K.get_mp]
        have htd := K.tot_del_some K.F.len HO.out.up hgd
        have htp := K.tot_put K.F.len (HO.out.up.del n) m' m.f
        have hgm : K.get m' (K.del n d.fs) = (K.get m' (K.del n l)).map FM.f := by rw [← HD.out.fs, ← K.mp_del, K.get_mp]
        have hng : ∀ q ∈ K.del n l, q.2.g ≠ m.g := fun q hq e => (K.mem_del.1 hq).2 (by rw [HD2.out.inj q (K.mem_del.1 hq).1 _ HMEM.out e])
        have HNG := hid hng
        have HUL := hid hul
        have HMO := hid (HD2.out.ne HMEM.out).2
        have HTD := hid htd
        have H3 := hid h3
        clear hng hul htd hgd h3
        cases hgo : K.get m' (K.del n l) with
        | none =>
          rw [hgo] at hlk hgm
          rw [hgm] at htp
          have HTP := hid htp
          have HLK := hid hlk
          clear hlk htp hgm hgo
          go_wp2_with (first
            | (at_delete; refine wpList_delete_own _ rfl _ _ 42 9 rfl 64 keyed Tryz.underlying42 fileElem mb _ _ rfl HD2.out.mp _ (.string n) rfl hkey.out ?_; intro w3 hown3 hturn3; rw [K.toD_del] at hown3; have fm3 : Fr (fun k => k = mb) w2 w3 := (Fr.of_grown hturn3.grown).mono (fun i _ e => by simp at e; exact e.symm); have k13 := cell_fr fm3 HPM.out k1; have HD3 := hid (H3.out w3 fm3 (OM.tight hown3)); have HFL3 := hid ((HD2.out.fl _ HMEM.out).kept fm3 (fun k hk e => (HD2.out.ne HMEM.out).2 (e ▸ hk))); have FM3 := hid fm3; clear hown3 hturn3 fm3)
            | (at_lookup; refine wpList_lookup_file _ rfl _ _ rfl mb (K.mp FM.g (K.del n l)) rfl HD3.out.mp t rfl HZT.out none HLK.out ?_)
            | (at_mapUpdate; refine wpList_mapUpdate_own _ rfl _ _ _ 42 rfl 9 64 keyed Tryz.underlying42 fileElem mb _ (K.toD (K.mp FM.g (K.del n l))) rfl HD3.out.mp (HML.out _ (K.length_del_le _ _)) _ _ (.string m') rfl rfl hkeyt.out (.held m.g) [] rfl ?_; intro w4 hown4 hg4; rw [K.toD_put] at hown4; have HO4 := hid hown4; have FM4 := hid ((Fr.of_grown hg4).mono (T := fun k => k = mb) (fun i _ e => by simp at e; exact e.symm)); clear hown4 hg4))
          go_ret
          rw [E1.out]
          refine ⟨rfl, Tn.td HS.out HC.out ⟨c, _, (HD3.out.renamed HNG.out HFL3.out HMO.out FM4.out (by rw [K.mp_put]; exact OM.tight HO4.out)).same ?_ ?_, ?_, fun k hk => .inl hk⟩ HOK.out⟩
          · rw [K.mp_put, K.mp_del, HD.out.fs]
          · have h1 := HTD.out
            have h2 := HTP.out
            simp only [Option.map_none] at h2
            show (d.used : Int) = ((K.tot K.F.len (K.put m' m.f (K.del n d.fs)) : Nat) : Int)
            unfold K.DK.used
            omega
          · have hcm : c mb ≠ none := by rw [HD.out.cm]; simp
            exact (((HF.out.mono (fun _ _ h => h.elim)).trans HF2.out (fun _ _ h => h)).trans FM3.out (fun i _ e => e ▸ hcm)).trans FM4.out (fun i _ e => e ▸ hcm)
        | some m2 =>
          rw [hgo] at hlk hgm
          have hgm' : K.get m' (K.del n d.fs) = some m2.f := hgm
          have hmf2 := K.get_mem hgm'
          have htd2 := K.tot_del_some K.F.len (HO.out.up.del n) hgm'
          rw [hgm'] at htp
          have hle2 : m2.f.len ≤ d.used := Nat.le_trans (by omega) (K.tot_del_le K.F.len HO.out.up n)
          have HDA := hid (show K.get t.data.toList (K.del n l) = some m2 ∧ m2.sf.length + m2.tl.length ≤ K.cap ∧ ((m2.f.len : Nat) : Int) ≤ (d.used : Nat) ∧ ((d.used : Nat) : Int) ≤ (K.cap : Nat) from ⟨by rw [HNT.out]; exact hgo, Ok_len HO.out (K.mem_del.1 hmf2).1, by omega, by have := HO.out.uc; omega⟩)
          have HTP := hid htp
          have HLK := hid hlk
          have HLE := hid hle2
          clear hlk htp hgm hgm' hgo hmf2 htd2 hle2
          go_wp2_with (first
            | (at_delete; refine wpList_delete_own _ rfl _ _ 42 9 rfl 64 keyed Tryz.underlying42 fileElem mb _ _ rfl HD2.out.mp _ (.string n) rfl hkey.out ?_; intro w3 hown3 hturn3; rw [K.toD_del] at hown3; have fm3 : Fr (fun k => k = mb) w2 w3 := (Fr.of_grown hturn3.grown).mono (fun i _ e => by simp at e; exact e.symm); have k13 := cell_fr fm3 HPM.out k1; have HD3 := hid (H3.out w3 fm3 (OM.tight hown3)); have HFL3 := hid ((HD2.out.fl _ HMEM.out).kept fm3 (fun k hk e => (HD2.out.ne HMEM.out).2 (e ▸ hk))); have FM3 := hid fm3; clear hown3 hturn3 fm3)
            | (at_lookup; refine wpList_lookup_file _ rfl _ _ rfl mb (K.mp FM.g (K.del n l)) rfl HD3.out.mp t rfl HZT.out (some m2.g) HLK.out ?_)
            | (go_at_call 62; refine (drop_any c w3 p mb _ _ _ HD3.out t HZT.out m2 HDA.out.1 HDA.out.2.1 HDA.out.2.2.1 HDA.out.2.2.2).mono ?_; rintro e w5 ⟨⟨v5, rfl⟩, hd5, hf5⟩; have k15 := hd5.k.2.1; have HD5 := hid hd5; have HF5 := hid hf5; clear hd5 hf5)
            | (at_mapUpdate; refine wpList_mapUpdate_own _ rfl _ _ _ 42 rfl 9 64 keyed Tryz.underlying42 fileElem mb _ _ rfl HD5.out.mp (HML.out _ (Nat.le_trans (K.length_del_le _ _) (K.length_del_le _ _))) _ _ (.string m') rfl rfl hkeyt.out (.held m.g) [] rfl ?_; intro w4 hown4 hg4; rw [K.toD_put] at hown4; have HO4 := hid hown4; have FM4 := hid ((Fr.of_grown hg4).mono (T := fun k => k = mb) (fun i _ e => by simp at e; exact e.symm)); clear hown4 hg4))
          go_ret
          rw [E1.out]
          have hmp : ¬ m.own p := (HD2.out.ne HMEM.out).1
          refine ⟨rfl, Tn.td HS.out HC.out ⟨c, _, (HD5.out.renamed (n := m') (fun q hq => HNG.out q (K.mem_del.1 hq).1) (HFL3.out.kept HF5.out (fun k hk e => e.elim (fun e => hmp (e ▸ hk)) (fun e => HMO.out (e ▸ hk)))) HMO.out FM4.out (by rw [K.mp_put]; exact OM.tight HO4.out)).same ?_ ?_, ?_, fun k hk => .inl hk⟩ HOK.out⟩
          · rw [HNT.out, K.put_del HUL.out, K.mp_put, K.mp_del, HD.out.fs]
          · have h1 := HTD.out
            have h2 := HTP.out
            have h3 := HLE.out
            show (d.used : Int) - _ = ((K.tot K.F.len (K.put m' m.f (K.del n d.fs)) : Nat) : Int)
            unfold K.DK.used at *
            omega
          · have hcm : c mb ≠ none := by rw [HD.out.cm]; simp
            have hcp : c p ≠ none := by rw [HD.out.cp]; simp
            exact ((((HF.out.mono (fun _ _ h => h.elim)).trans HF2.out (fun _ _ h => h)).trans FM3.out (fun i _ e => e ▸ hcm)).trans HF5.out (fun i _ e => e.elim (fun e => e ▸ hcp) (fun e => e ▸ hcm))).trans FM4.out (fun i _ e => e ▸ hcm)
      · have E1 := hid (HR.out.symm.trans (show K.ren d n m' = K.burn d by
          unfold K.ren; rw [if_neg (by simp [HR2.out]), if_neg (by simp [hgf]), if_pos (by simp [b0])]))
        rw [E1.out] at HOK
        rw [b0] at HBU
        have B0 := hid b0
        have HF := hid hf
        clear hf h0 b0 b1 hd1
        go_wp2_with fail
        refine HBU.out.mono ?_
        rintro e w2 ⟨rfl, hbn⟩
        have HBN := hid hbn
        clear hbn
        go_wp2
        go_ret
        rw [E1.out, B0.out]
        exact ⟨rfl, (HBN.out.tn.pre (HF.out.mono (fun _ _ h => h.elim)) (fun k hk => .inl hk)).td HS.out HC.out HOK.out⟩
  · have E1 := hid (HR.out.symm.trans (show K.ren d n m' = (K.rdy2 d n m', d) by unfold K.ren; rw [if_pos hr]))
    generalize K.rdy2 d n m' = R2 at hr HRY E1
    have hb : (R2 == 0) = false := by simpa using hr
    clear hr
    go_enter Tryz.func34, Tryz.ntmps34
    go_wp2_with (first | (go_at_call 44; refine (HRY.out _ _ _ (Fr.alloc (Fr.refl _ _) _) (by simp) (by simp)).mono ?_; rintro e w0 ⟨rfl, hw0⟩; have F0 := hid (show Fr (fun _ => False) w w0 from hw0 ▸ Fr.alloc (Fr.refl _ _) _); clear hw0))
    go_ret
    rw [E1.out]
    exact ⟨rfl, Td.refl HK.out F0.out⟩

end Go.Proofs.YtogdjhhabcejgaaGreat

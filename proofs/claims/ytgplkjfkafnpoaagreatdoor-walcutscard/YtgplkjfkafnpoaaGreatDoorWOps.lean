/-
  The contracts of a log: its small questions; clean.
-/
import Derived.Test.YtgplkjfkafnpoaaGreatDoorWLog
namespace Go.Proofs.YtgplkjfkafnpoaaGreatDoor
open Go.RowKit
set_option linter.unusedVariables false

theorem enc_size (l : List UInt8) : encStr l = .string ⟨l.toArray⟩ := rfl
theorem file_any (w : World) (q : Nat) (nm : List UInt8) (hn : nm.length ≤ 20) (c1 : w.cell? ⟨q, 1, none⟩ = some (encStr nm)) (f : Int) (hf0 : -9223372036854775808 ≤ f) (hf1 : f ≤ 9223372036854775807) (T : Tv w) :
    Calls Tryz.prog 73 #[.pointer (some ⟨q, 0, none⟩), .int .i64 f] w fun e w' => e = .returned (encStr (W.seg nm f)) ∧ Fr (fun _ => False) w w' := by
  rw [enc_size] at c1
  have HS := hid (segment_any ⟨nm.toArray⟩ (by unfold maxLen; simp [ByteArray.size]; omega) f hf0 hf1 w T)
  simp only at HS
  go_enter Tryz.func73, Tryz.ntmps73
  go_wp2_with (first | (go_at_call 18; refine HS.out.mono ?_; rintro e w' ⟨rfl, hf⟩; have HF := hid hf; clear hf))
  go_ret
  exact ⟨rfl, HF.out⟩
theorem lmade_any (w : World) (q : Nat) (nm : List UInt8) (hn : nm ≠ []) (c1 : w.cell? ⟨q, 1, none⟩ = some (encStr nm)) :
    Calls Tryz.prog 67 #[.pointer (some ⟨q, 0, none⟩)] w fun e w' => e = .returned (.bool true) ∧ w = w' := by
  rw [enc_size] at c1
  have hne : (nm == ([] : List UInt8)) = false := by simpa using hn
  go_enter Tryz.func67, Tryz.ntmps67
  go_wp2
  go_ret
  exact ⟨rfl, rfl⟩

theorem lready_any (w : World) (q : Nat) (nm : List UInt8) (hn : nm ≠ []) (sp : Bool) (c1 : w.cell? ⟨q, 1, none⟩ = some (encStr nm)) (c6 : w.cell? ⟨q, 6, none⟩ = some (.bool sp)) :
    Calls Tryz.prog 62 #[.pointer (some ⟨q, 0, none⟩)] w fun e w' => e = .returned (.int .i64 (if sp = true then 51 else 0)) ∧ w = w' := by
  have HM := hid (lmade_any w q nm hn c1)
  clear c1
  cases sp
  · go_enter Tryz.func62, Tryz.ntmps62
    go_wp2_with (first | (go_at_call 67; refine HM.out.mono ?_; rintro e w' ⟨rfl, rfl⟩))
    go_ret
    exact ⟨rfl, rfl⟩
  · go_enter Tryz.func62, Tryz.ntmps62
    go_wp2_with (first | (go_at_call 67; refine HM.out.mono ?_; rintro e w' ⟨rfl, rfl⟩))
    go_ret
    exact ⟨rfl, rfl⟩
theorem lspoil_any (w : World) (q : Nat) (sp : Bool) (c6 : w.cell? ⟨q, 6, none⟩ = some (.bool sp)) (f6 : w.frozen? ⟨q, 6, none⟩ = false) (er : Int) :
    Calls Tryz.prog 64 #[.pointer (some ⟨q, 0, none⟩), .int .i64 er] w fun e w' => e = .returned (.int .i64 er) ∧ w.setCell ⟨q, 6, none⟩ (.bool true) = w' := by
  go_enter Tryz.func64, Tryz.ntmps64
  go_wp2
  go_ret
  exact ⟨rfl, rfl⟩
theorem W.Ok.ne {L : W.LG} (h : W.Ok L) : L.nm ≠ [] := fun e => by have := (W.isNm_iff.1 h.nm).2.1; rw [e] at this; simp at this
theorem W.Ok.le {L : W.LG} (h : W.Ok L) : L.nm.length ≤ 20 := (W.isNm_iff.1 h.nm).2.2
theorem seg_size (l : List UInt8) (f : Int) : (ByteArray.mk (W.seg l f).toArray).size ≤ maxLen := by
  have := W.seg_len l f
  unfold maxLen
  simp [ByteArray.size]
  omega

set_option maxHeartbeats 1600000 in
set_option maxRecDepth 20000 in
theorem clean_any {S : Nat → Prop} {w : World} {p q : Nat} {d : K.DK} {L : W.LG} (h : LD S w p q d L) (T : Tv w) (hG : ¬ S 0) :
    Calls Tryz.prog 71 #[.pointer (some ⟨q, 0, none⟩)] w fun e w' => e = .returned (.int .i64 (W.clean d L).1) ∧ LT S w p q (W.clean d L).2.1 (W.clean d L).2.2 w' := by
  have HH := hid h
  obtain ⟨h1, Sd, Sl, h2, h3, h4, h5, h6⟩ := h
  obtain ⟨g1, ok, c, sa, sc, sl, hcs, hm⟩ := h6
  have H6 := hid (show Lk Sl w q p L from ⟨g1, ok, c, sa, sc, sl, hcs, hm⟩)
  obtain ⟨k0, k1, k2, k3, k4, k5, k6⟩ := hm.k
  by_cases hd : L.dirty = true
  · obtain ⟨s, hs⟩ : ∃ s, L.segs.getLast? = some s := by
      cases e : L.segs.getLast? with
      | none => exact absurd (List.getLast?_eq_none_iff.1 e) (ok.di hd)
      | some s => exact ⟨s, rfl⟩
    obtain ⟨g, fo, m, rfl, hml, hmg, hpos, e1, e2⟩ := hm.last hs
    have hsm := List.mem_of_getLast? hs
    have hf := ok.fs s hsm
    rw [hd] at k5
    obtain ⟨fi, hfi⟩ : ∃ fi, s.first = fi := ⟨_, rfl⟩
    rw [hfi] at e1 hf
    obtain ⟨n, hn⟩ : ∃ n, sl.length = n := ⟨_, rfl⟩
    rw [hn] at e1 e2 k2 hpos
    have hmx : n ≤ maxLen := by have := hm.row.le.2; omega
    obtain ⟨n1, hn1⟩ : ∃ n1, n - 1 = n1 := ⟨_, rfl⟩
    rw [hn1] at e1 e2
    have i0 : (0 : Int) ≤ (n1 : Int) := by omega
    have i1 : (n1 : Int) < (n : Int) := by omega
    have hw1 : IntKind.i64.wrap ((n : Int) - 1) = (n1 : Int) := by unfold maxLen at hmx; rw [IntKind.wrap_i64]; omega
    have hql : q < w.heap.size := lt_of_row hm.at_
    have hqn : q ≠ w.heap.size := by omega
    have hSq : Sl q := hcs q (by rw [hm.cq]; simp)
    obtain ⟨nf, hnf⟩ : ∃ nf, W.seg L.nm fi = nf := ⟨_, rfl⟩
    have KF := hid (fun W (hW : Fr (fun _ => False) w W) => file_any W q L.nm ok.le (cell_fr hW (fun h => h) k1) fi (by omega) (by omega) (T.kept hW (fun h => h)))
    have KS0 : ∀ W, Fr (fun _ => False) w W → Calls Tryz.prog 96 #[.pointer (some ⟨p, 0, none⟩), encStr nf] W fun e w' => e = .returned (.int .i64 (K.syn d nf).1) ∧ Td Sd W p (K.syn d nf).2 w' := fun W hW => by
      have := sync_any (h5.kept hW (fun _ _ h => h)) ⟨nf.toArray⟩ (by rw [← hnf]; exact seg_size _ _)
      simpa using this
    have KS := hid KS0
    rw [hnf] at KF
    have EC := hid (show W.clean d L = if (K.syn d nf).1 ≠ 0 then ((K.syn d nf).1, (K.syn d nf).2, L) else (0, (K.syn d nf).2, { L with dirty := false }) from by
      unfold W.clean
      rw [if_pos hd, hs]
      simp only [W.LG.file, hfi, hnf])
    have HE := hid (And.intro h1 (And.intro h2 (And.intro h3 h4)))
    have HM := hid hm
    have HCS := hid hcs
    have HOK := hid ok
    have NSd : ¬ Sd q := fun e => h4 q e hSq
    have NSB : ¬ Sd w.heap.size := fun e => by have := h5.1 _ e; omega
    have HNS := hid (And.intro NSd NSB)
    have HD := hid hd
    obtain ⟨R, hR⟩ : ∃ R, K.syn d nf = R := ⟨_, rfl⟩
    rw [hR] at EC KS
    clear h1 h2 h3 h4 h5 g1 hm hcs ok hsm hs hmg hml hn hmx hpos hn1 hql hSq hnf KS0 NSd NSB hd hfi hR k1 k3 k4 k6 T hG
    go_enter Tryz.func71, Tryz.ntmps71
    go_wp2
    go_region_held3 (fun w' => w'.cell? ⟨q, 2, none⟩ = some (.slice (some ⟨g, fo, none⟩) n sc) ∧ w'.cell? ⟨g, fo + n1 * 2, none⟩ = some (.int .i64 fi) ∧ w'.cell? ⟨g, fo + n1 * 2 + 1, none⟩ = some (.slice m.ra m.rl.length m.rc)) (refine ⟨cell_fr (w := w) (S := fun _ => False) ?_ (fun h => h) k2, cell_fr (w := w) (S := fun _ => False) ?_ (fun h => h) e1, cell_fr (w := w) (S := fun _ => False) ?_ (fun h => h) e2⟩ <;> (repeat' (first | exact Fr.refl _ _ | exact Fr.drewN _ _ | refine Fr.drew ?_ | refine Fr.alloc ?_ _ | refine Fr.setCell ?_ (fun h => by first | omega | (simp at h; done) | (simp at h; omega)) _))) (fail)
    obtain ⟨w1, hw1'⟩ : ∃ w1, w1 = (w.alloc (.cells #[.int .i64 fi, .slice m.ra m.rl.length m.rc] 112)).drew := ⟨_, rfl⟩
    rw [← hw1']
    have f1 : Fr (fun _ => False) w w1 := by rw [hw1']; exact Fr.drew (Fr.alloc (Fr.refl _ _) _)
    have b0 : w1.cell? ⟨w.heap.size, 0, none⟩ = some (.int .i64 fi) := by rw [hw1']; exact cell_of (w := (w.alloc (.cells #[.int .i64 fi, .slice m.ra m.rl.length m.rc] 112)).drew) (Go.heap_alloc_new w _) rfl
    have k01 := cell_fr f1 (fun h => h) k0
    have F1 := hid f1
    obtain ⟨bx, hbx⟩ : ∃ bx, bx = w.heap.size := ⟨_, rfl⟩
    rw [← hbx] at b0 HNS ⊢
    have HK := hid (fun W (hW : Fr (fun _ => False) w1 W) => And.intro (cell_fr hW (fun h => h) k01) (cell_fr hW (fun h => h) b0))
    have HBX := hid hbx
    clear hw1' f1 e1 e2 k2 hw1 i0 i1 k0 k5 hbx
    go_wp2
    go_region_held3 (fun w' => w'.cell? ⟨q, 0, none⟩ = some (.pointer (some ⟨p, 0, none⟩)) ∧ w'.cell? ⟨bx, 0, none⟩ = some (.int .i64 fi)) (first | go_keep | exact ⟨s1, s2⟩)
      (first
        | (go_at_call 73; refine (KF.out _ (F1.out.trans (by first | exact Fr.refl _ _ | exact Fr.drew (Fr.refl _ _) | exact Fr.drewN _ _) (fun _ _ h => h))).mono ?_; rintro e w2 ⟨rfl, hf2⟩; have f2 : Fr (fun _ => False) w1 w2 := (by first | exact hf2 | exact (Fr.drew (Fr.refl _ _)).trans hf2 (fun _ _ h => h) | exact (Fr.drewN _ _).trans hf2 (fun _ _ h => h)); obtain ⟨s1, s2⟩ := HK.out w2 f2; have F2 := hid f2; clear f2 hf2)
        | (go_at_call 96; refine (KS.out _ (F1.out.trans (by first | exact F2.out | exact Fr.drew F2.out | exact F2.out.trans (Fr.drewN _ _) (fun _ _ h => h)) (fun _ _ h => h))).mono ?_; rintro e w3 ⟨rfl, ht3⟩; have s1 := cell_fr ht3.2 HNS.out.1 s1; have s2 := cell_fr ht3.2 HNS.out.2 s2; have HT3 := hid (ht3.pre' (F1.out.trans (by first | exact F2.out | exact Fr.drew F2.out | exact F2.out.trans (Fr.drewN _ _) (fun _ _ h => h)) (fun _ _ h => h))); clear ht3))
    obtain ⟨x1, x2, x3, x4⟩ := HE.out
    have hm3 := HM.out.kept HT3.out.2 (fun k hk e => x4 k e (HCS.out k hk))
    have c5 := hm3.k.2.2.2.2.2.1
    have f5 := frozen_of_row (j := 5) hm3.at_
    by_cases hz : R.1 = 0
    · rw [hz]
      have E2 := hid (show W.clean d L = (0, R.2, { L with dirty := false }) from by rw [EC.out, if_neg (by simp [hz])])
      have hlk := hm3.lk (w' := w3.setCell ⟨q, 5, none⟩ (.bool false)) (L' := { L with dirty := false }) (S := Sl) (fun k hk => Nat.lt_of_lt_of_le (H6.out.1 k hk) HT3.out.2.size) HCS.out (Fr.setCell (p := ⟨q, 5, none⟩) (S := fun k => k = q) (Fr.refl _ _) (fun _ => rfl) _) (by rw [setCell_row hm3.at_]; rfl) rfl ⟨HOK.out.nm, HOK.out.n0, HOK.out.n1, HOK.out.fs, fun e => by simp at e⟩
      have HLT := hid (LD.both x1 x2 x3 x4 HT3.out hlk.2 hlk.1)
      clear hlk hm3 x1 x2 x3 x4 hz
      go_wp2
      go_ret
      rw [E2.out]
      exact ⟨rfl, HLT.out⟩
    · have E2 := hid (show W.clean d L = (R.1, R.2, L) from by rw [EC.out, if_pos hz])
      have hb : (R.1 == 0) = false := by simpa using hz
      have HLT := hid (LD.disk x1 x2 x3 x4 H6.out HT3.out)
      clear hm3 x1 x2 x3 x4 hz
      go_wp2
      go_ret
      rw [E2.out]
      exact ⟨rfl, HLT.out⟩
  · have hd' : L.dirty = false := by simpa using hd
    rw [hd'] at k5
    have E2 := hid (show W.clean d L = (0, d, L) from by unfold W.clean; rw [if_neg hd])
    clear hd hd' h1 h2 h3 h4 h5 g1 hm hcs ok
    go_enter Tryz.func71, Tryz.ntmps71
    go_wp2
    go_ret
    rw [E2.out]
    exact ⟨rfl, LT.refl HH.out (Fr.refl _ _)⟩

end Go.Proofs.YtgplkjfkafnpoaaGreatDoor

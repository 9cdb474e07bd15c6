/-
  The document's disk: put, where there is no such file; put.
-/
import Derived.Test.YtogdjhhabcejgaaGreatMg41
namespace Go.Proofs.YtogdjhhabcejgaaGreat
open Go.RowKit Go.Maps
set_option linter.unusedVariables false

/-- a new file -/
def RM.new (n : K.Nm) : RM := ⟨n, none, 0, [], 0⟩
theorem Fs.one (w : World) (s : ByteArray) (t : TypeId) : Fs (w.alloc (.cells #[.string s, .slice none 0 0, .int .i64 0] t)) (some ⟨w.heap.size, 0, none⟩) 1 [RM.new s.data.toList] := by
  refine ⟨rfl, .inr ⟨_, rfl, fun j u hu => ?_⟩⟩
  simp only [rcs, RM.new, RM.cs, List.flatMap_cons, List.flatMap_nil, List.append_nil] at hu
  match j, hu with
  | 0, hu => simp at hu; subst hu; simp [Addr.add]
  | 1, hu => simp at hu; subst hu; simp [Addr.add]
  | 2, hu => simp at hu; subst hu; simp [Addr.add]
namespace K
theorem ok_put_nil {d : DK} (h : Ok d) (n : Nm) {bs : List UInt8} (hg : get n d.fs = none) (hok : Ok { d with fs := put n ⟨[], bs⟩ d.fs }) : Ok { d with fs := put n ⟨[], []⟩ d.fs } := by
  have t1 := tot_put F.len h.up n (⟨[], bs⟩ : F)
  have t2 := tot_put F.len h.up n (⟨[], []⟩ : F)
  have l1 := length_put h.up n (⟨[], bs⟩ : F)
  have l2 := length_put h.up n (⟨[], []⟩ : F)
  have e1 : (⟨[], bs⟩ : F).len = bs.length := by simp [F.len]
  have e2 : (⟨[], []⟩ : F).len = 0 := by simp [F.len]
  have u1 := hok.ur
  have u2 := hok.uc
  have u3 := hok.files
  unfold DK.used at u1 u2
  simp only at u1 u2 u3
  rw [hg] at t1 t2 l1 l2
  simp only at t1 t2
  refine ok_fs h (h.up.put n _) (by omega) (fun p hp => ?_) (by omega) (by omega)
  rcases mem_put.1 hp with rfl | ⟨h1, _⟩
  · exact hok.names (n, ⟨[], bs⟩) (mem_put.2 (.inl rfl))
  · exact h.names p h1
end K
theorem RM.new_kf (n : K.Nm) : (RM.new n).kf = (n, ⟨[], []⟩) := by simp [RM.new, RM.kf, RM.f]
theorem map_kf_new {l : List RM} {fs : List (K.Nm × K.F)} (h : l.map RM.kf = fs) (i : Nat) (n : K.Nm) : (l.take i ++ [RM.new n] ++ l.drop i).map RM.kf = fs.take i ++ (n, ⟨[], []⟩) :: fs.drop i := by
  rw [← h, List.map_append, List.map_append, List.map_take, List.map_drop]
  simp [RM.new_kf]

set_option maxHeartbeats 3200000 in
set_option maxRecDepth 20000 in
theorem rput_none {S : Nat → Prop} {w : World} {p : Nat} {d : K.DK} (h : Rk S w p d) (s : ByteArray) (ba : Option Addr) (bm bc : Nat) (bs : List UInt8) (hb : Sl w ba bm bs) (hbp : 0 < bm → ∀ k, blk ba = some k → k ≠ p) (hg : K.get s.data.toList d.fs = none) (hbd : bm ≤ K.cap) (hok : K.Ok { d with fs := K.put s.data.toList (K.add none bs) d.fs }) :
    Calls Tryz.prog 50 #[.pointer (some ⟨p, 0, none⟩), .string s, .slice ba bm bc] w fun e w' => (∃ v, e = .returned v) ∧ Rt S w p { d with fs := K.put s.data.toList (K.add none bs) d.fs } w' ∧ ∀ v, w.cell? ⟨p, 3, none⟩ = some v → w'.cell? ⟨p, 3, none⟩ = some v := by
  have KF := hid (rfind_any h s)
  obtain ⟨fa, fc, l, kp, hx⟩ := h.rx
  clear h
  unfold rfnd at KF
  rw [hg] at KF
  simp only [Option.isSome_none] at KF
  have HOK := hid hok
  have HOK1 := hid (K.ok_put_nil hx.ok _ hg hok)
  have efs : (l.take (K.pos d.fs s.data.toList) ++ [RM.new s.data.toList] ++ l.drop (K.pos d.fs s.data.toList)).map RM.kf = K.put s.data.toList ⟨[], []⟩ d.fs := by rw [map_kf_new hx.rm.fs, K.put_at hx.ok.up hg]
  have HE := hid efs
  have hle := K.pos_le d.fs s.data.toList
  rw [← hx.rm.len] at hle
  have hfiles := hx.ok.files
  rw [← hx.rm.len] at hfiles
  have HU := hid hx.ok.up
  have HG := hid hg
  obtain ⟨ps, hps⟩ : ∃ ps, K.pos d.fs s.data.toList = ps := ⟨_, rfl⟩
  rw [hps] at KF HE hle
  have HPS := hid hps
  have c1 := hx.rm.c.2.1
  have z1 := frozen_of_row (j := 1) hx.rm.at_
  obtain ⟨ln, hln⟩ : ∃ ln, l.length = ln := ⟨_, rfl⟩
  have HLN := hid hln
  have hrb : Rb 0 w fa fc l := hx.rm.row
  have hfc := hrb.le
  rw [hln] at c1 hle hfiles hfc
  have HX := hid hx
  have HB := hid hb
  have HNB := hid hbp
  have cu1 := fun W => run_cutF_hi W fa ln fc ps (by omega)
  have cu2 := fun W => run_cutF_lo W fa ln fc ps (by omega) (ps : Int) rfl
  have HS1 := hid (fun (W : World) (hf : Fr (fun _ => False) w W) => ((Rw.fs hx.rm.row).take ps (by rw [hln]; omega)).kept hf)
  have HS2 := hid (fun (W : World) (hf : Fr (fun _ => False) w W) => ((Rw.fs hx.rm.row).drop hrb.le ps (by rw [hln]; omega) hrb.spot).kept hf)
  rw [hln] at HS2
  clear hx hg efs hps hln hrb hok hb hbp
  go_enter Tryz.func50, Tryz.ntmps50
  go_wp2_with (first
    | (go_at_call 48; refine KF.out.mono ?_; rintro e w1 ⟨rfl, n1, hw1⟩; have f1 : Fr (fun _ => False) w w1 := hw1 ▸ Fr.drewN _ _; have F1 := hid f1; replace c1 := cell_fr f1 (fun h => h) c1; have hz1 := f1.size; clear hw1 f1)
    | (at_builtin; refine wpList_append_f _ rfl (.const (.slice none 0 0)) (.tmp 22) rfl w.heap.size none 0 0 [] rfl rfl (Rb.nil _ _) fa ps fc (l.take ps) rfl (HS1.out _ F1.out) (by omega) hz1 ?_; intro oa oc w2 hr2 hg2; have f2 : Fr (fun _ => False) w1 w2 := (Fr.of_grown hg2).mono (fun i _ e => by simp [blk] at e); have F2 := hid (F1.out.trans f2 (fun _ _ h => h)); have HR2 : Hid (Rb w.heap.size w2 oa oc (l.take ps)) := hid (by simpa using hr2); replace c1 := cell_fr f2 (fun h => h) c1; have hz2 : w.heap.size ≤ w2.heap.size := F2.out.size; clear hr2 hg2 f2)
    | (at_builtin; refine wpList_append_f _ rfl (.tmp 24) (.tmp 27) rfl w.heap.size oa ps oc (l.take ps) rfl (by rw [List.length_take, HLN.out]; omega) (HR2.out.kept (S := fun _ => False) (Fr.alloc (Fr.refl _ _) _) (fun _ _ h => h)) (some ⟨w2.heap.size, 0, none⟩) 1 1 [RM.new s.data.toList] rfl (Fs.one w2 s _) (by omega) (by simp; omega) ?_; intro ra rc w3 hr3 hg3; have f3 : Fr (fun _ => False) w w3 := (Fr.alloc F2.out _).trans (Fr.of_grown hg3) (fun i hi e => by have := (HR2.out.bk i e).1; omega); have F3 := hid f3; have HR3 := hid hr3; have c3 : w3.cell? ⟨p, 1, none⟩ = some (.slice fa ln fc) := cell_of (f3.cells HX.out.rm.at_ (fun h => h)) (by simp [HLN.out]); have hz3 : w.heap.size ≤ w3.heap.size := f3.size; clear hr3 hg3 f3)
    | (at_builtin; refine wpList_append_f _ rfl (.tmp 30) (.tmp 36) rfl w.heap.size ra (ps + 1) rc (l.take ps ++ [RM.new s.data.toList]) rfl (by rw [List.length_append, List.length_take, HLN.out]; simp; omega) HR3.out (cutF fa fc ps) (ln - ps) (fc - ps) (l.drop ps) rfl (HS2.out _ F3.out) (by omega) hz3 ?_; intro va vc w4 hr4 hg4; have f4 : Fr (fun _ => False) w w4 := F3.out.trans (Fr.of_grown hg4) (fun i hi e => by have := (HR3.out.bk i e).1; omega); have F4 := hid f4; have HR4 := hid hr4; have c4 : w4.cell? ⟨p, 1, none⟩ = some (.slice fa ln fc) := cell_of (f4.cells HX.out.rm.at_ (fun h => h)) (by simp [HLN.out]); have z4 := frozen_of_row (j := 1) (f4.cells HX.out.rm.at_ (fun h => h)); clear hr4 hg4 f4))
  have hlen : (l.take ps ++ [RM.new s.data.toList] ++ l.drop ps).length = ps + 1 + (ln - ps) := by rw [List.length_append, List.length_append, List.length_take, List.length_drop, HLN.out]; simp; omega
  have hlm : (l.take ps ++ [RM.new s.data.toList] ++ l.drop ps)[ps]? = some (RM.new s.data.toList) := by
    rw [List.append_assoc, List.getElem?_append_right (by rw [List.length_take, HLN.out]; omega), List.length_take, HLN.out, Nat.min_eq_left hle, Nat.sub_self]
    rfl
  have hok1 := HOK1.out
  rw [← HE.out] at hok1
  have hnr := HX.out.newRow F4.out HR4.out (Nat.le_refl _) (fun m hm => by
    rcases List.mem_append.1 hm with hm | hm
    · rcases List.mem_append.1 hm with hm | hm
      · exact .inr ⟨m, List.mem_of_mem_take hm, rfl, rfl, rfl, rfl⟩
      · simp at hm; subst hm; exact .inl ⟨rfl, rfl⟩
    · exact .inr ⟨m, List.mem_of_mem_drop hm, rfl, rfl, rfl, rfl⟩) hok1
  have efs2 : ((l.take ps ++ [RM.new s.data.toList] ++ l.drop ps).map RM.kf).set ps ((RM.new s.data.toList).nm, ⟨(RM.new s.data.toList).f.sf, (RM.new s.data.toList).f.tl ++ bs⟩) = K.put s.data.toList (K.add none bs) d.fs := by
    have hpl : ps ≤ d.fs.length := by rw [← HX.out.rm.len, HLN.out]; exact hle
    rw [map_kf_new HX.out.rm.fs, K.put_at HU.out HG.out, HPS.out, List.set_append_right _ _ (by rw [List.length_take]; omega), List.length_take, Nat.min_eq_left hpl, Nat.sub_self]
    simp [RM.new, RM.f, K.add]
  rw [hlen] at hnr
  obtain ⟨W, hW⟩ : ∃ W, w4.setCell ⟨p, 1, none⟩ (.slice va (ps + 1 + (ln - ps)) vc) = W := ⟨_, rfl⟩
  rw [hW] at hnr ⊢
  obtain ⟨hx1, hfS⟩ := hnr
  have hb1 : Sl W ba bm bs := hW ▸ (HB.out.kept F4.out (fun _ _ _ h => h)).kept (Fr.setCell (p := ⟨p, 1, none⟩) (S := fun k => k = p) (Fr.refl _ w4) (fun _ => rfl) _) (fun hz k hk e => HNB.out hz k hk e)
  obtain ⟨g, hga, q0, q1, q2⟩ := hx1.rm.row.at hlm
  subst hga
  obtain ⟨a1, c5, w5, a2, c2, w6, r1, r2, f5, f6, ho6⟩ := put_rows hx1 hlm ba bm bc bs hb1 (by unfold K.cap at hbd; simp [RM.new]; omega)
  have d1 := hx1.rm.c.2.1
  have z6 := (hx1.kept f6).rm.row.frozen (ps * 3 + 1)
  rw [hlen] at d1
  have d3 := cell_fr f5 (fun h => h) d1
  have d4 := cell_fr f6 (fun h => h) d1
  have q13 := cell_fr f5 (fun h => h) q1
  have q14 := cell_fr f6 (fun h => h) q1
  have hln2 : ((RM.new s.data.toList).b ++ bs).length = (RM.new s.data.toList).b.length + bm := by rw [List.length_append, HB.out.1]
  have hok2 := HOK.out
  rw [← efs2] at hok2
  have hst := Rt.trans ⟨hx1.rk, hfS⟩ (hx1.stored hlm bs hln2 f6 ho6 hok2)
  rw [efs2] at hst
  have HST : Hid (Rt S w p { d with fs := K.put s.data.toList (K.add none bs) d.fs } _) := hid hst
  have hgp : g ≠ p := fun e => hx1.rm.rp (by rw [e]; rfl)
  have HC3 := hid (fun v (hv : w.cell? ⟨p, 3, none⟩ = some v) => cell_fr (Fr.setCell (p := ⟨g, ps * 3 + 1, none⟩) (S := fun k => k = g) (Fr.refl _ w6) (fun _ => rfl) (.slice a2 ((RM.new s.data.toList).b.length + bm) c2)) (fun e => hgp e.symm) (cell_fr f6 (fun h => h) (hx1.rm.c.2.2.2.1.trans (HX.out.rm.c.2.2.2.1.symm.trans hv))))
  clear hst hok2 efs2 hok1 hgp
  have R1 := hid r1
  have R2 := hid r2
  have hi : (ps : Int) < ((ps + 1 + (ln - ps) : Nat) : Int) := by omega
  obtain ⟨lm, hlmm⟩ : ∃ lm, ps + 1 + (ln - ps) = lm := ⟨_, rfl⟩
  rw [hlmm] at d1 d3 d4 hi
  clear r1 r2 hlmm hlen hlm hW hfS hb1 q0 q2 f5 f6 ho6 hln2 hx1 z1 c1 c3 c4 z4 HS1 HS2 HR2 HR3 HR4 F1 F2 F3 hz1 hz2 hz3
  simp only [RM.new, List.length_nil, Nat.zero_add] at q1 q13 q14 R1 R2 HST HC3
  go_region_law (first
      | (rw [if_pos (by rfl)]; refine wp_append_eq (.const (.slice none 0 0)) (.tmp 52) _ rfl _ _ _ rfl rfl R1.out ?_)
      | (rw [if_pos (by rfl)]; refine wp_append_eq (.tmp 53) (.tmp 54) _ rfl _ _ _ rfl rfl R2.out ?_))
  all_goals go_wp2
  all_goals go_end0
  all_goals exact ⟨⟨_, rfl⟩, HST.out, HC3.out⟩
theorem rput_any {S : Nat → Prop} {w : World} {p : Nat} {d : K.DK} (h : Rk S w p d) (s : ByteArray) (ba : Option Addr) (bm bc : Nat) (bs : List UInt8) (hb : Sl w ba bm bs) (hbp : 0 < bm → ∀ k, blk ba = some k → k ≠ p) (hbd : d.used + bm ≤ K.cap) (hok : K.Ok { d with fs := K.put s.data.toList (K.add (K.get s.data.toList d.fs) bs) d.fs }) :
    Calls Tryz.prog 50 #[.pointer (some ⟨p, 0, none⟩), .string s, .slice ba bm bc] w fun e w' => (∃ v, e = .returned v) ∧ Rt S w p { d with fs := K.put s.data.toList (K.add (K.get s.data.toList d.fs) bs) d.fs } w' ∧ ∀ v, w.cell? ⟨p, 3, none⟩ = some v → w'.cell? ⟨p, 3, none⟩ = some v := by
  cases hg : K.get s.data.toList d.fs with
  | none =>
    rw [hg] at hok
    exact rput_none h s ba bm bc bs hb hbp hg (by omega) hok
  | some f =>
    rw [hg] at hok
    exact rput_is h s ba bm bc bs hb hg hbd hok

end Go.Proofs.YtogdjhhabcejgaaGreat

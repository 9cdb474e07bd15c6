/-
  The document's disk: Rename, where it does it.
-/
import Derived.Test.YtogdjhhabcejgaaGreatMg44
namespace Go.Proofs.YtogdjhhabcejgaaGreat
open Go.RowKit Go.Maps
set_option linter.unusedVariables false

/-- a new row is stored into the disk, its files' bytes from wherever -/
theorem Rx.newRow2 {S : Nat → Prop} {w w1 : World} {p : Nat} {fa : Option Addr} {fc : Nat} {l : List RM} {kp : Int} {d : K.DK} (h : Rx S w p fa fc l kp d) (hf : Fr (fun _ => False) w w1) {base : Nat} {a' : Option Addr} {c' : Nat} {l' : List RM} (hr : Rb base w1 a' c' l') (hb : w.heap.size ≤ base)
    (hm : ∀ m ∈ l', (Sl w m.a m.b.length m.b ∧ m.sy ≤ m.b.length ∧ m.b.length ≤ m.c) ∧ (0 < m.b.length → ∀ k, blk m.a = some k → k < w.heap.size ∧ S k ∧ k ≠ p)) (ho : K.Ok { d with fs := l'.map RM.kf }) :
    Rx (Nx S w (w1.setCell ⟨p, 1, none⟩ (.slice a' l'.length c'))) (w1.setCell ⟨p, 1, none⟩ (.slice a' l'.length c')) p a' c' l' kp { d with fs := l'.map RM.kf } ∧ Fr S w (w1.setCell ⟨p, 1, none⟩ (.slice a' l'.length c')) := by
  have hpl := h.rm.lt
  have hf2 : Fr (fun k => k = p) w1 (w1.setCell ⟨p, 1, none⟩ (.slice a' l'.length c')) := Fr.setCell (p := ⟨p, 1, none⟩) (S := fun k => k = p) (Fr.refl _ _) (fun _ => rfl) _
  have hbk := hr.bk
  have hrp : blk a' ≠ some p := fun e => by have := (hbk p e).1; omega
  have hsz := hf.size
  have hin : ∀ m ∈ l', 0 < m.b.length → ∀ k, blk m.a = some k → k < w.heap.size ∧ S k ∧ k ≠ p := fun m hm' => (hm m hm').2
  refine ⟨⟨Nx.lt, ho, ⟨?_, h.rm.kp0, h.rm.kp1, h.rm.kpe, hr.rw.kept hf2 (fun k hk e => hrp (e ▸ hk)), hrp, ?_, ?_, rfl⟩, ⟨.inl h.sp, by rw [setCell_size]; omega⟩, fun k hk => ⟨.inr (by have := (hbk k hk).1; omega), by rw [setCell_size]; exact (hbk k hk).2⟩, fun m hm' hz k hk => ⟨.inl (hin m hm' hz k hk).2.1, by rw [setCell_size]; have := (hin m hm' hz k hk).1; omega⟩⟩, (hf.mono (T := S) (fun _ _ h => h.elim)).trans hf2 (fun i _ e => e ▸ h.sp)⟩
  · rw [setCell_row (hf.cells h.rm.at_ (fun h => h))]; rfl
  · intro m hm'
    have := (hm m hm').1
    exact ⟨(this.1.kept hf (fun _ _ _ h => h)).kept hf2 (fun hz k hk e => (hin m hm' hz k hk).2.2 e), this.2⟩
  · intro m hm' hz k hk
    have := hin m hm' hz k hk
    exact ⟨this.2.2, fun e => by have := (hbk k e).1; omega⟩
theorem K.put_del_any (n : K.Nm) (f : K.F) (l : List (K.Nm × K.F)) : K.put n f (K.del n l) = K.put n f l := by
  unfold K.put
  rw [K.del_none (K.get_none.2 (fun p hp => (K.mem_del.1 hp).2))]
theorem Fs.one2 (w : World) (s : ByteArray) (m : RM) (bl : Nat) (hb : m.b.length = bl) (t : TypeId) : Fs (w.alloc (.cells #[.string s, .slice m.a bl m.c, .int .i64 (m.sy : Nat)] t)) (some ⟨w.heap.size, 0, none⟩) 1 [{ m with nm := s.data.toList }] := by
  subst hb
  refine ⟨rfl, .inr ⟨_, rfl, fun j u hu => ?_⟩⟩
  simp only [rcs, RM.cs, List.flatMap_cons, List.flatMap_nil, List.append_nil] at hu
  match j, hu with
  | 0, hu => simp at hu; subst hu; simp [Addr.add]
  | 1, hu => simp at hu; subst hu; simp [Addr.add]
  | 2, hu => simp at hu; subst hu; simp [Addr.add]
theorem map_kf_mid {l : List RM} {fs : List (K.Nm × K.F)} (h : l.map RM.kf = fs) (i : Nat) (m : RM) : (l.take i ++ [m] ++ l.drop i).map RM.kf = fs.take i ++ m.kf :: fs.drop i := by
  rw [← h, List.map_append, List.map_append, List.map_take, List.map_drop]
  simp

set_option maxHeartbeats 3200000 in
set_option maxRecDepth 20000 in
theorem rren_ok {S : Nat → Prop} {w : World} {p : Nat} {d : K.DK} (h : Rk S w p d) (s t : ByteArray) (hz : s.size ≤ maxLen) (hzt : t.size ≤ maxLen) (h0 : K.fnd2 d s.data.toList t.data.toList = 0) (hb : (K.blow d).1 = false) :
    Calls Tryz.prog 40 #[.pointer (some ⟨p, 0, none⟩), .string s, .string t] w fun e w' => e = .returned (.int .i64 (K.ren d s.data.toList t.data.toList).1) ∧ Rt S w p (K.ren d s.data.toList t.data.toList).2 w' := by
  have HT := hid (fun W b bc hf hb hb1 => rthere2 h s t hz hzt W b bc hf hb hb1)
  obtain ⟨fa, fc, l, kp, hx⟩ := h.rx
  clear h
  rw [rth_ok h0] at HT
  obtain ⟨h1, f, hg⟩ := K.fnd2_ok h0
  rcases K.burn_blow d hx.ok with ⟨_, b2⟩ | ⟨b1, _⟩
  rotate_left
  · rw [hb] at b1; cases b1
  have E1 := hid (show K.ren d s.data.toList t.data.toList = (0, { (K.blow d).2 with fs := K.put t.data.toList f (K.del s.data.toList d.fs) }) by rw [K.ren_yes h1 hg, if_neg (by simp [b2]), b2])
  have HOK := hid (K.ok_ren hx.ok s.data.toList t.data.toList)
  rw [E1.out] at HOK
  obtain ⟨hlt, m, g, hlm, hmem, hnm, hmf, rfl, q0, q1, q2⟩ := hx.rm.file hx.ok.up hg
  obtain ⟨ps, hps⟩ : ∃ ps, K.pos d.fs s.data.toList = ps := ⟨_, rfl⟩
  rw [hps] at HT hlt hlm q0 q1 q2
  have HX := hid hx
  have HBB := hid hb
  have HM := hid (And.intro hmem (And.intro hnm hmf))
  obtain ⟨ln, hln⟩ : ∃ ln, l.length = ln := ⟨_, rfl⟩
  have HLN := hid hln
  rw [hln] at hlt
  have hi : (ps : Int) < (ln : Int) := by omega
  clear hx h0 h1 hg hb b2 hmem hnm hmf hps hln hlm
  go_enter Tryz.func40, Tryz.ntmps40
  go_wp2_with fail
  refine (HT.out _ _ _ (Fr.alloc (Fr.refl _ _) _) (by simp) (by simp)).mono ?_
  rintro e w1 ⟨rfl, hf1⟩
  have f1 : Fr (fun _ => False) w w1 := (Fr.alloc (Fr.refl _ _) _).trans hf1 (fun _ _ h => h)
  have F1 := hid f1
  have KB := hid (rblows_x (HX.out.kept f1))
  rw [HBB.out] at KB
  clear hf1 HT
  replace q0 := cell_fr f1 (fun h => h) q0
  replace q1 := cell_fr f1 (fun h => h) q1
  replace q2 := cell_fr f1 (fun h => h) q2
  clear f1
  go_wp2_with fail
  refine KB.out.mono ?_
  rintro e w2 ⟨rfl, hx2, hf2⟩
  have c1 := hx2.rm.c.2.1
  rw [HLN.out] at c1
  have hgp : g ≠ p := fun e => hx2.rm.rp (by rw [e]; rfl)
  replace q0 := cell_fr hf2 hgp q0
  replace q1 := cell_fr hf2 hgp q1
  replace q2 := cell_fr hf2 hgp q2
  have F2 := hid hf2
  have HX2 := hid hx2
  clear hf2 hx2 KB hgp
  go_wp2_with fail
  obtain ⟨bl, hbl⟩ : ∃ bl, m.b.length = bl := ⟨_, rfl⟩
  have HBL := hid hbl
  obtain ⟨w3, hw3⟩ : ∃ w3, w2.alloc (.cells #[.string ⟨m.nm.toArray⟩, .slice m.a m.b.length m.c, .int .i64 (m.sy : Nat)] 61) = w3 := ⟨_, rfl⟩
  rw [hw3]
  have f3 : Fr (fun _ => False) w2 w3 := hw3 ▸ Fr.alloc (Fr.refl _ _) _
  have v3 : w3.heap[w2.heap.size]? = some (.cells #[.string ⟨m.nm.toArray⟩, .slice m.a bl m.c, .int .i64 (m.sy : Nat)] 61 (0, 0)) := by rw [← hw3, hbl]; exact Array.getElem?_push_size
  have hs3 : w3.heap.size = w2.heap.size + 1 := by rw [← hw3]; simp
  have hx3 := HX2.out.kept f3
  have KD1 := hid (rdrop_any hx3.rk s)
  have F3 := hid f3
  have HV3 := hid v3
  have HS3 := hid hs3
  clear f3 v3 hs3 hx3 hw3 q0 q1 q2 c1 hbl
  refine KD1.out.mono ?_
  rintro e w4 ⟨⟨v4, rfl⟩, ht4, hf4⟩
  have KD2 := hid (rdrop_any ht4.1 t)
  have HT4 := hid ht4
  have F4 := hid hf4
  clear ht4 hf4 KD1
  go_wp2_with fail
  refine KD2.out.mono ?_
  rintro e w5 ⟨⟨v5, rfl⟩, ht5, hf5⟩
  have hpv : w2.heap.size ≠ p := by have := HX2.out.rm.lt; omega
  have v5' := hf5.cells (F4.out.cells HV3.out hpv) hpv
  have z5 := frozen_of_row (j := 0) v5'
  have x5 : w5.cell? ⟨w2.heap.size, 0, none⟩ = some (.string ⟨m.nm.toArray⟩) := cell_of v5' (by simp)
  have HT5 := hid ht5
  have F5 := hid hf5
  have HV5 := hid v5'
  clear ht5 hf5 KD2 v5'
  go_wp2_with fail
  obtain ⟨w6, hw6⟩ : ∃ w6, w5.setCell ⟨w2.heap.size, 0, none⟩ (.string t) = w6 := ⟨_, rfl⟩
  rw [hw6]
  have f6 : Fr (fun k => k = w2.heap.size) w5 w6 := hw6 ▸ Fr.setCell (p := ⟨w2.heap.size, 0, none⟩) (S := fun k => k = w2.heap.size) (Fr.refl _ w5) (fun _ => rfl) _
  have v6 : w6.heap[w2.heap.size]? = some (.cells #[.string t, .slice m.a bl m.c, .int .i64 (m.sy : Nat)] 61 (0, 0)) := by rw [← hw6, setCell_row HV5.out]; rfl
  have rk6 := HT5.out.1.kept f6 (fun k hk e => by
    subst e
    have h3 := HS3.out
    have h4 := HT4.out.2.size
    rcases hk.1 with h | h
    · rcases h.1 with h | h
      · have := HX2.out.lt _ h; omega
      · omega
    · omega)
  have KF := hid (rfind_any rk6 t)
  have F6 := hid f6
  have HV6 := hid v6
  have HK6 := hid rk6
  have HZ65 : Hid (w6.heap.size = w5.heap.size) := hid (by rw [← hw6]; simp)
  clear f6 v6 rk6 hw6 x5 z5
  unfold rfnd at KF
  have hgn : K.get t.data.toList (K.del t.data.toList (K.del s.data.toList (K.blow d).2.fs)) = none := K.get_none.2 (fun p hp => (K.mem_del.1 hp).2)
  rw [hgn] at KF
  simp only [Option.isSome_none] at KF
  have HGN := hid hgn
  clear hgn
  refine KF.out.mono ?_
  rintro e w7 ⟨rfl, n7, hw7⟩
  have f7 : Fr (fun _ => False) w6 w7 := hw7 ▸ Fr.drewN _ _
  have h3 := HS3.out
  have hz4 := HT4.out.2.size
  have hz5 := HT5.out.2.size
  have hz7 := f7.size
  have hz6 := F6.out.size
  have hz67 : w7.heap.size = w5.heap.size := by rw [hw7]; have : w6.heap.size = w5.heap.size := HZ65.out; simpa using this
  have rk7 : Rk (Nx S w2 w5) w7 p _ := (HK6.out.kept f7 (fun _ _ h => h)).mono (T := Nx S w2 w5) (fun k hk => by
    refine ⟨?_, hk.2⟩
    rcases hk.1 with h | h
    · rcases h.1 with h | h
      · exact .inl h
      · exact .inr (by omega)
    · exact .inr (by omega)) (fun k hk => by have := hk.2; omega)
  obtain ⟨fa7, fc7, l7, kp7, hx7⟩ := rk7.rx
  have hle := K.pos_le (K.del t.data.toList (K.del s.data.toList (K.blow d).2.fs)) t.data.toList
  have hfiles := hx7.ok.files
  have hl7 := hx7.rm.len
  simp only at hl7 hfiles
  rw [← hl7] at hle hfiles
  obtain ⟨pq, hpq⟩ : ∃ pq, K.pos (K.del t.data.toList (K.del s.data.toList (K.blow d).2.fs)) t.data.toList = pq := ⟨_, rfl⟩
  rw [hpq] at hle ⊢
  have hmb := HX2.out.rm.by_ m HM.out.1
  have hmx := HX2.out.rm.bx m HM.out.1
  have hms := HX2.out.sb m HM.out.1
  have hlt2 : 0 < m.b.length → ∀ k, blk m.a = some k → k < w2.heap.size := fun hz k hk => HX2.out.lt k (hms hz k hk)
  have hs7 : Sl w7 m.a m.b.length m.b := ((((hmb.1.kept F3.out (fun _ _ _ h => h)).kept F4.out (fun hz k hk e => (hmx hz k hk).1 e)).kept F5.out (fun hz k hk e => (hmx hz k hk).1 e)).kept F6.out (fun hz k hk e => by have := hlt2 hz k hk; omega)).kept f7 (fun _ _ _ h => h)
  have HMM := hid (show (Sl w7 m.a m.b.length m.b ∧ m.sy ≤ m.b.length ∧ m.b.length ≤ m.c) ∧ (0 < m.b.length → ∀ k, blk m.a = some k → k < w7.heap.size ∧ Nx S w2 w5 k ∧ k ≠ p) from ⟨⟨hs7, hmb.2⟩, fun hz k hk => ⟨by have := hlt2 hz k hk; omega, ⟨.inl (hms hz k hk), by have := hlt2 hz k hk; omega⟩, (hmx hz k hk).1⟩⟩)
  have v7 := f7.cells HV6.out (fun h => h)
  have HV7 := hid v7
  have c1 := hx7.rm.c.2.1
  have efs : (l7.take pq ++ [{ m with nm := t.data.toList }] ++ l7.drop pq).map RM.kf = K.put t.data.toList f (K.del s.data.toList d.fs) := by
    rw [map_kf_mid hx7.rm.fs, ← K.put_del_any, ← (K.blow_fs d).1, K.put_at hx7.ok.up HGN.out, hpq]
    have : ({ m with nm := t.data.toList } : RM).kf = (t.data.toList, f) := by unfold RM.kf; rw [← HM.out.2.2]; rfl
    rw [this]
  have HE := hid efs
  obtain ⟨ln7, hln7⟩ : ∃ ln7, l7.length = ln7 := ⟨_, rfl⟩
  have HLN7 := hid hln7
  have hrb : Rb 0 w7 fa7 fc7 l7 := hx7.rm.row
  have hfc := hrb.le
  rw [hln7] at c1 hle hfiles hfc
  have HX7 := hid hx7
  have cu1 := fun W => run_cutF_hi W fa7 ln7 fc7 pq (by omega)
  have cu2 := fun W => run_cutF_lo W fa7 ln7 fc7 pq (by omega) (pq : Int) rfl
  have HS1 := hid ((Rw.fs hx7.rm.row).take pq (by rw [hln7]; omega))
  have HS2 := hid (fun (W : World) (hf : Fr (fun _ => False) w7 W) => ((Rw.fs hx7.rm.row).drop hrb.le pq (by rw [hln7]; omega) hrb.spot).kept hf)
  rw [hln7] at HS2
  have FT := hid (show Fr (Nx S w2 w5) w5 w7 from (F6.out.mono (T := Nx S w2 w5) (fun k _ e => by subst e; exact ⟨.inr (Nat.le_refl _), by omega⟩)).trans (f7.mono (T := Nx S w2 w5) (fun _ _ h => h.elim)) (fun _ _ h => h))
  clear hx7 efs hln7 hrb hs7 hmb hmx hms hlt2 v7 hpq hl7 rk7 f7 hw7 h3 hz4 hz5 hz6 hz7 hz67 KF HK6 HV6 HV5 HV3 hlt hi hpv HBB HX
  go_wp2_with (first
    | (at_builtin; refine wpList_append_f _ rfl (.const (.slice none 0 0)) (.tmp 58) rfl w7.heap.size none 0 0 [] rfl rfl (Rb.nil _ _) fa7 pq fc7 (l7.take pq) rfl HS1.out (by omega) (Nat.le_refl _) ?_; intro oa oc w8 hr8 hg8; have f8 : Fr (fun _ => False) w7 w8 := (Fr.of_grown hg8).mono (fun i _ e => by simp [blk] at e); have F8 := hid f8; have HR8 : Hid (Rb w7.heap.size w8 oa oc (l7.take pq)) := hid (by simpa using hr8); replace c1 := cell_fr f8 (fun h => h) c1; have hz8 : w7.heap.size ≤ w8.heap.size := F8.out.size; have v8 := f8.cells HV7.out (fun h => h); have y0 : w8.cell? ⟨w2.heap.size, 0, none⟩ = some (.string t) := cell_of v8 (by simp); have y1 : w8.cell? ⟨w2.heap.size, 1, none⟩ = some (.slice m.a bl m.c) := cell_of v8 (by simp); have y2 : w8.cell? ⟨w2.heap.size, 2, none⟩ = some (.int .i64 (m.sy : Nat)) := cell_of v8 (by simp); clear hr8 hg8 f8 v8)
    | (at_builtin; refine wpList_append_f _ rfl (.tmp 60) (.tmp 62) rfl w7.heap.size oa pq oc (l7.take pq) rfl (by rw [List.length_take, HLN7.out]; omega) (HR8.out.kept (S := fun _ => False) (Fr.alloc (Fr.refl _ _) _) (fun _ _ h => h)) (some ⟨w8.heap.size, 0, none⟩) 1 1 [{ m with nm := t.data.toList }] rfl (Fs.one2 w8 t m bl HBL.out _) (by omega) (by simp; omega) ?_; intro ra rc w9 hr9 hg9; have f9 : Fr (fun _ => False) w7 w9 := (Fr.alloc F8.out _).trans (Fr.of_grown hg9) (fun i hi e => by have := (HR8.out.bk i e).1; omega); have F9 := hid f9; have HR9 := hid hr9; have c3 : w9.cell? ⟨p, 1, none⟩ = some (.slice fa7 ln7 fc7) := cell_of (f9.cells HX7.out.rm.at_ (fun h => h)) (by simp [HLN7.out]); have hz9 : w7.heap.size ≤ w9.heap.size := f9.size; clear hr9 hg9 f9)
    | (at_builtin; refine wpList_append_f _ rfl (.tmp 65) (.tmp 71) rfl w7.heap.size ra (pq + 1) rc (l7.take pq ++ [{ m with nm := t.data.toList }]) rfl (by rw [List.length_append, List.length_take, HLN7.out]; simp; omega) HR9.out (cutF fa7 fc7 pq) (ln7 - pq) (fc7 - pq) (l7.drop pq) rfl (HS2.out _ F9.out) (by omega) hz9 ?_; intro va vc wa hra hga; have fa' : Fr (fun _ => False) w7 wa := F9.out.trans (Fr.of_grown hga) (fun i hi e => by have := (HR9.out.bk i e).1; omega); have FA := hid fa'; have HRA := hid hra; have ca : wa.cell? ⟨p, 1, none⟩ = some (.slice fa7 ln7 fc7) := cell_of (fa'.cells HX7.out.rm.at_ (fun h => h)) (by simp [HLN7.out]); have za := frozen_of_row (j := 1) (fa'.cells HX7.out.rm.at_ (fun h => h)); clear hra hga fa'))
  go_ret
  have hlen : (l7.take pq ++ [{ m with nm := t.data.toList }] ++ l7.drop pq).length = pq + 1 + (ln7 - pq) := by rw [List.length_append, List.length_append, List.length_take, List.length_drop, HLN7.out]; simp; omega
  have hok1 := HOK.out
  rw [← HE.out] at hok1
  have hnr := HX7.out.newRow2 FA.out HRA.out (Nat.le_refl _) (fun m0 hm0 => by
    have hold : m0 ∈ l7 → (Sl w7 m0.a m0.b.length m0.b ∧ m0.sy ≤ m0.b.length ∧ m0.b.length ≤ m0.c) ∧ (0 < m0.b.length → ∀ (k : Nat), blk m0.a = some k → k < w7.heap.size ∧ Nx S w2 w5 k ∧ k ≠ p) := fun hm => ⟨HX7.out.rm.by_ m0 hm, fun hz k hk => ⟨HX7.out.lt k (HX7.out.sb m0 hm hz k hk), HX7.out.sb m0 hm hz k hk, (HX7.out.rm.bx m0 hm hz k hk).1⟩⟩
    rcases List.mem_append.1 hm0 with hm | hm
    · rcases List.mem_append.1 hm with hm | hm
      · exact hold (List.mem_of_mem_take hm)
      · simp at hm; subst hm; exact HMM.out
    · exact hold (List.mem_of_mem_drop hm)) hok1
  rw [hlen, HE.out] at hnr
  rw [E1.out]
  refine ⟨rfl, ?_⟩
  have r7 : Rt (Nx S w2 w5) w7 p _ _ := ⟨hnr.1.rk, hnr.2⟩
  have r5 := Rt.pre F3.out (HT4.out.trans HT5.out)
  have rr := r5.trans (Rt.preS FT.out r7)
  exact Rt.preS ((F1.out.mono (fun _ _ h => h.elim)).trans (F2.out.mono (T := S) (fun i _ e => e ▸ HX2.out.sp)) (fun _ _ h => h)) rr
theorem rren_any {S : Nat → Prop} {w : World} {p : Nat} {d : K.DK} (h : Rk S w p d) (s t : ByteArray) (hz : s.size ≤ maxLen) (hzt : t.size ≤ maxLen) :
    Calls Tryz.prog 40 #[.pointer (some ⟨p, 0, none⟩), .string s, .string t] w fun e w' => e = .returned (.int .i64 (K.ren d s.data.toList t.data.toList).1) ∧ Rt S w p (K.ren d s.data.toList t.data.toList).2 w' := by
  by_cases h0 : K.fnd2 d s.data.toList t.data.toList = 0
  · cases hb : (K.blow d).1 with
    | true => exact rren_blown h s t hz hzt h0 hb
    | false => exact rren_ok h s t hz hzt h0 hb
  · exact rren_no h s t hz hzt h0

end Go.Proofs.YtogdjhhabcejgaaGreat

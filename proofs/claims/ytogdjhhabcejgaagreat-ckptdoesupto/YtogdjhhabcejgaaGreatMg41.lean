/-
  The document's disk: Remove.
  The document's disk: put.
-/
import Derived.Test.YtogdjhhabcejgaaGreatRDropQ
import Derived.Deep.RegionLaw
namespace Go.Proofs.YtogdjhhabcejgaaGreat
open Go.RowKit Go.Maps
set_option linter.unusedVariables false

set_option maxHeartbeats 1600000 in
theorem rremove_any {S : Nat → Prop} {w : World} {p : Nat} {d : K.DK} (h : Rk S w p d) (s : ByteArray) (hz : s.size ≤ maxLen) :
    Calls Tryz.prog 73 #[.pointer (some ⟨p, 0, none⟩), .string s] w fun e w' => e = .returned (.int .i64 (K.rem d s.data.toList).1) ∧ Rt S w p (K.rem d s.data.toList).2 w' := by
  have HT := hid (fun W b bc hf hb => rthere1 h s hz W b bc hf hb)
  have HK := hid h
  obtain ⟨fa, fc, l, kp, hx⟩ := h.rx
  clear h
  obtain ⟨n, hn⟩ : ∃ n, s.data.toList = n := ⟨_, rfl⟩
  have HN := hid hn
  rw [hn] at HT ⊢
  clear hn
  by_cases h0 : K.fnd d n = 0
  · have hdn := K.fnd_down h0
    rw [h0] at HT
    obtain ⟨ps, hps⟩ : ∃ ps, K.pos d.fs n = ps := ⟨_, rfl⟩
    have HT2 : Hid (∀ (W : World) (b bc : Nat), Fr (fun _ => False) w W → W.cell? ⟨b, 0, none⟩ = some (.string s) → Calls Tryz.prog 74 #[.pointer (some ⟨p, 0, none⟩), .slice (some ⟨b, 0, none⟩) 1 bc] W fun e w' => e = .returned (.tuple #[.int .i64 (ps : Nat), .int .i64 0]) ∧ Fr (fun _ => False) W w') := hid (fun W b bc hf hb => by
      have := HT.out W b bc hf hb
      rw [rth_ok rfl, hps] at this
      exact this)
    have HX := hid hx
    have H0 := hid h0
    have HDN := hid hdn
    clear hx h0 hdn hps HT
    go_enter Tryz.func73, Tryz.ntmps73
    go_wp2_with fail
    refine (HT2.out _ _ _ (Fr.alloc (Fr.refl _ _) _) (by simp)).mono ?_
    rintro e w1 ⟨rfl, hf1⟩
    have f1 : Fr (fun _ => False) w w1 := (Fr.alloc (Fr.refl _ _) _).trans hf1 (fun _ _ h => h)
    have F1 := hid f1
    have KB := hid (rblows_x (HX.out.kept f1))
    clear hf1 f1 HT2
    go_wp2_with fail
    rcases K.burn_blow d HX.out.ok with ⟨b1, b2⟩ | ⟨b1, b2, b3, b4⟩
    · rw [b1] at KB
      have E1 := hid (show K.rem d n = (0, { (K.blow d).2 with fs := K.del n (K.blow d).2.fs }) by unfold K.rem; rw [if_neg (by simp [H0.out]), if_neg (by simp [b2]), b2, (K.blow_fs d).1])
      clear b1 b2
      refine KB.out.mono ?_
      rintro e w2 ⟨rfl, hx2, hf2⟩
      have KD := hid (rdrop_any hx2.rk s)
      rw [HN.out] at KD
      have F2 := hid hf2
      clear hx2 hf2 KB
      go_wp2_with (first | (go_at_call 75; refine KD.out.mono ?_; rintro e w3 ⟨⟨v, rfl⟩, ht3, _⟩; have HT3 := hid ht3; clear ht3))
      go_ret
      rw [E1.out]
      exact ⟨rfl, Rt.preS ((F1.out.mono (fun _ _ h => h.elim)).trans (F2.out.mono (T := S) (fun i _ e => e ▸ HX.out.sp)) (fun _ _ h => h)) HT3.out⟩
    · rw [b1] at KB
      have E1 := hid (show K.rem d n = (7, K.fall d.keep d) by unfold K.rem; rw [if_neg (by simp [H0.out]), if_pos (by simp [b3]), b3])
      have HKP := hid (HX.out.rm.kpe b2)
      have HB4 := hid b4
      clear b1 b2 b3 b4
      refine KB.out.mono ?_
      rintro e w2 ⟨rfl, hx2, hf2⟩
      obtain ⟨_, _, _, c3, _⟩ := hx2.rm.c
      have KX := rcrash_any hx2.rk kp hx2.rm.kp1
      have eX : K.crash (K.blow d).2 kp = (0, K.fall d.keep d) := by
        unfold K.crash
        rw [if_neg (by have := hx2.rm.kp0; omega), if_neg (by rw [(K.blow_fs d).2.1, HDN.out]; simp), HKP.out, HB4.out]
      rw [eX] at KX
      have HKX := hid KX
      have F2 := hid hf2
      clear hx2 hf2 KX eX KB
      go_wp2_with (first | (go_at_call 22; refine HKX.out.mono ?_; rintro e w3 ⟨rfl, ht3⟩; have HT3 := hid ht3; clear ht3))
      go_ret
      rw [E1.out]
      exact ⟨rfl, Rt.preS ((F1.out.mono (fun _ _ h => h.elim)).trans (F2.out.mono (T := S) (fun i _ e => e ▸ HX.out.sp)) (fun _ _ h => h)) HT3.out⟩
  · have HT2 : Hid (∀ (W : World) (b bc : Nat), Fr (fun _ => False) w W → W.cell? ⟨b, 0, none⟩ = some (.string s) → Calls Tryz.prog 74 #[.pointer (some ⟨p, 0, none⟩), .slice (some ⟨b, 0, none⟩) 1 bc] W fun e w' => e = .returned (.tuple #[.int .i64 0, .int .i64 (K.fnd d n)]) ∧ Fr (fun _ => False) W w') := hid (fun W b bc hf hb => by
      have := HT.out W b bc hf hb
      rw [rth_no h0] at this
      exact this)
    have e : K.rem d n = (K.fnd d n, d) := by unfold K.rem; rw [if_pos h0]
    rw [e]
    obtain ⟨R, hR⟩ : ∃ R, K.fnd d n = R := ⟨_, rfl⟩
    rw [hR] at HT2 h0 ⊢
    have hb0 : (R == 0) = false := by simpa using h0
    clear hx h0 hR HT e
    go_enter Tryz.func73, Tryz.ntmps73
    go_wp2_with fail
    refine (HT2.out _ _ _ (Fr.alloc (Fr.refl _ _) _) (by simp)).mono ?_
    rintro e w1 ⟨rfl, hf1⟩
    have F1 : Hid (Fr (fun _ => False) w w1) := hid ((Fr.alloc (Fr.refl _ _) _).trans hf1 (fun _ _ h => h))
    clear hf1
    go_wp2
    go_ret
    exact ⟨rfl, Rt.refl HK.out F1.out⟩

end Go.Proofs.YtogdjhhabcejgaaGreat

namespace Go.Proofs.YtogdjhhabcejgaaGreat
open Go.RowKit Go.Maps
set_option linter.unusedVariables false

theorem RM.add_f (m : RM) (bs : List UInt8) (hs : m.sy ≤ m.b.length) (a : Option Addr) (c : Nat) : ({ m with a := a, c := c, b := m.b ++ bs } : RM).f = ⟨m.f.sf, m.f.tl ++ bs⟩ := by
  unfold RM.f
  simp only
  rw [List.take_append_of_le_length hs, List.drop_append_of_le_length hs]
/-- an append inside a statement that draws its order, from its run -/
theorem wp_append_eq {o : Oper} {a : Act} {w w' : World} {K : Act → World → Prop} {Q : Exit → Act → World → Prop} (s x : Operand) (ts : Array TypeId) (ho : o.op = .call { callee := .builtin .append, args := #[s, x], argTypes := ts }) (sv xv v : Value) (hs : a.eval s = sv) (hx : a.eval x = xv)
    (hr : (Builtin.append_ ts o.type #[sv, xv]).run Tryz.prog w = .ok v w') (h : K (a.put o.dst v) w') : o.wp Tryz.prog a w K Q := by
  unfold Oper.wp execOp
  simp only [ho, resolve, invoke, builtin, Sem.run_bind, Sem.run_pure, Result.andThen_ok, List.map_toArray, List.map_cons, List.map_nil, hs, hx, hr]
  exact h
/-- what the two appends of put's last statement make, and where they leave all else -/
theorem put_rows {S : Nat → Prop} {w : World} {p g fc : Nat} {l : List RM} {kp : Int} {d : K.DK} (h : Rx S w p (some ⟨g, 0, none⟩) fc l kp d) {i : Nat} {m : RM} (hm : l[i]? = some m) (ba : Option Addr) (bm bc : Nat) (bs : List UInt8) (hb : Sl w ba bm bs) (hbd : m.b.length + bm ≤ 200000000000000) :
    ∃ a1 c1 w3 a2 c2 w4, (Builtin.append_ #[31, 31] 31 #[.slice none 0 0, .slice m.a m.b.length m.c]).run Tryz.prog w.drew = .ok (.slice a1 (0 + m.b.length) c1) w3 ∧
      (Builtin.append_ #[31, 31] 31 #[.slice a1 m.b.length c1, .slice ba bm bc]).run Tryz.prog w3 = .ok (.slice a2 (m.b.length + bm) c2) w4 ∧ Fr (fun _ => False) w w3 ∧ Fr (fun _ => False) w w4 ∧ Ow w.heap.size w4 a2 c2 (m.b ++ bs) := by
  have hmem := List.mem_of_getElem? hm
  have hby := h.rm.by_ m hmem
  have dr : Fr (fun _ => False) w w.drew := Fr.drew (Fr.refl _ _)
  obtain ⟨a1, c1, w3, h1, ho1, hg1, _⟩ := run_append_b w.drew 31 w.heap.size none 0 0 [] rfl (Ow.nil _ _) m.a m.b.length m.c m.b (hby.1.kept dr (fun _ _ _ h => h)) (by omega) (Nat.le_refl _)
  have f3 : Fr (fun _ => False) w w3 := dr.trans (Fr.of_grown hg1) (fun i _ e => by simp [blk] at e)
  rw [List.nil_append] at ho1
  obtain ⟨a2, c2, w4, h2, ho2, hg2, _⟩ := run_append_b w3 31 w.heap.size a1 m.b.length c1 m.b rfl ho1 ba bm bc bs (hb.kept f3 (fun _ _ _ h => h)) (by omega) f3.size
  have f4 : Fr (fun _ => False) w w4 := f3.trans (Fr.of_grown hg2) (fun i hi e => by have := (ho1.lt i e).1; omega)
  exact ⟨a1, c1, w3, a2, c2, w4, h1, h2, f3, f4, ho2⟩
/-- the file's new bytes are stored -/
theorem Rx.stored {S : Nat → Prop} {w w4 : World} {p g fc : Nat} {l : List RM} {kp : Int} {d : K.DK} (h : Rx S w p (some ⟨g, 0, none⟩) fc l kp d) {i : Nat} {m : RM} (hm : l[i]? = some m) (bs : List UInt8) {a2 : Option Addr} {c2 n : Nat} (hn : (m.b ++ bs).length = n) (hf : Fr (fun _ => False) w w4) (ho : Ow w.heap.size w4 a2 c2 (m.b ++ bs))
    (hok : K.Ok { d with fs := d.fs.set i (m.nm, ⟨m.f.sf, m.f.tl ++ bs⟩) }) : Rt S w p { d with fs := d.fs.set i (m.nm, ⟨m.f.sf, m.f.tl ++ bs⟩) } (w4.setCell ⟨g, i * 3 + 1, none⟩ (.slice a2 n c2)) := by
  have hmem := List.mem_of_getElem? hm
  have hby := h.rm.by_ m hmem
  have hgw : g < w.heap.size := h.lt g (h.sr g rfl)
  have hx4 : Rx (Nx S w w4) w4 p (some ⟨g, 0, none⟩) fc l kp d := by
    have := h.kept hf
    exact ⟨Nx.lt, this.ok, this.rm, Nx.of h.lt hf.size p this.sp, fun k hk => Nx.of h.lt hf.size k (this.sr k hk), fun m hm hz k hk => Nx.of h.lt hf.size k (this.sb m hm hz k hk)⟩
  have hf5 : Fr (fun k => k = g) w4 (w4.setCell ⟨g, i * 3 + 1, none⟩ (.slice a2 n c2)) := Fr.setCell (p := ⟨g, i * 3 + 1, none⟩) (S := fun k => k = g) (Fr.refl _ _) (fun _ => rfl) _
  have hr5 : Rw (w4.setCell ⟨g, i * 3 + 1, none⟩ (.slice a2 n c2)) (some ⟨g, 0, none⟩) fc (l.set i { m with a := a2, c := c2, b := m.b ++ bs }) := by
    refine hx4.rm.row.set (by simp) ?_
    have := rcs_set1 (m' := { m with a := a2, c := c2, b := m.b ++ bs }) hm rfl rfl
    rw [← this, ← hn]
  have ekf : ({ m with a := a2, c := c2, b := m.b ++ bs } : RM).kf = (m.nm, ⟨m.f.sf, m.f.tl ++ bs⟩) := by
    unfold RM.kf
    rw [m.add_f bs hby.2.1]
  have hge : ∀ k, blk a2 = some k → w.heap.size ≤ k ∧ k < w4.heap.size := ho.lt
  have hp := h.rm.lt
  have hx5 := hx4.set (i := i) (m' := { m with a := a2, c := c2, b := m.b ++ bs }) hr5 hf5 ⟨ho.sl.kept hf5 (fun _ k hk e => by have := (hge k hk).1; omega), by simp only [List.length_append]; have := hby.2.1; omega, ho.len⟩ (fun hz k hk => ⟨by have := (hge k hk).1; omega, by have := (hge k hk).1; omega, .inr (hge k hk).1, (hge k hk).2⟩) (by rw [ekf]; exact hok)
  rw [ekf] at hx5
  have hfr : Fr S w (w4.setCell ⟨g, i * 3 + 1, none⟩ (.slice a2 n c2)) := (hf.mono (T := S) (fun _ _ h => h.elim)).trans (hf5.mono (T := S) (fun j _ e => e ▸ h.sr g rfl)) (fun _ _ h => h)
  refine ⟨hx5.rk.mono (fun k hk => ⟨hk.1, by rw [setCell_size]; exact hk.2⟩) Nx.lt, hfr⟩

set_option maxHeartbeats 3200000 in
set_option maxRecDepth 20000 in
theorem rput_is {S : Nat → Prop} {w : World} {p : Nat} {d : K.DK} (h : Rk S w p d) (s : ByteArray) (ba : Option Addr) (bm bc : Nat) (bs : List UInt8) (hb : Sl w ba bm bs) {f : K.F} (hg : K.get s.data.toList d.fs = some f) (hbd : d.used + bm ≤ K.cap) (hok : K.Ok { d with fs := K.put s.data.toList (K.add (some f) bs) d.fs }) :
    Calls Tryz.prog 50 #[.pointer (some ⟨p, 0, none⟩), .string s, .slice ba bm bc] w fun e w' => (∃ v, e = .returned v) ∧ Rt S w p { d with fs := K.put s.data.toList (K.add (some f) bs) d.fs } w' ∧ ∀ v, w.cell? ⟨p, 3, none⟩ = some v → w'.cell? ⟨p, 3, none⟩ = some v := by
  have KF := hid (rfind_any h s)
  obtain ⟨fa, fc, l, kp, hx⟩ := h.rx
  clear h
  unfold rfnd at KF
  rw [hg] at KF
  simp only [Option.isSome_some] at KF
  obtain ⟨n, hn⟩ : ∃ n, s.data.toList = n := ⟨_, rfl⟩
  rw [hn] at KF hg hok ⊢
  clear hn
  obtain ⟨hlt, m, g, hlm, hmem, hnm, hmf, rfl, q0, q1, q2⟩ := hx.rm.file hx.ok.up hg
  have hml : m.b.length ≤ d.used := by
    have := K.tot_mem K.F.len (K.get_mem hg)
    simp only at this
    rw [← hmf, m.len] at this
    exact this
  have hfiles := hx.ok.files
  rw [← hx.rm.len] at hfiles
  have efs : d.fs.set (K.pos d.fs n) (m.nm, ⟨m.f.sf, m.f.tl ++ bs⟩) = K.put n (K.add (some f) bs) d.fs := by
    rw [K.put_upd hx.ok.up (K.get_mem hg), K.upd_at hx.ok.up hg, hnm, hmf]
    rfl
  obtain ⟨ps, hps⟩ : ∃ ps, K.pos d.fs n = ps := ⟨_, rfl⟩
  rw [hps] at KF efs hlt hlm q1
  rw [← efs] at hok ⊢
  have HX := hid hx
  have HB := hid hb
  have HLM := hid hlm
  have HOK := hid hok
  obtain ⟨ln, hln⟩ : ∃ ln, l.length = ln := ⟨_, rfl⟩
  have HLN := hid hln
  rw [hln] at hlt hfiles
  have hi : (ps : Int) < (ln : Int) := by omega
  unfold K.cap at hbd
  clear hx hg hb hlm hmem hnm hmf q0 q1 q2 hok efs hps hln
  go_enter Tryz.func50, Tryz.ntmps50
  go_wp2_with fail
  refine KF.out.mono ?_
  rintro e w1 ⟨rfl, n1, hw1⟩
  have f1 : Fr (fun _ => False) w w1 := hw1 ▸ Fr.drewN _ _
  have hx1 := HX.out.kept f1
  obtain ⟨a1, c1, w3, a2, c2, w4, r1, r2, f3, f4, ho4⟩ := put_rows hx1 HLM.out ba bm bc bs (HB.out.kept f1 (fun _ _ _ h => h)) (by omega)
  have d1 := hx1.rm.c.2.1
  obtain ⟨g', hga, q0, q1, q2⟩ := hx1.rm.row.at HLM.out
  simp only [Option.some.injEq, Addr.mk.injEq, and_true] at hga
  subst hga
  have z4 := (hx1.kept f4).rm.row.frozen (ps * 3 + 1)
  rw [HLN.out] at d1
  have d3 := cell_fr f3 (fun h => h) d1
  have d4 := cell_fr f4 (fun h => h) d1
  have q13 := cell_fr f3 (fun h => h) q1
  have q14 := cell_fr f4 (fun h => h) q1
  have hlen : (m.b ++ bs).length = m.b.length + bm := by rw [List.length_append, HB.out.1]
  have HST := hid (Rt.preS (f1.mono (T := S) (fun _ _ h => h.elim)) (hx1.stored HLM.out bs hlen f4 ho4 HOK.out))
  rw [Nat.zero_add] at r1
  obtain ⟨bl, hbl⟩ : ∃ bl, m.b.length = bl := ⟨_, rfl⟩
  rw [hbl] at r1 r2 q1 q13 q14 HST
  obtain ⟨ma, hma⟩ : ∃ ma, m.a = ma := ⟨_, rfl⟩
  obtain ⟨mc, hmc⟩ : ∃ mc, m.c = mc := ⟨_, rfl⟩
  rw [hma, hmc] at r1 q1 q13 q14
  have hgp : g ≠ p := fun e => hx1.rm.rp (by rw [e]; rfl)
  have HC3 := hid (fun v (hv : w.cell? ⟨p, 3, none⟩ = some v) => cell_fr (Fr.setCell (p := ⟨g, ps * 3 + 1, none⟩) (S := fun k => k = g) (Fr.refl _ w4) (fun _ => rfl) (.slice a2 (bl + bm) c2)) (fun e => hgp e.symm) (cell_fr f4 (fun h => h) (cell_fr f1 (fun h => h) hv)))
  clear hx1 f1 f3 f4 ho4 q0 q2 hlen hbl hma hmc hw1 KF HOK hgp
  have R1 := hid r1
  have R2 := hid r2
  clear r1 r2
  go_wp2_with fail
  go_region_law (first
      | (rw [if_pos (by rfl)]; refine wp_append_eq (.const (.slice none 0 0)) (.tmp 52) _ rfl _ _ _ rfl rfl R1.out ?_)
      | (rw [if_pos (by rfl)]; refine wp_append_eq (.tmp 53) (.tmp 54) _ rfl _ _ _ rfl rfl R2.out ?_))
  all_goals go_wp2
  all_goals go_end0
  all_goals exact ⟨⟨_, rfl⟩, HST.out, HC3.out⟩

end Go.Proofs.YtogdjhhabcejgaaGreat

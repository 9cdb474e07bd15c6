/-
  The document's disk: a file's cells stored; Crash.
-/
import Derived.Test.YtogdjhhabcejgaaGreatMg36
namespace Go.Proofs.YtogdjhhabcejgaaGreat
open Go.RowKit Go.Maps
set_option linter.unusedVariables false

theorem rcs_set1 {l : List RM} {i : Nat} {m m' : RM} (h : l[i]? = some m) (hn : m'.nm = m.nm) (hs : m'.sy = m.sy) : (rcs l).set (i * 3 + 1) (.slice m'.a m'.b.length m'.c) = rcs (l.set i m') := by
  induction l generalizing i with
  | nil => simp at h
  | cons x r ih =>
    cases i with
    | zero => simp at h; subst h; simp [rcs, RM.cs, hn, hs]
    | succ i =>
      simp at h
      have := ih h
      simp only [rcs, List.flatMap_cons, List.set_cons_succ] at this ⊢
      rw [← this, List.set_append_right _ _ (by simp [RM.cs]; omega)]
      congr 2
      simp [RM.cs]; omega
theorem rcs_set2 {l : List RM} {i : Nat} {m m' : RM} (h : l[i]? = some m) (hn : m'.nm = m.nm) (ha : m'.a = m.a) (hb : m'.b = m.b) (hc : m'.c = m.c) : (rcs l).set (i * 3 + 2) (.int .i64 (m'.sy : Nat)) = rcs (l.set i m') := by
  induction l generalizing i with
  | nil => simp at h
  | cons x r ih =>
    cases i with
    | zero => simp at h; subst h; simp [rcs, RM.cs, hn, ha, hb, hc]
    | succ i =>
      simp at h
      have := ih h
      simp only [rcs, List.flatMap_cons, List.set_cons_succ] at this ⊢
      rw [← this, List.set_append_right _ _ (by simp [RM.cs]; omega)]
      congr 2
      simp [RM.cs]; omega
/-- one cell of the row is another one -/
theorem Rw.set {w : World} {g fc : Nat} {l l' : List RM} (h : Rw w (some ⟨g, 0, none⟩) fc l) {j : Nat} {v : Value} (hl : l'.length = l.length) (hc : (rcs l).set j v = rcs l') : Rw (w.setCell ⟨g, j, none⟩ v) (some ⟨g, 0, none⟩) fc l' := by
  rcases h.2 with ⟨hv, _⟩ | ⟨g', cap, cur, hv, hb, hg, h1, h2, h3, h4⟩
  · simp at hv
  · simp only [Value.slice.injEq, Option.some.injEq, Addr.mk.injEq] at hv
    obtain ⟨⟨rfl, _⟩, _, rfl⟩ := hv
    refine ⟨rcs_length _, .inr ⟨g, fc, cur.setIfInBounds j v, by rw [hl], hb, setCell_row hg v, by rw [hl]; exact h1, h2, by simpa using h3, ?_⟩⟩
    rw [Array.toList_setIfInBounds, hl, List.take_set, h4, hc]
theorem Rw.frozen {w : World} {g fc : Nat} {l : List RM} (h : Rw w (some ⟨g, 0, none⟩) fc l) (j : Nat) : w.frozen? ⟨g, j, none⟩ = false := by
  rcases h.2 with ⟨hv, _⟩ | ⟨g', cap, cur, hv, hb, hg, _⟩
  · simp at hv
  · simp only [Value.slice.injEq, Option.some.injEq, Addr.mk.injEq] at hv
    obtain ⟨⟨rfl, _⟩, _⟩ := hv
    exact frozen_of_row hg
/-- a file is torn -/
def RM.torn (keep : Int) (m : RM) : RM := if keep < (m.b.length : Int) - (m.sy : Int) then { m with b := m.b.take (m.sy + keep.toNat), sy := m.sy + keep.toNat } else { m with sy := m.b.length }
theorem RM.torn_f {keep : Int} (k0 : 0 ≤ keep) (m : RM) (hs : m.sy ≤ m.b.length) : (m.torn keep).f = K.tear keep m.f := by
  unfold RM.torn
  split
  · rename_i h
    unfold RM.f K.tear
    simp only
    rw [List.take_take, Nat.min_self, ← List.take_add, List.drop_eq_nil_of_le (by rw [List.length_take]; exact Nat.min_le_left _ _)]
  · rename_i h
    unfold RM.f K.tear
    simp only
    rw [List.take_length, List.drop_length, List.take_of_length_le (l := m.b.drop m.sy) (by simp; omega), List.take_append_drop]
theorem RM.torn_nm (keep : Int) (m : RM) : (m.torn keep).nm = m.nm := by unfold RM.torn; split <;> rfl
theorem RM.torn_a (keep : Int) (m : RM) : (m.torn keep).a = m.a ∧ (m.torn keep).c = m.c := by unfold RM.torn; split <;> exact ⟨rfl, rfl⟩
theorem RM.torn_len {keep : Int} (k0 : 0 ≤ keep) (m : RM) (hs : m.sy ≤ m.b.length) : (m.torn keep).b.length ≤ m.b.length ∧ (m.torn keep).sy = (m.torn keep).b.length := by
  unfold RM.torn
  split
  · simp; omega
  · exact ⟨Nat.le_refl _, rfl⟩
theorem RM.torn_sl {keep : Int} {w : World} (m : RM) (h : Sl w m.a m.b.length m.b) (k0 : 0 ≤ keep) (hs : m.sy ≤ m.b.length) : Sl w (m.torn keep).a (m.torn keep).b.length (m.torn keep).b := by
  unfold RM.torn
  split
  · rename_i hk
    have := h.take (m.sy + keep.toNat) (by omega)
    simp only [List.length_take]
    rw [Nat.min_eq_left (by omega)]
    exact this
  · exact h
/-- the first k are torn -/
def tornTo (keep : Int) (l : List RM) (k : Nat) : List RM := (l.take k).map (RM.torn keep) ++ l.drop k
theorem tornTo_zero (keep : Int) (l : List RM) : tornTo keep l 0 = l := by simp [tornTo]
theorem tornTo_length (keep : Int) (l : List RM) (k : Nat) : (tornTo keep l k).length = l.length := by simp [tornTo]; omega
theorem tornTo_at (keep : Int) {l : List RM} {k : Nat} (h : k < l.length) : (tornTo keep l k)[k]? = some l[k] := by
  unfold tornTo
  have hl : ((l.take k).map (RM.torn keep)).length = k := by simp; omega
  rw [List.getElem?_append_right (by omega), hl, Nat.sub_self, List.getElem?_drop, Nat.add_zero, List.getElem?_eq_getElem h]
theorem tornTo_next (keep : Int) {l : List RM} {k : Nat} (h : k < l.length) : (tornTo keep l k).set k (l[k].torn keep) = tornTo keep l (k + 1) := by
  unfold tornTo
  have hl : ((l.take k).map (RM.torn keep)).length = k := by simp; omega
  rw [List.set_append_right _ _ (by omega), hl, Nat.sub_self, List.drop_eq_getElem_cons h, List.set_cons_zero, List.take_add_one, List.getElem?_eq_getElem h, Option.toList_some, List.map_append, List.append_assoc]
  rfl
theorem tornTo_mem {keep : Int} {l : List RM} {k : Nat} {m : RM} (h : m ∈ tornTo keep l k) : m ∈ l ∨ ∃ x ∈ l, m = x.torn keep := by
  unfold tornTo at h
  rcases List.mem_append.1 h with h | h
  · obtain ⟨x, hx, rfl⟩ := List.mem_map.1 h
    exact .inr ⟨x, List.mem_of_mem_take hx, rfl⟩
  · exact .inl (List.mem_of_mem_drop h)

/-- what the crash's loop keeps -/
structure RC (w : World) (fa : Option Addr) (fc : Nat) (l : List RM) (keep : Int) (k : Nat) (wr : World) : Prop where
  row : Rw wr fa fc (tornTo keep l k)
  fr : Fr (fun j => blk fa = some j) w wr
theorem RC.cut {w wr : World} {g fc : Nat} {l : List RM} {keep : Int} {k : Nat} (h : RC w (some ⟨g, 0, none⟩) fc l keep k wr) {m : RM} (hta : (tornTo keep l k)[k]? = some m) (htn : (tornTo keep l k).set k (m.torn keep) = tornTo keep l (k + 1)) (hc : keep < (m.b.length : Int) - (m.sy : Int)) (k0 : 0 ≤ keep) (hs : m.sy ≤ m.b.length) (q : Nat) :
    RC w (some ⟨g, 0, none⟩) fc l keep (k + 1) (((wr.drewN q).setCell ⟨g, k * 3 + 1, none⟩ (.slice m.a (m.sy + keep.toNat) m.c)).setCell ⟨g, k * 3 + 2, none⟩ (.int .i64 ((m.sy + keep.toNat : Nat) : Int))) := by
  have et : m.torn keep = { m with b := m.b.take (m.sy + keep.toNat), sy := m.sy + keep.toNat } := by unfold RM.torn; rw [if_pos hc]
  have h0 : Rw (wr.drewN q) (some ⟨g, 0, none⟩) fc (tornTo keep l k) := h.row.kept (Fr.drewN (S := fun _ => False) _ _) (fun _ _ h => h)
  have hlen : (m.b.take (m.sy + keep.toNat)).length = m.sy + keep.toNat := by rw [List.length_take]; omega
  have h1 := h0.set (j := k * 3 + 1) (v := .slice m.a (m.sy + keep.toNat) m.c) (l' := (tornTo keep l k).set k { m with b := m.b.take (m.sy + keep.toNat) }) (by simp) (by
    have := rcs_set1 (m' := { m with b := m.b.take (m.sy + keep.toNat) }) hta rfl rfl
    rw [← this]
    simp only [hlen])
  have hlt : k < (tornTo keep l k).length := (List.getElem?_eq_some_iff.1 hta).1
  have hta1 : ((tornTo keep l k).set k { m with b := m.b.take (m.sy + keep.toNat) })[k]? = some { m with b := m.b.take (m.sy + keep.toNat) } := by simp [hlt]
  have h2 := h1.set (j := k * 3 + 2) (v := .int .i64 ((m.sy + keep.toNat : Nat) : Int)) (l' := tornTo keep l (k + 1)) (by rw [tornTo_length, List.length_set, tornTo_length]) (by
    have := rcs_set2 (m' := m.torn keep) hta1 (RM.torn_nm _ _) (RM.torn_a _ _).1 (by rw [et]) (RM.torn_a _ _).2
    rw [List.set_set, htn] at this
    rw [← this, et])
  refine ⟨h2, ?_⟩
  exact Fr.setCell (p := ⟨g, k * 3 + 2, none⟩) (Fr.setCell (p := ⟨g, k * 3 + 1, none⟩) (h.fr.trans (Fr.drewN (S := fun _ => False) _ _) (fun _ _ h => h.elim)) (fun _ => rfl) _) (fun _ => rfl) _
theorem RC.stay {w wr : World} {g fc : Nat} {l : List RM} {keep : Int} {k : Nat} (h : RC w (some ⟨g, 0, none⟩) fc l keep k wr) {m : RM} (hta : (tornTo keep l k)[k]? = some m) (htn : (tornTo keep l k).set k (m.torn keep) = tornTo keep l (k + 1)) (hc : ¬ keep < (m.b.length : Int) - (m.sy : Int)) (q : Nat) :
    RC w (some ⟨g, 0, none⟩) fc l keep (k + 1) ((wr.drewN q).setCell ⟨g, k * 3 + 2, none⟩ (.int .i64 ((m.b.length : Nat) : Int))) := by
  have et : m.torn keep = { m with sy := m.b.length } := by unfold RM.torn; rw [if_neg hc]
  have h0 : Rw (wr.drewN q) (some ⟨g, 0, none⟩) fc (tornTo keep l k) := h.row.kept (Fr.drewN (S := fun _ => False) _ _) (fun _ _ h => h)
  have h2 := h0.set (j := k * 3 + 2) (v := .int .i64 ((m.b.length : Nat) : Int)) (l' := tornTo keep l (k + 1)) (by rw [tornTo_length, tornTo_length]) (by
    have := rcs_set2 (m' := m.torn keep) hta (RM.torn_nm _ _) (RM.torn_a _ _).1 (by rw [et]) (RM.torn_a _ _).2
    rw [htn] at this
    rw [← this, et])
  exact ⟨h2, Fr.setCell (p := ⟨g, k * 3 + 2, none⟩) (h.fr.trans (Fr.drewN (S := fun _ => False) _ _) (fun _ _ h => h.elim)) (fun _ => rfl) _⟩
theorem Rm.crashed {w wr : World} {p : Nat} {fa : Option Addr} {fc : Nat} {l : List RM} {kp : Int} {d : K.DK} (h : Rm w p fa fc l kp d) {keep : Int} (k0 : 0 ≤ keep) (hr : RC w fa fc l keep l.length wr) :
    Rm ((wr.setCell ⟨p, 2, none⟩ (.int .i64 0)).setCell ⟨p, 4, none⟩ (.bool true)) p fa fc (l.map (RM.torn keep)) kp (K.fall keep d) ∧ Fr (fun k => k = p ∨ blk fa = some k) w ((wr.setCell ⟨p, 2, none⟩ (.int .i64 0)).setCell ⟨p, 4, none⟩ (.bool true)) := by
  have hat := hr.fr.cells h.at_ h.rp
  have hall : tornTo keep l l.length = l.map (RM.torn keep) := by simp [tornTo]
  have hf : Fr (fun k => k = p) wr ((wr.setCell ⟨p, 2, none⟩ (.int .i64 0)).setCell ⟨p, 4, none⟩ (.bool true)) := Fr.setCell (p := ⟨p, 4, none⟩) (S := fun k => k = p) (Fr.setCell (p := ⟨p, 2, none⟩) (S := fun k => k = p) (Fr.refl _ _) (fun _ => rfl) _) (fun _ => rfl) _
  have hrow := hr.row
  rw [hall] at hrow
  refine ⟨⟨?_, h.kp0, h.kp1, fun h => absurd rfl h, hrow.kept hf (fun k hk e => h.rp (e ▸ hk)), h.rp, ?_, ?_, ?_⟩, (hr.fr.mono (fun _ _ e => .inr e)).trans hf (fun _ _ e => .inl e)⟩
  · rw [setCell_row (setCell_row hat _) _, List.length_map]; rfl
  · intro m hm
    obtain ⟨x, hx, rfl⟩ := List.mem_map.1 hm
    have hb := h.by_ x hx
    have hl := RM.torn_len k0 x hb.2.1
    refine ⟨?_, Nat.le_of_eq hl.2, by rw [(RM.torn_a keep x).2]; omega⟩
    have h1 := RM.torn_sl (keep := keep) x hb.1 k0 hb.2.1
    refine (h1.kept hr.fr (fun hz k hk e => ?_)).kept hf (fun hz k hk e => ?_)
    · rw [(RM.torn_a keep x).1] at hk
      exact (h.bx x hx (by omega) k hk).2 e
    · rw [(RM.torn_a keep x).1] at hk
      exact (h.bx x hx (by omega) k hk).1 e
  · intro m hm hz k hk
    obtain ⟨x, hx, rfl⟩ := List.mem_map.1 hm
    have hl := RM.torn_len k0 x (h.by_ x hx).2.1
    rw [(RM.torn_a keep x).1] at hk
    exact h.bx x hx (by omega) k hk
  · show (l.map (RM.torn keep)).map RM.kf = K.mp (K.tear keep) d.fs
    rw [← h.fs, List.map_map]
    unfold K.mp
    rw [List.map_map]
    apply List.map_congr_left
    intro x hx
    simp only [Function.comp, RM.kf]
    rw [RM.torn_nm, RM.torn_f k0 x (h.by_ x hx).2.1]
set_option maxHeartbeats 3200000 in
theorem rcrash_any {S : Nat → Prop} {w : World} {p : Nat} {d : K.DK} (h : Rk S w p d) (keep : Int) (hp : keep ≤ 9223372036854775807) :
    Calls Tryz.prog 22 #[.pointer (some ⟨p, 0, none⟩), .int .i64 keep] w fun e w' => e = .returned (.int .i64 (K.crash d keep).1) ∧ Rt S w p (K.crash d keep).2 w' := by
  have HK := hid h
  obtain ⟨h1, ho, fa, fc, l, kp, hm, h4, h5, h6⟩ := h
  have HOK := hid (K.ok_crash ho keep)
  obtain ⟨_, c1, c2, _, c4⟩ := hm.c
  by_cases e1 : keep < 0
  · have e : K.crash d keep = (1, d) := by unfold K.crash; rw [if_pos e1]
    rw [e]
    clear h1 ho hm h4 h5 h6 e HOK
    go_enter Tryz.func22, Tryz.ntmps22
    go_wp2
    go_ret
    exact ⟨rfl, Rt.refl HK.out (Fr.refl _ _)⟩
  · by_cases e3 : d.down = true
    · have e : K.crash d keep = (7, d) := by unfold K.crash; rw [if_neg e1, if_pos e3]
      rw [e]
      rw [e3] at c4
      clear h1 ho hm h4 h5 h6 e HOK
      go_enter Tryz.func22, Tryz.ntmps22
      go_wp2
      go_ret
      exact ⟨rfl, Rt.refl HK.out (Fr.refl _ _)⟩
    · have e3' : d.down = false := by simpa using e3
      have e : K.crash d keep = (0, K.fall keep d) := by unfold K.crash; rw [if_neg e1, if_neg (by simp [e3'])]
      rw [e] at HOK ⊢
      rw [e3'] at c4
      have hfiles := ho.files
      rw [← hm.len] at hfiles
      have HM := hid hm
      have HO := hid ho
      have H1 := hid h1
      have H4 := hid h4
      have H5 := hid h5
      have H6 := hid h6
      obtain ⟨ln, hln⟩ : ∃ ln, l.length = ln := ⟨_, rfl⟩
      rw [hln] at c1 hfiles
      have HLN := hid hln
      have H0 : Hid (RC w fa fc l keep 0 w) := hid ⟨by rw [tornTo_zero]; exact hm.row, Fr.refl _ _⟩
      clear h1 ho hm h4 h5 h6 e hln e3 e3'
      go_enter Tryz.func22, Tryz.ntmps22
      go_wp2
      go_loopw [5] (fun i wr => ∃ k : Nat, k ≤ ln ∧ i = .int .i64 k ∧ RC w fa fc l keep k wr) (fun i _ => ln - (intOf i).toNat)
      case atStart => exact ⟨0, by omega, rfl, H0.out⟩
      case round =>
        obtain ⟨k, hk, rfl, hrc⟩ := hrel
        have d1 := cell_fr hrc.fr HM.out.rp c1
        by_cases hlt : k < ln
        · have hkl : k < l.length := by rw [HLN.out]; exact hlt
          obtain ⟨m, hlm⟩ : ∃ m, l[k] = m := ⟨_, rfl⟩
          have hta := tornTo_at keep hkl
          have htn := tornTo_next keep hkl
          rw [hlm] at hta htn
          have hmem : m ∈ l := by rw [← hlm]; exact List.getElem_mem hkl
          have hby := HM.out.by_ m hmem
          obtain ⟨g, hga, q0, q1, q2⟩ := hrc.row.at hta
          subst hga
          have hfl : m.b.length ≤ 200000000000000 := by
            have h7 : m.kf ∈ d.fs := by rw [← HM.out.fs]; exact List.mem_map.2 ⟨m, hmem, rfl⟩
            have h8 := Ok_len HO.out (n := m.nm) (f := m.f) h7
            have h9 := m.len
            unfold K.F.len at h9
            unfold K.cap at h8
            omega
          have z1 := hrc.row.frozen (k * 3 + 1)
          have z2 := hrc.row.frozen (k * 3 + 2)
          have hi : (k : Int) < (ln : Int) := by omega
          have HRC := hid hrc
          have HTA := hid hta
          have HTN := hid htn
          have HBY := hid hby
          have hsy := hby.2.1
          have hbc := hby.2.2
          obtain ⟨bl, hbl⟩ : ∃ bl, m.b.length = bl := ⟨_, rfl⟩
          obtain ⟨sy, hsy'⟩ : ∃ sy, m.sy = sy := ⟨_, rfl⟩
          rw [hbl] at q1 hsy hbc hfl
          rw [hsy'] at q2 hsy
          have HE := hid (And.intro hbl hsy')
          obtain ⟨ma, hma⟩ : ∃ ma, m.a = ma := ⟨_, rfl⟩
          obtain ⟨mc, hmc⟩ : ∃ mc, m.c = mc := ⟨_, rfl⟩
          rw [hma, hmc] at q1
          rw [hmc] at hbc
          have HA := hid (And.intro hma hmc)
          clear hrc hta htn hlm hmem hby q0 hbl hsy' hma hmc
          by_cases hc : keep < (bl : Int) - (sy : Int)
          · obtain ⟨nn, hnn⟩ : ∃ nn : Nat, sy + keep.toNat = nn := ⟨_, rfl⟩
            have hnx : (sy : Int) + keep = (nn : Int) := by omega
            have hcut := fun W => run_cut_hi' W ma bl mc nn (by omega) _ rfl
            have HNN := hid hnn
            clear hnn
            go_wp2
            go_quiet (fail)
            go_wp2
            go_region
            all_goals go_wp2
            all_goals go_roundw
            case rel =>
              refine ⟨k + 1, by omega, by go_num, ?_⟩
              have h9 := HRC.out.cut HTA.out HTN.out (by rw [HE.out.1, HE.out.2]; exact hc) (by omega) HBY.out.2.1 (nq + 1)
              rw [HE.out.2, HNN.out, HA.out.1, HA.out.2] at h9
              exact h9
            case measure => simp [intOf]; omega
          · have hd1 : decide (keep < (bl : Int) - (sy : Int)) = false := by simpa using hc
            go_wp2
            go_quiet (fail)
            go_wp2
            go_roundw
            case rel =>
              refine ⟨k + 1, by omega, by go_num, ?_⟩
              have h9 := HRC.out.stay HTA.out HTN.out (by rw [HE.out.1, HE.out.2]; omega) nq
              rw [HE.out.1] at h9
              exact h9
            case measure => simp [intOf]; omega
        · obtain rfl : k = ln := by omega
          have hc9 := HM.out.crashed (keep := keep) (by omega) (by rw [HLN.out]; exact hrc)
          have d2 := cell_fr hrc.fr HM.out.rp c2
          have d4 := cell_fr hrc.fr HM.out.rp c4
          have hat := hrc.fr.cells HM.out.at_ HM.out.rp
          have z2 := frozen_of_row (j := 2) hat
          have z4 := frozen_of_row (j := 4) hat
          have HC9 := hid hc9
          clear hrc hc9 hat
          go_wp2
          go_ret
          refine ⟨rfl, ⟨Nx.lt, HOK.out, fa, fc, _, kp, HC9.out.1, ⟨.inl H4.out, HC9.out.1.lt⟩, fun j hj => ⟨.inl (H5.out j hj), Nat.lt_of_lt_of_le (H1.out j (H5.out j hj)) HC9.out.2.size⟩, fun m hm hz j hj => ?_⟩, HC9.out.2.mono (fun i _ e => by rcases e with rfl | e; exact H4.out; exact H5.out i e)⟩
          obtain ⟨x, hx, rfl⟩ := List.mem_map.1 hm
          have hl := RM.torn_len (keep := keep) (by omega) x (HM.out.by_ x hx).2.1
          rw [(RM.torn_a keep x).1] at hj
          have hS := H6.out x hx (by omega) j hj
          exact ⟨.inl hS, Nat.lt_of_lt_of_le (H1.out j hS) HC9.out.2.size⟩

end Go.Proofs.YtogdjhhabcejgaaGreat

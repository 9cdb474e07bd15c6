/-
  TreeAgain: a tree of a tree's nodes has them, and goes on as that one.
-/
import Derived.Test.YtenengkeckanmaaGreatMg46
namespace Go.Proofs.YtenengkeckanmaaGreat
open Go.RowKit Go.Maps
set_option linter.unusedVariables false
set_option linter.unusedSimpArgs false
set_option maxRecDepth 100000
attribute [local go_sem] Oper.semAt_some
/-- two trees in memory, the same ones, apart -/
structure T.S2 (w : World) (p p' : Nat) (wr : World) (c c' : Nat → Option T.Col) (bud bud' : Nat) (dd last dd' last' : Int) (t t' : T.Tr) (mb mb' : Nat) (f f' : Int → Nat) : Prop where
  g1 : Gd c wr bud p dd last t mb f
  g2 : Gd c' wr bud' p' dd' last' t' mb' f'
  ap : ∀ i, c i ≠ none → c' i = none
  n1 : ∀ i, c i ≠ none → w.heap.size ≤ i
  n2 : ∀ i, c' i ≠ none → w.heap.size ≤ i
  fr : Fr (fun _ => False) w wr
section
variable {w : World} {p p' : Nat} {wr wz : World} {c c' cz : Nat → Option T.Col} {bud bud' bz : Nat} {dd last dd' last' dz lz : Int} {t t' tz : T.Tr} {mb mb' : Nat} {f f' fz : Int → Nat}
theorem T.S2.idle (h : T.S2 w p p' wr c c' bud bud' dd last dd' last' t t' mb mb' f f') (hf : Fr (fun _ => False) wr wz) : T.S2 w p p' wz c c' bud bud' dd last dd' last' t t' mb mb' f f' :=
  ⟨h.g1.kept hf (fun _ _ h => h), h.g2.kept hf (fun _ _ h => h), h.ap, h.n1, h.n2, h.fr.trans hf (fun _ _ h => h.elim)⟩
theorem T.S2.first (h : T.S2 w p p' wr c c' bud bud' dd last dd' last' t t' mb mb' f f') (hf : Fr (fun i => c i ≠ none) wr wz) (hM : More c cz wr.heap.size) (hG : Gd cz wz bz p dz lz tz mb fz) : T.S2 w p p' wz cz c' bz bud' dz lz dd' last' tz t' mb mb' fz f' := by
  have hsz := h.fr.size
  refine ⟨hG, h.g2.kept hf (fun i hi e => hi (h.ap i e)), fun i hi => ?_, fun i hi => ?_, h.n2, h.fr.trans hf (fun i hi e => by have := h.n1 i e; omega)⟩
  · cases Nat.lt_or_ge i wr.heap.size with
    | inl hlt => exact h.ap i (by rw [← hM i hlt]; exact hi)
    | inr hge =>
      cases hq : c' i with
      | none => rfl
      | some col => have := h.g2.lo i (by rw [hq]; simp); omega
  · cases Nat.lt_or_ge i wr.heap.size with
    | inl hlt => exact h.n1 i (by rw [← hM i hlt]; exact hi)
    | inr hge => omega
theorem T.S2.second (h : T.S2 w p p' wr c c' bud bud' dd last dd' last' t t' mb mb' f f') (hf : Fr (fun i => c' i ≠ none) wr wz) (hM : More c' cz wr.heap.size) (hG : Gd cz wz bz p' dz lz tz mb' fz) : T.S2 w p p' wz c cz bud bz dd last dz lz t tz mb mb' f fz := by
  have hsz := h.fr.size
  refine ⟨h.g1.kept hf (fun i hi e => e (h.ap i hi)), hG, fun i hi => ?_, h.n1, fun i hi => ?_, h.fr.trans hf (fun i hi e => by have := h.n2 i e; omega)⟩
  · rw [hM i (h.g1.lo i hi)]
    exact h.ap i hi
  · cases Nat.lt_or_ge i wr.heap.size with
    | inl hlt => exact h.n2 i (by rw [← hM i hlt]; exact hi)
    | inr hge => omega
end
/-- two tellings of the same tree are the same -/
theorem T.told_same {t : T.Tr} {xs ys : List T.Tn} (hx : xs.map Prod.fst = T.told t) (hy : ys.map Prod.fst = T.told t) : T.sames xs ys = true := T.sames_iff.2 (by rw [hx, hy])
theorem T.told_len {t : T.Tr} {xs : List T.Tn} (hx : xs.map Prod.fst = T.told t) : xs.length ≤ t.length := by
  have h1 := congrArg List.length hx
  rw [List.length_map] at h1
  rw [h1]
  exact List.length_filter_le _ _
theorem T.told_few {t : T.Tr} (hw : T.Wf t) {N : Nat} (h : ∀ n x, A.get n t = some x → x.ats.length ≤ N) {xs : List T.Tn} (hx : xs.map Prod.fst = T.told t) : ∀ z ∈ xs, z.1.2.ats.length ≤ N := fun z hz => h _ _ (T.told_mem hw hx hz).1
set_option maxHeartbeats 8000000 in
theorem treeAgain_walk {I J : Nat → Prop} {w : World} {a b : Option Addr} {ca cb : Nat} {before ops : List S.Op} (h1 : T.Ops I w a before) (h2 : T.Ops J w b ops) (i1 : ∀ o ∈ before, o.in64) (i2 : ∀ o ∈ ops, o.in64) (l1 : before.length ≤ 1599289640401) (l2 : ops.length ≤ 1599289640401) (I1 : ∀ g, I g → g < w.heap.size) (I2 : ∀ g, J g → g < w.heap.size) :
    Calls Tryz.prog 7 #[.slice a before.length ca, .slice b ops.length cb] w fun e w' => e = .returned (.bool true) ∧ Fr (fun _ => False) w w' := by
  have KM := hid (made_any (cap := ca) h1 i1 l1 I1)
  have KB := hid tbegun_any
  have H2 := hid h2
  have HI2 := hid i2
  have HJ := hid I2
  obtain ⟨n1, hn1⟩ : ∃ n, before.length = n := ⟨_, rfl⟩
  obtain ⟨n2, hn2⟩ : ∃ n, ops.length = n := ⟨_, rfl⟩
  rw [hn1] at KM l1 ⊢
  rw [hn2] at l2 ⊢
  have HN2 := hid hn2
  have HL1 := hid l1
  have HL2 := hid l2
  obtain ⟨t0, ht0⟩ : ∃ t, T.play T.zero before = t := ⟨_, rfl⟩
  rw [ht0] at KM
  clear h1 h2 i1 i2 l1 I1 I2 hn1 hn2 ht0
  go_enter Tryz.func7, Tryz.ntmps7
  go_wp2_with fail
  refine KM.out.mono ?_
  rintro e w1 ⟨p, la, ln, lc, c, bud, dos, mb, f, rfl, hG, hdos, hbud, hfew, htl, hf1, hcw⟩
  have HG := hid hG
  have HDOS := hid hdos
  have HBUD := hid hbud
  have HFEW := hid hfew
  have HTL := hid htl
  have F1 := hid hf1
  have HCW := hid hcw
  clear hG hdos hbud hfew htl hf1 hcw
  dsimp only
  go_wp2_with fail
  refine (KB.out w1).mono ?_
  rintro e w2 ⟨rfl, hf2⟩
  have G2 := hid (HG.out.kept hf2 (fun _ _ h => h))
  have F2 := hid (F1.out.trans hf2 (fun _ _ h => h))
  clear hf2
  have KNN := hid (nodes_any G2.out (fun n x hx => by have := HFEW.out n x hx; have := HL1.out; omega) (by have := HTL.out; have := HL1.out; omega))
  dsimp only
  go_wp2_with fail
  refine KNN.out.mono ?_
  rintro e w3 ⟨wa, wc, zs, rfl, hz, hlx, hf3⟩
  have HZ := hid hz
  have HLX := hid hlx
  have F3 := hid (F2.out.trans hf3 (fun _ _ h => h))
  have G3 := hid (G2.out.kept hf3 (fun _ _ h => h))
  have hzl : zs.length ≤ n1 + 2 := by
    have h1 := congrArg List.length hz
    rw [List.length_map] at h1
    have h2 : (T.told t0).length ≤ t0.length := List.length_filter_le _ _
    have := HTL.out
    omega
  have KF := hid (from_wf (rc := wc) G2.out.wf hz hlx.nr (fun i hi => hi.2) (by have := HTL.out; have := HL1.out; omega) (fun z hzm => by
    have h1 := (T.told_mem G2.out.wf hz hzm).1
    have h2 := HFEW.out _ _ h1
    have := HL1.out
    omega))
  obtain ⟨zn, hzn⟩ : ∃ n, List.length zs = n := ⟨_, rfl⟩
  rw [hzn] at KF hzl ⊢
  have HZN := hid hzn
  clear hz hlx hf3 hzn
  dsimp only
  go_wp2_with fail
  refine KF.out.mono ?_
  rintro e w4 ⟨p2, c2, mb2, f2, bud2, rfl, ht4, hb4, hl4, hc4, hf4⟩
  have hst : T.S2 w p p2 w4 c c2 bud (2 * n1 + 4) dos dos 0 0 t0 t0 mb mb2 f f2 := by
    have hs2 := F2.out.size
    have hs3 := F3.out.size
    refine ⟨G3.out.kept hf4 (fun _ _ h => h), ⟨ht4.ext (by omega), hl4, G2.out.wf, fun n x hx => by have := HFEW.out n x hx; omega, Int.le_refl _⟩, fun i hi => ?_, HCW.out, fun i hi => by have := hc4 i hi; omega, F3.out.trans hf4 (fun _ _ h => h)⟩
    cases hq : c2 i with
    | none => rfl
    | some col =>
      have h5 := hc4 i (by rw [hq]; simp)
      have h6 := G3.out.lo i hi
      omega
  have S4 := hid hst
  have KN4 := hid (nodes_any hst.g2 (fun n x hx => by have := HFEW.out n x hx; have := HL1.out; omega) (by have := HTL.out; have := HL1.out; omega))
  clear ht4 hb4 hl4 hc4 hf4 hst
  dsimp only
  go_wp2_with fail
  refine KN4.out.mono ?_
  rintro e w5 ⟨wa5, wc5, zs5, rfl, hz5, hlx5, hf5⟩
  have HZ5 := hid hz5
  have NR5 := hid hlx5.nr
  have S5 := hid (S4.out.idle hf5)
  have KN5 := hid (nodes_any S5.out.g1 (fun n x hx => by have := HFEW.out n x hx; have := HL1.out; omega) (by have := HTL.out; have := HL1.out; omega))
  obtain ⟨z5, hz5n⟩ : ∃ n, List.length zs5 = n := ⟨_, rfl⟩
  rw [hz5n]
  have HZ5N := hid hz5n
  clear hz5 hlx5 hf5 hz5n
  dsimp only
  go_wp2_with fail
  refine KN5.out.mono ?_
  rintro e w6 ⟨wa6, wc6, zs6, rfl, hz6, hlx6, hf6⟩
  have S6 := hid (S5.out.idle hf6)
  have KS6 := hid (same_any (w := w6) (ca := wc5) (cb := wc6) (NR5.out.kept hf6 (fun _ _ h => h)) hlx6.nr (by have := T.told_len HZ5.out; have := HTL.out; have := HL1.out; omega) (fun z hz => by have := T.told_few G2.out.wf HFEW.out HZ5.out z hz; have := HL1.out; omega))
  rw [T.told_same HZ5.out hz6, HZ5N.out] at KS6
  obtain ⟨z6, hz6n⟩ : ∃ n, List.length zs6 = n := ⟨_, rfl⟩
  rw [hz6n] at KS6 ⊢
  clear hz6 hlx6 hf6 hz6n
  dsimp only
  go_wp2_with fail
  refine KS6.out.mono ?_
  rintro e w7 ⟨rfl, hf7⟩
  have S7 := hid (S6.out.idle hf7)
  clear hf7
  dsimp only
  go_wp2_with fail
  have HLO2 := hid F2.out.size
  go_loopw [48] (fun i wr => ∃ k : Nat, i = .int .i64 k ∧ Hid (k ≤ n2 ∧ ∃ c c' bud bud' dd last dd' last' t f f', T.S2 w p p2 wr c c' bud bud' dd last dd' last' t t mb mb2 f f' ∧ dd ≤ (n1 : Int) + ((k : Nat) : Int) ∧ dd' ≤ ((k : Nat) : Int) ∧ bud ≤ 2 * n1 + 4 + 2 * (k) ∧ bud' ≤ 2 * n1 + 4 + 2 * (k) ∧ (∀ n x, A.get n t = some x → x.ats.length ≤ n1 + (k)) ∧ t.length ≤ n1 + 2 + (k)))
    (fun i _ => (n2 - intOf i).toNat)
  case atStart => exact ⟨0, rfl, hid ⟨Nat.zero_le _, c, c2, bud, 2 * n1 + 4, dos, dos, 0, 0, t0, f, f2, S7.out, by have := HDOS.out; omega, by omega, by have := HBUD.out; omega, by omega, fun n x hx => by have := HFEW.out n x hx; omega, by have := HTL.out; omega⟩⟩
  case round =>
    obtain ⟨k, rfl, hall⟩ := hrel
    by_cases hlt : k < n2
    · obtain ⟨o, ho⟩ : ∃ q, ops[k]? = some q := ⟨_, List.getElem?_eq_getElem (by rw [HN2.out]; exact hlt)⟩
      obtain ⟨hk, c, c', bud, bud', dd, last, dd', last', t', f, f', hS, hdd, hdd', hbb, hbb', hfw, htt⟩ := hall.out
      have hoi := HI2.out o (List.mem_of_getElem? ho)
      obtain ⟨g, q, rfl, hIg, hcell⟩ := (H2.out.kept hS.fr (fun _ _ h => h)).cell ho
      have a0 : wr.cell? ⟨g, q + k * 8, none⟩ = some (.int .i64 o.t) := hcell 0 _ (by omega) rfl
      have a1 : wr.cell? ⟨g, q + k * 8 + 1, none⟩ = some (.int .i64 o.s) := hcell 1 _ (by omega) rfl
      have a2 : wr.cell? ⟨g, q + k * 8 + 2, none⟩ = some (.int .i64 o.k) := hcell 2 _ (by omega) rfl
      have a3 : wr.cell? ⟨g, q + k * 8 + 3, none⟩ = some (.int .i64 o.n) := hcell 3 _ (by omega) rfl
      have a4 : wr.cell? ⟨g, q + k * 8 + 4, none⟩ = some (.int .i64 o.p) := hcell 4 _ (by omega) rfl
      have a5 : wr.cell? ⟨g, q + k * 8 + 5, none⟩ = some (.string o.a) := hcell 5 _ (by omega) rfl
      have a6 : wr.cell? ⟨g, q + k * 8 + 6, none⟩ = some (.string o.b) := hcell 6 _ (by omega) rfl
      have a7 : wr.cell? ⟨g, q + k * 8 + 7, none⟩ = some (.string o.c) := hcell 7 _ (by omega) rfl
      have i0 : (0 : Int) ≤ (k : Int) := by omega
      have i1 : (k : Int) < (n2 : Int) := by omega
      obtain ⟨V1, hV1⟩ : ∃ V, wr.alloc (.cells o.cs 35) = V := ⟨_, rfl⟩
      have f1 : Fr (fun _ => False) wr V1 := by rw [← hV1]; exact Fr.alloc (Fr.refl _ _) _
      have k1 : V1.heap[wr.heap.size]? = some (.cells o.cs 35 (0, 0)) := by rw [← hV1]; exact Go.heap_alloc_new wr _
      have hop : ∀ i, c i ≠ none ∨ c' i ≠ none → i ≠ wr.heap.size := fun i hi e => by
        rcases hi with hi | hi
        · have := hS.g1.lo i hi; omega
        · have := hS.g2.lo i hi; omega
      have LP := hid (show ∀ V, Fr (fun i => c i ≠ none) V1 V → _ from fun V hf => load_whole (hf.cells k1 (fun h => hop _ (.inl h) rfl)) (ty := 35) Tryz.underlying35 rfl (by kernel_rfl))
      have S1h := hid (hS.idle f1)
      have KD1 := hid (tstep_any S1h.out.g1 (by have := HL1.out; have := HL2.out; omega) (by have := HL1.out; have := HL2.out; omega) o hoi)
      have HV1 := hid hV1
      have HO := hid ho
      have HOI := hid hoi
      have HH := hid (And.intro hdd (And.intro hdd' (And.intro hbb (And.intro hbb' (And.intro hfw htt)))))
      clear ho hk hS hdd hdd' hbb hbb' hfw htt hoi hIg hcell hV1 f1 k1 hall hop
      go_upto_region 10 with fail
      clear a0 a1 a2 a3 a4 a5 a6 a7
      rw [HV1.out]
      go_wp2_with (first
        | (refine wpList_load_v (LP.out V1 (Fr.refl _ _)) (by exact ⟨_, rfl, rfl⟩) (by kernel_rfl) ?_))
      refine KD1.out.mono ?_
      rintro e w11 ⟨hfr, (⟨hgd, rfl, hG2, hf2⟩ | ⟨hgd, d, v, un, cz, fz, bz, rfl, hM, hG2, hH, hU, hff, hbs⟩)⟩
      · obtain ⟨V2, hV2⟩ : ∃ V, w11.alloc (.cells #[.pointer none] 53) = V := ⟨_, rfl⟩
        have fV2 : Fr (fun _ => False) w11 V2 := by rw [← hV2]; exact Fr.alloc (Fr.refl _ _) _
        have LP2 := hid (LP.out V2 (hfr.trans fV2 (fun _ _ h => h.elim)))
        have S2h := hid (S1h.out.idle (hf2.trans fV2 (fun _ _ h => h)))
        have KD2 := hid (tstep_any S2h.out.g2 (by have := HH.out; have := HL1.out; have := HL2.out; omega) (by have := HH.out; have := HL1.out; have := HL2.out; omega) o HOI.out)
        have HV2 := hid hV2
        have HGD := hid hgd
        clear hfr hgd hG2 hf2 hV2 fV2
        dsimp only
        go_upto_region 11 with fail
        rw [HV2.out]
        go_wp2_with (first
          | (refine wpList_load_v LP2.out (by exact ⟨_, rfl, rfl⟩) (by kernel_rfl) ?_))
        refine KD2.out.mono ?_
        rintro e w12 ⟨hfr, (⟨hgd, rfl, hG2, hf2⟩ | ⟨hgd, _⟩)⟩
        · have FIN := hid (show k + 1 ≤ n2 ∧ ∃ c c' bud bud' dd last dd' last' t f f', T.S2 w p p2 (w12.alloc (.cells #[.pointer none] 53)) c c' bud bud' dd last dd' last' t t mb mb2 f f' ∧ dd ≤ (n1 : Int) + ((k + 1 : Nat) : Int) ∧ dd' ≤ ((k + 1 : Nat) : Int) ∧ bud ≤ 2 * n1 + 4 + 2 * (k + 1) ∧ bud' ≤ 2 * n1 + 4 + 2 * (k + 1) ∧ (∀ n x, A.get n t = some x → x.ats.length ≤ n1 + (k + 1)) ∧ t.length ≤ n1 + 2 + (k + 1) from
            ⟨hlt, c, c', bud, bud', dd, last, dd', last', t', f, f', S2h.out.idle (hf2.trans (Fr.alloc (Fr.refl _ _) _) (fun _ _ h => h)), by have := HH.out; omega, by have := HH.out; omega, by have := HH.out; omega, by have := HH.out; omega, fun n x hx => by have := HH.out.2.2.2.2.1 n x hx; omega, by have := HH.out; omega⟩)
          clear hfr hgd hG2 hf2
          dsimp only
          go_wp2
          go_roundw
          case rel => exact ⟨k + 1, by first | go_num | rfl | trivial, FIN⟩
          case measure => simp [intOf]; omega
        · rw [HGD.out] at hgd
          cases hgd
      · obtain ⟨V2, hV2⟩ : ∃ V, w11.alloc (.cells #[ptr d] 53) = V := ⟨_, rfl⟩
        have fV2 : Fr (fun _ => False) w11 V2 := by rw [← hV2]; exact Fr.alloc (Fr.refl _ _) _
        have LP2 := hid (LP.out V2 (hfr.trans fV2 (fun _ _ h => h.elim)))
        have S2h := hid ((S1h.out.first hfr hM hG2).idle fV2)
        have KD2 := hid (tstep_any S2h.out.g2 (by have := HH.out; have := HL1.out; have := HL2.out; omega) (by have := HH.out; have := HL1.out; have := HL2.out; omega) o HOI.out)
        have HV2 := hid hV2
        have HGD := hid hgd
        have HBS := hid hbs
        clear hfr hgd hM hG2 hH hU hff hbs hV2 fV2
        dsimp only
        go_upto_region 11 with fail
        rw [HV2.out]
        go_wp2_with (first
          | (refine wpList_load_v LP2.out (by exact ⟨_, rfl, rfl⟩) (by kernel_rfl) ?_))
        refine KD2.out.mono ?_
        rintro e w12 ⟨hfr, (⟨hgd, _⟩ | ⟨hgd, d2, v2, un2, cy, fy, bz2, rfl, hM2, hG3, hH2, hU2, hff2, hbs2⟩)⟩
        · rw [HGD.out] at hgd
          cases hgd
        · have FIN := hid (show k + 1 ≤ n2 ∧ ∃ c c' bud bud' dd last dd' last' t f f', T.S2 w p p2 (w12.alloc (.cells #[ptr d2] 53)) c c' bud bud' dd last dd' last' t t mb mb2 f f' ∧ dd ≤ (n1 : Int) + ((k + 1 : Nat) : Int) ∧ dd' ≤ ((k + 1 : Nat) : Int) ∧ bud ≤ 2 * n1 + 4 + 2 * (k + 1) ∧ bud' ≤ 2 * n1 + 4 + 2 * (k + 1) ∧ (∀ n x, A.get n t = some x → x.ats.length ≤ n1 + (k + 1)) ∧ t.length ≤ n1 + 2 + (k + 1) from
            ⟨hlt, cz, cy, bz, bz2, dd + 1, dd + 1, dd' + 1, dd' + 1, T.doOp t' o, fz, fy, (S2h.out.second hfr hM2 hG3).idle (Fr.alloc (Fr.refl _ _) _), by have := HH.out; omega, by have := HH.out; omega, by have := HH.out; have := HBS.out; omega, by have := HH.out; omega, fun n x hx => by have := T.few_step S1h.out.g1.wf HH.out.2.2.2.2.1 o n x hx; omega, by have := T.length_step S1h.out.g1.wf.up o; have := HH.out; omega⟩)
          clear hfr hgd hM2 hG3 hH2 hU2 hff2 hbs2
          dsimp only
          go_wp2
          go_roundw
          case rel => exact ⟨k + 1, by first | go_num | rfl | trivial, FIN⟩
          case measure => simp [intOf]; omega
    · obtain rfl : k = n2 := by have := hall.out.1; omega
      obtain ⟨_, c, c', bud, bud', dd, last, dd', last', t', f, f', hS, _, _, _, _, hfw, htt⟩ := hall.out
      have S0 := hid hS
      have HFW := hid hfw
      have HTT := hid htt
      have KN8 := hid (nodes_any hS.g2 (fun n x hx => by have := hfw n x hx; have := HL1.out; have := HL2.out; omega) (by have := HL1.out; have := HL2.out; omega))
      clear hS hfw htt hall hlt
      go_wp2_with fail
      refine KN8.out.mono ?_
      rintro e w8 ⟨wa5, wc5, zs8, rfl, hz5, hlx5, hf5⟩
      have HZ5 := hid hz5
      have NR5 := hid hlx5.nr
      have S8 := hid (S0.out.idle hf5)
      have KN9 := hid (nodes_any S8.out.g1 (fun n x hx => by have := HFW.out n x hx; have := HL1.out; have := HL2.out; omega) (by have := HTT.out; have := HL1.out; have := HL2.out; omega))
      obtain ⟨z5, hz5n⟩ : ∃ n, List.length zs8 = n := ⟨_, rfl⟩
      rw [hz5n]
      have HZ5N := hid hz5n
      clear hz5 hlx5 hf5 hz5n
      dsimp only
      go_wp2_with fail
      refine KN9.out.mono ?_
      rintro e w9 ⟨wa6, wc6, zs9, rfl, hz6, hlx6, hf6⟩
      have S9 := hid (S8.out.idle hf6)
      have KS9 := hid (same_any (w := w9) (ca := wc5) (cb := wc6) (NR5.out.kept hf6 (fun _ _ h => h)) hlx6.nr (by have := T.told_len HZ5.out; have := HTT.out; have := HL1.out; have := HL2.out; omega) (fun z hz => by have := T.told_few S0.out.g1.wf HFW.out HZ5.out z hz; have := HL1.out; have := HL2.out; omega))
      rw [T.told_same HZ5.out hz6, HZ5N.out] at KS9
      obtain ⟨z6, hz6n⟩ : ∃ n, List.length zs9 = n := ⟨_, rfl⟩
      rw [hz6n] at KS9 ⊢
      clear hz6 hlx6 hf6 hz6n
      dsimp only
      go_wp2_with fail
      refine KS9.out.mono ?_
      rintro e w10 ⟨rfl, hf7⟩
      have S10 := hid (S9.out.idle hf7)
      clear hf7
      dsimp only
      go_wp2_with fail
      go_ret
      exact ⟨by simp, S10.out.fr⟩
end Go.Proofs.YtenengkeckanmaaGreat

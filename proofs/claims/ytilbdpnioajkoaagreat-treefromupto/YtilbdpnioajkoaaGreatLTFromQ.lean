/-
  TreeFrom: which nodes are a tree, that it has them, and goes on from them.
-/
import Derived.Test.YtilbdpnioajkoaaGreatUFromQ
import Derived.Test.YtilbdpnioajkoaaGreatMg45
import Derived.Test.YtilbdpnioajkoaaGreatUSame2Q
import Derived.Test.YtilbdpnioajkoaaGreatMg35
import Derived.Test.YtilbdpnioajkoaaGreatMg43
namespace Go.Proofs.YtilbdpnioajkoaaGreat
open Go.RowKit Go.Maps
set_option linter.unusedVariables false
set_option linter.unusedSimpArgs false
set_option maxRecDepth 100000
attribute [local go_sem] Oper.semAt_some
theorem U.told_same {t : T.Tr} {xs ys : List T.Tn} (hx : xs.map Prod.fst = T.told t) (hy : ys.map Prod.fst = T.told t) : T.sames xs ys = true := T.sames_iff.2 (by rw [hx, hy])
theorem U.told_len {t : T.Tr} {xs : List T.Tn} (hx : xs.map Prod.fst = T.told t) : xs.length ≤ t.length := by
  have h1 := congrArg List.length hx
  rw [List.length_map] at h1
  rw [h1]
  exact List.length_filter_le _ _
/-- nodes of a tree have few attributes -/
theorem U.few {t : T.Tr} (hu : A.Up t) {N : Nat} (h : ∀ n x, A.get n t = some x → x.ats.length ≤ N) : ∀ p ∈ t, p.2.ats.length ≤ N := fun p hp => h p.1 p.2 ((A.get_iff hu).2 hp)
theorem U.told_few {t : T.Tr} (hu : A.Up t) {N : Nat} (h : ∀ n x, A.get n t = some x → x.ats.length ≤ N) {xs : List T.Tn} (hx : xs.map Prod.fst = T.told t) : ∀ z ∈ xs, z.1.2.ats.length ≤ N := fun z hz => by
  have h1 : z.1 ∈ T.told t := by rw [← hx]; exact List.mem_map.2 ⟨z, hz, rfl⟩
  exact U.few hu h z.1 (List.mem_filter.1 h1).1
theorem U.pl_few {zs : List T.Tn} {t : T.Tr} (he : U.pl zs = t) (hu : A.Up t) {N : Nat} (h : ∀ n x, A.get n t = some x → x.ats.length ≤ N) : ∀ z ∈ zs, z.1.2.ats.length ≤ N := fun z hz => U.few hu h z.1 (by rw [← he]; exact List.mem_map.2 ⟨z, hz, rfl⟩)
theorem U.tree_few {zs : List T.Tn} (hwf : ∀ z ∈ zs, z.1.1 ≤ 9223372036854775807) (h : T.fromOk zs = true) {N : Nat} (hN : ∀ z ∈ zs, z.1.2.ats.length ≤ N) : ∀ n x, A.get n (T.tree zs) = some x → x.ats.length ≤ N := fun n x hx => by
  have hf := (U.fok_of hwf h).all
  rw [← U.lay_eq hf.1 hf.2.2] at hx
  obtain ⟨z, hz, e⟩ := List.mem_map.1 (show (n, x) ∈ (U.lay zs).map Prod.fst from A.get_mem hx)
  rcases U.layd_mem zs U.zero hz with h1 | h1
  · have := hN z h1
    rw [e] at this
    exact this
  · unfold U.zero at h1
    simp at h1
    rcases h1 with rfl | rfl <;> (cases e; exact Nat.zero_le _)
theorem U.tree_len {zs : List T.Tn} (hwf : ∀ z ∈ zs, z.1.1 ≤ 9223372036854775807) (h : T.fromOk zs = true) : (T.tree zs).length ≤ zs.length + 2 := by
  have hf := (U.fok_of hwf h).all
  rw [← U.lay_eq hf.1 hf.2.2, U.pl_len]
  have := U.layd_len zs U.zero
  have h2 : U.zero.length = 2 := rfl
  unfold U.lay
  omega
/-- Plain of the nodes that were handed in tells what the tree of them tells -/
theorem U.told_in {zs : List T.Tn} (hwf : ∀ z ∈ zs, z.1.1 ≤ 9223372036854775807) (h : T.fromOk zs = true) : T.told (zs.map Prod.fst) = T.told (T.tree zs) := by
  have hw := T.wf_of hwf h
  have hf := (U.fok_of hwf h).all
  have hnd := U.nodup_of hf.1
  have hle := U.lay_eq hf.1 hf.2.2
  have hup : A.Up (zs.map Prod.fst) := List.pairwise_map.2 ((T.lt_of_asc hf.1).imp (fun h => h))
  refine A.up_ext (List.Pairwise.filter _ hup) (List.Pairwise.filter _ hw.up) (fun p => ?_)
  unfold T.told
  rw [List.mem_filter, List.mem_filter]
  constructor
  · rintro ⟨hp, ht⟩
    obtain ⟨z, hz, rfl⟩ := List.mem_map.1 hp
    refine ⟨?_, ht⟩
    have := (U.layd_get z.1.1 U.zup hnd).1 z hz rfl
    rw [hle] at this
    exact A.get_mem this
  · rintro ⟨hp, ht⟩
    refine ⟨?_, ht⟩
    have hg := (A.get_iff hw.up).2 (show (p.1, p.2) ∈ T.tree zs from hp)
    by_cases hz : ∃ z ∈ zs, z.1.1 = p.1
    · obtain ⟨z, hz, e⟩ := hz
      have := (U.layd_get p.1 U.zup hnd).1 z hz e
      rw [hle, hg] at this
      have e2 := Option.some.inj this
      exact List.mem_map.2 ⟨z, hz, Prod.ext e e2.symm⟩
    · have hz2 : ∀ z ∈ zs, z.1.1 ≠ p.1 := fun z hz3 e => hz ⟨z, hz3, e⟩
      have := (U.layd_get p.1 U.zup hnd).2 hz2
      rw [hle, hg, U.pl_zero] at this
      have h3 := A.get_mem this.symm
      unfold T.zero at h3
      simp only [List.mem_cons, Prod.mk.injEq, List.not_mem_nil, or_false] at h3
      unfold T.tells at ht
      rcases h3 with ⟨h4, h5⟩ | ⟨h4, h5⟩ <;> rw [h4, h5] at ht <;> cases ht
set_option maxHeartbeats 8000000 in
theorem treeFrom_walk {I J K : Nat → Prop} {w : World} {a0 a1 a2 : Option Addr} {c0 c1 c2 : Nat} {zs ys : List T.Tn} {os : List S.Op} (h0 : T.Nr I w a0 zs) (h1 : T.Nr J w a1 ys) (h2 : T.Ops K w a2 os) (wf0 : ∀ z ∈ zs, ((Lit.int .i64 z.1.1).wf = true ∧ z.1.2.ats.length ≤ 1000000000) ∧ (Lit.int .i64 z.1.2.par).wf = true) (hi : ∀ o ∈ os, o.in64) (l0 : zs.length ≤ 1000000000) (l2 : os.length ≤ 1000000000) (I0 : ∀ g, I g → g < w.heap.size) :
    Calls Tryz.prog 4 #[.slice a0 zs.length c0, .slice a1 ys.length c1, .slice a2 os.length c2] w fun e w' => e = .returned (.bool true) ∧ Fr (fun _ => False) w w' := by
  have KF := hid (from_any (rc := c0) h0 I0 (fun z hz => ⟨⟨(wf0 z hz).1.1, by have := (wf0 z hz).1.2; omega⟩, (wf0 z hz).2⟩) (by omega))
  have hnum : ∀ z ∈ zs, z.1.1 ≤ 9223372036854775807 := fun z hz => (T.wfB (wf0 z hz).1.1).2
  have KU := hid (fun (V : World) (hf : Fr (fun _ => False) w V) => ufrom_any (rc := c0) (h0.kept hf (fun _ _ h => h)) (fun i hi => Nat.lt_of_lt_of_le (I0 i hi) hf.size) hnum (fun z hz => by have := (wf0 z hz).1.2; omega) (by omega))
  have KS1 := hid (fun (V : World) (hf : Fr (fun _ => False) w V) => same_any (ca := c0) (cb := c1) (h0.kept hf (fun _ _ h => h)) (h1.kept hf (fun _ _ h => h)) (by omega) (fun z hz => by have := (wf0 z hz).1.2; omega))
  have KS2 := hid (fun (V : World) (hf : Fr (fun _ => False) w V) => usame_any (ca := c0) (cb := c1) (h0.kept hf (fun _ _ h => h)) (h1.kept hf (fun _ _ h => h)) (by omega) (fun z hz => by have := (wf0 z hz).1.2; omega))
  have KS3 := hid (fun (V : World) (hf : Fr (fun _ => False) w V) => same_any (ca := c0) (cb := c0) (h0.kept hf (fun _ _ h => h)) (h0.kept hf (fun _ _ h => h)) (by omega) (fun z hz => by have := (wf0 z hz).1.2; omega))
  rw [show T.sames zs zs = true from T.sames_iff.2 rfl] at KS3
  have KP := hid (fun (V : World) (hf : Fr (fun _ => False) w V) => uplain_any (rc := c0) (h0.kept hf (fun _ _ h => h)) (by omega) (fun z hz => by have := (wf0 z hz).1.2; omega))
  have KB := hid tbegun_any
  have H2 := hid h2
  have HI := hid hi
  have HNUM := hid hnum
  have WF0 := hid wf0
  obtain ⟨n0, hn0⟩ : ∃ n, zs.length = n := ⟨_, rfl⟩
  obtain ⟨n1, hn1⟩ : ∃ n, ys.length = n := ⟨_, rfl⟩
  obtain ⟨n2, hn2⟩ : ∃ n, os.length = n := ⟨_, rfl⟩
  obtain ⟨sm, hsm⟩ : ∃ b, T.sames zs ys = b := ⟨_, rfl⟩
  rw [hn0] at KF KU KS1 KS2 KS3 KP l0 ⊢
  rw [hn1] at KS1 KS2 ⊢
  rw [hsm] at KS1 KS2
  rw [hn2] at l2 ⊢
  have HN0 := hid hn0
  have HN2 := hid hn2
  clear h0 h1 h2 wf0 hi hnum hn0 hn1 hn2 hsm I0
  go_enter Tryz.func4, Tryz.ntmps4
  go_wp2_with fail
  refine KF.out.mono ?_
  rintro e w1 ⟨hf1, (⟨hok, rfl⟩ | ⟨hok, p, c, mb, f, bud, rfl, htf, hbud, hlo, hcn⟩)⟩
  · have KU1 := hid (KU.out w1 hf1)
    have F1 := hid hf1
    have HOK := hid hok
    clear hf1 hok KU KF
    dsimp only
    go_wp2_with fail
    refine KU1.out.mono ?_
    rintro e w2 ⟨hf2, (⟨_, rfl⟩ | ⟨hok2, _⟩)⟩
    · have F2 := hid (F1.out.trans hf2 (fun _ _ h => h))
      clear hf2 KU1
      dsimp only
      go_wp2_with fail
      refine (KB.out w2).mono ?_
      rintro e w3 ⟨rfl, hf3⟩
      have F3 := hid (F2.out.trans hf3 (fun _ _ h => h))
      have KS11 := hid (KS1.out w3 F3.out)
      clear hf3 KS1
      dsimp only
      go_wp2_with fail
      refine KS11.out.mono ?_
      rintro e w4 ⟨rfl, hf4⟩
      have F4 := hid (F3.out.trans hf4 (fun _ _ h => h))
      have KS21 := hid (KS2.out w4 F4.out)
      clear hf4 KS11 KS2
      dsimp only
      go_wp2_with fail
      refine KS21.out.mono ?_
      rintro e w5 ⟨rfl, hf5⟩
      have F5 := hid (F4.out.trans hf5 (fun _ _ h => h))
      have KS31 := hid (KS3.out w5 F5.out)
      clear hf5 KS21 KS3
      dsimp only
      cases sm <;>
      · go_wp2_with fail
        refine KS31.out.mono ?_
        rintro e w6 ⟨rfl, hf6⟩
        have F6 := hid (F5.out.trans hf6 (fun _ _ h => h))
        clear hf6
        dsimp only
        go_wp2_with fail
        go_ret
        exact ⟨rfl, F6.out⟩
    · rw [HOK.out] at hok2
      cases hok2
  · have KU1 := hid (KU.out w1 hf1)
    have F1 := hid hf1
    have HOK := hid hok
    have HTF := hid htf
    have HB := hid hbud
    have HLO := hid hlo
    have HCN := hid hcn
    clear hf1 hok KU KF htf hbud hlo hcn
    dsimp only
    go_wp2_with fail
    refine KU1.out.mono ?_
    rintro e w2 ⟨hf2, (⟨hno, _⟩ | ⟨_, r, cu, ra, rc, zs2, rfl, D, hpl, hcu⟩)⟩
    · rw [HOK.out] at hno
      cases hno
    · have F2 := hid (F1.out.trans hf2 (fun _ _ h => h))
      have hfew := U.tree_few HNUM.out HOK.out (N := 1000000000) (fun z hz => (WF0.out z hz).1.2)
      have HFEW := hid hfew
      have HTL := hid (show (T.tree zs).length ≤ n0 + 2 from by rw [← HN0.out]; exact U.tree_len HNUM.out HOK.out)
      have P2 := hid (show U.Pair w p r w2 c cu (bud + 1000000000) 0 0 (T.tree zs) mb f ra rc zs2 none 0 [] from
        ⟨⟨(HTF.out.ext (by omega)).kept hf2 (fun _ _ h => h), fun i hi => Nat.lt_of_lt_of_le (HLO.out i hi) hf2.size, T.wf_of HNUM.out HOK.out, fun n x hx => by have := hfew n x hx; omega, Int.le_refl _⟩, D, hpl, fun i hi => by
          cases hq : cu i with
          | none => rfl
          | some col => have := hcu i (by rw [hq]; simp); have := HLO.out i hi; omega, HCN.out, fun i hi => Nat.le_trans F1.out.size (hcu i hi), F2.out⟩)
      clear hf2 KU1 D hpl hcu hfew
      dsimp only
      go_wp2_with fail
      refine (KB.out w2).mono ?_
      rintro e w3 ⟨rfl, hf3⟩
      have F3 := hid (F2.out.trans hf3 (fun _ _ h => h))
      have F23 := hid hf3
      have KS11 := hid (KS1.out w3 F3.out)
      clear hf3 KS1
      dsimp only
      go_wp2_with fail
      refine KS11.out.mono ?_
      rintro e w4 ⟨rfl, hf4⟩
      have F4 := hid (F3.out.trans hf4 (fun _ _ h => h))
      have F24 := hid (F23.out.trans hf4 (fun _ _ h => h))
      have KS21 := hid (KS2.out w4 F4.out)
      clear hf4 KS11 KS2
      dsimp only
      go_wp2_with fail
      refine KS21.out.mono ?_
      rintro e w5 ⟨rfl, hf5⟩
      have F5 := hid (F4.out.trans hf5 (fun _ _ h => h))
      have F25 := hid (F24.out.trans hf5 (fun _ _ h => h))
      have KS31 := hid (KS3.out w5 F5.out)
      clear hf5 KS21 KS3
      dsimp only
      cases sm <;>
      · go_wp2_with fail
        refine KS31.out.mono ?_
        rintro e w6 ⟨rfl, hf6⟩
        have F6 := hid (F5.out.trans hf6 (fun _ _ h => h))
        have F26 := hid (F25.out.trans hf6 (fun _ _ h => h))
        have P6 := hid (P2.out.idle F26.out)
        have KN6 := hid (nodes_any P6.out.g (fun n x hx => by have := HFEW.out n x hx; omega) (by have := HTL.out; omega))
        clear hf6 KS31
        dsimp only
        go_wp2_with fail
        refine KN6.out.mono ?_
        rintro e w7 ⟨xa, xc, xs, rfl, hxs, hlx, hf7⟩
        have HXS := hid hxs
        have NR7 := hid hlx.nr
        have P7 := hid (P6.out.idle hf7)
        have KP7 := hid (KP.out w7 P7.out.fr)
        obtain ⟨xn, hxn⟩ : ∃ n, List.length xs = n := ⟨_, rfl⟩
        rw [hxn]
        have HXN := hid hxn
        clear hxs hlx hf7 hxn KN6 KP
        dsimp only
        go_wp2_with fail
        refine KP7.out.mono ?_
        rintro e w8 ⟨ya, yc, yz, rfl, hyz, hly, hf8⟩
        have P8 := hid (P7.out.idle hf8)
        have KS8 := hid (usame_any (ca := xc) (cb := yc) (NR7.out.kept hf8 (fun _ _ h => h)) hly.nr (by have := U.told_len HXS.out; have := HTL.out; omega) (fun z hz => by have := U.told_few P6.out.g.wf.up HFEW.out HXS.out z hz; omega))
        rw [U.told_same HXS.out (hyz.trans (U.told_in HNUM.out HOK.out)), HXN.out] at KS8
        obtain ⟨yn, hyn⟩ : ∃ n, List.length yz = n := ⟨_, rfl⟩
        rw [hyn] at KS8 ⊢
        clear hyz hly hf8 hyn KP7
        dsimp only
        go_wp2_with fail
        refine KS8.out.mono ?_
        rintro e w9 ⟨rfl, hf9⟩
        have P9 := hid (P8.out.idle hf9)
        clear hf9 KS8
        dsimp only
        go_wp2_with fail
        go_loopw [66] (fun i wr => ∃ k : Nat, i = .int .i64 k ∧ Hid (k ≤ n2 ∧ ∃ c cu bud dos last t f ra rc zs2 ha hc hs, U.Pair w p r wr c cu bud dos last t mb f ra rc zs2 ha hc hs ∧ dos ≤ (k : Int) ∧ bud ≤ 3000000000 + 2 * k ∧ (∀ n x, A.get n t = some x → x.ats.length ≤ 1000000000 + k) ∧ t.length ≤ n0 + 2 + k ∧ hs.length ≤ k))
          (fun i _ => (n2 - intOf i).toNat)
        case atStart => exact ⟨0, rfl, hid ⟨Nat.zero_le _, c, cu, bud + 1000000000, 0, 0, T.tree zs, f, ra, rc, zs2, none, 0, [], P9.out, Int.le_refl _, by have := HB.out; omega, fun n x hx => by have := HFEW.out n x hx; omega, by have := HTL.out; omega, Nat.zero_le _⟩⟩
        case round =>
          obtain ⟨k, rfl, hall⟩ := hrel
          by_cases hlt : k < n2
          · obtain ⟨o, ho⟩ : ∃ q, os[k]? = some q := ⟨_, List.getElem?_eq_getElem (by rw [HN2.out]; exact hlt)⟩
            obtain ⟨hk, c, cu, bud, dos, last, t, f, ra, rc, zs2, ha, hc, hs, hS, hdd, hbb, hfw, htt, hhl⟩ := hall.out
            have hoi := HI.out o (List.mem_of_getElem? ho)
            obtain ⟨g, q, rfl, hIg, hcell⟩ := (H2.out.kept hS.fr (fun _ _ h => h)).cell ho
            have a0 : wr.cell? ⟨g, q + k * 8, none⟩ = some (.int .i64 o.t) := hcell 0 _ (by omega) rfl
            have a1 : wr.cell? ⟨g, q + k * 8 + 1, none⟩ = some (.int .i64 o.s) := hcell 1 _ (by omega) rfl
            have a2 : wr.cell? ⟨g, q + k * 8 + 2, none⟩ = some (.int .i64 o.k) := hcell 2 _ (by omega) rfl
            have a3 : wr.cell? ⟨g, q + k * 8 + 3, none⟩ = some (.int .i64 o.n) := hcell 3 _ (by omega) rfl
            have a4 : wr.cell? ⟨g, q + k * 8 + 4, none⟩ = some (.int .i64 o.p) := hcell 4 _ (by omega) rfl
            have a5 : wr.cell? ⟨g, q + k * 8 + 5, none⟩ = some (.string o.a) := hcell 5 _ (by omega) rfl
            have a6 : wr.cell? ⟨g, q + k * 8 + 6, none⟩ = some (.string o.b) := hcell 6 _ (by omega) rfl
            have a7 : wr.cell? ⟨g, q + k * 8 + 7, none⟩ = some (.string o.c) := hcell 7 _ (by omega) rfl
            have i0 : (0 : Int) ≤ (k : Int) := by omega
            have i1 : (k : Int) < (n2 : Int) := by omega
            obtain ⟨V1, hV1⟩ : ∃ V, wr.alloc (.cells o.cs 35) = V := ⟨_, rfl⟩
            have f1 : Fr (fun _ => False) wr V1 := by rw [← hV1]; exact Fr.alloc (Fr.refl _ _) _
            have k1 : V1.heap[wr.heap.size]? = some (.cells o.cs 35 (0, 0)) := by rw [← hV1]; exact Go.heap_alloc_new wr _
            have hop : ∀ i, c i ≠ none → i ≠ wr.heap.size := fun i hi e => by have := hS.g.lo i hi; omega
            have LP := hid (show ∀ V, Fr (fun i => c i ≠ none) V1 V → _ from fun V hf => load_whole (hf.cells k1 (fun h => hop _ h rfl)) (ty := 35) Tryz.underlying35 rfl (by kernel_rfl))
            have S1h := hid (hS.idle f1)
            have KD1 := hid (tstep_any S1h.out.g (by omega) (by omega) o hoi)
            have KD2 := hid (fun (V : World) (hf : Fr (fun i => c i ≠ none) V1 V) => udstep_any (S1h.out.d.kept hf (fun i hi e => hi (S1h.out.ap i e))) (by rw [S1h.out.eq]; exact S1h.out.g.wf) (by have := U.pl_len zs2; rw [S1h.out.eq] at this; omega) (fun z hz => by have := U.pl_few S1h.out.eq S1h.out.g.wf.up hfw z hz; omega) (by omega) o)
            rw [S1h.out.eq] at KD2
            have HV1 := hid hV1
            have HH := hid (And.intro hdd (And.intro hbb (And.intro hfw (And.intro htt hhl))))
            clear ho hk hS hdd hbb hfw htt hhl hoi hIg hcell hV1 f1 k1 hall hop
            go_upto_region 12 with fail
            clear a0 a1 a2 a3 a4 a5 a6 a7
            rw [HV1.out]
            go_wp2_with (first
              | (refine wpList_load_v (LP.out V1 (Fr.refl _ _)) (by exact ⟨_, rfl, rfl⟩) (by kernel_rfl) ?_))
            refine KD1.out.mono ?_
            rintro e w11 ⟨hfr, (⟨hgd, rfl, hG2, hf2⟩ | ⟨hgd, d, v, un, cz, fz, bz, rfl, hM, hG2, hH, hU, hff, hbs⟩)⟩
            · obtain ⟨V2, hV2⟩ : ∃ V, w11.alloc (.cells #[.pointer none] 53) = V := ⟨_, rfl⟩
              have fV2 : Fr (fun _ => False) w11 V2 := by rw [← hV2]; exact Fr.alloc (Fr.refl _ _) _
              have fv := hfr.trans fV2 (fun _ _ h => h.elim)
              have LP2 := hid (LP.out V2 fv)
              have KD3 := hid (KD2.out V2 fv)
              rw [hgd] at KD3
              have HST := hid (show T.step t o = t from by unfold T.step; rw [hgd]; rfl)
              have FR := hid hfr
              have HG2 := hid hG2
              have FV2 := hid fV2
              have HV2 := hid hV2
              clear hfr hgd hG2 hf2 hV2 fV2 fv KD2
              dsimp only
              go_upto_region 13 with fail
              rw [HV2.out]
              go_wp2_with (first
                | (refine wpList_load_v LP2.out (by exact ⟨_, rfl, rfl⟩) (by kernel_rfl) ?_))
              refine KD3.out.mono ?_
              rintro e w12 ⟨rfl, cy, ra', rc', zs', ha', hc', hs', D', hpl', hhl', hm', hf'⟩
              rw [HST.out] at hpl'
              have FIN := hid (show k + 1 ≤ n2 ∧ ∃ c cu bud dos last t f ra rc zs2 ha hc hs, U.Pair w p r w12 c cu bud dos last t mb f ra rc zs2 ha hc hs ∧ dos ≤ ((k + 1 : Nat) : Int) ∧ bud ≤ 3000000000 + 2 * (k + 1) ∧ (∀ n x, A.get n t = some x → x.ats.length ≤ 1000000000 + (k + 1)) ∧ t.length ≤ n0 + 2 + (k + 1) ∧ hs.length ≤ k + 1 from
                ⟨hlt, c, cy, bud, dos, last, t, f, ra', rc', zs', ha', hc', hs', S1h.out.step FR.out (fun _ _ => rfl) HG2.out FV2.out hf' hm' D' hpl', by have := HH.out.1; omega, by have := HH.out.2.1; omega, fun n x hx => by have := HH.out.2.2.1 n x hx; omega, by have := HH.out.2.2.2.1; omega, by have := HH.out.2.2.2.2; omega⟩)
              clear KD3 D' hpl' hhl' hm' hf'
              dsimp only
              go_wp2_with fail
              go_roundw
              case rel => exact ⟨k + 1, by first | go_num | rfl | trivial, FIN⟩
              case measure => simp [intOf]; omega
            · obtain ⟨V2, hV2⟩ : ∃ V, w11.alloc (.cells #[ptr d] 53) = V := ⟨_, rfl⟩
              have fV2 : Fr (fun _ => False) w11 V2 := by rw [← hV2]; exact Fr.alloc (Fr.refl _ _) _
              have fv := hfr.trans fV2 (fun _ _ h => h.elim)
              have LP2 := hid (LP.out V2 fv)
              have KD3 := hid (KD2.out V2 fv)
              rw [hgd] at KD3
              have HST := hid (show T.step t o = T.doOp t o from by unfold T.step; rw [hgd]; rfl)
              have FR := hid hfr
              have HG2 := hid hG2
              have HMM := hid hM
              have HBS := hid hbs
              have FV2 := hid fV2
              have HV2 := hid hV2
              clear hfr hgd hM hG2 hH hU hff hbs hV2 fV2 fv KD2
              dsimp only
              go_upto_region 13 with fail
              rw [HV2.out]
              go_wp2_with (first
                | (refine wpList_load_v LP2.out (by exact ⟨_, rfl, rfl⟩) (by kernel_rfl) ?_))
              refine KD3.out.mono ?_
              rintro e w12 ⟨rfl, cy, ra', rc', zs', ha', hc', hs', D', hpl', hhl', hm', hf'⟩
              rw [HST.out] at hpl'
              have FIN := hid (show k + 1 ≤ n2 ∧ ∃ c cu bud dos last t f ra rc zs2 ha hc hs, U.Pair w p r w12 c cu bud dos last t mb f ra rc zs2 ha hc hs ∧ dos ≤ ((k + 1 : Nat) : Int) ∧ bud ≤ 3000000000 + 2 * (k + 1) ∧ (∀ n x, A.get n t = some x → x.ats.length ≤ 1000000000 + (k + 1)) ∧ t.length ≤ n0 + 2 + (k + 1) ∧ hs.length ≤ k + 1 from
                ⟨hlt, cz, cy, bz, dos + 1, dos + 1, T.doOp t o, fz, ra', rc', zs', ha', hc', hs', S1h.out.step FR.out HMM.out HG2.out FV2.out hf' hm' D' hpl', by have := HH.out.1; omega, by have := HH.out.2.1; have := HBS.out; omega, fun n x hx => by have := T.few_step S1h.out.g.wf HH.out.2.2.1 o n x hx; omega, by have := HH.out.2.2.2.1; have := T.length_step S1h.out.g.wf.up o; omega, by have := HH.out.2.2.2.2; omega⟩)
              clear KD3 D' hpl' hhl' hm' hf'
              dsimp only
              go_wp2_with fail
              go_roundw
              case rel => exact ⟨k + 1, by first | go_num | rfl | trivial, FIN⟩
              case measure => simp [intOf]; omega
          · obtain ⟨hk, c, cu, bud, dos, last, t, f, ra, rc, zs2, ha, hc, hs, hS, hdd, hbb, hfw, htt, hhl⟩ := hall.out
            have hkn : ¬ ((k : Int) < (n2 : Int)) := by omega
            have HFW := hid hfw
            have HK := hid hk
            have HTT := hid htt
            have S0 := hid hS
            have KN1 := hid (nodes_any hS.g (fun n x hx => by have := hfw n x hx; omega) (by omega))
            clear hall hk hS hdd hbb hfw htt hhl
            go_wp2_with fail
            refine KN1.out.mono ?_
            rintro e w7 ⟨xa, xc, xs, rfl, hxs, hlx, hf7⟩
            have HXS := hid hxs
            have NR7 := hid hlx.nr
            have P7 := hid (S0.out.idle hf7)
            have KN2 := hid (unodes_any P7.out.d (by have := U.pl_len zs2; rw [P7.out.eq] at this; have := HTT.out; have := HK.out; omega) (fun z hz => by have := U.pl_few P7.out.eq P7.out.g.wf.up HFW.out z hz; have := HK.out; omega))
            rw [P7.out.eq] at KN2
            obtain ⟨xn, hxn⟩ : ∃ n, List.length xs = n := ⟨_, rfl⟩
            rw [hxn]
            have HXN := hid hxn
            clear hxs hlx hf7 hxn KN1
            dsimp only
            go_wp2_with fail
            refine KN2.out.mono ?_
            rintro e w8 ⟨ya, yc, yz, rfl, hyz, hly, hf8⟩
            have P8 := hid (P7.out.idle hf8)
            have KS8 := hid (usame_any (ca := xc) (cb := yc) (NR7.out.kept hf8 (fun _ _ h => h)) hly.nr (by have := U.told_len HXS.out; have := HTT.out; have := HK.out; omega) (fun z hz => by have := U.told_few P7.out.g.wf.up HFW.out HXS.out z hz; have := HK.out; omega))
            rw [U.told_same HXS.out hyz, HXN.out] at KS8
            obtain ⟨yn, hyn⟩ : ∃ n, List.length yz = n := ⟨_, rfl⟩
            rw [hyn] at KS8 ⊢
            clear hyz hly hf8 hyn KN2
            dsimp only
            go_wp2_with fail
            refine KS8.out.mono ?_
            rintro e w9 ⟨rfl, hf9⟩
            have P9 := hid (P8.out.idle hf9)
            clear hf9 KS8
            dsimp only
            go_wp2_with fail
            go_ret
            exact ⟨rfl, P9.out.fr⟩
end Go.Proofs.YtilbdpnioajkoaaGreat

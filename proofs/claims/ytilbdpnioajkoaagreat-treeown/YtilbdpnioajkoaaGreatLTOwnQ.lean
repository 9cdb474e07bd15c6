/-
  TreeOwn: what is answered is nobody's else, and what is handed in is not kept.
-/
import Derived.Test.YtilbdpnioajkoaaGreatMg35
import Derived.Test.YtilbdpnioajkoaaGreatMg36
import Derived.Test.YtilbdpnioajkoaaGreatMg43
import Derived.Test.YtilbdpnioajkoaaGreatMg33
import Derived.Test.YtilbdpnioajkoaaGreatMg46
namespace Go.Proofs.YtilbdpnioajkoaaGreat
open Go.RowKit Go.Maps
set_option linter.unusedVariables false
set_option linter.unusedSimpArgs false
set_option maxRecDepth 100000
attribute [local go_sem] Oper.semAt_some
set_option maxHeartbeats 8000000 in
theorem treeOwn_walk {I J : Nat → Prop} {w : World} {a0 a1 : Option Addr} {c0 c1 : Nat} {os : List S.Op} {zs : List T.Tn} (h0 : T.Ops I w a0 os) (h1 : T.Nr J w a1 zs) (hi : ∀ o ∈ os, o.in64) (l0 : os.length ≤ 1599289640401) (I0 : ∀ g, I g → g < w.heap.size)
    (wf1 : ∀ z ∈ zs, ((Lit.int .i64 z.1.1).wf = true ∧ z.1.2.ats.length ≤ 4400000000000) ∧ (Lit.int .i64 z.1.2.par).wf = true) (l1 : zs.length ≤ 2520000000000) (J0 : ∀ g, J g → g < w.heap.size) :
    Calls Tryz.prog 5 #[.slice a0 os.length c0, .slice a1 zs.length c1] w fun e w' => e = .returned (.bool true) ∧ Fr (fun _ => False) w w' := by
  have KM := hid (made_any (cap := c0) h0 hi l0 I0)
  have KN := hid unew_any
  have KB := hid tbegun_any
  have PL := hid (T.played hi)
  have H0 := hid h0
  have H1 := hid h1
  have HI := hid hi
  have WF1 := hid wf1
  have HJ := hid J0
  obtain ⟨n0, hn0⟩ : ∃ n, os.length = n := ⟨_, rfl⟩
  obtain ⟨n1, hn1⟩ : ∃ n, zs.length = n := ⟨_, rfl⟩
  rw [hn0] at KM l0 PL ⊢
  rw [hn1] at l1 ⊢
  have HN0 := hid hn0
  have HN1 := hid hn1
  clear h0 h1 hi I0 wf1 J0 hn0 hn1
  go_enter Tryz.func5, Tryz.ntmps5
  go_wp2_with fail
  refine KM.out.mono ?_
  rintro e w1 ⟨p, la, ln, lc, c, bud, dos, mb, f, rfl, hG, hdos, hbud, hfew, htl, hf1, hcn⟩
  have HG1 := hid hG
  have HB := hid (And.intro hdos (And.intro hbud (And.intro hfew htl)))
  have F1 := hid hf1
  have CN := hid hcn
  clear hG hdos hbud hfew htl hf1 hcn KM
  dsimp only
  go_wp2_with fail
  refine (KN.out w1).mono ?_
  rintro e w2 ⟨r, ra, rc, cu, rfl, hD, hcu, hf2⟩
  have T2 := hid (show U.Two w p r w2 c cu bud dos dos (T.play T.zero os) mb f ra rc U.zero none 0 [] from
    ⟨HG1.out.kept hf2 (fun _ _ h => h), hD, fun i hi => by
      cases hq : cu i with
      | none => rfl
      | some col => have := hcu i (by rw [hq]; simp); have := HG1.out.lo i hi; omega, CN.out, fun i hi => Nat.le_trans F1.out.size (hcu i hi), F1.out.trans hf2 (fun _ _ h => h)⟩)
  clear hD hcu hf2 KN
  dsimp only
  go_wp2_with fail
  refine (KB.out w2).mono ?_
  rintro e w3 ⟨rfl, hf3⟩
  have T3 := hid (T2.out.idle hf3)
  clear hf3 KB
  dsimp only
  go_wp2_with fail
  go_loopw [43] (fun i wr => ∃ k : Nat, i = .int .i64 k ∧ Hid (k ≤ n0 ∧ ∃ cu ra rc zu ha hc hs, U.Two w p r wr c cu bud dos dos (T.play T.zero os) mb f ra rc zu ha hc hs ∧ U.pl zu = T.play T.zero (os.take k) ∧ hs.length ≤ k))
    (fun i _ => (n0 - intOf i).toNat)
  case atStart => exact ⟨0, rfl, hid ⟨Nat.zero_le _, cu, ra, rc, U.zero, none, 0, [], T3.out, by rw [List.take_zero]; rfl, Nat.le_refl _⟩⟩
  case round =>
    obtain ⟨k, rfl, hall⟩ := hrel
    by_cases hlt : k < n0
    · obtain ⟨o, ho⟩ : ∃ q, os[k]? = some q := ⟨_, List.getElem?_eq_getElem (by rw [HN0.out]; exact hlt)⟩
      obtain ⟨hk, cu, ra, rc, zu, ha, hc, hs, hS, hpl, hhl⟩ := hall.out
      obtain ⟨pw, pf, plen⟩ := PL.out k hk
      obtain ⟨g, q, rfl, hIg, hcell⟩ := (H0.out.kept hS.fr (fun _ _ h => h)).cell ho
      have b0 : wr.cell? ⟨g, q + k * 8, none⟩ = some (.int .i64 o.t) := hcell 0 _ (by omega) rfl
      have b1 : wr.cell? ⟨g, q + k * 8 + 1, none⟩ = some (.int .i64 o.s) := hcell 1 _ (by omega) rfl
      have b2 : wr.cell? ⟨g, q + k * 8 + 2, none⟩ = some (.int .i64 o.k) := hcell 2 _ (by omega) rfl
      have b3 : wr.cell? ⟨g, q + k * 8 + 3, none⟩ = some (.int .i64 o.n) := hcell 3 _ (by omega) rfl
      have b4 : wr.cell? ⟨g, q + k * 8 + 4, none⟩ = some (.int .i64 o.p) := hcell 4 _ (by omega) rfl
      have b5 : wr.cell? ⟨g, q + k * 8 + 5, none⟩ = some (.string o.a) := hcell 5 _ (by omega) rfl
      have b6 : wr.cell? ⟨g, q + k * 8 + 6, none⟩ = some (.string o.b) := hcell 6 _ (by omega) rfl
      have b7 : wr.cell? ⟨g, q + k * 8 + 7, none⟩ = some (.string o.c) := hcell 7 _ (by omega) rfl
      have i0 : (0 : Int) ≤ (k : Int) := by omega
      have i1 : (k : Int) < (n0 : Int) := by omega
      obtain ⟨V1, hV1⟩ : ∃ V, wr.alloc (.cells o.cs 35) = V := ⟨_, rfl⟩
      have f1 : Fr (fun _ => False) wr V1 := by rw [← hV1]; exact Fr.alloc (Fr.refl _ _) _
      have k1 : V1.heap[wr.heap.size]? = some (.cells o.cs 35 (0, 0)) := by rw [← hV1]; exact Go.heap_alloc_new wr _
      have LP := hid (load_whole k1 (ty := 35) Tryz.underlying35 rfl (by kernel_rfl))
      have S1h := hid (hS.idle f1)
      have KD := hid (udstep_any S1h.out.d (by rw [hpl]; exact pw) (by have := U.pl_len zu; rw [hpl] at this; omega) (fun z hz => by
        have h3 : z.1 ∈ T.play T.zero (os.take k) := by rw [← hpl]; exact List.mem_map.2 ⟨z, hz, rfl⟩
        have := pf z.1.1 z.1.2 ((A.get_iff pw.up).2 h3)
        omega) (by omega) o)
      rw [hpl] at KD
      have HST := hid (T.play_take (t := T.zero) ho)
      have HV1 := hid hV1
      have HHL := hid hhl
      clear ho hk hS hpl hhl pw pf plen hIg hcell hV1 f1 k1 hall
      go_upto_region 8 with fail
      clear b0 b1 b2 b3 b4 b5 b6 b7
      rw [HV1.out]
      go_wp2_with (first
        | (refine wpList_load_v LP.out (by exact ⟨_, rfl, rfl⟩) (by kernel_rfl) ?_))
      refine KD.out.mono ?_
      rintro e w11 ⟨rfl, cy, ra', rc', zs', ha', hc', hs', D', hpl', hhl', hm', hf'⟩
      have FIN := hid (show k + 1 ≤ n0 ∧ ∃ cu ra rc zu ha hc hs, U.Two w p r w11 c cu bud dos dos (T.play T.zero os) mb f ra rc zu ha hc hs ∧ U.pl zu = T.play T.zero (os.take (k + 1)) ∧ hs.length ≤ k + 1 from
        ⟨hlt, cy, ra', rc', zs', ha', hc', hs', S1h.out.second hf' hm' D', by rw [hpl', HST.out], by have := HHL.out; omega⟩)
      clear KD D' hpl' hhl' hm' hf'
      dsimp only
      go_wp2_with fail
      go_roundw
      case rel => exact ⟨k + 1, by first | go_num | rfl | trivial, FIN⟩
      case measure => simp [intOf]; omega
    · obtain ⟨hk, cu, ra, rc, zu, ha, hc, hs, hS, hpl, hhl⟩ := hall.out
      have hkn : k = n0 := by omega
      have hki : ¬ ((k : Int) < (n0 : Int)) := by omega
      rw [List.take_of_length_le (by rw [HN0.out]; omega)] at hpl
      have T4 := hid hS
      have HPL := hid hpl
      have KN4 := hid (nodes_any hS.g (fun n x hx => by have := HB.out.2.2.1 n x hx; omega) (by have := HB.out.2.2.2; omega))
      clear hall hk hS hpl hhl hkn
      go_wp2_with fail
      refine KN4.out.mono ?_
      rintro e w5 ⟨xa, xc, xs, rfl, hxs, hlx, hf5⟩
      have hsp : ∀ i, U.Sp xs i → wr.heap.size ≤ i ∧ i < w5.heap.size ∧ blk xa ≠ some i := fun i ⟨z, hz, hn, hb⟩ => T.rw_at (hlx.el z hz) hn hb
      have hsz5 := hf5.size
      have O5 := hid (show U.Ow w p r c cu bud dos dos (T.play T.zero os) mb f ra rc zu ha hc hs w5 xs w5 from
        ⟨T4.out.idle hf5, Fr.refl _ _, fun z hz => T.Th.of_rw (hlx.el z hz) (hlx.wr z hz), fun i hi => by
          have h1 := (hsp i hi).1
          have h2 := T4.out.fr.size
          refine ⟨?_, ?_, by omega⟩
          · cases hq : c i with
            | none => rfl
            | some x => have := T4.out.g.lo i (by rw [hq]; simp); omega
          · cases hq : cu i with
            | none => rfl
            | some x => have := T4.out.d.lo i (by rw [hq]; simp); omega, fun i hi => by have := T4.out.g.lo i hi; omega, fun i hi => by have := T4.out.d.lo i hi; omega⟩)
      have HSP := hid hsp
      have HSH := hid (show ∀ z ∈ xs, 0 < z.1.2.ats.length → ∃ g o, z.2.1 = some ⟨g, o, none⟩ from fun z hz hn => by
        rcases (hlx.el z hz).2 with h0 | ⟨g, o, ea, _⟩
        · omega
        · exact ⟨g, o, ea⟩)
      have HXS := hid hxs
      have HRO := hid hlx.row
      obtain ⟨xn, hxn⟩ : ∃ n, List.length xs = n := ⟨_, rfl⟩
      have HXN := hid hxn
      have HXL := hid (show xn ≤ 5000000000000 by rw [← hxn]; have := U.told_len hxs; have := HB.out.2.2.2; omega)
      have XF := hid (show ∀ z ∈ xs, A.get z.1.1 (T.play T.zero os) = some z.1.2 from fun z hz => by
        have h3 : z.1 ∈ T.told (T.play T.zero os) := by rw [← hxs]; exact List.mem_map.2 ⟨z, hz, rfl⟩
        exact (A.get_iff T4.out.g.wf.up).2 (List.mem_filter.1 h3).1)
      rw [hxn]
      clear hxs hlx hf5 KN4 hsp hsz5 hxn
      dsimp only
      obtain ⟨wq, rfl⟩ : ∃ wq, wq = wr := ⟨_, rfl⟩
      go_wp2_with fail
      go_loopw [54] (fun i wx => ∃ k : Nat, i = .int .i64 k ∧ Hid (k ≤ xn ∧ U.Ow w p r c cu bud dos dos (T.play T.zero os) mb f ra rc zu ha hc hs w5 xs wx))
        (fun i _ => (xn - intOf i).toNat)
      case atStart => exact ⟨0, rfl, hid ⟨Nat.zero_le _, O5.out⟩⟩
      case round =>
        obtain ⟨j, rfl, hall⟩ := hrel
        by_cases hjl : j < xn
        · obtain ⟨z, hz⟩ : ∃ z, xs[j]? = some z := ⟨_, List.getElem?_eq_getElem (by rw [HXN.out]; exact hjl)⟩
          obtain ⟨hj, hO⟩ := hall.out
          have hrow := HRO.out.kept hO.fr (fun g hg e => (HSP.out g e).2.2 hg)
          obtain ⟨xg, xo, e1, _, x0, x1, x2, x3⟩ := T.flatN_cells (Rw.of_ro hrow (I := fun _ => True) (fun _ _ => trivial)) hz
          have hzm := List.mem_of_getElem? hz
          have hget := XF.out z hzm
          have hth := hO.th z hzm
          have hsh := HSH.out z hzm
          obtain ⟨⟨zn, ⟨zp, zs2, zat⟩⟩, ⟨za, zc⟩⟩ := z
          simp only at x0 x1 x2 x3 hget hth hsh
          obtain ⟨al, hal⟩ : ∃ n, zat.length = n := ⟨_, rfl⟩
          have hspz : 0 < al → ∀ g, blk za = some g → U.Sp xs g := fun hn g hg => ⟨_, hzm, by show 0 < zat.length; omega, hg⟩
          rw [hal] at x3 hth hsh
          have HSHZ := hid hsh
          have i0 : (0 : Int) ≤ (j : Int) := by omega
          have i1 : (j : Int) < (xn : Int) := by omega
          obtain ⟨V6, hV6⟩ : ∃ V, wr.alloc (.cells #[.int .i64 zn, .int .i64 zp, .string zs2, .slice za al zc] 63) = V := ⟨_, rfl⟩
          have f6 : Fr (fun _ => False) wr V6 := by rw [← hV6]; exact Fr.alloc (Fr.refl _ _) _
          have k6 : V6.heap[wr.heap.size]? = some (.cells #[.int .i64 zn, .int .i64 zp, .string zs2, .slice za al zc] 63 (0, 0)) := by rw [← hV6]; exact Go.heap_alloc_new wr _
          have O6 := hid (hO.idle f6)
          have TH6 := hid (hth.kept f6 (fun _ _ _ h => h))
          have K6 := hid k6
          have HSZ := hid hspz
          have HGET := hid hget
          have HW5 := hid (show w5.heap.size ≤ wr.heap.size from hO.fr.size)
          have c3 : V6.cell? ⟨wr.heap.size, 3, none⟩ = some (.slice za al zc) := cellA (j := 3) k6 rfl
          have HV6 := hid hV6
          subst e1
          have HZM := hid hzm
          have HAL := hid hal
          clear hall hj hO hrow hz hzm hget hth hsh hspz hal hV6 f6 k6
          go_upto_region 13 with fail
          clear x0 x1 x2 x3
          rw [HV6.out]
          go_wp2_with fail
          obtain ⟨xb, hxb⟩ : ∃ b, wr.heap.size = b := ⟨_, rfl⟩
          rw [hxb] at K6 HW5 c3 ⊢
          have HXB := hid HW5.out
          have K6b := hid K6.out
          have hal2 : al ≤ n0 := by have := HB.out.2.2.1 _ _ HGET.out; rw [← HAL.out]; exact this
          clear HW5 K6
          go_loopw [61] (fun i wx => ∃ j : Nat, i = .int .i64 j ∧ Hid (j ≤ al ∧ U.Ow w p r c cu bud dos dos (T.play T.zero os) mb f ra rc zu ha hc hs w5 xs wx ∧ wx.heap[xb]? = some (.cells #[.int .i64 zn, .int .i64 zp, .string zs2, .slice za al zc] 63 (0, 0))))
            (fun i _ => (al - intOf i).toNat)
          case atStart => exact ⟨0, rfl, hid ⟨Nat.zero_le _, O6.out, K6b.out⟩⟩
          case round =>
            obtain ⟨v, rfl, hall⟩ := hrel
            by_cases hvl : v < al
            · obtain ⟨hv, hO, hK⟩ := hall.out
              obtain ⟨ag, ao, rfl⟩ := HSHZ.out (by omega)
              have hsg : U.Sp xs ag := HSZ.out (by omega) ag rfl
              have hlg := HSP.out ag hsg
              obtain ⟨⟨u0, b0⟩, b1⟩ := (by have := hO.th _ HZM.out ag ao rfl (v * 2 + 1) (by have := HAL.out; simp only at this ⊢; omega); exact this)
              have i0 : (0 : Int) ≤ (v : Int) := by omega
              have i1 : (v : Int) < (al : Int) := by omega
              rw [show ao + (v * 2 + 1) = ao + v * 2 + 1 from rfl] at b0 b1
              have y3 : wr.cell? ⟨xb, 3, none⟩ = some (.slice (some ⟨ag, ao, none⟩) al zc) := cellA (j := 3) hK rfl
              have FIN := hid (show v + 1 ≤ al ∧ U.Ow w p r c cu bud dos dos (T.play T.zero os) mb f ra rc zu ha hc hs w5 xs (wr.setCell ⟨ag, ao + v * 2 + 1, none⟩ (.string { data := #[115, 112, 111, 105, 108, 116] })) ∧ (wr.setCell ⟨ag, ao + v * 2 + 1, none⟩ (.string { data := #[115, 112, 111, 105, 108, 116] })).heap[xb]? = some (.cells #[.int .i64 zn, .int .i64 zp, .string zs2, .slice (some ⟨ag, ao, none⟩) al zc] 63 (0, 0)) from
                ⟨hvl, hO.set (.inl hsg) _ _, (Fr.setCell (S := fun i => i = ag) (p := ⟨ag, ao + v * 2 + 1, none⟩) (Fr.refl _ wr) (fun _ => rfl) _).cells hK (fun e => by have := HXB.out; omega)⟩)
              clear hall hv hO hK hsg hlg
              go_wp2_with fail
              go_roundw
              case rel => exact ⟨v + 1, by first | go_num | rfl | trivial, FIN⟩
              case measure => simp [intOf]; omega
            · obtain ⟨hv, hO, hK⟩ := hall.out
              have hvi : ¬ ((v : Int) < (al : Int)) := by omega
              have O7 := hid hO
              have K7 := hid hK
              clear hall hv hO hK O6 c3
              have G7 := hid O7.out.two.g
              have HZW := hid (show (Lit.int .i64 zn).wf = true ∧ (Lit.int .i64 zp).wf = true from ⟨by have := G7.out.wf.num _ _ HGET.out; simp [Lit.wf, IntKind.min, IntKind.max, IntKind.signed, IntKind.bits]; omega, G7.out.wf.parwf _ _ HGET.out⟩)
              have KCH := hid (fun (V : World) (hf : Fr (fun _ => False) wr V) (n : Int) (hn : (Lit.int .i64 n).wf = true) => childrenw_any (G7.out.tf.kept hf (fun _ _ h => h)) G7.out.wf.up (by have := HB.out.2.1; omega) (by have := HB.out.2.2.2; omega) G7.out.wf.nmlen hn)
              have HC := hid (show ∀ V, Fr (fun _ => False) wr V → V.cell? ⟨xb, 0, none⟩ = some (.int .i64 zn) ∧ V.cell? ⟨xb, 1, none⟩ = some (.int .i64 zp) from fun V hf => ⟨cellA (j := 0) (hf.cells K7.out (fun h => h)) rfl, cellA (j := 1) (hf.cells K7.out (fun h => h)) rfl⟩)
              go_wp2_with fail
              have hmx : Tryz.prog.follows .mixedOrders = true := by kernel_rfl
              refine wp_region_held (S := fun V => Fr (fun _ => False) wr V) hmx ?_
              have hS := (Fr.drew (Fr.refl (fun _ => False) wr))
              simp only [List.size_toArray, List.length_cons, List.length_nil, Nat.reduceAdd, Array.replicate_succ, Array.replicate_zero, List.push_toArray, List.nil_append, List.cons_append]
              refine wpAnyH_take (i := 0) (v := ?_) rfl (by kernel_rfl) (by kernel_rfl) (by kernel_rfl) (fun _ _ _ h => h) (Or.inl ⟨by kernel_rfl, ?_⟩) hS ?_
              rotate_left 1
              · (intro w' hS'; clear hS'; go_simp; try with_reducible rfl)
              simp only [List.getElem_toArray, List.getElem_cons_zero, List.getElem_cons_succ, Act.put, List.setIfInBounds_toArray, List.set_cons_zero, List.set_cons_succ]
              refine wpAnyH_take (i := 1) (v := ?_) rfl (by kernel_rfl) (by kernel_rfl) (by kernel_rfl) (fun _ _ _ h => h) (Or.inl ⟨by kernel_rfl, ?_⟩) hS ?_
              rotate_left 1
              · (intro w' hS'; clear hS'; go_simp; try with_reducible rfl)
              simp only [List.getElem_toArray, List.getElem_cons_zero, List.getElem_cons_succ, Act.put, List.setIfInBounds_toArray, List.set_cons_zero, List.set_cons_succ]
              refine wpAnyH_take (i := 2) (v := ?_) rfl (by kernel_rfl) (by kernel_rfl) (by kernel_rfl) (fun _ _ _ h => h) (Or.inl ⟨by kernel_rfl, ?_⟩) hS ?_
              rotate_left 1
              · (intro w' hS'; have h1 := (HC.out w' hS').1; clear hS'; go_simp; try with_reducible rfl)
              simp only [List.getElem_toArray, List.getElem_cons_zero, List.getElem_cons_succ, Act.put, List.setIfInBounds_toArray, List.set_cons_zero, List.set_cons_succ]
              refine wpAnyH_take (i := 4) (v := ?_) rfl (by kernel_rfl) (by kernel_rfl) (by kernel_rfl) (fun _ _ _ h => h) (Or.inl ⟨by kernel_rfl, ?_⟩) hS ?_
              rotate_left 1
              · (intro w' hS'; clear hS'; go_simp; try with_reducible rfl)
              simp only [List.getElem_toArray, List.getElem_cons_zero, List.getElem_cons_succ, Act.put, List.setIfInBounds_toArray, List.set_cons_zero, List.set_cons_succ]
              refine wpAnyH_take (i := 5) (v := ?_) rfl (by kernel_rfl) (by kernel_rfl) (by kernel_rfl) (fun _ _ _ h => h) (Or.inl ⟨by kernel_rfl, ?_⟩) hS ?_
              rotate_left 1
              · (intro w' hS'; clear hS'; go_simp; try with_reducible rfl)
              simp only [List.getElem_toArray, List.getElem_cons_zero, List.getElem_cons_succ, Act.put, List.setIfInBounds_toArray, List.set_cons_zero, List.set_cons_succ]
              refine wpAnyH_take (i := 6) (v := ?_) rfl (by kernel_rfl) (by kernel_rfl) (by kernel_rfl) (fun _ _ _ h => h) (Or.inl ⟨by kernel_rfl, ?_⟩) hS ?_
              rotate_left 1
              · (intro w' hS'; have h1 := (HC.out w' hS').2; clear hS'; go_simp; try with_reducible rfl)
              simp only [List.getElem_toArray, List.getElem_cons_zero, List.getElem_cons_succ, Act.put, List.setIfInBounds_toArray, List.set_cons_zero, List.set_cons_succ]
              refine wpAnyH_take (i := 10) (v := ?_) rfl (by kernel_rfl) (by kernel_rfl) (by kernel_rfl) (fun _ _ _ h => h) (Or.inl ⟨by kernel_rfl, ?_⟩) hS ?_
              rotate_left 1
              · (intro w' hS'; clear hS'; go_simp; try with_reducible rfl)
              simp only [List.getElem_toArray, List.getElem_cons_zero, List.getElem_cons_succ, Act.put, List.setIfInBounds_toArray, List.set_cons_zero, List.set_cons_succ]
              refine wpAnyH_ready (rs := [3]) (by kernel_rfl) (by simp) ?_
              refine AllReadyH.cons rfl (fun K1 hK1 => ?_) (AllReadyH.nil)
              go_simp
              refine (KCH.out _ hS zn HZW.out.1).mono ?_
              rintro e w8 ⟨ca, cm, cc, rfl, hcm, hth8, hs8, hn8, fx⟩
              have P8 := hid (And.intro hcm hth8)
              have S8 := hid hs8
              have N8 := hid (fun i hi => Nat.le_trans (Fr.drew (Fr.refl (fun _ => False) wr)).size (hn8 i hi))
              clear hcm hth8 hs8 hn8
              refine hK1.out _ _ (hS.trans fx (fun _ _ h => h)) (fun hS => ?_)
              clear fx
              clear hK1 K1
              simp only [List.getElem_toArray, List.getElem_cons_zero, List.getElem_cons_succ, Act.put, List.setIfInBounds_toArray, List.set_cons_zero, List.set_cons_succ]
              refine wpAnyH_ready (rs := [7]) (by kernel_rfl) (by simp) ?_
              refine AllReadyH.cons rfl (fun K1 hK1 => ?_) (AllReadyH.nil)
              go_simp
              refine (KCH.out _ hS zp HZW.out.2).mono ?_
              rintro e w9 ⟨da, dm, dc, rfl, hdm, hth9, hs9, hn9, fx⟩
              have P9 := hid (And.intro hdm hth9)
              have S9 := hid hs9
              have N9 := hid (fun i hi => Nat.le_trans hS.size (hn9 i hi))
              have P8b := hid (P8.out.2.kept fx (fun _ _ _ h => h))
              clear hdm hth9 hs9 hn9
              refine hK1.out _ _ (hS.trans fx (fun _ _ h => h)) (fun hS => ?_)
              clear fx
              clear hK1 K1
              simp only [List.getElem_toArray, List.getElem_cons_zero, List.getElem_cons_succ, Act.put, List.setIfInBounds_toArray, List.set_cons_zero, List.set_cons_succ]
              refine wpAnyH_ready (rs := [8]) (by kernel_rfl) (by simp) ?_
              refine AllReadyH.cons rfl (fun K1 hK1 => ?_) (AllReadyH.nil)
              go_simp
              have F9 := hid hS
              refine hK1.out _ _ (Fr.alloc hS _) (fun hS => ?_)
              clear hK1 K1
              simp only [List.getElem_toArray, List.getElem_cons_zero, List.getElem_cons_succ, Act.put, List.setIfInBounds_toArray, List.set_cons_zero, List.set_cons_succ]
              refine wpAnyH_take (i := 9) (v := ?_) rfl (by kernel_rfl) (by kernel_rfl) (by kernel_rfl) (fun _ _ _ h => h) (Or.inl ⟨by kernel_rfl, ?_⟩) hS ?_
              rotate_left 1
              · (intro w' hS'; clear hS'; go_simp; try with_reducible rfl)
              simp only [List.getElem_toArray, List.getElem_cons_zero, List.getElem_cons_succ, Act.put, List.setIfInBounds_toArray, List.set_cons_zero, List.set_cons_succ]
              refine wpAnyH_done (by kernel_rfl) ?_ _
              clear hS
              obtain ⟨V, hV⟩ : ∃ V, w9.alloc (.cells #[.slice ca cm cc, .slice da dm dc] 66) = V := ⟨_, rfl⟩
              obtain ⟨q, hq⟩ : ∃ q, w9.heap.size = q := ⟨_, rfl⟩
              have fV : Fr (fun _ => False) w9 V := by rw [← hV]; exact Fr.alloc (Fr.refl _ _) _
              have kq : V.heap[q]? = some (.cells #[.slice ca cm cc, .slice da dm dc] 66 (0, 0)) := by rw [← hV, ← hq]; exact Go.heap_alloc_new w9 _
              have INV0 := hid (show U.Ow w p r c cu bud dos dos (T.play T.zero os) mb f ra rc zu ha hc hs w5 xs V ∧ V.heap[xb]? = some (.cells #[.int .i64 zn, .int .i64 zp, .string zs2, .slice za al zc] 63 (0, 0)) ∧ V.heap[q]? = some (.cells #[.slice ca cm cc, .slice da dm dc] 66 (0, 0)) ∧ T.Th V ca cm ∧ T.Th V da dm from
                ⟨O7.out.idle (F9.out.trans fV (fun _ _ h => h)), (F9.out.trans fV (fun _ _ h => h)).cells K7.out (fun h => h), kq, P8b.out.kept fV (fun _ _ _ h => h), P9.out.2.kept fV (fun _ _ _ h => h)⟩)
              have ST := hid (show ∀ aa am, ((aa = ca ∧ am = cm) ∨ (aa = da ∧ am = dm)) → 0 < am → ∃ g o, aa = some ⟨g, o, none⟩ ∧ xb < g ∧ g < q ∧ w5.heap.size ≤ g from fun aa am hh hn => by
                have h5 := HXB.out
                have h6 : xb < wr.heap.size := lt_of_row K7.out
                have h7 : ∃ g o, aa = some ⟨g, o, none⟩ ∧ wr.heap.size ≤ g ∧ g < w9.heap.size := by
                  rcases hh with ⟨e1, e2⟩ | ⟨e1, e2⟩
                  · rw [e2] at hn
                    obtain ⟨g, o, e⟩ := S8.out hn
                    obtain ⟨⟨u, hu⟩, _⟩ := P8b.out g o e 0 (by omega)
                    exact ⟨g, o, by rw [e1, e], N8.out g (by rw [e]; rfl), T.cell_lt hu⟩
                  · rw [e2] at hn
                    obtain ⟨g, o, e⟩ := S9.out hn
                    obtain ⟨⟨u, hu⟩, _⟩ := P9.out.2 g o e 0 (by omega)
                    exact ⟨g, o, by rw [e1, e], N9.out g (by rw [e]; rfl), T.cell_lt hu⟩
                obtain ⟨g, o, e, h1, h2⟩ := h7
                exact ⟨g, o, e, by omega, by omega, by omega⟩)
              have LM := hid (And.intro P8.out.1 P9.out.1)
              rw [hV, hq]
              clear fV kq hV hq K7 P8b P9 P8 S8 S9 N8 N9 F9 HC KCH O7 O5
              go_wp2_with fail
              go_loopw [80] (fun i wx => ∃ v : Nat, i = .int .i64 v ∧ Hid (v ≤ 2 ∧ U.Ow w p r c cu bud dos dos (T.play T.zero os) mb f ra rc zu ha hc hs w5 xs wx ∧ wx.heap[xb]? = some (.cells #[.int .i64 zn, .int .i64 zp, .string zs2, .slice za al zc] 63 (0, 0)) ∧ wx.heap[q]? = some (.cells #[.slice ca cm cc, .slice da dm dc] 66 (0, 0)) ∧ T.Th wx ca cm ∧ T.Th wx da dm))
                (fun i _ => (2 - intOf i).toNat)
              case atStart => exact ⟨0, rfl, hid ⟨by omega, INV0.out⟩⟩
              case round =>
                obtain ⟨v, rfl, hall⟩ := hrel
                by_cases hvl : v < 2
                · have HI := hid hall.out.2
                  have hQ := HI.out.2.2.1
                  obtain ⟨aa, am, ac, hia, hcl⟩ : ∃ aa am ac, ((aa = ca ∧ am = cm) ∨ (aa = da ∧ am = dm)) ∧ wr.cell? ⟨q, v, none⟩ = some (.slice aa am ac) := by
                    have hv2 : v = 0 ∨ v = 1 := by omega
                    rcases hv2 with rfl | rfl
                    · exact ⟨ca, cm, cc, .inl ⟨rfl, rfl⟩, cellA (j := 0) hQ rfl⟩
                    · exact ⟨da, dm, dc, .inr ⟨rfl, rfl⟩, cellA (j := 1) hQ rfl⟩
                  have i0 : (0 : Int) ≤ (v : Int) := by omega
                  have i1 : (v : Int) < 2 := by omega
                  have HIA := hid hia
                  clear hall hQ hia
                  go_wp2_with fail
                  have hal3 : am ≤ 5000000000000 := by rcases HIA.out with ⟨_, e⟩ | ⟨_, e⟩ <;> rw [e] <;> first | exact LM.out.1 | exact LM.out.2
                  clear hcl
                  obtain ⟨we, rfl⟩ : ∃ we, we = wr := ⟨_, rfl⟩
                  go_loopw [86] (fun i wx => ∃ j : Nat, i = .int .i64 j ∧ Hid (j ≤ am ∧ U.Ow w p r c cu bud dos dos (T.play T.zero os) mb f ra rc zu ha hc hs w5 xs wx ∧ wx.heap[xb]? = some (.cells #[.int .i64 zn, .int .i64 zp, .string zs2, .slice za al zc] 63 (0, 0)) ∧ wx.heap[q]? = some (.cells #[.slice ca cm cc, .slice da dm dc] 66 (0, 0)) ∧ T.Th wx ca cm ∧ T.Th wx da dm))
                    (fun i _ => (am - intOf i).toNat)
                  case atStart => exact ⟨0, rfl, hid ⟨Nat.zero_le _, HI.out⟩⟩
                  case round =>
                    obtain ⟨j, rfl, hall⟩ := hrel
                    by_cases hjl2 : j < am
                    · obtain ⟨hj, hO, hK, hQ, ht1, ht2⟩ := hall.out
                      obtain ⟨g, o, rfl, hg1, hg2, hg3⟩ := ST.out _ _ HIA.out (by omega)
                      obtain ⟨⟨u0, b0⟩, b1⟩ : (∃ u, wr.cell? ⟨g, o + (j * 2 + 1), none⟩ = some u) ∧ wr.frozen? ⟨g, o + (j * 2 + 1), none⟩ = false := by
                        rcases HIA.out with ⟨e1, e2⟩ | ⟨e1, e2⟩
                        · exact ht1 g o e1.symm (j * 2 + 1) (by omega)
                        · exact ht2 g o e1.symm (j * 2 + 1) (by omega)
                      rw [show o + (j * 2 + 1) = o + j * 2 + 1 from rfl] at b0 b1
                      have i0 : (0 : Int) ≤ (j : Int) := by omega
                      have i1 : (j : Int) < (am : Int) := by omega
                      have fS : Fr (fun i => i = g) wr (wr.setCell ⟨g, o + j * 2 + 1, none⟩ (.int .i64 (-9))) := Fr.setCell (S := fun i => i = g) (p := ⟨g, o + j * 2 + 1, none⟩) (Fr.refl _ wr) (fun _ => rfl) _
                      obtain ⟨wy, hwy⟩ : ∃ W, wr.setCell ⟨g, o + j * 2 + 1, none⟩ (.int .i64 (-9)) = W := ⟨_, rfl⟩
                      have FIN := hid (show j + 1 ≤ am ∧ U.Ow w p r c cu bud dos dos (T.play T.zero os) mb f ra rc zu ha hc hs w5 xs wy ∧ wy.heap[xb]? = some (.cells #[.int .i64 zn, .int .i64 zp, .string zs2, .slice za al zc] 63 (0, 0)) ∧ wy.heap[q]? = some (.cells #[.slice ca cm cc, .slice da dm dc] 66 (0, 0)) ∧ T.Th wy ca cm ∧ T.Th wy da dm from by
                        rw [hwy] at fS
                        refine ⟨hjl2, by rw [← hwy]; exact hO.set (.inr hg3) _ _, fS.cells hK (fun e => by omega), fS.cells hQ (fun e => by omega), by rw [← hwy]; exact ht1.set _ _ _, by rw [← hwy]; exact ht2.set _ _ _⟩)
                      rw [← hwy] at FIN
                      clear hall hj hO hK hQ ht1 ht2 fS hwy hg1 hg2 hg3
                      go_wp2_with fail
                      go_roundw
                      case rel => exact ⟨j + 1, by first | go_num | rfl | trivial, FIN⟩
                      case measure => simp [intOf]; omega
                    · have hji : ¬ ((j : Int) < (am : Int)) := by omega
                      have FIN := hid (show v + 1 ≤ 2 ∧ U.Ow w p r c cu bud dos dos (T.play T.zero os) mb f ra rc zu ha hc hs w5 xs wr ∧ wr.heap[xb]? = some (.cells #[.int .i64 zn, .int .i64 zp, .string zs2, .slice za al zc] 63 (0, 0)) ∧ wr.heap[q]? = some (.cells #[.slice ca cm cc, .slice da dm dc] 66 (0, 0)) ∧ T.Th wr ca cm ∧ T.Th wr da dm from ⟨hvl, hall.out.2⟩)
                      clear hall
                      go_wp2_with fail
                      go_roundw
                      case rel => exact ⟨v + 1, by first | go_num | rfl | trivial, FIN⟩
                      case measure => simp [intOf]; omega
                · obtain ⟨_, hO, hK, _⟩ := hall.out
                  have hvi : ¬ ((v : Int) < 2) := by omega
                  have O8 := hid hO
                  have K8 := hid hK
                  have c0x : wr.cell? ⟨xb, 0, none⟩ = some (.int .i64 zn) := cellA (j := 0) hK rfl
                  have KNO := hid (nodew_any O8.out.two.g.tf HZW.out.1 HGET.out (O8.out.two.g.wf.ats _ _ HGET.out).1 (by have := HB.out.2.2.1 _ _ HGET.out; simp only at this ⊢; omega))
                  clear hall hO hK INV0 ST LM
                  go_wp2_with fail
                  refine KNO.out.mono ?_
                  rintro e wn ⟨ya, yc, rfl, hrw, hwn, fn⟩
                  have hth := T.Th.of_rw hrw hwn
                  have hys : 0 < zat.length → ∃ g o, ya = some ⟨g, o, none⟩ ∧ wr.heap.size ≤ g ∧ g < wn.heap.size := fun hn => by
                    rcases hrw.2 with h0 | ⟨g, o, ea, hg, _⟩
                    · omega
                    · exact ⟨g, o, ea, hg⟩
                  rw [HAL.out] at hth hys
                  have TH9 := hid hth
                  have YS := hid hys
                  have O9 := hid (O8.out.idle fn)
                  have W59 := hid (show w5.heap.size ≤ wr.heap.size by have := O8.out.fr.size; exact this)
                  unfold T.tn
                  simp only [HAL.out]
                  clear hrw hwn fn hth hys KNO c0x K8 O8
                  go_wp2_with fail
                  obtain ⟨VY, hVY⟩ : ∃ V, wn.alloc (.cells #[.int .i64 zn, .int .i64 zp, .string zs2, .slice ya al yc] 63) = V := ⟨_, rfl⟩
                  obtain ⟨yb, hyb⟩ : ∃ b, wn.heap.size = b := ⟨_, rfl⟩
                  have fY : Fr (fun _ => False) wn VY := by rw [← hVY]; exact Fr.alloc (Fr.refl _ _) _
                  have ky : VY.heap[yb]? = some (.cells #[.int .i64 zn, .int .i64 zp, .string zs2, .slice ya al yc] 63 (0, 0)) := by rw [← hVY, ← hyb]; exact Go.heap_alloc_new wn _
                  have INY0 := hid (show U.Ow w p r c cu bud dos dos (T.play T.zero os) mb f ra rc zu ha hc hs w5 xs VY ∧ VY.heap[yb]? = some (.cells #[.int .i64 zn, .int .i64 zp, .string zs2, .slice ya al yc] 63 (0, 0)) ∧ T.Th VY ya al from ⟨O9.out.idle fY, ky, TH9.out.kept fY (fun _ _ _ h => h)⟩)
                  rw [hyb] at YS
                  rw [hVY, hyb]
                  clear hVY hyb fY ky TH9 O9
                  obtain ⟨we, rfl⟩ : ∃ we, we = wr := ⟨_, rfl⟩
                  go_loopw [105] (fun i wx => ∃ y : Nat, i = .int .i64 y ∧ Hid (y ≤ al ∧ U.Ow w p r c cu bud dos dos (T.play T.zero os) mb f ra rc zu ha hc hs w5 xs wx ∧ wx.heap[yb]? = some (.cells #[.int .i64 zn, .int .i64 zp, .string zs2, .slice ya al yc] 63 (0, 0)) ∧ T.Th wx ya al))
                    (fun i _ => (al - intOf i).toNat)
                  case atStart => exact ⟨0, rfl, hid ⟨Nat.zero_le _, INY0.out⟩⟩
                  case round =>
                    obtain ⟨y, rfl, hall⟩ := hrel
                    by_cases hyl : y < al
                    · obtain ⟨_, hO, hK, ht⟩ := hall.out
                      obtain ⟨g, o, rfl, hg1, hg2⟩ := YS.out (by omega)
                      obtain ⟨⟨u0, b0⟩, b1⟩ : (∃ u, wr.cell? ⟨g, o + (y * 2 + 0), none⟩ = some u) ∧ wr.frozen? ⟨g, o + (y * 2 + 0), none⟩ = false := ht g o rfl (y * 2 + 0) (by omega)
                      rw [show o + (y * 2 + 0) = o + y * 2 from rfl] at b0 b1
                      have i0 : (0 : Int) ≤ (y : Int) := by omega
                      have i1 : (y : Int) < (al : Int) := by omega
                      have y3 : wr.cell? ⟨yb, 3, none⟩ = some (.slice (some ⟨g, o, none⟩) al yc) := cellA (j := 3) hK rfl
                      have fS : Fr (fun i => i = g) wr (wr.setCell ⟨g, o + y * 2, none⟩ (.string { data := #[115, 112, 111, 105, 108, 116] })) := Fr.setCell (S := fun i => i = g) (p := ⟨g, o + y * 2, none⟩) (Fr.refl _ wr) (fun _ => rfl) _
                      obtain ⟨wy, hwy⟩ : ∃ W, wr.setCell ⟨g, o + y * 2, none⟩ (.string { data := #[115, 112, 111, 105, 108, 116] }) = W := ⟨_, rfl⟩
                      have FIN := hid (show y + 1 ≤ al ∧ U.Ow w p r c cu bud dos dos (T.play T.zero os) mb f ra rc zu ha hc hs w5 xs wy ∧ wy.heap[yb]? = some (.cells #[.int .i64 zn, .int .i64 zp, .string zs2, .slice (some ⟨g, o, none⟩) al yc] 63 (0, 0)) ∧ T.Th wy (some ⟨g, o, none⟩) al from by
                        rw [hwy] at fS
                        exact ⟨hyl, by rw [← hwy]; exact hO.set (.inr (by have := W59.out; omega)) _ _, fS.cells hK (fun e => by omega), by rw [← hwy]; exact ht.set _ _ _⟩)
                      rw [← hwy] at FIN
                      clear hall hO hK ht fS hwy hg1 hg2
                      go_wp2_with fail
                      go_roundw
                      case rel => exact ⟨y + 1, by first | go_num | rfl | trivial, FIN⟩
                      case measure => simp [intOf]; omega
                    · have hyi : ¬ ((y : Int) < (al : Int)) := by omega
                      have hxl := HXL.out
                      have FIN := hid (show j + 1 ≤ xn ∧ U.Ow w p r c cu bud dos dos (T.play T.zero os) mb f ra rc zu ha hc hs w5 xs wr from ⟨hjl, hall.out.2.1⟩)
                      clear hall
                      go_wp2_with fail
                      go_roundw
                      case rel => exact ⟨j + 1, by first | go_num | rfl | trivial, FIN⟩
                      case measure => simp [intOf]; omega
        · obtain ⟨_, hO⟩ := hall.out
          have hji : ¬ ((j : Int) < (xn : Int)) := by omega
          have O10 := hid hO
          have T10 := hid hO.two
          have KN1 := hid (nodes_any T10.out.g (fun n x hx => by have := HB.out.2.2.1 n x hx; omega) (by have := HB.out.2.2.2; omega))
          clear hall hO O5 O10 HSP HSH HXS HRO HXN HXL XF
          go_wp2_with fail
          refine KN1.out.mono ?_
          rintro e w7 ⟨xa2, xc2, xs2, rfl, hxs2, hlx, hf7⟩
          have HXS2 := hid hxs2
          have NR7 := hid hlx.nr
          have T7 := hid (T10.out.idle hf7)
          have KN2 := hid (unodes_any T7.out.d (by have := U.pl_len zu; rw [HPL.out] at this; have := HB.out.2.2.2; omega) (fun z hz => by have := U.pl_few HPL.out T7.out.g.wf.up HB.out.2.2.1 z hz; omega))
          rw [HPL.out] at KN2
          obtain ⟨xn2, hxn2⟩ : ∃ n, List.length xs2 = n := ⟨_, rfl⟩
          rw [hxn2]
          have HXN2 := hid hxn2
          clear hxs2 hlx hf7 hxn2 KN1
          dsimp only
          go_wp2_with fail
          refine KN2.out.mono ?_
          rintro e w8 ⟨ya, yc, yz, rfl, hyz, hly, hf8⟩
          have T8 := hid (T7.out.idle hf8)
          have KS8 := hid (usame_any (ca := xc2) (cb := yc) (NR7.out.kept hf8 (fun _ _ h => h)) hly.nr (by have := U.told_len HXS2.out; have := HB.out.2.2.2; omega) (fun z hz => by have := U.told_few T7.out.g.wf.up HB.out.2.2.1 HXS2.out z hz; omega))
          rw [T.sames_iff.2 (HXS2.out.trans hyz.symm), HXN2.out] at KS8
          obtain ⟨yn, hyn⟩ : ∃ n, List.length yz = n := ⟨_, rfl⟩
          rw [hyn] at KS8 ⊢
          clear hyz hly hf8 hyn KN2
          dsimp only
          go_wp2_with fail
          refine KS8.out.mono ?_
          rintro e w9 ⟨rfl, hf9⟩
          have F9 := hid ((T8.out.idle hf9).fr)
          clear hf9 KS8 NR7 HXS2 HXN2 T7 T8 T10
          dsimp only
          go_wp2_with fail
          have HR9 := hid (H1.out.kept F9.out (fun _ _ h => h))
          obtain ⟨we, rfl⟩ : ∃ we, we = wr := ⟨_, rfl⟩
          go_loopw [19, 123] (fun o i wr => ∃ (y : Nat) (oa : Option Addr) (oc : Nat), i = .int .i64 y ∧ o = .slice oa y oc ∧ Hid (y ≤ n1 ∧ ∃ zs' : List T.Tn, List.map Prod.fst zs' = List.map Prod.fst (zs.take y) ∧ T.Lx w9.heap.size wr oa oc zs' ∧ Fr (fun _ => False) w9 wr))
            (fun _ i _ => (n1 - intOf i).toNat)
          case atStart => exact ⟨0, none, 0, rfl, rfl, hid ⟨Nat.zero_le _, [], rfl, T.Lx.nil _ _, Fr.refl _ _⟩⟩
          case round =>
            obtain ⟨y, oa, oc, rfl, rfl, hall⟩ := hrel
            obtain ⟨hk, zs', hz', hlx, hfr⟩ := hall.out
            have hzl : zs'.length = y := by
              have := congrArg List.length hz'
              rw [List.length_map, List.length_map, List.length_take, HN1.out] at this
              omega
            by_cases hlt : y < n1
            · obtain ⟨z, hz⟩ : ∃ z, zs[y]? = some z := ⟨_, List.getElem?_eq_getElem (by rw [HN1.out]; exact hlt)⟩
              obtain ⟨g1, o1, rfl, _, a0, a1, a2, a3⟩ := T.flatN_cells (HR9.out.1.kept hfr (fun _ _ h => h)) hz
              have hmem := List.mem_of_getElem? hz
              have i0 : (0 : Int) ≤ (y : Int) := by omega
              have i1 : (y : Int) < (n1 : Int) := by omega
              obtain ⟨V1, hV1⟩ : ∃ V, wr.alloc (.cells #[.int .i64 z.1.1, .int .i64 z.1.2.par, .string z.1.2.nm, .slice z.2.1 z.1.2.ats.length z.2.2] 63) = V := ⟨_, rfl⟩
              have f1 : Fr (fun _ => False) wr V1 := by rw [← hV1]; exact Fr.alloc (Fr.refl _ _) _
              have z1 : V1.heap.size = wr.heap.size + 1 := by rw [← hV1, alloc_size]
              have b1 : V1.heap[wr.heap.size]? = some (.cells #[.int .i64 z.1.1, .int .i64 z.1.2.par, .string z.1.2.nm, .slice z.2.1 z.1.2.ats.length z.2.2] 63 (0, 0)) := by rw [← hV1]; exact Go.heap_alloc_new wr _
              have e3 : V1.cell? ⟨wr.heap.size, 3, none⟩ = some (.slice z.2.1 z.1.2.ats.length z.2.2) := cellA (j := 3) b1 rfl
              obtain ⟨ea, ec, V2, hr2, hro2, hn2, hf2⟩ := U.attrs_append V1 (Ro.nil V1 65 2) (sc := z.2.2) ((HR9.out.2 z hmem).kept (hfr.trans f1 (fun _ _ h => h)) (fun _ _ h => h)) (by have := (WF1.out z hmem).1.2; omega)
              rw [Nat.zero_add] at hr2 hro2
              rw [List.nil_append] at hro2
              have hf2' : Fr (fun _ => False) V1 V2 := hf2.mono (fun i _ e => by simp [blk] at e)
              have b2 := hf2'.cells b1 (fun h => h)
              have c3 : V2.cell? ⟨wr.heap.size, 3, none⟩ = some (.slice z.2.1 z.1.2.ats.length z.2.2) := cellA (j := 3) b2 rfl
              have zf := frozen_of_row (j := 3) b2
              obtain ⟨V3, hV3⟩ : ∃ V, V2.setCell ⟨wr.heap.size, 3, none⟩ (.slice ea z.1.2.ats.length ec) = V := ⟨_, rfl⟩
              have f3 : Fr (fun i => i = wr.heap.size) V2 V3 := by rw [← hV3]; exact Fr.setCell (p := ⟨wr.heap.size, 3, none⟩) (Fr.refl (fun i => i = wr.heap.size) _) (fun _ => rfl) _
              have b3 : V3.heap[wr.heap.size]? = some (.cells #[.int .i64 z.1.1, .int .i64 z.1.2.par, .string z.1.2.nm, .slice ea z.1.2.ats.length ec] 63 (0, 0)) := by rw [← hV3]; exact setCell_row (j := 3) b2 _
              have fwr3 : Fr (fun _ => False) wr V3 := (f1.trans hf2' (fun _ _ h => h)).trans f3 (fun i hi e => by omega)
              have s0 : V3.cell? ⟨wr.heap.size, 0, none⟩ = some (.int .i64 z.1.1) := cellA (j := 0) b3 rfl
              have s1 : V3.cell? ⟨wr.heap.size, 1, none⟩ = some (.int .i64 z.1.2.par) := cellA (j := 1) b3 rfl
              have s2 : V3.cell? ⟨wr.heap.size, 2, none⟩ = some (.string z.1.2.nm) := cellA (j := 2) b3 rfl
              have s3 : V3.cell? ⟨wr.heap.size, 3, none⟩ = some (.slice ea z.1.2.ats.length ec) := cellA (j := 3) b3 rfl
              have hrw3 : Rw (fun g => wr.heap.size ≤ g ∧ g < V3.heap.size) V3 2 ea z.1.2.ats.length (T.flatA z.1.2.ats) := by
                refine (Rw.of_ro (hro2.kept f3 (fun j hj e => ?_)) (I := fun g => wr.heap.size ≤ g ∧ g < V3.heap.size) (fun g hg => ⟨?_, ?_⟩))
                · rcases hn2 j hj with h | h
                  · simp [blk] at h
                  · omega
                · rcases hn2 g hg with h | h
                  · simp [blk] at h
                  · omega
                · have h1 := hro2.lt g hg
                  have h2 := f3.size
                  omega
              have hwn3 : T.Wn V3 ea z.1.2.ats.length := T.Wn.of_ro (hro2.kept f3 (fun j hj e => by
                rcases hn2 j hj with h | h
                · simp [blk] at h
                · omega))
              obtain ⟨a', cp', V4, hr4, hro4, hf4, hn4⟩ := T.node_append V3 oa oc y (T.flatN zs') (by have := (hlx.kept fwr3 (fun _ _ _ h => h)).row; rw [hzl] at this; exact this) (by omega) (z.1, (ea, ec))
              have HREL := hid (show y + 1 ≤ n1 ∧ ∃ zs2 : List T.Tn, List.map Prod.fst zs2 = List.map Prod.fst (zs.take (y + 1)) ∧ T.Lx w9.heap.size V4 a' cp' zs2 ∧ Fr (fun _ => False) w9 V4 from
                ⟨hlt, zs' ++ [(z.1, (ea, ec))], by rw [List.map_append, hz', List.take_add_one, hz, List.map_append]; rfl, hlx.more fwr3 hrw3 hwn3 hfr.size hf4 (by rw [hzl]; exact hro4) hn4, (hfr.trans fwr3 (fun _ _ h => h)).trans hf4 (fun i hi e => by have := hlx.new i e; omega)⟩)
              have HV1 := hid hV1
              have HV3 := hid hV3
              have R2 := hid hr2
              have R4 := hid hr4
              clear hall hk hz' hlx hfr hzl hlt hz hmem hV1 f1 z1 b1 hr2 hro2 hn2 hf2 hf2' b2 hV3 f3 b3 fwr3 hrw3 hwn3 hr4 hro4 hf4 hn4
              dsimp only at R4
              go_upto_region 40 with fail
              rw [HV1.out]
              go_upto_region 41 with (first | (at_builtin; refine wpList_append_eq _ _ rfl (.const (.slice none 0 0)) (.tmp 128) _ rfl _ _ _ rfl rfl R2.out ?_))
              rw [HV3.out]
              go_wp2_with (first | (at_builtin; refine wpList_append_eq _ _ rfl (.tmp 131) (.tmp 133) _ rfl _ _ _ rfl rfl R4.out ?_))
              go_roundw
              case rel => exact ⟨y + 1, a', cp', by first | go_num | rfl | trivial, by first | go_num | rfl | trivial, HREL⟩
              case measure => simp [intOf]; omega
            · have hkn : ¬ ((y : Int) < (n1 : Int)) := by omega
              have hz'' : List.map Prod.fst zs' = List.map Prod.fst zs := by rw [hz', List.take_of_length_le (by rw [HN1.out]; omega)]
              have hyn1 : y = n1 := by omega
              have HLX := hid hlx
              have HZ := hid hz''
              have HFR := hid hfr
              have WF2 := hid (show ∀ z ∈ zs', ((Lit.int .i64 z.1.1).wf = true ∧ z.1.2.ats.length ≤ 4400000000000) ∧ (Lit.int .i64 z.1.2.par).wf = true from fun z hz => by
                have h1 : z.1 ∈ zs.map Prod.fst := by rw [← hz'']; exact List.mem_map.2 ⟨z, hz, rfl⟩
                obtain ⟨z0, hz0, e0⟩ := List.mem_map.1 h1
                rw [← e0]
                exact WF1.out z0 hz0)
              have hl2 : zs'.length = n1 := by rw [← hyn1]; exact hzl
              have KF := hid (from_any (rc := oc) hlx.nr (fun i hi => hi.2) (fun z hz => ⟨⟨(WF2.out z hz).1.1, by have := (WF2.out z hz).1.2; omega⟩, (WF2.out z hz).2⟩) (by omega))
              rw [T.fromOk_fst hz'', T.tree_fst hz'', hl2] at KF
              have KU := hid (fun (V : World) (hf : Fr (fun _ => False) wr V) => ufrom_any (rc := c1) (HR9.out.kept (hfr.trans hf (fun _ _ h => h)) (fun _ _ h => h)) (fun i hi => Nat.lt_of_lt_of_le (HJ.out i hi) (Nat.le_trans F9.out.size (hfr.trans hf (fun _ _ h => h)).size)) (fun z hz => by have := (WF1.out z hz).1.1; simp [Lit.wf, IntKind.min, IntKind.max, IntKind.signed, IntKind.bits] at this; omega) (fun z hz => by have := (WF1.out z hz).1.2; omega) (by have := HN1.out; omega))
              rw [HN1.out] at KU
              have HL2 := hid hl2
              have MS := hid (show ∀ i, U.Sp zs' i → w9.heap.size ≤ i ∧ i < wr.heap.size ∧ blk oa ≠ some i from fun i ⟨z, hz, hn, hb⟩ => T.rw_at (hlx.el z hz) hn hb)
              have MSH := hid (show ∀ z ∈ zs', 0 < z.1.2.ats.length → ∃ g o, z.2.1 = some ⟨g, o, none⟩ from fun z hz hn => by
                rcases (hlx.el z hz).2 with h0 | ⟨g, o, ea, _⟩
                · omega
                · exact ⟨g, o, ea⟩)
              obtain ⟨wm, rfl⟩ : ∃ wm, wm = wr := ⟨_, rfl⟩
              clear hall hk hz' hz'' hlx hfr hzl hlt hl2
              go_wp2_with fail
              refine KF.out.mono ?_
              rintro e w10 ⟨hf10, ⟨hok, rfl⟩ | ⟨hok, p2, c2, mb2, f2, bud2, rfl, htf, hbud, hlo, hcn⟩⟩
              · have HOK := hid hok
                have KU10 := hid (KU.out w10 hf10)
                have F10 := hid hf10
                clear hf10 hok KU KF
                dsimp only
                go_wp2_with fail
                refine KU10.out.mono ?_
                rintro e w11 ⟨hf11, ⟨hok, rfl⟩ | ⟨hok, _⟩⟩
                · have F11 := hid hf11
                  clear hf11 hok KU10
                  dsimp only
                  go_wp2_with fail
                  have FB := hid (show Fr (fun _ => False) wm w11 from F10.out.trans F11.out (fun _ _ h => h))
                  have SP0 := hid (show Fr (U.Sp zs') w11 w11 ∧ ∀ z ∈ zs', T.Th w11 z.2.1 z.1.2.ats.length from ⟨Fr.refl _ _, fun z hz => (T.Th.of_rw (HLX.out.el z hz) (HLX.out.wr z hz)).kept FB.out (fun _ _ _ h => h)⟩)
                  go_loopw [152] (fun i wx => ∃ y : Nat, i = .int .i64 y ∧ Hid (y ≤ n1 ∧ Fr (U.Sp zs') w11 wx ∧ ∀ z ∈ zs', T.Th wx z.2.1 z.1.2.ats.length))
                    (fun i _ => (n1 - intOf i).toNat)
                  case atStart => exact ⟨0, rfl, hid ⟨Nat.zero_le _, SP0.out⟩⟩
                  case round =>
                    obtain ⟨y, rfl, hall⟩ := hrel
                    by_cases hyl : y < n1
                    · obtain ⟨z, hz⟩ : ∃ z, zs'[y]? = some z := ⟨_, List.getElem?_eq_getElem (by rw [HL2.out]; exact hyl)⟩
                      obtain ⟨hy, hfr, hthA⟩ := hall.out
                      have hrow := (HLX.out.row.kept FB.out (fun _ _ h => h)).kept hfr (fun g hg e => (MS.out g e).2.2 hg)
                      obtain ⟨xg, xo, e1, _, x0, x1, x2, x3⟩ := T.flatN_cells (Rw.of_ro hrow (I := fun _ => True) (fun _ _ => trivial)) hz
                      have hzm := List.mem_of_getElem? hz
                      have hth := hthA z hzm
                      have hsh := MSH.out z hzm
                      have hfew := (WF2.out z hzm).1.2
                      obtain ⟨⟨zn, ⟨zp, zs2, zat⟩⟩, ⟨za, zc⟩⟩ := z
                      simp only at x0 x1 x2 x3 hth hsh hfew
                      obtain ⟨al, hal⟩ : ∃ n, zat.length = n := ⟨_, rfl⟩
                      have hspz : 0 < al → ∀ g, blk za = some g → U.Sp zs' g := fun hn g hg => ⟨_, hzm, by show 0 < zat.length; omega, hg⟩
                      rw [hal] at x3 hth hsh hfew
                      have HSHZ := hid hsh
                      have i0 : (0 : Int) ≤ (y : Int) := by omega
                      have i1 : (y : Int) < (n1 : Int) := by omega
                      obtain ⟨V6, hV6⟩ : ∃ V, wr.alloc (.cells #[.int .i64 zn, .int .i64 zp, .string zs2, .slice za al zc] 63) = V := ⟨_, rfl⟩
                      have f6 : Fr (fun _ => False) wr V6 := by rw [← hV6]; exact Fr.alloc (Fr.refl _ _) _
                      have k6 : V6.heap[wr.heap.size]? = some (.cells #[.int .i64 zn, .int .i64 zp, .string zs2, .slice za al zc] 63 (0, 0)) := by rw [← hV6]; exact Go.heap_alloc_new wr _
                      have O6 := hid (show Fr (U.Sp zs') w11 V6 ∧ ∀ z ∈ zs', T.Th V6 z.2.1 z.1.2.ats.length from ⟨hfr.trans f6 (fun _ _ h => h.elim), fun z hz => (hthA z hz).kept f6 (fun _ _ _ h => h)⟩)
                      have K6 := hid k6
                      have HSZ := hid hspz
                      have HW5 := hid (show wm.heap.size ≤ wr.heap.size from Nat.le_trans FB.out.size hfr.size)
                      have c3 : V6.cell? ⟨wr.heap.size, 3, none⟩ = some (.slice za al zc) := cellA (j := 3) k6 rfl
                      have HV6 := hid hV6
                      subst e1
                      have HZM := hid hzm
                      have HAL := hid hal
                      clear hall hy hfr hthA hrow hz hzm hth hsh hspz hal hV6 f6 k6
                      go_upto_region 50 with fail
                      clear x0 x1 x2 x3
                      rw [HV6.out]
                      go_wp2_with fail
                      obtain ⟨xb, hxb⟩ : ∃ b, wr.heap.size = b := ⟨_, rfl⟩
                      rw [hxb] at K6 HW5 c3 ⊢
                      go_loopw [159] (fun i wx => ∃ j : Nat, i = .int .i64 j ∧ Hid (j ≤ al ∧ (Fr (U.Sp zs') w11 wx ∧ ∀ z ∈ zs', T.Th wx z.2.1 z.1.2.ats.length) ∧ wx.heap[xb]? = some (.cells #[.int .i64 zn, .int .i64 zp, .string zs2, .slice za al zc] 63 (0, 0))))
                        (fun i _ => (al - intOf i).toNat)
                      case atStart => exact ⟨0, rfl, hid ⟨Nat.zero_le _, O6.out, K6.out⟩⟩
                      case round =>
                        obtain ⟨v, rfl, hall⟩ := hrel
                        by_cases hvl : v < al
                        · obtain ⟨hv, ⟨hfr, hthA⟩, hK⟩ := hall.out
                          obtain ⟨ag, ao, rfl⟩ := HSHZ.out (by omega)
                          have hsg : U.Sp zs' ag := HSZ.out (by omega) ag rfl
                          have hlg := MS.out ag hsg
                          obtain ⟨⟨u0, b0⟩, b1⟩ := (by have := hthA _ HZM.out ag ao rfl (v * 2 + 1) (by have := HAL.out; simp only at this ⊢; omega); exact this)
                          have i0 : (0 : Int) ≤ (v : Int) := by omega
                          have i1 : (v : Int) < (al : Int) := by omega
                          rw [show ao + (v * 2 + 1) = ao + v * 2 + 1 from rfl] at b0 b1
                          have y3 : wr.cell? ⟨xb, 3, none⟩ = some (.slice (some ⟨ag, ao, none⟩) al zc) := cellA (j := 3) hK rfl
                          have fS : Fr (fun i => i = ag) wr (wr.setCell ⟨ag, ao + v * 2 + 1, none⟩ (.string { data := #[115, 112, 111, 105, 108, 116] })) := Fr.setCell (S := fun i => i = ag) (p := ⟨ag, ao + v * 2 + 1, none⟩) (Fr.refl _ wr) (fun _ => rfl) _
                          obtain ⟨wy, hwy⟩ : ∃ W, wr.setCell ⟨ag, ao + v * 2 + 1, none⟩ (.string { data := #[115, 112, 111, 105, 108, 116] }) = W := ⟨_, rfl⟩
                          have FIN := hid (show v + 1 ≤ al ∧ (Fr (U.Sp zs') w11 wy ∧ ∀ z ∈ zs', T.Th wy z.2.1 z.1.2.ats.length) ∧ wy.heap[xb]? = some (.cells #[.int .i64 zn, .int .i64 zp, .string zs2, .slice (some ⟨ag, ao, none⟩) al zc] 63 (0, 0)) from by
                            rw [hwy] at fS
                            exact ⟨hvl, ⟨hfr.trans fS (fun i hi e => by rw [e]; exact hsg), fun z hz => by rw [← hwy]; exact (hthA z hz).set _ _ _⟩, fS.cells hK (fun e => by have := HW5.out; omega)⟩)
                          rw [← hwy] at FIN
                          clear hall hv hfr hthA hK hsg hlg fS hwy
                          go_wp2_with fail
                          go_roundw
                          case rel => exact ⟨v + 1, by first | go_num | rfl | trivial, FIN⟩
                          case measure => simp [intOf]; omega
                        · have hvi : ¬ ((v : Int) < (al : Int)) := by omega
                          have FIN := hid (show y + 1 ≤ n1 ∧ Fr (U.Sp zs') w11 wr ∧ ∀ z ∈ zs', T.Th wr z.2.1 z.1.2.ats.length from ⟨hyl, hall.out.2.1⟩)
                          clear hall
                          go_wp2_with fail
                          go_roundw
                          case rel => exact ⟨y + 1, by first | go_num | rfl | trivial, FIN⟩
                          case measure => simp [intOf]; omega
                    · obtain ⟨_, hfr, _⟩ := hall.out
                      have hyi : ¬ ((y : Int) < (n1 : Int)) := by omega
                      have FZ := hid (show Fr (fun _ => False) w wr from ((F9.out.trans HFR.out (fun _ _ h => h)).trans FB.out (fun _ _ h => h)).trans hfr (fun i hi e => by have := (MS.out i e).1; have := F9.out.size; omega))
                      have FS := hid hfr
                      clear hall hfr SP0
                      go_wp2_with fail
                      go_ret
                      exact ⟨rfl, FZ.out⟩
                · exfalso; rw [HOK.out] at hok; cases hok
              · have HOK := hid hok
                have HTF := hid htf
                have HBUD := hid hbud
                have HLO := hid hlo
                have HCN := hid hcn
                have HNUM := hid (show ∀ z ∈ zs, z.1.1 ≤ 9223372036854775807 from fun z hz => by have := (WF1.out z hz).1.1; simp [Lit.wf, IntKind.min, IntKind.max, IntKind.signed, IntKind.bits] at this; omega)
                have HFEW := hid (U.tree_few HNUM.out HOK.out (N := 4400000000000) (fun z hz => (WF1.out z hz).1.2))
                have HTL := hid (show (T.tree zs).length ≤ n1 + 2 from by rw [← HN1.out]; exact U.tree_len HNUM.out HOK.out)
                have KU10 := hid (KU.out w10 hf10)
                have F10 := hid hf10
                clear hf10 hok KU KF htf hbud hlo hcn
                dsimp only
                go_wp2_with fail
                refine KU10.out.mono ?_
                rintro e w11 ⟨hf11, ⟨hok, _⟩ | ⟨_, r2, cu2, ra2, rc2, zz2, rfl, _, _, _⟩⟩
                · exfalso; rw [HOK.out] at hok; cases hok
                · have F11 := hid hf11
                  have G11 := hid (show Gd c2 w11 (bud2 + 4400000000000) p2 0 0 (T.tree zs) mb2 f2 from
                    ⟨(HTF.out.ext (by omega)).kept hf11 (fun _ _ h => h), fun i hi => Nat.lt_of_lt_of_le (HLO.out i hi) hf11.size, T.wf_of HNUM.out HOK.out, fun n x hx => by have := HFEW.out n x hx; omega, Int.le_refl _⟩)
                  clear hf11 KU10 HTF HLO HBUD
                  dsimp only
                  go_wp2_with fail
                  have FB := hid (show Fr (fun _ => False) wm w11 from F10.out.trans F11.out (fun _ _ h => h))
                  have SP0 := hid (show Fr (U.Sp zs') w11 w11 ∧ ∀ z ∈ zs', T.Th w11 z.2.1 z.1.2.ats.length from ⟨Fr.refl _ _, fun z hz => (T.Th.of_rw (HLX.out.el z hz) (HLX.out.wr z hz)).kept FB.out (fun _ _ _ h => h)⟩)
                  go_loopw [152] (fun i wx => ∃ y : Nat, i = .int .i64 y ∧ Hid (y ≤ n1 ∧ Fr (U.Sp zs') w11 wx ∧ ∀ z ∈ zs', T.Th wx z.2.1 z.1.2.ats.length))
                    (fun i _ => (n1 - intOf i).toNat)
                  case atStart => exact ⟨0, rfl, hid ⟨Nat.zero_le _, SP0.out⟩⟩
                  case round =>
                    obtain ⟨y, rfl, hall⟩ := hrel
                    by_cases hyl : y < n1
                    · obtain ⟨z, hz⟩ : ∃ z, zs'[y]? = some z := ⟨_, List.getElem?_eq_getElem (by rw [HL2.out]; exact hyl)⟩
                      obtain ⟨hy, hfr, hthA⟩ := hall.out
                      have hrow := (HLX.out.row.kept FB.out (fun _ _ h => h)).kept hfr (fun g hg e => (MS.out g e).2.2 hg)
                      obtain ⟨xg, xo, e1, _, x0, x1, x2, x3⟩ := T.flatN_cells (Rw.of_ro hrow (I := fun _ => True) (fun _ _ => trivial)) hz
                      have hzm := List.mem_of_getElem? hz
                      have hth := hthA z hzm
                      have hsh := MSH.out z hzm
                      have hfew := (WF2.out z hzm).1.2
                      obtain ⟨⟨zn, ⟨zp, zs2, zat⟩⟩, ⟨za, zc⟩⟩ := z
                      simp only at x0 x1 x2 x3 hth hsh hfew
                      obtain ⟨al, hal⟩ : ∃ n, zat.length = n := ⟨_, rfl⟩
                      have hspz : 0 < al → ∀ g, blk za = some g → U.Sp zs' g := fun hn g hg => ⟨_, hzm, by show 0 < zat.length; omega, hg⟩
                      rw [hal] at x3 hth hsh hfew
                      have HSHZ := hid hsh
                      have i0 : (0 : Int) ≤ (y : Int) := by omega
                      have i1 : (y : Int) < (n1 : Int) := by omega
                      obtain ⟨V6, hV6⟩ : ∃ V, wr.alloc (.cells #[.int .i64 zn, .int .i64 zp, .string zs2, .slice za al zc] 63) = V := ⟨_, rfl⟩
                      have f6 : Fr (fun _ => False) wr V6 := by rw [← hV6]; exact Fr.alloc (Fr.refl _ _) _
                      have k6 : V6.heap[wr.heap.size]? = some (.cells #[.int .i64 zn, .int .i64 zp, .string zs2, .slice za al zc] 63 (0, 0)) := by rw [← hV6]; exact Go.heap_alloc_new wr _
                      have O6 := hid (show Fr (U.Sp zs') w11 V6 ∧ ∀ z ∈ zs', T.Th V6 z.2.1 z.1.2.ats.length from ⟨hfr.trans f6 (fun _ _ h => h.elim), fun z hz => (hthA z hz).kept f6 (fun _ _ _ h => h)⟩)
                      have K6 := hid k6
                      have HSZ := hid hspz
                      have HW5 := hid (show wm.heap.size ≤ wr.heap.size from Nat.le_trans FB.out.size hfr.size)
                      have c3 : V6.cell? ⟨wr.heap.size, 3, none⟩ = some (.slice za al zc) := cellA (j := 3) k6 rfl
                      have HV6 := hid hV6
                      subst e1
                      have HZM := hid hzm
                      have HAL := hid hal
                      clear hall hy hfr hthA hrow hz hzm hth hsh hspz hal hV6 f6 k6
                      go_upto_region 50 with fail
                      clear x0 x1 x2 x3
                      rw [HV6.out]
                      go_wp2_with fail
                      obtain ⟨xb, hxb⟩ : ∃ b, wr.heap.size = b := ⟨_, rfl⟩
                      rw [hxb] at K6 HW5 c3 ⊢
                      go_loopw [159] (fun i wx => ∃ j : Nat, i = .int .i64 j ∧ Hid (j ≤ al ∧ (Fr (U.Sp zs') w11 wx ∧ ∀ z ∈ zs', T.Th wx z.2.1 z.1.2.ats.length) ∧ wx.heap[xb]? = some (.cells #[.int .i64 zn, .int .i64 zp, .string zs2, .slice za al zc] 63 (0, 0))))
                        (fun i _ => (al - intOf i).toNat)
                      case atStart => exact ⟨0, rfl, hid ⟨Nat.zero_le _, O6.out, K6.out⟩⟩
                      case round =>
                        obtain ⟨v, rfl, hall⟩ := hrel
                        by_cases hvl : v < al
                        · obtain ⟨hv, ⟨hfr, hthA⟩, hK⟩ := hall.out
                          obtain ⟨ag, ao, rfl⟩ := HSHZ.out (by omega)
                          have hsg : U.Sp zs' ag := HSZ.out (by omega) ag rfl
                          have hlg := MS.out ag hsg
                          obtain ⟨⟨u0, b0⟩, b1⟩ := (by have := hthA _ HZM.out ag ao rfl (v * 2 + 1) (by have := HAL.out; simp only at this ⊢; omega); exact this)
                          have i0 : (0 : Int) ≤ (v : Int) := by omega
                          have i1 : (v : Int) < (al : Int) := by omega
                          rw [show ao + (v * 2 + 1) = ao + v * 2 + 1 from rfl] at b0 b1
                          have y3 : wr.cell? ⟨xb, 3, none⟩ = some (.slice (some ⟨ag, ao, none⟩) al zc) := cellA (j := 3) hK rfl
                          have fS : Fr (fun i => i = ag) wr (wr.setCell ⟨ag, ao + v * 2 + 1, none⟩ (.string { data := #[115, 112, 111, 105, 108, 116] })) := Fr.setCell (S := fun i => i = ag) (p := ⟨ag, ao + v * 2 + 1, none⟩) (Fr.refl _ wr) (fun _ => rfl) _
                          obtain ⟨wy, hwy⟩ : ∃ W, wr.setCell ⟨ag, ao + v * 2 + 1, none⟩ (.string { data := #[115, 112, 111, 105, 108, 116] }) = W := ⟨_, rfl⟩
                          have FIN := hid (show v + 1 ≤ al ∧ (Fr (U.Sp zs') w11 wy ∧ ∀ z ∈ zs', T.Th wy z.2.1 z.1.2.ats.length) ∧ wy.heap[xb]? = some (.cells #[.int .i64 zn, .int .i64 zp, .string zs2, .slice (some ⟨ag, ao, none⟩) al zc] 63 (0, 0)) from by
                            rw [hwy] at fS
                            exact ⟨hvl, ⟨hfr.trans fS (fun i hi e => by rw [e]; exact hsg), fun z hz => by rw [← hwy]; exact (hthA z hz).set _ _ _⟩, fS.cells hK (fun e => by have := HW5.out; omega)⟩)
                          rw [← hwy] at FIN
                          clear hall hv hfr hthA hK hsg hlg fS hwy
                          go_wp2_with fail
                          go_roundw
                          case rel => exact ⟨v + 1, by first | go_num | rfl | trivial, FIN⟩
                          case measure => simp [intOf]; omega
                        · have hvi : ¬ ((v : Int) < (al : Int)) := by omega
                          have FIN := hid (show y + 1 ≤ n1 ∧ Fr (U.Sp zs') w11 wr ∧ ∀ z ∈ zs', T.Th wr z.2.1 z.1.2.ats.length from ⟨hyl, hall.out.2.1⟩)
                          clear hall
                          go_wp2_with fail
                          go_roundw
                          case rel => exact ⟨y + 1, by first | go_num | rfl | trivial, FIN⟩
                          case measure => simp [intOf]; omega
                    · obtain ⟨_, hfr, _⟩ := hall.out
                      have hyi : ¬ ((y : Int) < (n1 : Int)) := by omega
                      have FZ := hid (show Fr (fun _ => False) w wr from ((F9.out.trans HFR.out (fun _ _ h => h)).trans FB.out (fun _ _ h => h)).trans hfr (fun i hi e => by have := (MS.out i e).1; have := F9.out.size; omega))
                      have FS := hid hfr
                      clear hall hfr SP0
                      have GD := hid (G11.out.kept FS.out (fun i hi e => by have := HCN.out i hi; have := (MS.out i e).2.1; omega))
                      have KN6 := hid (nodes_any GD.out (fun n x hx => by have := HFEW.out n x hx; omega) (by have := HTL.out; omega))
                      go_wp2_with fail
                      refine KN6.out.mono ?_
                      rintro e w12 ⟨xa3, xc3, xs3, rfl, hxs3, hlx3, hf12⟩
                      have HXS3 := hid hxs3
                      have NR3 := hid hlx3.nr
                      have F12 := hid (FZ.out.trans hf12 (fun _ _ h => h))
                      have KP := hid (uplain_any (rc := c1) (H1.out.kept F12.out (fun _ _ h => h)) (by have := HN1.out; omega) (fun z hz => by have := (WF1.out z hz).1.2; omega))
                      rw [HN1.out] at KP
                      obtain ⟨xn3, hxn3⟩ : ∃ n, List.length xs3 = n := ⟨_, rfl⟩
                      rw [hxn3]
                      have HXN3 := hid hxn3
                      clear hxs3 hlx3 hf12 hxn3 KN6
                      dsimp only
                      go_wp2_with fail
                      refine KP.out.mono ?_
                      rintro e w13 ⟨ya3, yc3, yz3, rfl, hyz3, hly3, hf13⟩
                      have F13 := hid (F12.out.trans hf13 (fun _ _ h => h))
                      have KS3 := hid (usame_any (ca := xc3) (cb := yc3) (NR3.out.kept hf13 (fun _ _ h => h)) hly3.nr (by have := U.told_len HXS3.out; have := HTL.out; omega) (fun z hz => by have := U.told_few GD.out.wf.up HFEW.out HXS3.out z hz; omega))
                      rw [T.sames_iff.2 (HXS3.out.trans (hyz3.trans (U.told_in HNUM.out HOK.out)).symm), HXN3.out] at KS3
                      obtain ⟨yn3, hyn3⟩ : ∃ n, List.length yz3 = n := ⟨_, rfl⟩
                      rw [hyn3] at KS3 ⊢
                      clear hyz3 hly3 hf13 hyn3 KP
                      dsimp only
                      go_wp2_with fail
                      refine KS3.out.mono ?_
                      rintro e w14 ⟨rfl, hf14⟩
                      have F14 := hid (F13.out.trans hf14 (fun _ _ h => h))
                      clear hf14 KS3
                      dsimp only
                      go_wp2_with fail
                      go_ret
                      exact ⟨rfl, F14.out⟩
end Go.Proofs.YtilbdpnioajkoaaGreat

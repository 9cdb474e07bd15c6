/-
  The document's tree: Do.
-/
import Derived.Test.YtilbdpnioajkoaaGreatMg28
import Derived.Test.YtilbdpnioajkoaaGreatMg29
import Derived.Test.YtilbdpnioajkoaaGreatMg33
namespace Go.Proofs.YtilbdpnioajkoaaGreat
open Go.RowKit Go.Maps
set_option linter.unusedVariables false
set_option linter.unusedSimpArgs false
set_option maxRecDepth 100000
attribute [local go_sem] Oper.semAt_some
/-- what is left behind put -/
theorem U.do_fin {c c6 c7 : Nat → Option U.Col} {w w6 wx w' : World} {r : Nat} {zs : List T.Tn} {hs hs6 : List U.Hs} {a6 : Option Addr} {cp6 : Nat} {o : S.Op} {x : T.Tn} (hu : A.Up (U.pl zs)) (hm6 : hs6.map (fun h => U.pl h.2) = hs.map (fun h => U.pl h.2) ++ [U.pl zs]) (hmo6 : U.More c c6 w.heap.size) (hf6 : Fr (fun i => c i = some .tree ∨ c i = some .nodes ∨ c i = some .was) w w6)
    (fx : Fr (fun _ => False) w6 wx) (hm7 : U.More c6 c7 w6.heap.size) (hx : A.put x.1.1 x.1.2 (U.pl zs) = T.doOp (U.pl zs) o)
    (hp : ∃ c' ra' rc', U.Dt c' w' r ra' rc' (U.put x zs) a6 cp6 hs6 ∧ U.More c7 c' wx.heap.size ∧ Fr (fun i => c7 i = some .tree ∨ c7 i = some .nodes) wx w') :
    ∃ c' ra' rc' zs' ha' hc' hs', U.Dt c' w' r ra' rc' zs' ha' hc' hs' ∧ U.pl zs' = T.doOp (U.pl zs) o ∧ hs'.map (fun h => U.pl h.2) = hs.map (fun h => U.pl h.2) ++ [U.pl zs] ∧ U.More c c' w.heap.size ∧ Fr (fun i => c i = some .tree ∨ c i = some .nodes ∨ c i = some .was) w w' := by
  obtain ⟨c', ra', rc', h1, h2, h3⟩ := hp
  have s6 := hf6.size
  have s7 := fx.size
  refine ⟨c', ra', rc', U.put x zs, a6, cp6, hs6, h1, by rw [U.pl_put hu, hx], hm6, fun i hi => ?_, (hf6.trans fx (fun i hi e => e.elim)).trans h3 (fun i hi e => ?_)⟩
  · rw [h2 i (by omega), hm7 i (by omega), hmo6 i hi]
  · rw [hm7 i (by omega), hmo6 i hi] at e
    rcases e with e | e
    · exact .inl e
    · exact .inr (.inl e)
set_option maxHeartbeats 4000000 in
theorem udo_any {c : Nat → Option U.Col} {w : World} {r : Nat} {ra : Option Addr} {rc : Nat} {zs : List T.Tn} {ha : Option Addr} {hc : Nat} {hs : List U.Hs} (h : U.Dt c w r ra rc zs ha hc hs) (hw : T.Wf (U.pl zs)) (hl : zs.length ≤ 3700000000000) (hats : ∀ z ∈ zs, z.1.2.ats.length ≤ 1900000000000) (hhl : hs.length ≤ 3700000000000) (o : S.Op) (hg : T.guard (U.pl zs) o = true) :
    Calls Tryz.prog 20 #[ptr r, .agg o.cs] w fun e w' => e = .returned (.bool true) ∧ ∃ c' ra' rc' zs' ha' hc' hs', U.Dt c' w' r ra' rc' zs' ha' hc' hs' ∧ U.pl zs' = T.doOp (U.pl zs) o ∧ hs'.map (fun h => U.pl h.2) = hs.map (fun h => U.pl h.2) ++ [U.pl zs] ∧ U.More c c' w.heap.size ∧ Fr (fun i => c i = some .tree ∨ c i = some .nodes ∨ c i = some .was) w w' := by
  obtain ⟨W, hW⟩ : ∃ W, w.alloc (.cells o.cs 35) = W := ⟨_, rfl⟩
  have fW : Fr (fun _ => False) w W := by rw [← hW]; exact Fr.alloc (Fr.refl _ _) _
  have hbx : W.heap[w.heap.size]? = some (.cells o.cs 35 (0, 0)) := by rw [← hW]; exact Go.heap_alloc_new w _
  have LO := hid (load_whole (cs := o.cs) hbx Tryz.underlying35 rfl (by kernel_rfl))
  have KM := hid (umay_any (h.kept fW (fun _ _ h => h)) hw (by omega) o)
  rw [hg] at KM
  have HW := hid hW
  have FW := hid fW
  have BX := hid hbx
  have H := hid h
  have HWF := hid hw
  have HATS := hid hats
  have HG := hid hg
  obtain ⟨len, hlen⟩ : ∃ n, zs.length = n := ⟨_, rfl⟩
  have HL := hid hlen
  obtain ⟨m, hm⟩ : ∃ n, hs.length = n := ⟨_, rfl⟩
  have HM := hid hm
  rw [hlen] at hl
  rw [hm] at hhl
  clear h hw hats fW hbx hW hg hlen hm
  go_enter Tryz.func20, Tryz.ntmps20
  go_upto_region 1 with fail
  rw [HW.out]
  go_wp2_with (first
    | (refine wpList_load_v LO.out (by exact ⟨_, rfl, rfl⟩) (by kernel_rfl) ?_))
  refine KM.out.mono ?_
  rintro e w2 ⟨rfl, hf2⟩
  have F2 := hid (FW.out.trans hf2 (fun _ _ h => h))
  have B2 := hid (hf2.cells BX.out (fun h => h))
  clear hf2 KM LO
  dsimp only
  go_upto_region 3 with fail
  have C2 := hid (fun (V : World) (hf : Fr (fun _ => False) w2 V) => (H.out.kept (F2.out.trans hf (fun _ _ h => h)) (fun _ _ h => h)).box)
  have CC := hid (show ∀ V, Fr (fun _ => False) w2 V → V.cell? ⟨r, 0, none⟩ = some (.slice ra len rc) ∧ V.cell? ⟨r, 1, none⟩ = some (.slice ha m hc) from fun V hf => by
    have := C2.out V hf
    rw [HL.out, HM.out] at this
    exact ⟨cellA (j := 0) this rfl, cellA (j := 1) this rfl⟩)
  have KC := hid (fun (V : World) (hf : Fr (fun _ => False) w2 V) => uclone_any (rc := rc) ((H.out.kept (F2.out.trans hf (fun _ _ h => h)) (fun _ _ h => h)).now.nr) (by have := HL.out; omega) (fun z hz => by have := HATS.out z hz; omega))
  have KA := hid (fun (V : World) (hf : Fr (fun _ => False) w2 V) (a : Option Addr) (cp : Nat) => U.was_append V ha hc hs.length _ (H.out.kept (F2.out.trans hf (fun _ _ h => h)) (fun _ _ h => h)).was (by have := HM.out; omega) a len cp)
  rw [HL.out] at KC
  rw [HM.out] at KA
  obtain ⟨s20, s21⟩ := CC.out w2 (Fr.refl _ _)
  rename_i Q1 K1 HK1
  have REST : ∀ (w6 : World) (c6 : Nat → Option U.Col) (a6 : Option Addr) (cp6 : Nat) (hs6 : List U.Hs) (v12 v13 v14 v15 v16 v17 v18 v19 v20 v21 v22 v23 v24 v25 : Value), U.Dt c6 w6 r ra rc zs a6 cp6 hs6 → hs6.map (fun h => U.pl h.2) = hs.map (fun h => U.pl h.2) ++ [U.pl zs] → U.More c c6 w.heap.size → Fr (fun i => c i = some .tree ∨ c i = some .nodes ∨ c i = some .was) w w6 → w6.heap[w.heap.size]? = some (.cells o.cs 35 (0, 0)) →
      K1 { tmps := #[ptr r, .agg o.cs, undef, ptr w.heap.size, .bool false, undef, undef, undef, ptr r, .agg o.cs, .bool true, .bool false, v12, v13, v14, v15, v16, v17, v18, v19, v20, v21, v22, v23, v24, v25, undef, undef, undef, undef, undef, undef, undef, undef, undef, undef, undef, undef, undef, undef, undef, undef, undef, undef, undef, undef, undef, undef, undef, undef, undef, undef, undef, undef, undef, undef, undef, undef, undef, undef, undef, undef, undef, undef], defers := [] } w6 := by
    intro w6 c6 a6 cp6 hs6 v12 v13 v14 v15 v16 v17 v18 v19 v20 v21 v22 v23 v24 v25 D6 hm6 hmo6 hf6 b6
    refine HK1 _ _ ?_
    have o3 : w6.cell? ⟨w.heap.size, 3, none⟩ = some (.int .i64 o.n) := cellA (j := 3) b6 rfl
    have hu := HWF.out.up
    obtain ⟨V7, hV7⟩ : ∃ V, w6.alloc (.cells #[.int .i64 o.n, .int .i64 0, .string ⟨#[]⟩, .slice none 0 0] 63) = V := ⟨_, rfl⟩
    have f7 : Fr (fun _ => False) w6 V7 := by rw [← hV7]; exact Fr.alloc (Fr.refl _ _) _
    have x7 : V7.heap[w6.heap.size]? = some (.cells #[.int .i64 o.n, .int .i64 0, .string ⟨#[]⟩, .slice none 0 0] 63 (0, 0)) := by rw [← hV7]; exact Go.heap_alloc_new w6 _
    have hxw : w.heap.size < w6.heap.size := lt_of_row b6
    have p3 : V7.cell? ⟨w.heap.size, 3, none⟩ = some (.int .i64 o.n) := cellFr f7 (fun h => h) o3
    have KF := hid ((D6.kept f7 (fun _ _ h => h)).find hu (by have := HL.out; omega) o.n)
    have D6h := hid D6
    have HM6 := hid hm6
    have HMO := hid hmo6
    have HF6 := hid hf6
    have B6 := hid b6
    have F7 := hid f7
    have X7 := hid x7
    have HV7 := hid hV7
    have HXW := hid hxw
    clear HK1 C2 CC KC KA s20 s21 D6 hm6 hmo6 hf6 b6 f7 x7 hV7
    go_upto_region 5 with fail
    clear o3
    rw [HV7.out]
    go_wp2_with fail
    refine KF.out.mono ?_
    rintro e w8 ⟨rfl, hf8⟩
    have X8 := hid (hf8.cells X7.out (fun h => h))
    have F8 := hid (F7.out.trans hf8 (fun _ _ h => h))
    have B8 := hid (F8.out.cells B6.out (fun h => h))
    have D8 := hid (D6h.out.kept F8.out (fun _ _ h => h))
    have o2 : w8.cell? ⟨w.heap.size, 2, none⟩ = some (.int .i64 o.k) := cellA (j := 2) B8.out rfl
    have o4 : w8.cell? ⟨w.heap.size, 4, none⟩ = some (.int .i64 o.p) := cellA (j := 4) B8.out rfl
    have o5 : w8.cell? ⟨w.heap.size, 5, none⟩ = some (.string o.a) := cellA (j := 5) B8.out rfl
    have o6 : w8.cell? ⟨w.heap.size, 6, none⟩ = some (.string o.b) := cellA (j := 6) B8.out rfl
    have o7 : w8.cell? ⟨w.heap.size, 7, none⟩ = some (.string o.c) := cellA (j := 7) B8.out rfl
    have x8 : ∀ j, w8.frozen? ⟨w6.heap.size, j, none⟩ = false := fun j => frozen_of_row X8.out
    have y0 : w8.cell? ⟨w6.heap.size, 0, none⟩ = some (.int .i64 o.n) := cellA (j := 0) X8.out rfl
    have y1 : w8.cell? ⟨w6.heap.size, 1, none⟩ = some (.int .i64 0) := cellA (j := 1) X8.out rfl
    have y2 : w8.cell? ⟨w6.heap.size, 2, none⟩ = some (.string ⟨#[]⟩) := cellA (j := 2) X8.out rfl
    have y3 : w8.cell? ⟨w6.heap.size, 3, none⟩ = some (.slice none 0 0) := cellA (j := 3) X8.out rfl
    clear hf8 p3 KF
    dsimp only
    have hgd := HG.out
    unfold T.guard at hgd
    by_cases k1 : o.k = 1
    · rw [if_pos k1] at hgd
      unfold T.may1 at hgd
      simp only [Bool.and_eq_true, Bool.not_eq_true', decide_eq_true_eq] at hgd
      have hno := hgd.2.1
      have hx : A.put o.n ⟨o.p, o.a, []⟩ (U.pl zs) = T.doOp (U.pl zs) o := by
        unfold T.doOp
        rw [if_neg (by omega)]
        cases hq : A.get o.n (U.pl zs) with
        | none => rfl
        | some y => rw [hq] at hno; cases hno
      have HX := hid hx
      rw [hno]
      rw [k1] at o2
      clear hgd hno hx k1
      generalize A.low o.n (U.pl zs) = lo
      have KP := hid (fun (V : World) (hf : Fr (fun i => i = w6.heap.size) w8 V) => uput_any (D8.out.kept hf (fun i hi e => by have := D6h.out.lo i hi; omega)) hu (by have := HL.out; omega) ((o.n, ⟨o.p, o.a, []⟩), (none, 0)) (Rw.nil _ _ _ _))
      go_wp2_with fail
      obtain ⟨V10, hV10⟩ : ∃ V, (w8.setCell ⟨w6.heap.size, 1, none⟩ (.int .i64 o.p)).setCell ⟨w6.heap.size, 2, none⟩ (.string o.a) = V := ⟨_, rfl⟩
      have f10 : Fr (fun i => i = w6.heap.size) w8 V10 := by rw [← hV10]; exact Fr.setCell (p := ⟨w6.heap.size, 2, none⟩) (Fr.setCell (p := ⟨w6.heap.size, 1, none⟩) (Fr.refl (fun i => i = w6.heap.size) _) (fun _ => rfl) _) (fun _ => rfl) _
      rw [hV10]
      refine (KP.out V10 f10).mono ?_
      rintro e w9 ⟨rfl, hp⟩
      have FIN := hid (U.do_fin hu HM6.out HMO.out HF6.out (F8.out.trans f10 (fun i hi e => by omega)) (fun _ _ => rfl) HX.out hp)
      clear hV10 f10 hp KP
      dsimp only
      go_wp2_with fail
      go_ret
      exact ⟨rfl, FIN.out⟩
    · rw [if_neg k1] at hgd
      have hno : (A.get o.n (U.pl zs)).isSome = true := by
        by_cases k2 : o.k = 2
        · rw [if_pos k2] at hgd
          simp only [Bool.and_eq_true] at hgd
          exact hgd.2.1
        · rw [if_neg k2] at hgd
          by_cases k3 : o.k = 3
          · rw [if_pos k3] at hgd
            unfold T.may3 at hgd
            simp only [Bool.and_eq_true] at hgd
            exact hgd.1
          · rw [if_neg k3] at hgd; cases hgd
      obtain ⟨y, hy⟩ := Option.isSome_iff_exists.1 hno
      obtain ⟨z, hz, hz1⟩ := U.pl_get ((A.low_get hu).1 hy)
      obtain ⟨g, q, rfl, _, a0, a1, a2, a3⟩ := T.flatN_cells D8.out.now.nr.1 hz
      have hlo := (List.getElem?_eq_some_iff.1 hz).1
      rw [HL.out] at hlo
      have hzm := List.mem_of_getElem? hz
      have hat := HWF.out.ats o.n y hy
      obtain ⟨⟨zn, zy⟩, ⟨za, zc⟩⟩ := z
      simp only [Prod.mk.injEq] at hz1
      obtain ⟨rfl, rfl⟩ := hz1
      have hel := D8.out.now.el _ hzm
      have d0 : w8.cell? ⟨r, 0, none⟩ = some (.slice (some ⟨g, q, none⟩) len rc) := by rw [← HL.out]; exact cellA (j := 0) D8.out.box rfl
      simp only at a0 a1 a2 a3 hel
      have hlen3 := HATS.out _ hzm
      simp only at hlen3
      rw [hno]
      generalize A.low o.n (U.pl zs) = lo at *
      have i0 : (0 : Int) ≤ (lo : Int) := by omega
      have i1 : (lo : Int) < (len : Int) := by omega
      obtain ⟨al, hal⟩ : ∃ n, zy.ats.length = n := ⟨_, rfl⟩
      rw [hal] at a3
      obtain ⟨V10, hV10⟩ : ∃ V, (((w8.setCell ⟨w6.heap.size, 0, none⟩ (.int .i64 o.n)).setCell ⟨w6.heap.size, 1, none⟩ (.int .i64 zy.par)).setCell ⟨w6.heap.size, 2, none⟩ (.string zy.nm)).setCell ⟨w6.heap.size, 3, none⟩ (.slice za al zc) = V := ⟨_, rfl⟩
      have f10 : Fr (fun i => i = w6.heap.size) w8 V10 := by
        rw [← hV10]
        exact Fr.setCell (p := ⟨w6.heap.size, 3, none⟩) (Fr.setCell (p := ⟨w6.heap.size, 2, none⟩) (Fr.setCell (p := ⟨w6.heap.size, 1, none⟩) (Fr.setCell (p := ⟨w6.heap.size, 0, none⟩) (Fr.refl (fun i => i = w6.heap.size) _) (fun _ => rfl) _) (fun _ => rfl) _) (fun _ => rfl) _) (fun _ => rfl) _
      have x10 : V10.heap[w6.heap.size]? = some (.cells #[.int .i64 o.n, .int .i64 zy.par, .string zy.nm, .slice za al zc] 63 (0, 0)) := by
        rw [← hV10]
        exact setCell_row (j := 3) (setCell_row (j := 2) (setCell_row (j := 1) (setCell_row (j := 0) X8.out _) _) _) _
      have hnx : ¬ w.heap.size = w6.heap.size := by omega
      have B10 := hid (f10.cells B8.out hnx)
      have u2 : V10.cell? ⟨w.heap.size, 2, none⟩ = some (.int .i64 o.k) := cellA (j := 2) B10.out rfl
      have u4 : V10.cell? ⟨w.heap.size, 4, none⟩ = some (.int .i64 o.p) := cellA (j := 4) B10.out rfl
      have u5 : V10.cell? ⟨w.heap.size, 5, none⟩ = some (.string o.a) := cellA (j := 5) B10.out rfl
      have u6 : V10.cell? ⟨w.heap.size, 6, none⟩ = some (.string o.b) := cellA (j := 6) B10.out rfl
      have u7 : V10.cell? ⟨w.heap.size, 7, none⟩ = some (.string o.c) := cellA (j := 7) B10.out rfl
      have x9 : ∀ j, V10.frozen? ⟨w6.heap.size, j, none⟩ = false := fun j => frozen_of_row x10
      have z0 : V10.cell? ⟨w6.heap.size, 0, none⟩ = some (.int .i64 o.n) := cellA (j := 0) x10 rfl
      have z1 : V10.cell? ⟨w6.heap.size, 1, none⟩ = some (.int .i64 zy.par) := cellA (j := 1) x10 rfl
      have z2 : V10.cell? ⟨w6.heap.size, 2, none⟩ = some (.string zy.nm) := cellA (j := 2) x10 rfl
      have z3 : V10.cell? ⟨w6.heap.size, 3, none⟩ = some (.slice za al zc) := cellA (j := 3) x10 rfl
      have F10 := hid f10
      have X10 := hid x10
      have HV10 := hid hV10
      have D10 := hid (D8.out.kept f10 (fun i hi e => by have := D6h.out.lo i hi; omega))
      have hel10 := hel.kept f10 (fun i hi e => by have := D6h.out.lo i (by rw [hi]; simp); omega)
      have HAL := hid hal
      have F6X := hid (F8.out.trans f10 (fun i hi e => by omega))
      by_cases k3 : o.k = 3
      · have hx : A.put o.n ⟨zy.par, zy.nm, T.aset o.b o.c zy.ats⟩ (U.pl zs) = T.doOp (U.pl zs) o := by
          unfold T.doOp
          rw [if_pos k3, hy]
        have HX := hid hx
        have KS := hid (uset_any (rc := zc) hel10 (by omega) o.b o.c)
        rw [U.set_eq hat.1, hal] at KS
        rw [k3] at u2
        clear hgd hno hx k1 k3 hy hz hzm hat hel hal o2 o4 o5 o6 o7 f10 x10 hV10 hel10 hlen3
        go_upto_region 8 with fail
        clear a0 a1 a2 a3 d0 i0 i1 x8 y0 y1 y2 y3
        rw [HV10.out]
        go_wp2_with fail
        refine KS.out.mono ?_
        rintro e w11 ⟨sa, sc, rfl, ho, hn, hf11⟩
        obtain ⟨sl, hsl⟩ : ∃ n, (T.aset o.b o.c zy.ats).length = n := ⟨_, rfl⟩
        have x11 := hf11.cells X10.out (fun h => h)
        have q3 := frozen_of_row (j := 3) x11
        have q4 : w11.cell? ⟨w6.heap.size, 3, none⟩ = some (.slice za al zc) := cellA (j := 3) x11 rfl
        have q0 : w11.cell? ⟨w6.heap.size, 0, none⟩ = some (.int .i64 o.n) := cellA (j := 0) x11 rfl
        have q1 : w11.cell? ⟨w6.heap.size, 1, none⟩ = some (.int .i64 zy.par) := cellA (j := 1) x11 rfl
        have q2 : w11.cell? ⟨w6.heap.size, 2, none⟩ = some (.string zy.nm) := cellA (j := 2) x11 rfl
        have D11 := D10.out.kept hf11 (fun _ _ h => h)
        have hsz10 : w6.heap.size < V10.heap.size := lt_of_row X10.out
        have hcs : ∀ {i : Nat} {col : U.Col}, c6 i = some col → i < V10.heap.size := fun {i col} e => by have := D6h.out.lo i (by rw [e]; simp); omega
        have D12 : U.Dt (U.addc c6 V10.heap.size sa .attr) w11 r (some ⟨g, q, none⟩) rc zs a6 cp6 hs6 := D11.ext (fun i col e => by rw [U.addc_lo (hcs e), e]) (fun i hi => by
          rcases U.addc_some hi with ⟨_, h2⟩ | ⟨_, h2⟩
          · exact D11.lo i h2
          · exact ho.lt i h2)
        have hxa : ∀ i, U.addc c6 V10.heap.size sa .attr i ≠ none → i ≠ w6.heap.size := fun i hi e => by
          rcases U.addc_some hi with ⟨_, h2⟩ | ⟨h1, _⟩
          · have := D6h.out.lo i h2; omega
          · omega
        have hrx : Rw (fun i => U.addc c6 V10.heap.size sa .attr i = some .attr) w11 2 sa (T.aset o.b o.c zy.ats).length (T.flatA (T.aset o.b o.c zy.ats)) := Rw.of_ro ho (fun g hg => U.addc_new (hn g hg) hg)
        have KP := hid (fun (V : World) (hf : Fr (fun i => i = w6.heap.size) w11 V) => uput_any (D12.kept hf (fun i hi e => hxa i hi e)) hu (by have := HL.out; omega) ((o.n, ⟨zy.par, zy.nm, T.aset o.b o.c zy.ats⟩), (sa, sc)) (hrx.kept hf (fun i hi e => hxa i (by rw [hi]; simp) e)))
        dsimp only [T.aggN] at KP
        rw [hsl] at KP ⊢
        have F11 := hid hf11
        have HM7 := hid (show U.More c6 (U.addc c6 V10.heap.size sa .attr) w6.heap.size from fun i hi => U.addc_lo (by omega))
        clear ho hn hf11 hsl x11 D11 hsz10 hcs D12 hxa hrx KS u2 u4 u5 u6 u7 x9 z0 z1 z2 z3
        dsimp only
        go_wp2_with fail
        obtain ⟨V12, hV12⟩ : ∃ V, w11.setCell ⟨w6.heap.size, 3, none⟩ (.slice sa sl sc) = V := ⟨_, rfl⟩
        have f12 : Fr (fun i => i = w6.heap.size) w11 V12 := by rw [← hV12]; exact Fr.setCell (p := ⟨w6.heap.size, 3, none⟩) (Fr.refl (fun i => i = w6.heap.size) _) (fun _ => rfl) _
        rw [hV12]
        refine (KP.out V12 f12).mono ?_
        rintro e w9 ⟨rfl, hp⟩
        have FIN := hid (U.do_fin hu HM6.out HMO.out HF6.out ((F6X.out.trans F11.out (fun _ _ h => h)).trans f12 (fun i hi e => by omega)) HM7.out HX.out hp)
        clear hV12 f12 hp KP
        dsimp only
        go_wp2_with fail
        go_ret
        exact ⟨rfl, FIN.out⟩
      · have k2 : o.k = 2 := Classical.byContradiction (fun k2 => by rw [if_neg k2, if_neg k3] at hgd; cases hgd)
        have hx : A.put o.n ⟨o.p, o.a, zy.ats⟩ (U.pl zs) = T.doOp (U.pl zs) o := by
          unfold T.doOp
          rw [if_neg k3, hy]
          rfl
        have HX := hid hx
        have KP := hid (fun (V : World) (hf : Fr (fun i => i = w6.heap.size) V10 V) => uput_any (D10.out.kept hf (fun i hi e => by have := D6h.out.lo i hi; omega)) hu (by have := HL.out; omega) ((o.n, ⟨o.p, o.a, zy.ats⟩), (za, zc)) (hel10.kept hf (fun i hi e => by have := D6h.out.lo i (by rw [hi]; simp); omega)))
        dsimp only [T.aggN] at KP
        rw [hal] at KP
        rw [k2] at u2
        clear hgd hno hx k1 k2 k3 hy hz hzm hat hel hal o2 o4 o5 o6 o7 f10 x10 hV10 hel10 hlen3
        go_upto_region 8 with fail
        clear a0 a1 a2 a3 d0 i0 i1 x8 y0 y1 y2 y3
        rw [HV10.out]
        go_wp2_with fail
        obtain ⟨V12, hV12⟩ : ∃ V, (V10.setCell ⟨w6.heap.size, 1, none⟩ (.int .i64 o.p)).setCell ⟨w6.heap.size, 2, none⟩ (.string o.a) = V := ⟨_, rfl⟩
        have f12 : Fr (fun i => i = w6.heap.size) V10 V12 := by rw [← hV12]; exact Fr.setCell (p := ⟨w6.heap.size, 2, none⟩) (Fr.setCell (p := ⟨w6.heap.size, 1, none⟩) (Fr.refl (fun i => i = w6.heap.size) _) (fun _ => rfl) _) (fun _ => rfl) _
        rw [hV12]
        refine (KP.out V12 f12).mono ?_
        rintro e w9 ⟨rfl, hp⟩
        have FIN := hid (U.do_fin hu HM6.out HMO.out HF6.out (F6X.out.trans f12 (fun i hi e => by omega)) (fun _ _ => rfl) HX.out hp)
        clear hV12 f12 hp KP
        dsimp only
        go_wp2_with fail
        go_ret
        exact ⟨rfl, FIN.out⟩
  have REST2 := hid REST
  clear REST HK1
  go_region_law (first
      | (rw [if_pos (by rfl)]; refine wp_append_eq (.tmp 16) (.tmp 22) _ rfl _ _ _ rfl rfl R5.out ?_)
      | (rw [if_pos (by rfl)]; go_simp; go_at_call 52; refine (KC.out _ (by first | exact Fr.refl _ _ | exact Fr.drew (Fr.refl _ _) | exact Fr.drewN _ _)).mono ?_; rintro e w3 ⟨ca, cc, zc, rfl, hz3, hx3, hf3⟩; have f3 : Fr (fun _ => False) w2 w3 := (by first | exact hf3 | exact (Fr.drew (Fr.refl _ _)).trans hf3 (fun _ _ h => h)); obtain ⟨a5, c5, w5, hr5, hro5, hf5, hn5⟩ := KA.out w3 f3 ca cc; have R5 := hid hr5; obtain ⟨s30, s31⟩ := CC.out w3 f3; obtain ⟨s3a, s3b⟩ := CC.out _ (Fr.alloc f3 (.cells #[.slice ca len cc] 41)); have H5 := hid (And.intro hz3 (And.intro hx3 (And.intro f3 (And.intro hro5 (And.intro hf5 hn5))))); have B5 := hid (hf5.cells ((H.out.kept (F2.out.trans f3 (fun _ _ h => h)) (fun _ _ h => h)).box) (fun e => by have := H.out.ch r e; rw [H.out.cr] at this; cases this)); have z5 := frozen_of_row (j := 1) B5.out; have s51 := cellA (j := 1) B5.out rfl; clear hz3 hx3 hf3 f3 hr5 hro5 hf5 hn5; dsimp only))
  all_goals
    obtain ⟨hz3, hx3, f3, hro5, hf5, hn5⟩ := H5.out
    have hzl : zc.length = len := by
      have := congrArg List.length hz3
      rw [List.length_map, List.length_map, HL.out] at this
      exact this
    have fs : Fr (fun i => i = r) w5 (w5.setCell ⟨r, 1, none⟩ (.slice a5 (m + 1) c5)) := Fr.setCell (p := ⟨r, 1, none⟩) (Fr.refl (fun i => i = r) _) (fun _ => rfl) _
    have hbox5 := setCell_row (j := 1) B5.out (.slice a5 (m + 1) c5)
    obtain ⟨D6, hmo6, hf6⟩ := H.out.push F2.out (a := ca) (cp := cc) (zs' := zc) (w3 := w3) hx3 f3 hf5 (by rw [hzl, HM.out]; exact hro5) hn5 fs (by rw [HM.out, HL.out]; rw [HM.out, HL.out] at hbox5; exact hbox5)
    have hrw : r < w.heap.size := lt_of_row H.out.box
    have b6 : (w5.setCell ⟨r, 1, none⟩ (.slice a5 (m + 1) c5)).heap[w.heap.size]? = some (.cells o.cs 35 (0, 0)) := fs.cells (hf5.cells (f3.cells B2.out (fun h => h)) (fun e => by have := H.out.lo w.heap.size (by rw [H.out.ch _ e]; simp); omega)) (by omega)
    exact REST2.out _ _ a5 c5 _ _ _ _ _ _ _ _ _ _ _ _ _ _ _ D6 (by rw [List.map_append]; congr 1; simp only [List.map_cons, List.map_nil]; congr 1) hmo6 hf6 b6
end Go.Proofs.YtilbdpnioajkoaaGreat

/-
  StampJoins: the walk.
-/
import Derived.Test.YtfbpaboakdpceaaSAppend
namespace Go.Proofs.Ytfbpaboakdpceaa
open Go.RowKit
set_option linter.unusedVariables false
set_option linter.unusedSimpArgs false

set_option maxHeartbeats 6400000 in
set_option maxRecDepth 20000 in
theorem stampJoins_walk {w : World} {b o n c : Nat} {z : Nat → Nat → Int} (hr : Ri w 8 (some ⟨b, o, none⟩) n z) (hn : 0 < n) (hcap : n ≤ c) (hc : c ≤ 2199023255552) (k : Int) (h0 : 0 ≤ k) (h1 : k ≤ 255) : Calls Try.prog 8 #[.slice (some ⟨b, o, none⟩) n c, .int .u8 k] w fun e w' => e = .returned (.bool true) ∧ Fr (fun _ => False) w w' := by
  have KL := hid slive_any
  obtain ⟨q, hq, hk⟩ := S.tmod_k h0 h1 hn
  have hn1 : ((n : Int) == 0) = false := by simp; omega
  have hn2 : ¬ (n : Int) = 0 := by omega
  have CUTL := hid (fun W => sliceAt_V (run_cutV_lo W (some ⟨b, o, none⟩) n c q (by omega) q rfl))
  have CUTH := hid (fun W => run_cutV_hi W (some ⟨b, o, none⟩) n c q (by omega) q rfl)
  have HR := hid hr
  clear h0 h1 hr
  go_enter Try.func8, Try.ntmps8
  go_wp2_with (first | (go_at_call 9; refine (KL.out _).mono ?_; rintro e w1 ⟨rfl, hf⟩; have F1 := hid hf; clear hf))
  have hmx : Try.prog.follows .mixedOrders = true := by kernel_rfl
  refine wp_region_held (S := fun V => Fr (fun _ => False) w1 V) hmx ?_
  have hS := (show Fr (fun _ => False) w1 w1.drew from Fr.drew (Fr.refl _ _))
  simp only [List.size_toArray, List.length_cons, List.length_nil, Nat.reduceAdd, Array.replicate_succ, Array.replicate_zero, List.push_toArray, List.nil_append, List.cons_append]
  refine wpAnyH_take (i := 1) (v := ?_) rfl (by kernel_rfl) (by kernel_rfl) (by kernel_rfl) (fun _ _ _ h => h) (Or.inl ⟨by kernel_rfl, ?_⟩) hS ?_
  rotate_left 1
  · (intro w' hS'; clear hS'; go_simp; try with_reducible rfl)
  simp only [List.getElem_toArray, List.getElem_cons_zero, List.getElem_cons_succ, Act.put, List.setIfInBounds_toArray, List.set_cons_zero, List.set_cons_succ]
  refine wpAnyH_take (i := 2) (v := ?_) rfl (by kernel_rfl) (by kernel_rfl) (by kernel_rfl) (fun _ _ _ h => h) (Or.inl ⟨by kernel_rfl, ?_⟩) hS ?_
  rotate_left 1
  · (intro w' hS'; clear hS'; go_simp; try with_reducible rfl)
  simp only [List.getElem_toArray, List.getElem_cons_zero, List.getElem_cons_succ, Act.put, List.setIfInBounds_toArray, List.set_cons_zero, List.set_cons_succ]
  refine wpAnyH_take (i := 3) rfl (by kernel_rfl) (by kernel_rfl) (by kernel_rfl) (fun _ _ _ h => h) (syslice (by kernel_rfl) (by exact ⟨_, _, _, _, rfl, rfl, rfl, rfl, rfl⟩) (fun w' hS' => CUTL.out w')) hS ?_
  simp only [List.getElem_toArray, List.getElem_cons_zero, List.getElem_cons_succ, Act.put, List.setIfInBounds_toArray, List.set_cons_zero, List.set_cons_succ]
  refine wpAnyH_take (i := 5) (v := ?_) rfl (by kernel_rfl) (by kernel_rfl) (by kernel_rfl) (fun _ _ _ h => h) (Or.inl ⟨by kernel_rfl, ?_⟩) hS ?_
  rotate_left 1
  · (intro w' hS'; clear hS'; go_simp; try with_reducible rfl)
  simp only [List.getElem_toArray, List.getElem_cons_zero, List.getElem_cons_succ, Act.put, List.setIfInBounds_toArray, List.set_cons_zero, List.set_cons_succ]
  refine wpAnyH_take (i := 6) (v := ?_) rfl (by kernel_rfl) (by kernel_rfl) (by kernel_rfl) (fun _ _ _ h => h) (Or.inl ⟨by kernel_rfl, ?_⟩) hS ?_
  rotate_left 1
  · (intro w' hS'; clear hS'; go_simp; try with_reducible rfl)
  simp only [List.getElem_toArray, List.getElem_cons_zero, List.getElem_cons_succ, Act.put, List.setIfInBounds_toArray, List.set_cons_zero, List.set_cons_succ]
  refine wpAnyH_take (i := 7) rfl (by kernel_rfl) (by kernel_rfl) (by kernel_rfl) (fun _ _ _ h => h) (syslice (by kernel_rfl) (by exact ⟨_, _, _, _, rfl, rfl, rfl, rfl, rfl⟩) (fun w' hS' => CUTH.out w')) hS ?_
  simp only [List.getElem_toArray, List.getElem_cons_zero, List.getElem_cons_succ, Act.put, List.setIfInBounds_toArray, List.set_cons_zero, List.set_cons_succ]
  refine wpAnyH_ready (rs := [0]) (by kernel_rfl) (by simp) ?_
  refine AllReadyH.cons rfl (fun K1 hK1 => ?_) AllReadyH.nil
  go_simp
  refine build0 (Fr.refl (fun _ => False) w1) (fun U1 hS1 fx hro => ?_)
  refine hK1.out _ _ hS1 (fun hS => ?_)
  clear hK1 K1 fx hS1
  simp only [List.getElem_toArray, List.getElem_cons_zero, List.getElem_cons_succ, Act.put, List.setIfInBounds_toArray, List.set_cons_zero, List.set_cons_succ]
  have hz0 : Ro U1 42 8 (some ⟨w1.heap.size, 0, none⟩) 0 0 (S.flat z 0) := hro
  have hsrc : Ri U1 8 (cutV (some ⟨b, o, none⟩) c q) (n - q) (fun i => z (q + i)) := by
    obtain ⟨b', o', e, hcl⟩ := (HR.out.fr (F1.out.trans hS (fun _ _ h => h))).some_of hn
    cases e
    refine .inr ⟨b, o + q * 8, ?_, fun i j hi hj => ?_⟩
    · unfold cutV
      rw [if_neg (by omega)]
      simp [Addr.add_lit]
    · have := hcl (q + i) j (by omega) hj
      rwa [show o + (q + i) * 8 + j = o + q * 8 + i * 8 + j by omega] at this
  obtain ⟨a2, c2, U2, hrun, hro2, hg2, hat2⟩ := vec_append U1 hz0 (sc := c - q) hsrc (by omega) 40
  have hS2 : Fr (fun _ => False) w1 U2 := hS.trans (Fr.of_grown hg2) (fun i hi e => by simp [blk] at e; omega)
  have hnew2 : ∀ i, blk a2 = some i → w1.heap.size ≤ i := fun i e => by
    rcases hat2 with ⟨h, _⟩ | ⟨h, _⟩
    · rw [h] at e; simp [blk] at e; omega
    · rw [h] at e; simp [blk] at e; have := hS.size; omega
  refine wpAnyH_ready (rs := [4]) (by kernel_rfl) (by simp) ?_
  refine AllReadyH.cons rfl (fun K1 hK1 => ?_) AllReadyH.nil
  rw [if_pos (by kernel_rfl)]
  refine wp_append_eq (.tmp 27) (.tmp 30) _ rfl _ _ _ rfl rfl hrun ?_
  refine hK1.out _ _ hS2 (fun hS => ?_)
  clear hK1 K1 hrun hz0 hsrc hro hg2 hat2 hS2
  simp only [List.getElem_toArray, List.getElem_cons_zero, List.getElem_cons_succ, Act.put, List.setIfInBounds_toArray, List.set_cons_zero, List.set_cons_succ]
  have hsrc : Ri U2 8 (some ⟨b, o, none⟩) q z := by
    obtain ⟨b', o', e, hcl⟩ := (HR.out.fr (F1.out.trans hS (fun _ _ h => h))).some_of hn
    cases e
    exact .inr ⟨b, o, rfl, fun i j hi hj => hcl i j (by omega) hj⟩
  obtain ⟨a3, c3, U3, hrun, hro3, hg3, hat3⟩ := vec_append U2 hro2 (sc := c) hsrc (by omega) 40
  have hS3 : Fr (fun _ => False) w1 U3 := hS.trans (Fr.of_grown hg3) (fun i hi e => by have := hnew2 i e; omega)
  refine wpAnyH_ready (rs := [8]) (by kernel_rfl) (by simp) ?_
  refine AllReadyH.cons rfl (fun K1 hK1 => ?_) AllReadyH.nil
  rw [if_pos (by kernel_rfl)]
  refine wp_append_eq (.tmp 31) (.tmp 34) _ rfl _ _ _ rfl rfl hrun ?_
  refine hK1.out _ _ hS3 (fun hS => ?_)
  have hle3 := hro3.le.1
  have ht : Ri U3 8 a3 n (S.turn z q n) := by
    have h1 := hro3.ri
    rw [show 0 + (n - q) + q = n by omega] at h1
    rcases h1 with h | ⟨b', o', e, hcl⟩
    · exact .inl h
    · refine .inr ⟨b', o', e, fun i j hi hj => ?_⟩
      rw [hcl i j hi hj]
      congr 2
      unfold S.turn S.glue
      rw [Nat.zero_add]
      by_cases h : i < n - q
      · rw [if_pos h, if_pos h, if_neg (by omega)]; rfl
      · rw [if_neg h, if_neg h]
  rw [show 0 + (n - q) + q = n by omega]
  rw [show 0 + (n - q) + q = n by omega] at hle3
  clear hK1 K1 hrun hro2 hsrc hro3 hg3 hat3 hS3 hnew2
  simp only [List.getElem_toArray, List.getElem_cons_zero, List.getElem_cons_succ, Act.put, List.setIfInBounds_toArray, List.set_cons_zero, List.set_cons_succ]
  refine wpAnyH_take (i := 9) (v := ?_) rfl (by kernel_rfl) (by kernel_rfl) (by kernel_rfl) (fun _ _ _ h => h) (Or.inl ⟨by kernel_rfl, ?_⟩) hS ?_
  rotate_left 1
  · (intro w' hS'; clear hS'; go_simp; try with_reducible rfl)
  simp only [List.getElem_toArray, List.getElem_cons_zero, List.getElem_cons_succ, Act.put, List.setIfInBounds_toArray, List.set_cons_zero, List.set_cons_succ]
  refine wpAnyH_done (by kernel_rfl) ?_ _
  have HT := hid ht
  have F3 := hid (F1.out.trans hS (fun _ _ h => h))
  clear ht hS
  have KJ := hid (fun (V : World) (hf : Fr (fun _ => False) w V) => sjoin_any (c := c) (HR.out.fr hf) (by omega) hcap)
  have KM := hid (fun (V : World) (hf : Fr (fun _ => False) w V) => smeet_any (c := c) (HR.out.fr hf) (by omega) hcap)
  have TJ := hid (fun (V : World) (hf : Fr (fun _ => False) U3 V) => sjoin_any (c := c3) (HT.out.fr hf) (by omega) hle3)
  have TM := hid (fun (V : World) (hf : Fr (fun _ => False) U3 V) => smeet_any (c := c3) (HT.out.fr hf) (by omega) hle3)
  obtain ⟨FJ, hFJ⟩ : ∃ FJ : Nat → Int, (fun j => S.fold max z j n) = FJ := ⟨_, rfl⟩
  obtain ⟨FM, hFM⟩ : ∃ FM : Nat → Int, (fun j => S.fold min z j n) = FM := ⟨_, rfl⟩
  rw [show (fun j => S.fold max (S.turn z q n) j n) = FJ by rw [← hFJ]; funext j; exact S.turn_max hq j] at TJ
  rw [show (fun j => S.fold min (S.turn z q n) j n) = FM by rw [← hFM]; funext j; exact S.turn_min hq j] at TM
  rw [hFJ] at KJ
  rw [hFM] at KM
  have GE := hid (show ∀ i j, i < n → z i j ≤ FJ j from fun i j hi => by rw [← hFJ]; exact S.max_ge z j hi)
  have LE := hid (show ∀ i j, i < n → FM j ≤ z i j from fun i j hi => by rw [← hFM]; exact S.min_le z j hi)
  have INJ := hid (show ∀ j, ∃ i, i < n ∧ z i j = FJ j from fun j => by rw [← hFJ]; exact S.max_in z j hn)
  have INM := hid (show ∀ j, ∃ i, i < n ∧ z i j = FM j from fun j => by rw [← hFM]; exact S.min_in z j hn)
  have HCN := hid (And.intro hcap (And.intro hc hle3))
  clear hFJ hFM hcap hc hle3
  go_wp2_with (first
    | (go_at_call 24; refine (KJ.out _ F3.out).mono ?_; rintro e U4 ⟨rfl, hf⟩; have F4 := hid (F3.out.trans hf (fun _ _ h => h)); have G4 := hid hf; clear hf)
    | (go_at_call 26; refine (KM.out _ F4.out).mono ?_; rintro e U5 ⟨rfl, hf⟩; obtain ⟨V1, st1, hb1, f1⟩ := box_whole (V := (U5.alloc (.cells (V8 (fun _ => 0)) 42)).alloc (.cells (V8 (fun _ => 0)) 42)) (b := U5.heap.size) (c := V8 FJ) (S.two0 U5 _ _) rfl (by kernel_rfl) (by kernel_rfl); obtain ⟨V2, st2, hb2, f2⟩ := box_whole (V := V1) (b := U5.heap.size + 1) (c := V8 FM) (f1.cells (S.two1 U5 _ _) (by omega)) rfl (by kernel_rfl) (by kernel_rfl); have hJ2 := f2.cells hb1 (by omega); have ST1 := hid st1; have ST2 := hid st2; have SZ45 := hid hf.size; have G5 := hid (((G4.out.trans hf (fun _ _ h => h)).trans (Fr.alloc (Fr.al U5 (.cells (V8 (fun _ => 0)) 42)) (.cells (V8 (fun _ => 0)) 42)) (fun _ _ h => h)).trans (f1.mono (T := fun i => i = U5.heap.size) (fun _ _ h => h)) (fun i hi e => by have := G4.out.size; have := hf.size; omega)); clear hf)
    | (refine wpList_store_v ST1.out (by exact ⟨_, _, rfl, rfl, rfl⟩) (by kernel_rfl) ?_)
    | (refine wpList_store_v ST2.out (by exact ⟨_, _, rfl, rfl, rfl⟩) (by kernel_rfl) ?_))
  have GV := hid (G5.out.trans f2 (fun i hi e => by have := G4.out.size; have h5 : U3.heap.size ≤ U5.heap.size := Nat.le_trans (G4.out.size) (by have := G5.out.size; exact SZ45.out); omega))
  have PJ : Hid (Vb V2 U5.heap.size FJ) := hid hJ2
  have PM : Hid (Vb V2 (U5.heap.size + 1) FM) := hid hb2
  have FV := hid (F3.out.trans GV.out (fun _ _ h => h))
  clear st1 st2 hb1 hb2 f1 f2 hJ2 ST1 ST2 G4 G5 F4 KJ KM
  generalize U5.heap.size = P at PJ PM ⊢
  go_loopw [40] (fun i wr => ∃ (r : Nat), r ≤ 8 ∧ i = .int .i64 r ∧ Hid (Fr (fun _ => False) V2 wr)) (fun i _ => 8 - (intOf i).toNat)
  case atStart => exact ⟨0, by omega, rfl, hid (Fr.refl _ _)⟩
  case round =>
    obtain ⟨r, hr8, rfl, HF⟩ := hrel
    by_cases hlt : r < 8
    · have i1 : (r : Int) < 8 := by omega
      have i0 : (0 : Int) ≤ (r : Int) := by omega
      go_wp2_with fail
      obtain ⟨wo, hwo⟩ : ∃ wo, wo = wr := ⟨_, rfl⟩
      rw [← hwo] at HF ⊢
      clear hwo
      go_loopw [10, 11, 45] (fun le mo i wr => ∃ (k : Nat), k ≤ n ∧ i = .int .i64 k ∧ le = .bool (S.has z FM r k) ∧ mo = .bool (S.has z FJ r k) ∧ Hid (Fr (fun _ => False) V2 wr)) (fun _ _ i _ => n - (intOf i).toNat)
      case atStart => exact ⟨0, Nat.zero_le _, rfl, rfl, rfl, HF⟩
      case round =>
        obtain ⟨k', hk', rfl, rfl, rfl, HG⟩ := hrel
        by_cases hlk : k' < n
        · have j0 : (0 : Int) ≤ (k' : Int) := by omega
          have j1 : (k' : Int) < (n : Int) := by omega
          have hnb : n ≤ 2199023255552 := by have := HCN.out; omega
          obtain ⟨b', o', e, hcl⟩ := HR.out.some_of hn
          cases e
          have l1 := Ri.load hcl (FV.out.trans HG.out (fun _ _ h => h)) hlk
          obtain ⟨X, st, hbX, fX⟩ := box_whole (V := wr.alloc (.cells (V8 (fun _ => 0)) 42)) (b := wr.heap.size) (c := V8 (z k')) (Go.heap_alloc_new wr _) rfl (by kernel_rfl) (by kernel_rfl)
          have fW : Fr (fun _ => False) wr X := (Fr.al wr _).trans fX (fun i hi e => by omega)
          have GX := hid (HG.out.trans fW (fun _ _ h => h))
          have LV := hid (fun (U : World) (hf : Fr (fun _ => False) X U) => load_whole (ty := 42) (hf.cells hbX (fun h => h)) Try.underlying42 rfl (by kernel_rfl))
          have LJ := hid (fun (U : World) (hf : Fr (fun _ => False) X U) => load_whole (ty := 42) ((PJ.out.fr GX.out).fr hf) Try.underlying42 rfl (by kernel_rfl))
          have LM := hid (fun (U : World) (hf : Fr (fun _ => False) X U) => load_whole (ty := 42) ((PM.out.fr GX.out).fr hf) Try.underlying42 rfl (by kernel_rfl))
          have CV := hid (fun (U : World) (hf : Fr (fun _ => False) X U) => show U.cell? ⟨wr.heap.size, r, none⟩ = some (.int .i64 (z k' r)) ∧ U.cell? ⟨P, r, none⟩ = some (.int .i64 (FJ r)) ∧ U.cell? ⟨P + 1, r, none⟩ = some (.int .i64 (FM r)) from ⟨cellA (hf.cells hbX (fun h => h)) (V8.at _ hlt), ((PJ.out.fr GX.out).fr hf).cell hlt, ((PM.out.fr GX.out).fr hf).cell hlt⟩)
          have A1 := hid (sabove_any FJ (z k'))
          have A2 := hid (sabove_any (z k') FM)
          rw [S.abv_iff.2 (fun j hj => GE.out k' j hlk)] at A1
          rw [S.abv_iff.2 (fun j hj => LE.out k' j hlk)] at A2
          have L1 := hid l1
          have ST := hid st
          have HX := hid hbX
          clear l1 st hbX fX fW hcl
          go_wp2_with (first
            | (refine wpList_load_v L1.out (by exact ⟨_, rfl, rfl⟩) (by kernel_rfl) ?_)
            | (refine wpList_store_v ST.out (by exact ⟨_, _, rfl, rfl, rfl⟩) (by kernel_rfl) ?_)
            | (refine wpList_load_v (LJ.out _ (Fr.refl _ _)) (by exact ⟨_, rfl, rfl⟩) (by kernel_rfl) ?_)
            | (refine wpList_load_v (LV.out _ (Fr.refl _ _)) (by exact ⟨_, rfl, rfl⟩) (by kernel_rfl) ?_))
          refine (A1.out _).mono ?_
          rintro e U6 ⟨rfl, fx⟩
          have hS6 := hid fx
          clear fx
          go_wp2_with (first
            | (refine wpList_load_v (LV.out _ hS6.out) (by exact ⟨_, rfl, rfl⟩) (by kernel_rfl) ?_)
            | (refine wpList_load_v (LM.out _ hS6.out) (by exact ⟨_, rfl, rfl⟩) (by kernel_rfl) ?_))
          refine (A2.out _).mono ?_
          rintro e U7 ⟨rfl, fx⟩
          have hS := hS6.out.trans fx (fun _ _ h => h)
          clear fx
          obtain ⟨d0, d1, d2⟩ := CV.out _ hS
          have HS := hid hS
          have hb1 : (S.has z FJ r k' || z k' r == FJ r) = S.has z FJ r (k' + 1) := rfl
          have hb2 : (S.has z FM r k' || z k' r == FM r) = S.has z FM r (k' + 1) := rfl
          have HB1 := hid hb1
          have HB2 := hid hb2
          clear hS hb1 hb2
          generalize S.has z FJ r k' = x1 at HB1
          generalize S.has z FM r k' = x2 at HB2
          generalize z k' r = y0 at d0 HB1 HB2
          generalize FJ r = y1 at d1 HB1
          generalize FM r = y2 at d2 HB2
          cases x1 <;> cases x2 <;>
          · go_wp2
            go_quiet (fail)
            go_wp2
            go_quiet (fail)
            go_wp2
            go_roundw
            case rel =>
              refine ⟨k' + 1, by omega, by first | go_num | trivial, ?_, ?_, hid ?_⟩
              · rw [← HB2.out]; first | rfl | simp
              · rw [← HB1.out]; first | rfl | simp
              · have f7 := GX.out.trans HS.out (fun _ _ h => h)
                first
                  | exact f7
                  | exact f7.trans (Fr.drewN _ _) (fun _ _ (h : False) => h)
                  | exact (f7.trans (Fr.drewN _ _) (fun _ _ (h : False) => h)).trans (Fr.drewN _ _) (fun _ _ (h : False) => h)
            case measure => simp [intOf]; omega
        · obtain rfl : k' = n := by omega
          have e1 : S.has z FJ r k' = true := S.has_iff.2 (INJ.out r)
          have e2 : S.has z FM r k' = true := S.has_iff.2 (INM.out r)
          rw [e1, e2]
          clear e1 e2
          go_wp2
          go_roundw
          case rel => exact ⟨r + 1, by omega, by first | go_num | trivial, HG⟩
          case measure => simp [intOf]; omega
    · obtain rfl : r = 8 := by omega
      have LJ := hid (fun (U : World) (hf : Fr (fun _ => False) wr U) => load_whole (ty := 42) ((PJ.out.fr HF.out).fr hf) Try.underlying42 rfl (by kernel_rfl))
      have LM := hid (fun (U : World) (hf : Fr (fun _ => False) wr U) => load_whole (ty := 42) ((PM.out.fr HF.out).fr hf) Try.underlying42 rfl (by kernel_rfl))
      have EJ := hid (fun V => eqlV_of (f := FJ) (g := FJ) (fun _ _ => rfl) V)
      have EM := hid (fun V => eqlV_of (f := FM) (g := FM) (fun _ _ => rfl) V)
      go_wp2_with fail
      refine wp_region_held (S := fun V => Fr (fun _ => False) wr V) hmx ?_
      have hS := (show Fr (fun _ => False) wr wr.drew from Fr.drew (Fr.refl _ _))
      simp only [List.size_toArray, List.length_cons, List.length_nil, Nat.reduceAdd, Array.replicate_succ, Array.replicate_zero, List.push_toArray, List.nil_append, List.cons_append]
      refine wpAnyH_take (i := 0) (v := ?_) rfl (by kernel_rfl) (by kernel_rfl) (by kernel_rfl) (fun _ _ _ h => h) (Or.inl ⟨by kernel_rfl, ?_⟩) hS ?_
      rotate_left 1
      · (intro w' hS'; clear hS'; go_simp; try with_reducible rfl)
      simp only [List.getElem_toArray, List.getElem_cons_zero, List.getElem_cons_succ, Act.put, List.setIfInBounds_toArray, List.set_cons_zero, List.set_cons_succ]
      refine wpAnyH_take (i := 2) rfl (by kernel_rfl) (by kernel_rfl) (by kernel_rfl) (fun _ _ _ h => h) (jyload (by kernel_rfl) (by exact ⟨_, rfl, rfl⟩) (fun w' hS' => LJ.out w' hS')) hS ?_
      simp only [List.getElem_toArray, List.getElem_cons_zero, List.getElem_cons_succ, Act.put, List.setIfInBounds_toArray, List.set_cons_zero, List.set_cons_succ]
      refine wpAnyH_ready (rs := [1]) (by kernel_rfl) (by simp) ?_
      refine AllReadyH.cons rfl (fun K1 hK1 => ?_) AllReadyH.nil
      go_simp
      refine (TJ.out _ ((GV.out.trans HF.out (fun _ _ h => h)).trans hS (fun _ _ h => h))).mono ?_
      rintro e w91 ⟨rfl, fx⟩
      refine hK1.out _ _ (hS.trans fx (fun _ _ h => h)) (fun hS => ?_)
      clear fx
      clear hK1 K1
      simp only [List.getElem_toArray, List.getElem_cons_zero, List.getElem_cons_succ, Act.put, List.setIfInBounds_toArray, List.set_cons_zero, List.set_cons_succ]
      refine wpAnyH_take (i := 3) rfl (by kernel_rfl) (by kernel_rfl) (by kernel_rfl) (fun _ _ _ h => h) (syeql (by kernel_rfl) (by exact ⟨_, _, _, rfl, rfl, rfl, fun W => guardV _ _ _ _ W⟩) (fun w' hS' => EJ.out w')) hS ?_
      simp only [List.getElem_toArray, List.getElem_cons_zero, List.getElem_cons_succ, Act.put, List.setIfInBounds_toArray, List.set_cons_zero, List.set_cons_succ]
      refine wpAnyH_take (i := 4) (v := ?_) rfl (by kernel_rfl) (by kernel_rfl) (by kernel_rfl) (fun _ _ _ h => h) (Or.inl ⟨by kernel_rfl, ?_⟩) hS ?_
      rotate_left 1
      · (intro w' hS'; clear hS'; go_simp; try with_reducible rfl)
      simp only [List.getElem_toArray, List.getElem_cons_zero, List.getElem_cons_succ, Act.put, List.setIfInBounds_toArray, List.set_cons_zero, List.set_cons_succ]
      refine wpAnyH_take (i := 5) (v := ?_) rfl (by kernel_rfl) (by kernel_rfl) (by kernel_rfl) (fun _ _ _ h => h) (Or.inl ⟨by kernel_rfl, ?_⟩) hS ?_
      rotate_left 1
      · (intro w' hS'; clear hS'; go_simp; try with_reducible rfl)
      simp only [List.getElem_toArray, List.getElem_cons_zero, List.getElem_cons_succ, Act.put, List.setIfInBounds_toArray, List.set_cons_zero, List.set_cons_succ]
      refine wpAnyH_take (i := 7) rfl (by kernel_rfl) (by kernel_rfl) (by kernel_rfl) (fun _ _ _ h => h) (jyload (by kernel_rfl) (by exact ⟨_, rfl, rfl⟩) (fun w' hS' => LM.out w' hS')) hS ?_
      simp only [List.getElem_toArray, List.getElem_cons_zero, List.getElem_cons_succ, Act.put, List.setIfInBounds_toArray, List.set_cons_zero, List.set_cons_succ]
      refine wpAnyH_ready (rs := [6]) (by kernel_rfl) (by simp) ?_
      refine AllReadyH.cons rfl (fun K1 hK1 => ?_) AllReadyH.nil
      go_simp
      refine (TM.out _ ((GV.out.trans HF.out (fun _ _ h => h)).trans hS (fun _ _ h => h))).mono ?_
      rintro e w96 ⟨rfl, fx⟩
      refine hK1.out _ _ (hS.trans fx (fun _ _ h => h)) (fun hS => ?_)
      clear fx
      clear hK1 K1
      simp only [List.getElem_toArray, List.getElem_cons_zero, List.getElem_cons_succ, Act.put, List.setIfInBounds_toArray, List.set_cons_zero, List.set_cons_succ]
      refine wpAnyH_take (i := 8) rfl (by kernel_rfl) (by kernel_rfl) (by kernel_rfl) (fun _ _ _ h => h) (syeql (by kernel_rfl) (by exact ⟨_, _, _, rfl, rfl, rfl, fun W => guardV _ _ _ _ W⟩) (fun w' hS' => EM.out w')) hS ?_
      simp only [List.getElem_toArray, List.getElem_cons_zero, List.getElem_cons_succ, Act.put, List.setIfInBounds_toArray, List.set_cons_zero, List.set_cons_succ]
      refine wpAnyH_take (i := 9) (v := ?_) rfl (by kernel_rfl) (by kernel_rfl) (by kernel_rfl) (fun _ _ _ h => h) (Or.inl ⟨by kernel_rfl, ?_⟩) hS ?_
      rotate_left 1
      · (intro w' hS'; clear hS'; go_simp; try with_reducible rfl)
      simp only [List.getElem_toArray, List.getElem_cons_zero, List.getElem_cons_succ, Act.put, List.setIfInBounds_toArray, List.set_cons_zero, List.set_cons_succ]
      refine wpAnyH_take (i := 10) (v := ?_) rfl (by kernel_rfl) (by kernel_rfl) (by kernel_rfl) (fun _ _ _ h => h) (Or.inl ⟨by kernel_rfl, ?_⟩) hS ?_
      rotate_left 1
      · (intro w' hS'; clear hS'; go_simp; try with_reducible rfl)
      simp only [List.getElem_toArray, List.getElem_cons_zero, List.getElem_cons_succ, Act.put, List.setIfInBounds_toArray, List.set_cons_zero, List.set_cons_succ]
      refine wpAnyH_done (by kernel_rfl) ?_ _
      go_wp2
      go_ret
      exact ⟨rfl, (FV.out.trans HF.out (fun _ _ h => h)).trans hS (fun _ _ h => h)⟩
theorem stampJoins_all {w : World} {a : Option Addr} {n c : Nat} {z : Nat → Nat → Int} (hr : Ri w 8 a n z) (hcap : n ≤ c) (hc : c ≤ 2199023255552) (k : Int) (h0 : 0 ≤ k) (h1 : k ≤ 255) : Calls Try.prog 8 #[.slice a n c, .int .u8 k] w fun e w' => e = .returned (.bool true) ∧ Fr (fun _ => False) w w' := by
  by_cases hn : n = 0
  · subst hn
    have KL := hid slive_any
    go_enter Try.func8, Try.ntmps8
    go_wp2_with (first | (go_at_call 9; refine (KL.out _).mono ?_; rintro e w1 ⟨rfl, hf⟩))
    go_ret
    exact ⟨rfl, hf⟩
  · obtain ⟨b, o, rfl, hcl⟩ := hr.some_of (by omega)
    exact stampJoins_walk hr (by omega) hcap hc k h0 h1
end Go.Proofs.Ytfbpaboakdpceaa

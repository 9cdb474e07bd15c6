/-
  gather.
-/
import Derived.Test.YtilbdpnioajkoaaGreatMg37
namespace Go.Proofs.YtilbdpnioajkoaaGreat
open Go.RowKit Go.Maps
set_option linter.unusedVariables false
set_option linter.unusedSimpArgs false
set_option maxRecDepth 100000
attribute [local go_sem] Oper.semAt_some
theorem T.Own1.set {b bud : Nat} {n : Int} {ats : T.At} {W : World} (h : T.Own1 b bud n ats W) {k v : ByteArray} (hk : k.size ≤ maxLen) (hA : T.Ak ats) (hb : ats.length < 1000000000000000000) (U : World) (hf : Fr (fun _ => False) W U) :
    Calls Tryz.prog 80 #[ptr b, .string k, .string v] U fun e w' => e = .returned (.tuple #[]) ∧ T.Own1 b bud n (T.aset k v ats) w' ∧ Fr (fun i => b ≤ i ∧ i < W.heap.size) U w' := by
  obtain ⟨cN, h1, h2, h3⟩ := h
  have hbW : b < W.heap.size := by
    obtain ⟨_, _, _, _, h4⟩ := h3
    exact h2 b (by rw [h4.cb]; simp)
  refine (set_any (h3.kept hf (fun _ _ _ _ h => h)) (fun i hi => Nat.lt_of_lt_of_le (h2 i hi) hf.size) hk hA hb).mono ?_
  rintro e w' ⟨rfl, hfr, c', hm, hl, hN⟩
  have hsz := hf.size
  refine ⟨rfl, ⟨c', fun i hi => by rw [hm i (by omega)]; exact h1 i hi, hl, hN⟩, hfr.mono (fun i _ e => ?_)⟩
  obtain ⟨col, e1, _⟩ := e
  refine ⟨?_, h2 i (by rw [e1]; simp)⟩
  cases Nat.lt_or_ge i b with
  | inl hlt => rw [h1 i hlt] at e1; cases e1
  | inr hge => exact hge
theorem T.asc_ak : ∀ {l : T.At}, T.asc (fun a b => T.blt a.1 b.1) l = true → T.Ak l
  | [], _ => List.Pairwise.nil
  | [x], _ => List.pairwise_singleton _ _
  | x :: y :: r, h => by
    unfold T.asc at h
    rw [Bool.and_eq_true] at h
    have h2 := T.asc_ak h.2
    refine List.pairwise_cons.2 ⟨fun p hp => ?_, h2⟩
    rcases List.mem_cons.1 hp with rfl | hp
    · exact h.1
    · exact T.blt_trans h.1 ((List.pairwise_cons.1 h2).1 p hp)
set_option maxHeartbeats 8000000 in
theorem gather_any {c : Nat → Option T.Col} {w : World} {bud p : Nat} {dos last : Int} {t : T.Tr} {mb : Nat} {f : Int → Nat} (h : Tf c w bud p dos last t mb f) (hl : Lo c w.heap.size) (ht : A.Up t) (h0 : A.get 0 t = none) (hB : T.Bare t) {I : Nat → Prop} {ra : Option Addr} {rc : Nat} {zs : List T.Tn} (hR : T.Nr I w ra zs) (hI : ∀ i, I i → c i = none) (hwf : ∀ z ∈ zs, (Lit.int .i64 z.1.1).wf = true ∧ z.1.2.ats.length ≤ 5000000000000) (hb : bud + zs.length < 5000000000000) :
    Calls Tryz.prog 46 #[ptr p, .slice ra zs.length rc] w fun e w' => e = .returned (.bool (T.asc (fun a b => decide (a.1.1 < b.1.1)) zs && zs.all T.gok)) ∧ Fr (fun i => c i ≠ none) w w' ∧ (zs.all T.gok = true → T.asc (fun a b => decide (a.1.1 < b.1.1)) zs = true → ∃ c' f', More c c' w.heap.size ∧ Lo c' w'.heap.size ∧ Tf c' w' (bud + zs.length) p dos last (T.gathered t zs) mb f' ∧ A.Up (T.gathered t zs) ∧ A.get 0 (T.gathered t zs) = none ∧ T.Bare (T.gathered t zs)) := by
  have KR := hid (risesN_any (rc := rc) hR.1 (by omega))
  obtain ⟨n, hn⟩ : ∃ n, zs.length = n := ⟨_, rfl⟩
  have HN := hid hn
  have HG0 := hid (show T.Gn c w bud p dos last t mb zs 0 w c t f from ⟨Nat.zero_le _, rfl, rfl, ht, h0, hB, fun _ _ => rfl, hl, h, Fr.refl _ _⟩)
  have HR := hid hR
  have HI := hid hI
  have HWF := hid hwf
  rw [hn] at hb KR ⊢
  clear hn hR hI hwf h hl ht h0 hB
  cases has : T.asc (fun (a b : T.Tn) => decide (a.1.1 < b.1.1)) zs with
  | false =>
    rw [has] at KR
    clear has
    go_enter Tryz.func46, Tryz.ntmps46
    go_wp2_with fail
    refine KR.out.mono ?_
    rintro e w1 ⟨rfl, hf1⟩
    have F1 := hid hf1
    clear hf1
    dsimp only
    go_wp2_with fail
    go_ret
    exact ⟨rfl, F1.out.mono (fun _ _ h => h.elim), fun _ h => by cases h⟩
  | true =>
    rw [has] at KR
    clear has
    go_enter Tryz.func46, Tryz.ntmps46
    go_wp2_with fail
    refine KR.out.mono ?_
    rintro e w1 ⟨rfl, hf1⟩
    have HG1 := hid (HG0.out.idle hf1)
    clear hf1
    dsimp only
    go_wp2_with fail
    go_loopw [15] (fun i wr => ∃ k : Nat, i = .int .i64 k ∧ Hid (∃ c' u f', T.Gn c w bud p dos last t mb zs k wr c' u f'))
      (fun i _ => (n - intOf i).toNat)
    case atStart => exact ⟨0, rfl, hid ⟨_, _, _, HG1.out⟩⟩
    case round =>
      obtain ⟨k, rfl, hall⟩ := hrel
      obtain ⟨c1, u, f1, hJ⟩ := hall.out
      clear hall
      obtain ⟨wo, hwo⟩ : ∃ wo, wr = wo := ⟨_, rfl⟩
      subst hwo
      by_cases hlt : k < n
      · obtain ⟨z, hz⟩ : ∃ z, zs[k]? = some z := ⟨_, List.getElem?_eq_getElem (by rw [HN.out]; omega)⟩
        have hmem := List.mem_of_getElem? hz
        have hRr := HR.out.kept hJ.fr (fun i hi e => e (HI.out i hi))
        obtain ⟨g1, o1, rfl, _, a0, a1, a2, a3⟩ := T.flatN_cells hRr.1 hz
        have hRa := hRr.2 z hmem
        have hw2 := HWF.out z hmem
        have i0 : (0 : Int) ≤ (k : Int) := by omega
        have i1 : (k : Int) < (n : Int) := by omega
        obtain ⟨⟨z1, ⟨z2, z3, z4⟩⟩, ⟨za, zc⟩⟩ := z
        dsimp only at a0 a1 a2 a3 hRa hw2
        obtain ⟨m, hm⟩ : ∃ m, z4.length = m := ⟨_, rfl⟩
        have KA := hid (fun (W : World) (hf : Fr (fun _ => False) wr W) => areAttrs_any (rc := zc) (hRa.kept hf (fun _ _ h => h)) hw2.2)
        rw [hm] at a3 KA
        obtain ⟨V, hV⟩ : ∃ V, wr.alloc (.cells #[.int .i64 z1, .int .i64 z2, .string z3, .slice za m zc] 63) = V := ⟨_, rfl⟩
        have fV : Fr (fun _ => False) wr V := by rw [← hV]; exact Fr.alloc (Fr.refl _ _) _
        have b6 : V.heap[wr.heap.size]? = some (.cells #[.int .i64 z1, .int .i64 z2, .string z3, .slice za m zc] 63 (0, 0)) := by
          rw [← hV]
          exact Go.heap_alloc_new wr _
        have v0 : V.cell? ⟨wr.heap.size, 0, none⟩ = some (.int .i64 z1) := cellA (j := 0) b6 rfl
        have v3 : V.cell? ⟨wr.heap.size, 3, none⟩ = some (.slice za m zc) := cellA (j := 3) b6 rfl
        have KA1 := hid (KA.out V fV)
        have HV := hid hV
        have FV := hid fV
        have HRA := hid hRa
        have HJ := hid hJ
        have HZ := hid hz
        have HW2 := hid hw2
        have HM := hid hm
        clear hV fV b6 hJ hz hw2 hm KA hRr hmem hRa
        by_cases hz1 : z1 < 1
        · go_upto_region 6 with fail
          rw [HV.out]
          go_wp2_with fail
          have HRF := hid (show zs.all T.gok = false from by
            cases h : zs.all T.gok with
            | false => rfl
            | true =>
              have h3 := List.all_eq_true.1 h _ (List.mem_of_getElem? HZ.out)
              unfold T.gok at h3
              simp only [Bool.and_eq_true, decide_eq_true_eq] at h3
              omega)
          go_ret
          exact ⟨ret_bool (by rw [HRF.out]; rfl), HJ.out.fr.trans FV.out (fun _ _ h => h.elim), fun h => by rw [HRF.out] at h; cases h⟩
        · cases hst : (T.txts z4 && T.asc (fun (a b : T.Pr) => T.blt a.1 b.1) z4) with
          | false =>
            rw [hst] at KA1
            go_upto_region 6 with fail
            rw [HV.out]
            go_wp2_with fail
            refine KA1.out.mono ?_
            rintro e wx ⟨rfl, hfx⟩
            have FX := hid (FV.out.trans hfx (fun _ _ h => h))
            have HRF := hid (show zs.all T.gok = false from by
              cases h : zs.all T.gok with
              | false => rfl
              | true =>
                have h3 := List.all_eq_true.1 h _ (List.mem_of_getElem? HZ.out)
                unfold T.gok at h3
                rw [Bool.and_eq_true] at h3
                have h4 := h3.2
                dsimp only at h4
                rw [hst] at h4
                cases h4)
            clear v0 v3 hfx a0 a1 a2 a3 hst
            dsimp only
            go_wp2_with fail
            go_ret
            exact ⟨ret_bool (by rw [HRF.out]; rfl), HJ.out.fr.trans FX.out (fun _ _ h => h.elim), fun h => by rw [HRF.out] at h; cases h⟩
          | true =>
            rw [hst] at KA1
            go_upto_region 6 with fail
            rw [HV.out]
            go_wp2_with fail
            refine KA1.out.mono ?_
            rintro e wx ⟨rfl, hfx⟩
            have FX := hid (FV.out.trans hfx (fun _ _ h => h))
            have x0 := cellFr hfx (fun h => h) v0
            have x3 := cellFr hfx (fun h => h) v3
            clear v0 v3 hfx a0 a1 a2 a3
            dsimp only
            have hak := T.asc_ak ((Bool.and_eq_true _ _ ▸ hst : T.txts z4 = true ∧ T.asc (fun (a b : T.Pr) => T.blt a.1 b.1) z4 = true).2)
            have htx : T.txts z4 = true := ((Bool.and_eq_true _ _ ▸ hst : T.txts z4 = true ∧ T.asc (fun (a b : T.Pr) => T.blt a.1 b.1) z4 = true).1)
            have HAK := hid hak
            have HTX := hid htx
            have HST := hid hst
            obtain ⟨Y, hY⟩ : ∃ Y, wx.alloc (.cells #[.int .i64 0, .string ⟨#[]⟩, .map none, .map none] 80) = Y := ⟨_, rfl⟩
            have fY : Fr (fun _ => False) wx Y := by rw [← hY]; exact Fr.alloc (Fr.refl _ _) _
            have bY : Y.heap[wx.heap.size]? = some (.cells #[.int .i64 0, .string ⟨#[]⟩, .map none, .map none] 80 (0, 0)) := by rw [← hY]; exact Go.heap_alloc_new wx _
            have y3 := cellFr fY (fun h => h) x3
            have HY := hid hY
            have FY := hid fY
            have X0 := hid x0
            have HO0 := hid (show T.Own1 wx.heap.size (bud + k) z1 [] Y from T.Own1.new bY)
            clear hak htx hst hY fY bY
            go_upto_region 9 with fail
            rw [HY.out]
            clear x0 x3
            go_wp2_with fail
            clear y3
            obtain ⟨wo, rfl⟩ : ∃ wo, wo = wr := ⟨_, rfl⟩
            go_loopw [33] (fun i W => ∃ j : Nat, i = .int .i64 j ∧ Hid (j ≤ m ∧ Fr (fun _ => False) wx W ∧ T.Own1 wx.heap.size (bud + k) z1 (z4.take j) W))
              (fun i _ => (m - intOf i).toNat)
            case atStart => exact ⟨0, rfl, hid ⟨Nat.zero_le _, FY.out, HO0.out⟩⟩
            case round =>
              obtain ⟨W, rfl⟩ : ∃ W, W = wr := ⟨_, rfl⟩
              obtain ⟨j, rfl, hin⟩ := hrel
              by_cases hjm : j < m
              · obtain ⟨q, hq⟩ : ∃ q, z4[j]? = some q := ⟨_, List.getElem?_eq_getElem (by rw [HM.out]; omega)⟩
                have hRw := HRA.out.kept (FX.out.trans hin.out.2.1 (fun _ _ h => h)) (fun _ _ h => h)
                obtain ⟨g2, o2, rfl, e0, e1⟩ := T.flatA_cells hRw hq
                obtain ⟨k1, k2⟩ := q
                dsimp only at e0 e1
                have j0 : (0 : Int) ≤ (j : Int) := by omega
                have j1 : (j : Int) < (m : Int) := by omega
                have hmb : m ≤ 5000000000000 := by rw [← HM.out]; exact HW2.out.2
                have htq : T.txt k1 = true ∧ T.txt k2 = true := by
                  have h1 := List.all_eq_true.1 HTX.out _ (List.mem_of_getElem? hq)
                  rw [Bool.and_eq_true] at h1
                  exact h1
                have hlen : k1.size ≤ 255 ∧ k2.size ≤ 255 ∧ k2.toList.isEmpty = false := by
                  have h1 := htq.1
                  have h2 := htq.2
                  unfold T.txt at h1 h2
                  simp only [Bool.and_eq_true, decide_eq_true_eq, Bool.not_eq_true'] at h1 h2
                  exact ⟨h1.2, h2.2, h2.1⟩
                have KC1 := hid (sclone_t k1 (by omega))
                have KC2 := hid (sclone_t k2 (by omega))
                have hst2 : T.aset k1 k2 (z4.take j) = z4.take (j + 1) := by
                  rw [T.aset_end hlen.2.2 (fun x hx => ?_), List.take_add_one, hq]
                  · rfl
                  · obtain ⟨i, hi, he⟩ := List.getElem_of_mem hx
                    rw [List.getElem_take] at he
                    have hij : i < j := by rw [List.length_take] at hi; omega
                    obtain ⟨hjl, hje⟩ := List.getElem?_eq_some_iff.1 hq
                    have h5 := List.pairwise_iff_getElem.1 HAK.out i j (by omega) hjl hij
                    rw [he, hje] at h5
                    exact h5
                have KS := hid (hin.out.2.2.set (k := k1) (v := k2) (by unfold maxLen; omega) (List.Pairwise.sublist (List.take_sublist j z4) HAK.out) (by rw [List.length_take]; have := HM.out; have := HW2.out.2; omega))
                rw [hst2] at KS
                obtain ⟨V2, hV2⟩ : ∃ V2, W.alloc (.cells #[.string k1, .string k2] 65) = V2 := ⟨_, rfl⟩
                have fV2 : Fr (fun _ => False) W V2 := by rw [← hV2]; exact Fr.alloc (Fr.refl _ _) _
                have bV2 : V2.heap[W.heap.size]? = some (.cells #[.string k1, .string k2] 65 (0, 0)) := by rw [← hV2]; exact Go.heap_alloc_new W _
                have HC := hid (show ∀ U, Fr (fun i => wx.heap.size ≤ i ∧ i < W.heap.size) V2 U → U.cell? ⟨W.heap.size, 0, none⟩ = some (.string k1) ∧ U.cell? ⟨W.heap.size, 1, none⟩ = some (.string k2) from fun U hf => ⟨cellA (j := 0) (hf.cells bV2 (by omega)) rfl, cellA (j := 1) (hf.cells bV2 (by omega)) rfl⟩)
                have HV2 := hid hV2
                have FV2 := hid fV2
                have HIN := hid hin.out
                clear hq hRw htq hlen hst2 hV2 fV2 bV2 hin
                go_upto_region 12 with fail
                rw [HV2.out]
                clear e0 e1
                have hmx : Tryz.prog.follows .mixedOrders = true := by kernel_rfl
                refine wp_region_held (S := fun U => Fr (fun i => wx.heap.size ≤ i ∧ i < W.heap.size) V2 U) hmx ?_
                have hS := (Fr.drew (Fr.refl (fun i => wx.heap.size ≤ i ∧ i < W.heap.size) V2))
                simp only [List.size_toArray, List.length_cons, List.length_nil, Nat.reduceAdd, Array.replicate_succ, Array.replicate_zero, List.push_toArray, List.nil_append, List.cons_append]
                refine wpAnyH_take (i := 0) (v := ?_) rfl (by kernel_rfl) (by kernel_rfl) (by kernel_rfl) (fun _ _ _ h => h) (Or.inl ⟨by kernel_rfl, ?_⟩) hS ?_
                rotate_left 1
                · (intro w' hS'; clear hS'; go_simp; try with_reducible rfl)
                simp only [List.getElem_toArray, List.getElem_cons_zero, List.getElem_cons_succ, Act.put, List.setIfInBounds_toArray, List.set_cons_zero, List.set_cons_succ]
                refine wpAnyH_take (i := 1) (v := ?_) rfl (by kernel_rfl) (by kernel_rfl) (by kernel_rfl) (fun _ _ _ h => h) (Or.inl ⟨by kernel_rfl, ?_⟩) hS ?_
                rotate_left 1
                · (intro w' hS'; clear hS'; go_simp; try with_reducible rfl)
                simp only [List.getElem_toArray, List.getElem_cons_zero, List.getElem_cons_succ, Act.put, List.setIfInBounds_toArray, List.set_cons_zero, List.set_cons_succ]
                refine wpAnyH_take (i := 2) (v := ?_) rfl (by kernel_rfl) (by kernel_rfl) (by kernel_rfl) (fun _ _ _ h => h) (Or.inl ⟨by kernel_rfl, ?_⟩) hS ?_
                rotate_left 1
                · (intro w' hS'; have h1 := (HC.out w' hS').1; clear hS'; go_simp; try with_reducible rfl)
                simp only [List.getElem_toArray, List.getElem_cons_zero, List.getElem_cons_succ, Act.put, List.setIfInBounds_toArray, List.set_cons_zero, List.set_cons_succ]
                refine wpAnyH_take (i := 4) (v := ?_) rfl (by kernel_rfl) (by kernel_rfl) (by kernel_rfl) (fun _ _ _ h => h) (Or.inl ⟨by kernel_rfl, ?_⟩) hS ?_
                rotate_left 1
                · (intro w' hS'; clear hS'; go_simp; try with_reducible rfl)
                simp only [List.getElem_toArray, List.getElem_cons_zero, List.getElem_cons_succ, Act.put, List.setIfInBounds_toArray, List.set_cons_zero, List.set_cons_succ]
                refine wpAnyH_take (i := 5) (v := ?_) rfl (by kernel_rfl) (by kernel_rfl) (by kernel_rfl) (fun _ _ _ h => h) (Or.inl ⟨by kernel_rfl, ?_⟩) hS ?_
                rotate_left 1
                · (intro w' hS'; have h1 := (HC.out w' hS').2; clear hS'; go_simp; try with_reducible rfl)
                simp only [List.getElem_toArray, List.getElem_cons_zero, List.getElem_cons_succ, Act.put, List.setIfInBounds_toArray, List.set_cons_zero, List.set_cons_succ]
                refine wpAnyH_ready (rs := [3]) (by kernel_rfl) (by simp) ?_
                refine AllReadyH.cons rfl (fun K1 hK1 => ?_) (AllReadyH.nil)
                go_simp
                refine (KC1.out _).mono ?_
                rintro e w4 ⟨rfl, fx⟩
                have F4 := hid ((Fr.drew (Fr.refl (fun _ => False) V2)).trans fx (fun _ _ h => h))
                refine hK1.out _ _ (hS.trans fx (fun _ _ h => h.elim)) (fun hS => ?_)
                clear fx
                clear hK1 K1
                simp only [List.getElem_toArray, List.getElem_cons_zero, List.getElem_cons_succ, Act.put, List.setIfInBounds_toArray, List.set_cons_zero, List.set_cons_succ]
                refine wpAnyH_ready (rs := [6]) (by kernel_rfl) (by simp) ?_
                refine AllReadyH.cons rfl (fun K1 hK1 => ?_) (AllReadyH.nil)
                go_simp
                refine (KC2.out _).mono ?_
                rintro e w5 ⟨rfl, fx⟩
                have F5 := hid (F4.out.trans fx (fun _ _ h => h))
                refine hK1.out _ _ (hS.trans fx (fun _ _ h => h.elim)) (fun hS => ?_)
                clear fx
                clear hK1 K1
                simp only [List.getElem_toArray, List.getElem_cons_zero, List.getElem_cons_succ, Act.put, List.setIfInBounds_toArray, List.set_cons_zero, List.set_cons_succ]
                refine wpAnyH_ready (rs := [7]) (by kernel_rfl) (by simp) ?_
                refine AllReadyH.cons rfl (fun K1 hK1 => ?_) (AllReadyH.nil)
                go_simp
                refine (KS.out w5 (FV2.out.trans F5.out (fun _ _ h => h))).mono ?_
                rintro e w6 ⟨rfl, k1, fx⟩
                have O6 := hid k1
                have F6 := hid fx
                clear k1
                refine hK1.out _ _ (hS.trans fx (fun _ _ h => h)) (fun hS => ?_)
                clear fx
                clear hK1 K1
                simp only [List.getElem_toArray, List.getElem_cons_zero, List.getElem_cons_succ, Act.put, List.setIfInBounds_toArray, List.set_cons_zero, List.set_cons_succ]
                refine wpAnyH_done (by kernel_rfl) ?_ _
                have HREL := hid (show j + 1 ≤ m ∧ Fr (fun _ => False) wx w6 ∧ T.Own1 wx.heap.size (bud + k) z1 (z4.take (j + 1)) w6 from ⟨hjm, ((HIN.out.2.1.trans FV2.out (fun _ _ h => h)).trans F5.out (fun _ _ h => h)).trans F6.out (fun i hi e => by omega), O6.out⟩)
                clear hS
                go_wp2
                go_roundw
                case rel => exact ⟨j + 1, by first | go_num | rfl | trivial, HREL⟩
                case measure => simp [intOf]; omega
              · obtain rfl : j = m := by have := hin.out.1; omega
                have HO := hid hin.out.2.2
                have FW := hid hin.out.2.1
                clear hin hjm
                have hfw := FX.out.trans FW.out (fun _ _ h => h)
                have hml := HJ.out.lo mb (by rw [HJ.out.tf.cm]; simp)
                have hpm : p ≠ mb := fun e => by have := HJ.out.tf.cp; rw [e, HJ.out.tf.cm] at this; cases this
                have HC := hid (show ∀ U, Fr (fun i => i = mb) W U → U.cell? ⟨p, 0, none⟩ = some (.map (some mb)) ∧ U.cell? ⟨wo.heap.size, 0, none⟩ = some (.int .i64 z1) from fun U hf => ⟨cellA (j := 0) (hf.cells (hfw.cells HJ.out.tf.cells (fun h => h)) hpm) rfl, cellFr hf (by omega) (cellFr FW.out (fun h => h) X0.out)⟩)
                obtain ⟨w7, r7, m7, f7⟩ := Mp.store (w := W.drew) ((HJ.out.tf.map.kept hfw (fun h => h)).kept (Fr.drew (Fr.refl (fun _ => False) W)) (fun h => h)) litI_inj keyI Tryz.underlying81 (by have := HJ.out.tf.few; have := HJ.out.le; have := HN.out; unfold maxLen; omega) (keyOfI HW2.out.1) (ptr wx.heap.size)
                have R7 := hid r7
                have F7 := hid f7
                have HREL := hid (show ∃ c' v f', T.Gn c w bud p dos last t mb zs (k + 1) w7 c' v f' from by
                  obtain ⟨c', f', hG⟩ := HJ.out.step HZ.out (by unfold T.gok; rw [Bool.and_eq_true]; exact ⟨decide_eq_true (by dsimp only; omega), HST.out⟩) FX.out.size (by
                    have h1 := HO.out
                    rw [List.take_of_length_le (by rw [HM.out]; exact Nat.le_refl _)] at h1
                    exact h1) hfw (((Fr.drew (Fr.refl (fun _ => False) W)).mono (fun _ _ h => h.elim)).trans F7.out (fun _ _ h => h)) m7
                  exact ⟨c', _, f', hG⟩)
                clear r7 m7 f7 hfw hml hpm
                go_wp2_with fail
                have hmx : Tryz.prog.follows .mixedOrders = true := by kernel_rfl
                refine wp_region_held (S := fun U => Fr (fun i => i = mb) W U) hmx ?_
                have hS := (Fr.drew (Fr.refl (fun i => i = mb) W))
                simp only [List.size_toArray, List.length_cons, List.length_nil, Nat.reduceAdd, Array.replicate_succ, Array.replicate_zero, List.push_toArray, List.nil_append, List.cons_append]
                refine wpAnyH_take (i := 0) (v := ?_) rfl (by kernel_rfl) (by kernel_rfl) (by kernel_rfl) (fun _ _ _ h => h) (Or.inl ⟨by kernel_rfl, ?_⟩) hS ?_
                rotate_left 1
                · (intro w' hS'; clear hS'; go_simp; try with_reducible rfl)
                simp only [List.getElem_toArray, List.getElem_cons_zero, List.getElem_cons_succ, Act.put, List.setIfInBounds_toArray, List.set_cons_zero, List.set_cons_succ]
                refine wpAnyH_take (i := 1) (v := ?_) rfl (by kernel_rfl) (by kernel_rfl) (by kernel_rfl) (fun _ _ _ h => h) (Or.inl ⟨by kernel_rfl, ?_⟩) hS ?_
                rotate_left 1
                · (intro w' hS'; clear hS'; go_simp; try with_reducible rfl)
                simp only [List.getElem_toArray, List.getElem_cons_zero, List.getElem_cons_succ, Act.put, List.setIfInBounds_toArray, List.set_cons_zero, List.set_cons_succ]
                refine wpAnyH_take (i := 2) (v := ?_) rfl (by kernel_rfl) (by kernel_rfl) (by kernel_rfl) (fun _ _ _ h => h) (Or.inl ⟨by kernel_rfl, ?_⟩) hS ?_
                rotate_left 1
                · (intro w' hS'; clear hS'; go_simp; try with_reducible rfl)
                simp only [List.getElem_toArray, List.getElem_cons_zero, List.getElem_cons_succ, Act.put, List.setIfInBounds_toArray, List.set_cons_zero, List.set_cons_succ]
                refine wpAnyH_take (i := 3) (v := ?_) rfl (by kernel_rfl) (by kernel_rfl) (by kernel_rfl) (fun _ _ _ h => h) (Or.inl ⟨by kernel_rfl, ?_⟩) hS ?_
                rotate_left 1
                · (intro w' hS'; have h1 := (HC.out w' hS').1; clear hS'; go_simp; try with_reducible rfl)
                simp only [List.getElem_toArray, List.getElem_cons_zero, List.getElem_cons_succ, Act.put, List.setIfInBounds_toArray, List.set_cons_zero, List.set_cons_succ]
                refine wpAnyH_take (i := 4) (v := ?_) rfl (by kernel_rfl) (by kernel_rfl) (by kernel_rfl) (fun _ _ _ h => h) (Or.inl ⟨by kernel_rfl, ?_⟩) hS ?_
                rotate_left 1
                · (intro w' hS'; clear hS'; go_simp; try with_reducible rfl)
                simp only [List.getElem_toArray, List.getElem_cons_zero, List.getElem_cons_succ, Act.put, List.setIfInBounds_toArray, List.set_cons_zero, List.set_cons_succ]
                refine wpAnyH_take (i := 5) (v := ?_) rfl (by kernel_rfl) (by kernel_rfl) (by kernel_rfl) (fun _ _ _ h => h) (Or.inl ⟨by kernel_rfl, ?_⟩) hS ?_
                rotate_left 1
                · (intro w' hS'; have h1 := (HC.out w' hS').2; clear hS'; go_simp; try with_reducible rfl)
                simp only [List.getElem_toArray, List.getElem_cons_zero, List.getElem_cons_succ, Act.put, List.setIfInBounds_toArray, List.set_cons_zero, List.set_cons_succ]
                refine wpAnyH_take (i := 6) (v := ?_) rfl (by kernel_rfl) (by kernel_rfl) (by kernel_rfl) (fun _ _ _ h => h) (Or.inl ⟨by kernel_rfl, ?_⟩) hS ?_
                rotate_left 1
                · (intro w' hS'; clear hS'; go_simp; try with_reducible rfl)
                simp only [List.getElem_toArray, List.getElem_cons_zero, List.getElem_cons_succ, Act.put, List.setIfInBounds_toArray, List.set_cons_zero, List.set_cons_succ]
                refine wpAnyH_ready (rs := [7]) (by kernel_rfl) (by simp) ?_
                refine AllReadyH.cons rfl (fun K1 hK1 => ?_) (AllReadyH.nil)
                refine tstep_upd (by kernel_rfl) R7.out (by exact ⟨_, _, _, rfl, rfl, rfl, rfl⟩) ?_
                refine hK1.out _ _ (hS.trans F7.out (fun _ _ h => h)) (fun hS => ?_)
                clear hK1 K1
                simp only [List.getElem_toArray, List.getElem_cons_zero, List.getElem_cons_succ, Act.put, List.setIfInBounds_toArray, List.set_cons_zero, List.set_cons_succ]
                refine wpAnyH_done (by kernel_rfl) ?_ _
                clear hS
                go_wp2
                go_roundw
                case rel => exact ⟨k + 1, by first | go_num | rfl | trivial, HREL⟩
                case measure => simp [intOf]; omega
      · obtain rfl : k = n := by have := hJ.le; rw [HN.out] at this; omega
        have hall : zs.all T.gok = true := by
          have h1 := hJ.good
          rw [List.take_of_length_le (by rw [HN.out]; exact Nat.le_refl _)] at h1
          exact h1
        have heq : u = T.gathered t zs := by
          have h1 := hJ.eq
          rw [List.take_of_length_le (by rw [HN.out]; exact Nat.le_refl _)] at h1
          exact h1
        have HRT := hid hall
        have HF := hid hJ
        rw [heq] at HF
        clear hall heq hJ hlt
        go_wp2
        go_ret
        exact ⟨ret_bool (by rw [HRT.out]; rfl), HF.out.fr, fun _ _ => ⟨c1, f1, HF.out.more, HF.out.lo, HF.out.tf, HF.out.up, HF.out.h0, HF.out.bare⟩⟩
end Go.Proofs.YtilbdpnioajkoaaGreat

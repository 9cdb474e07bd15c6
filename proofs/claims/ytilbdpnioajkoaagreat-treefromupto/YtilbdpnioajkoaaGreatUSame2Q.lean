/-
  The document's tree: Same.
-/
import Derived.Test.YtilbdpnioajkoaaGreatMg45
namespace Go.Proofs.YtilbdpnioajkoaaGreat
open Go.RowKit Go.Maps
set_option linter.unusedVariables false
set_option linter.unusedSimpArgs false
set_option maxRecDepth 100000
attribute [local go_sem] Oper.semAt_some
set_option maxHeartbeats 8000000 in
theorem usame_any {I J : Nat → Prop} {w : World} {a b : Option Addr} {ca cb : Nat} {xs ys : List T.Tn} (h1 : T.Nr I w a xs) (h2 : T.Nr J w b ys) (hx : xs.length ≤ 5000000000000) (hats : ∀ z ∈ xs, z.1.2.ats.length ≤ 9000000000000) :
    Calls Tryz.prog 12 #[.slice a xs.length ca, .slice b ys.length cb] w fun e w' => e = .returned (.bool (T.sames xs ys)) ∧ Fr (fun _ => False) w w' := by
  obtain ⟨n, hn⟩ : ∃ n, xs.length = n := ⟨_, rfl⟩
  obtain ⟨m, hm⟩ : ∃ n, ys.length = n := ⟨_, rfl⟩
  obtain ⟨res, hres⟩ : ∃ r, T.sames xs ys = r := ⟨_, rfl⟩
  by_cases hnm : n = m
  · subst hnm
    have HN := hid hn
    have HM := hid hm
    have H1 := hid h1
    have H2 := hid h2
    have HA := hid hats
    have HRES := hid hres
    rw [hn] at hx
    rw [hn, hm, hres]
    clear h1 h2 hats hn hm hres
    go_enter Tryz.func12, Tryz.ntmps12
    go_wp2_with fail
    go_loopw [5] (fun i wr => ∃ k : Nat, i = .int .i64 k ∧ Hid (k ≤ n ∧ (xs.take k).map Prod.fst = (ys.take k).map Prod.fst ∧ Fr (fun _ => False) w wr))
      (fun i _ => n - (intOf i).toNat)
    case atStart => exact ⟨0, rfl, hid ⟨Nat.zero_le _, rfl, Fr.refl _ _⟩⟩
    case round =>
      obtain ⟨k, rfl, hall⟩ := hrel
      have HF := hid hall.out.2.2
      by_cases hlt : k < n
      · obtain ⟨x, hx1⟩ : ∃ q, xs[k]? = some q := ⟨_, List.getElem?_eq_getElem (by rw [HN.out]; exact hlt)⟩
        obtain ⟨y, hy1⟩ : ∃ q, ys[k]? = some q := ⟨_, List.getElem?_eq_getElem (by rw [HM.out]; exact hlt)⟩
        have KS := hid (fun (V : World) (hf : Fr (fun _ => False) wr V) => usamen_any x y ((H1.out.2 x (List.mem_of_getElem? hx1)).kept (HF.out.trans hf (fun _ _ h => h)) (fun _ _ h => h)) ((H2.out.2 y (List.mem_of_getElem? hy1)).kept (HF.out.trans hf (fun _ _ h => h)) (fun _ _ h => h)) (HA.out x (List.mem_of_getElem? hx1)))
        obtain ⟨g1, o1, rfl, _, a0, a1, a2, a3⟩ := T.flatN_cells (H1.out.1.kept HF.out (fun _ _ h => h)) hx1
        obtain ⟨g2, o2, rfl, _, b0, b1, b2, b3⟩ := T.flatN_cells (H2.out.1.kept HF.out (fun _ _ h => h)) hy1
        have i0 : (0 : Int) ≤ (k : Int) := by omega
        have i1 : (k : Int) < (n : Int) := by omega
        cases hs : T.same x.1 y.1 with
        | true =>
          rw [hs] at KS
          have HR2 := hid (show k + 1 ≤ n ∧ (xs.take (k + 1)).map Prod.fst = (ys.take (k + 1)).map Prod.fst from ⟨hlt, by rw [List.take_add_one, List.take_add_one, hx1, hy1, List.map_append, List.map_append, hall.out.2.1]; show _ ++ [x.1] = _ ++ [y.1]; rw [T.same_iff.1 hs]⟩)
          clear hall hlt hx1 hy1 hs
          go_wp2
          have hmx : Tryz.prog.follows .mixedOrders = true := by kernel_rfl
          refine wp_region_held (S := fun V => Fr (fun _ => False) wr V) hmx ?_
          have hS := (Fr.drew (Fr.refl (fun _ => False) wr))
          simp only [List.size_toArray, List.length_cons, List.length_nil, Nat.reduceAdd, Array.replicate_succ, Array.replicate_zero, List.push_toArray, List.nil_append, List.cons_append]
          refine wpAnyH_take (i := 0) (v := ?_) rfl (by kernel_rfl) (by kernel_rfl) (by kernel_rfl) (fun _ _ _ h => h) (Or.inl ⟨by kernel_rfl, ?_⟩) hS ?_
          rotate_left 1
          · (intro w' hS'; clear hS'; go_simp; try with_reducible rfl)
          simp only [List.getElem_toArray, List.getElem_cons_zero, List.getElem_cons_succ, Act.put, List.setIfInBounds_toArray, List.set_cons_zero, List.set_cons_succ]
          refine wpAnyH_take (i := 1) (v := ?_) rfl (by kernel_rfl) (by kernel_rfl) (by kernel_rfl) (fun _ _ _ h => h) (Or.inl ⟨by kernel_rfl, ?_⟩) hS ?_
          rotate_left 1
          · (intro w' hS'; clear hS'; go_simp; try with_reducible rfl)
          simp only [List.getElem_toArray, List.getElem_cons_zero, List.getElem_cons_succ, Act.put, List.setIfInBounds_toArray, List.set_cons_zero, List.set_cons_succ]
          refine wpAnyH_take (i := 2) (v := ?_) rfl (by kernel_rfl) (by kernel_rfl) (by kernel_rfl) (fun _ _ _ h => h) (Or.inl ⟨by kernel_rfl, ?_⟩) hS ?_
          rotate_left 1
          · (intro w' hS'; clear hS'; go_simp; try with_reducible rfl)
          simp only [List.getElem_toArray, List.getElem_cons_zero, List.getElem_cons_succ, Act.put, List.setIfInBounds_toArray, List.set_cons_zero, List.set_cons_succ]
          refine wpAnyH_take (i := 3) (v := ?_) rfl (by kernel_rfl) (by kernel_rfl) (by kernel_rfl) (fun _ _ _ h => h) (Or.inl ⟨by kernel_rfl, ?_⟩) hS ?_
          rotate_left 1
          · (intro w' hS'; have h0 := cellFr hS' (fun h => h) a0; have h1 := cellFr hS' (fun h => h) a1; have h2 := cellFr hS' (fun h => h) a2; have h3 := cellFr hS' (fun h => h) a3; clear hS'; go_simp; try with_reducible rfl)
          simp only [List.getElem_toArray, List.getElem_cons_zero, List.getElem_cons_succ, Act.put, List.setIfInBounds_toArray, List.set_cons_zero, List.set_cons_succ]
          refine wpAnyH_take (i := 4) (v := ?_) rfl (by kernel_rfl) (by kernel_rfl) (by kernel_rfl) (fun _ _ _ h => h) (Or.inl ⟨by kernel_rfl, ?_⟩) hS ?_
          rotate_left 1
          · (intro w' hS'; clear hS'; go_simp; try with_reducible rfl)
          simp only [List.getElem_toArray, List.getElem_cons_zero, List.getElem_cons_succ, Act.put, List.setIfInBounds_toArray, List.set_cons_zero, List.set_cons_succ]
          refine wpAnyH_take (i := 5) (v := ?_) rfl (by kernel_rfl) (by kernel_rfl) (by kernel_rfl) (fun _ _ _ h => h) (Or.inl ⟨by kernel_rfl, ?_⟩) hS ?_
          rotate_left 1
          · (intro w' hS'; clear hS'; go_simp; try with_reducible rfl)
          simp only [List.getElem_toArray, List.getElem_cons_zero, List.getElem_cons_succ, Act.put, List.setIfInBounds_toArray, List.set_cons_zero, List.set_cons_succ]
          refine wpAnyH_take (i := 6) (v := ?_) rfl (by kernel_rfl) (by kernel_rfl) (by kernel_rfl) (fun _ _ _ h => h) (Or.inl ⟨by kernel_rfl, ?_⟩) hS ?_
          rotate_left 1
          · (intro w' hS'; clear hS'; go_simp; try with_reducible rfl)
          simp only [List.getElem_toArray, List.getElem_cons_zero, List.getElem_cons_succ, Act.put, List.setIfInBounds_toArray, List.set_cons_zero, List.set_cons_succ]
          refine wpAnyH_take (i := 7) (v := ?_) rfl (by kernel_rfl) (by kernel_rfl) (by kernel_rfl) (fun _ _ _ h => h) (Or.inl ⟨by kernel_rfl, ?_⟩) hS ?_
          rotate_left 1
          · (intro w' hS'; have h0 := cellFr hS' (fun h => h) b0; have h1 := cellFr hS' (fun h => h) b1; have h2 := cellFr hS' (fun h => h) b2; have h3 := cellFr hS' (fun h => h) b3; clear hS'; go_simp; try with_reducible rfl)
          simp only [List.getElem_toArray, List.getElem_cons_zero, List.getElem_cons_succ, Act.put, List.setIfInBounds_toArray, List.set_cons_zero, List.set_cons_succ]
          refine wpAnyH_ready (rs := [8]) (by kernel_rfl) (by simp) ?_
          refine AllReadyH.cons rfl (fun K1 hK1 => ?_) (AllReadyH.nil)
          go_simp
          refine (KS.out _ (Fr.drew (Fr.refl _ _))).mono ?_
          rintro e w4 ⟨rfl, fx⟩
          refine hK1.out _ _ (hS.trans fx (fun _ _ h => h.elim)) (fun hS => ?_)
          clear fx
          clear hK1 K1
          simp only [List.getElem_toArray, List.getElem_cons_zero, List.getElem_cons_succ, Act.put, List.setIfInBounds_toArray, List.set_cons_zero, List.set_cons_succ]
          refine wpAnyH_take (i := 9) (v := ?_) rfl (by kernel_rfl) (by kernel_rfl) (by kernel_rfl) (fun _ _ _ h => h) (Or.inl ⟨by kernel_rfl, ?_⟩) hS ?_
          rotate_left 1
          · (intro w' hS'; clear hS'; go_simp; try with_reducible rfl)
          simp only [List.getElem_toArray, List.getElem_cons_zero, List.getElem_cons_succ, Act.put, List.setIfInBounds_toArray, List.set_cons_zero, List.set_cons_succ]
          refine wpAnyH_done (by kernel_rfl) ?_ _
          have F4 := hid (HF.out.trans hS (fun _ _ h => h))
          clear hS
          go_wp2
          go_roundw
          case rel => exact ⟨k + 1, by first | go_num | rfl | trivial, hid ⟨HR2.out.1, HR2.out.2, F4.out⟩⟩
          case measure => simp [intOf]; omega
        | false =>
          rw [hs] at KS
          have HRF := hid (show res = false from by
            rw [← HRES.out]
            cases hq : T.sames xs ys with
            | false => rfl
            | true =>
              have h3 := T.sames_iff.1 hq
              have h4 : (xs.map Prod.fst)[k]? = (ys.map Prod.fst)[k]? := by rw [h3]
              rw [List.getElem?_map, List.getElem?_map, hx1, hy1] at h4
              have h5 : x.1 = y.1 := Option.some.inj h4
              rw [h5, T.same_iff.2 rfl] at hs
              cases hs)
          clear hall hlt hx1 hy1 hs
          go_wp2
          have hmx : Tryz.prog.follows .mixedOrders = true := by kernel_rfl
          refine wp_region_held (S := fun V => Fr (fun _ => False) wr V) hmx ?_
          have hS := (Fr.drew (Fr.refl (fun _ => False) wr))
          simp only [List.size_toArray, List.length_cons, List.length_nil, Nat.reduceAdd, Array.replicate_succ, Array.replicate_zero, List.push_toArray, List.nil_append, List.cons_append]
          refine wpAnyH_take (i := 0) (v := ?_) rfl (by kernel_rfl) (by kernel_rfl) (by kernel_rfl) (fun _ _ _ h => h) (Or.inl ⟨by kernel_rfl, ?_⟩) hS ?_
          rotate_left 1
          · (intro w' hS'; clear hS'; go_simp; try with_reducible rfl)
          simp only [List.getElem_toArray, List.getElem_cons_zero, List.getElem_cons_succ, Act.put, List.setIfInBounds_toArray, List.set_cons_zero, List.set_cons_succ]
          refine wpAnyH_take (i := 1) (v := ?_) rfl (by kernel_rfl) (by kernel_rfl) (by kernel_rfl) (fun _ _ _ h => h) (Or.inl ⟨by kernel_rfl, ?_⟩) hS ?_
          rotate_left 1
          · (intro w' hS'; clear hS'; go_simp; try with_reducible rfl)
          simp only [List.getElem_toArray, List.getElem_cons_zero, List.getElem_cons_succ, Act.put, List.setIfInBounds_toArray, List.set_cons_zero, List.set_cons_succ]
          refine wpAnyH_take (i := 2) (v := ?_) rfl (by kernel_rfl) (by kernel_rfl) (by kernel_rfl) (fun _ _ _ h => h) (Or.inl ⟨by kernel_rfl, ?_⟩) hS ?_
          rotate_left 1
          · (intro w' hS'; clear hS'; go_simp; try with_reducible rfl)
          simp only [List.getElem_toArray, List.getElem_cons_zero, List.getElem_cons_succ, Act.put, List.setIfInBounds_toArray, List.set_cons_zero, List.set_cons_succ]
          refine wpAnyH_take (i := 3) (v := ?_) rfl (by kernel_rfl) (by kernel_rfl) (by kernel_rfl) (fun _ _ _ h => h) (Or.inl ⟨by kernel_rfl, ?_⟩) hS ?_
          rotate_left 1
          · (intro w' hS'; have h0 := cellFr hS' (fun h => h) a0; have h1 := cellFr hS' (fun h => h) a1; have h2 := cellFr hS' (fun h => h) a2; have h3 := cellFr hS' (fun h => h) a3; clear hS'; go_simp; try with_reducible rfl)
          simp only [List.getElem_toArray, List.getElem_cons_zero, List.getElem_cons_succ, Act.put, List.setIfInBounds_toArray, List.set_cons_zero, List.set_cons_succ]
          refine wpAnyH_take (i := 4) (v := ?_) rfl (by kernel_rfl) (by kernel_rfl) (by kernel_rfl) (fun _ _ _ h => h) (Or.inl ⟨by kernel_rfl, ?_⟩) hS ?_
          rotate_left 1
          · (intro w' hS'; clear hS'; go_simp; try with_reducible rfl)
          simp only [List.getElem_toArray, List.getElem_cons_zero, List.getElem_cons_succ, Act.put, List.setIfInBounds_toArray, List.set_cons_zero, List.set_cons_succ]
          refine wpAnyH_take (i := 5) (v := ?_) rfl (by kernel_rfl) (by kernel_rfl) (by kernel_rfl) (fun _ _ _ h => h) (Or.inl ⟨by kernel_rfl, ?_⟩) hS ?_
          rotate_left 1
          · (intro w' hS'; clear hS'; go_simp; try with_reducible rfl)
          simp only [List.getElem_toArray, List.getElem_cons_zero, List.getElem_cons_succ, Act.put, List.setIfInBounds_toArray, List.set_cons_zero, List.set_cons_succ]
          refine wpAnyH_take (i := 6) (v := ?_) rfl (by kernel_rfl) (by kernel_rfl) (by kernel_rfl) (fun _ _ _ h => h) (Or.inl ⟨by kernel_rfl, ?_⟩) hS ?_
          rotate_left 1
          · (intro w' hS'; clear hS'; go_simp; try with_reducible rfl)
          simp only [List.getElem_toArray, List.getElem_cons_zero, List.getElem_cons_succ, Act.put, List.setIfInBounds_toArray, List.set_cons_zero, List.set_cons_succ]
          refine wpAnyH_take (i := 7) (v := ?_) rfl (by kernel_rfl) (by kernel_rfl) (by kernel_rfl) (fun _ _ _ h => h) (Or.inl ⟨by kernel_rfl, ?_⟩) hS ?_
          rotate_left 1
          · (intro w' hS'; have h0 := cellFr hS' (fun h => h) b0; have h1 := cellFr hS' (fun h => h) b1; have h2 := cellFr hS' (fun h => h) b2; have h3 := cellFr hS' (fun h => h) b3; clear hS'; go_simp; try with_reducible rfl)
          simp only [List.getElem_toArray, List.getElem_cons_zero, List.getElem_cons_succ, Act.put, List.setIfInBounds_toArray, List.set_cons_zero, List.set_cons_succ]
          refine wpAnyH_ready (rs := [8]) (by kernel_rfl) (by simp) ?_
          refine AllReadyH.cons rfl (fun K1 hK1 => ?_) (AllReadyH.nil)
          go_simp
          refine (KS.out _ (Fr.drew (Fr.refl _ _))).mono ?_
          rintro e w4 ⟨rfl, fx⟩
          refine hK1.out _ _ (hS.trans fx (fun _ _ h => h.elim)) (fun hS => ?_)
          clear fx
          clear hK1 K1
          simp only [List.getElem_toArray, List.getElem_cons_zero, List.getElem_cons_succ, Act.put, List.setIfInBounds_toArray, List.set_cons_zero, List.set_cons_succ]
          refine wpAnyH_take (i := 9) (v := ?_) rfl (by kernel_rfl) (by kernel_rfl) (by kernel_rfl) (fun _ _ _ h => h) (Or.inl ⟨by kernel_rfl, ?_⟩) hS ?_
          rotate_left 1
          · (intro w' hS'; clear hS'; go_simp; try with_reducible rfl)
          simp only [List.getElem_toArray, List.getElem_cons_zero, List.getElem_cons_succ, Act.put, List.setIfInBounds_toArray, List.set_cons_zero, List.set_cons_succ]
          refine wpAnyH_done (by kernel_rfl) ?_ _
          have F4 := hid (HF.out.trans hS (fun _ _ h => h))
          clear hS
          go_wp2
          go_ret
          exact ⟨ret_bool HRF.out.symm, F4.out⟩
      · obtain rfl : k = n := by have := hall.out.1; omega
        have HRT := hid (show res = true from by
          rw [← HRES.out]
          refine T.sames_iff.2 ?_
          have h3 := hall.out.2.1
          rw [List.take_of_length_le (by rw [HN.out]; exact Nat.le_refl _), List.take_of_length_le (by rw [HM.out]; exact Nat.le_refl _)] at h3
          exact h3)
        have hkk : ¬ ((k : Int) < (k : Int)) := by omega
        clear hall hlt
        go_wp2
        go_ret
        exact ⟨ret_bool HRT.out.symm, HF.out⟩
  · have hr : res = false := by
      rw [← hres]
      cases hq : T.sames xs ys with
      | false => rfl
      | true => exact absurd (by rw [← hn, ← hm]; have := congrArg List.length (T.sames_iff.1 hq); rwa [List.length_map, List.length_map] at this) hnm
    rw [hn, hm, hres, hr]
    have q : ((n : Int) == (m : Int)) = false := by
      cases hq : ((n : Int) == (m : Int)) with
      | false => rfl
      | true => exact absurd (by have := eq_of_beq hq; omega) hnm
    have qn : ((n : Int) != (m : Int)) = true := by rw [bne, q]; rfl
    clear h1 h2 hx hats hn hm hres hr hnm
    go_enter Tryz.func12, Tryz.ntmps12
    go_wp2_with fail
    go_ret
    exact ⟨rfl, Fr.refl _ _⟩
end Go.Proofs.YtilbdpnioajkoaaGreat

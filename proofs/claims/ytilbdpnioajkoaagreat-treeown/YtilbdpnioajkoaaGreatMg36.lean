/-
  The document's tree: SameNode, Same.
  The document's tree: Same.
-/
import Derived.Test.YtilbdpnioajkoaaGreatTSameQ
namespace Go.Proofs.YtilbdpnioajkoaaGreat
open Go.RowKit Go.Maps
set_option linter.unusedVariables false
set_option linter.unusedSimpArgs false
set_option maxRecDepth 100000
attribute [local go_sem] Oper.semAt_some
set_option maxHeartbeats 8000000 in
theorem usamen_any {I J : Nat → Prop} {w : World} (x y : T.Tn) (h1 : Rw I w 2 x.2.1 x.1.2.ats.length (T.flatA x.1.2.ats)) (h2 : Rw J w 2 y.2.1 y.1.2.ats.length (T.flatA y.1.2.ats)) (hx : x.1.2.ats.length ≤ 9000000000000) :
    Calls Tryz.prog 30 #[T.aggN x, T.aggN y] w fun e w' => e = .returned (.bool (T.same x.1 y.1)) ∧ Fr (fun _ => False) w w' := by
  obtain ⟨⟨n1, ⟨p1, s1, l1⟩⟩, ⟨a1, c1⟩⟩ := x
  obtain ⟨⟨n2, ⟨p2, s2, l2⟩⟩, ⟨a2, c2⟩⟩ := y
  simp only at h1 h2 hx
  obtain ⟨m1, hm1⟩ : ∃ m, l1.length = m := ⟨_, rfl⟩
  obtain ⟨m2, hm2⟩ : ∃ m, l2.length = m := ⟨_, rfl⟩
  obtain ⟨r4, hr4⟩ : ∃ r, decide (l1 = l2) = r := ⟨_, rfl⟩
  unfold T.aggN T.same
  simp only
  by_cases hall : (n1 = n2 ∧ p1 = p2) ∧ s1 = s2 ∧ m1 = m2
  · obtain ⟨⟨rfl, rfl⟩, rfl, rfl⟩ := hall
    have HRES := hid (show ((n1 == n1) && ((p1 == p1) && ((s1.toList == s1.toList) && decide (l1 = l2)))) = r4 from by rw [hr4]; simp)
    have HM1 := hid hm1
    have HM2 := hid hm2
    have HR4 := hid hr4
    have H1 := hid h1
    have H2 := hid h2
    rw [hm1] at hx
    obtain ⟨W, hW⟩ : ∃ W, (w.alloc (.cells #[.int .i64 n1, .int .i64 p1, .string s1, .slice a1 m1 c1] 63)).alloc (.cells #[.int .i64 n1, .int .i64 p1, .string s1, .slice a2 m1 c2] 63) = W := ⟨_, rfl⟩
    have fW : Fr (fun _ => False) w W := by rw [← hW]; exact Fr.alloc (Fr.alloc (Fr.refl _ _) _) _
    have bx : W.heap[w.heap.size]? = some (.cells #[.int .i64 n1, .int .i64 p1, .string s1, .slice a1 m1 c1] 63 (0, 0)) := by
      rw [← hW]
      exact (Fr.alloc (Fr.refl (fun _ => False) _) _).cells (Go.heap_alloc_new w _) (fun h => h)
    have bz : W.heap[w.heap.size + 1]? = some (.cells #[.int .i64 n1, .int .i64 p1, .string s1, .slice a2 m1 c2] 63 (0, 0)) := by
      rw [← hW]
      have := Go.heap_alloc_new (w.alloc (.cells #[.int .i64 n1, .int .i64 p1, .string s1, .slice a1 m1 c1] 63)) (.cells #[.int .i64 n1, .int .i64 p1, .string s1, .slice a2 m1 c2] 63)
      rw [alloc_size] at this
      exact this
    have BX := hid bx
    have BZ := hid bz
    have FW := hid fW
    have HW := hid hW
    rw [hm1, hm2]
    clear h1 h2 fW hW hm1 hm2 hr4 bx bz
    go_enter Tryz.func30, Tryz.ntmps30
    go_wp2_with fail
    go_loopw [5] (fun i wr => ∃ k : Nat, i = .int .i64 k ∧ Hid (k ≤ m1 ∧ l1.take k = l2.take k ∧ Fr (fun _ => False) W wr))
      (fun i _ => m1 - (intOf i).toNat)
    case atStart => exact ⟨0, rfl, by rw [HW.out]; exact hid ⟨Nat.zero_le _, rfl, Fr.refl _ _⟩⟩
    case round =>
      obtain ⟨k, rfl, hall⟩ := hrel
      have u1 : wr.cell? ⟨w.heap.size, 3, none⟩ = some (.slice a1 m1 c1) := cellA (j := 3) (hall.out.2.2.cells BX.out (fun h => h)) rfl
      have u2 : wr.cell? ⟨w.heap.size + 1, 3, none⟩ = some (.slice a2 m1 c2) := cellA (j := 3) (hall.out.2.2.cells BZ.out (fun h => h)) rfl
      by_cases hlt : k < m1
      · obtain ⟨x, hx1⟩ : ∃ q, l1[k]? = some q := ⟨_, List.getElem?_eq_getElem (by rw [HM1.out]; exact hlt)⟩
        obtain ⟨y, hy1⟩ : ∃ q, l2[k]? = some q := ⟨_, List.getElem?_eq_getElem (by rw [HM2.out]; exact hlt)⟩
        obtain ⟨g1, o1, rfl, d0, d1⟩ := T.flatA_cells (H1.out.kept (FW.out.trans hall.out.2.2 (fun _ _ h => h)) (fun _ _ h => h)) hx1
        obtain ⟨g2, o2, rfl, b0, b1⟩ := T.flatA_cells (H2.out.kept (FW.out.trans hall.out.2.2 (fun _ _ h => h)) (fun _ _ h => h)) hy1
        have i0 : (0 : Int) ≤ (k : Int) := by omega
        have i1 : (k : Int) < (m1 : Int) := by omega
        obtain ⟨x1, x2⟩ := x
        obtain ⟨y1, y2⟩ := y
        have HX := hid hx1
        have HY := hid hy1
        clear hx1 hy1
        by_cases hxy : ((x1, x2) : T.Pr) = (y1, y2)
        · have HR2 := hid (show l1.take (k + 1) = l2.take (k + 1) from by rw [List.take_add_one, List.take_add_one, HX.out, HY.out, hall.out.2.1, hxy])
          have HK := hid (show k + 1 ≤ m1 from hlt)
          have HF := hid hall.out.2.2
          obtain ⟨rfl, rfl⟩ : x1 = y1 ∧ x2 = y2 := by cases hxy; exact ⟨rfl, rfl⟩
          clear hxy hall
          go_wp2
          go_quiet (fail)
          go_wp2
          go_roundw
          case rel => exact ⟨k + 1, by first | go_num | rfl | trivial, hid ⟨HK.out, HR2.out, HF.out.trans (Fr.drewN _ _) (fun _ _ h => h)⟩⟩
          case measure => simp [intOf]; omega
        · have HRF := hid (show r4 = false from by
            rw [← HR4.out]
            refine decide_eq_false (fun e => hxy ?_)
            have h3 := HX.out
            rw [e, HY.out] at h3
            exact (Option.some.inj h3).symm)
          have HF := hid hall.out.2.2
          have q : (x1.toList == y1.toList) = false ∨ ((x1.toList == y1.toList) = true ∧ (x2.toList == y2.toList) = false) := by
            cases q1 : (x1.toList == y1.toList) with
            | false => exact .inl rfl
            | true =>
              refine .inr ⟨rfl, ?_⟩
              cases q2 : (x2.toList == y2.toList) with
              | false => rfl
              | true =>
                have e1 : x1 = y1 := T.ba_ext (by rw [← ByteArray.toList_eq, ← ByteArray.toList_eq]; exact eq_of_beq q1)
                have e2 : x2 = y2 := T.ba_ext (by rw [← ByteArray.toList_eq, ← ByteArray.toList_eq]; exact eq_of_beq q2)
                exact absurd (by rw [e1, e2]) hxy
          clear hxy hall
          rcases q with q | ⟨q, q2'⟩
          all_goals
            go_wp2
            go_quiet (fail)
            go_wp2
            go_ret
            exact ⟨ret_bool (by first | rw [HRES.out, HRF.out] | rw [HR4.out, HRF.out]), (FW.out.trans HF.out (fun _ _ h => h)).trans (Fr.drewN _ _) (fun _ _ h => h)⟩
      · obtain rfl : k = m1 := by have := hall.out.1; omega
        have HRT := hid (show r4 = true from by
          rw [← HR4.out]
          refine decide_eq_true ?_
          have h3 := hall.out.2.1
          rw [List.take_of_length_le (by rw [HM1.out]; exact Nat.le_refl _), List.take_of_length_le (by rw [HM2.out]; exact Nat.le_refl _)] at h3
          exact h3)
        have HF := hid hall.out.2.2
        have hkk : ¬ ((k : Int) < (k : Int)) := by omega
        clear hall hlt
        go_wp2
        go_ret
        exact ⟨ret_bool (by first | rw [HRES.out, HRT.out] | rw [HR4.out, HRT.out]), FW.out.trans HF.out (fun _ _ h => h)⟩
  · have hres : ((n1 == n2) && ((p1 == p2) && ((s1.toList == s2.toList) && decide (l1 = l2)))) = false := by
      cases hq : ((n1 == n2) && ((p1 == p2) && ((s1.toList == s2.toList) && decide (l1 = l2)))) with
      | false => rfl
      | true =>
        simp only [Bool.and_eq_true, beq_iff_eq, decide_eq_true_eq] at hq
        exact absurd ⟨⟨hq.1, hq.2.1⟩, T.ba_ext (by rw [← ByteArray.toList_eq, ← ByteArray.toList_eq]; exact hq.2.2.1), by rw [← hm1, ← hm2, hq.2.2.2]⟩ hall
    rw [hres, hm1, hm2]
    have ff : ∀ o o' : Obj, Fr (fun _ => False) w ((w.alloc o).alloc o') := fun o o' => Fr.alloc (Fr.alloc (Fr.refl _ _) _) _
    have FF := hid ff
    clear h1 h2 hx hm1 hm2 hr4 hres ff
    by_cases e1 : n1 = n2
    · subst e1
      by_cases e2 : p1 = p2
      · subst e2
        by_cases e3 : s1 = s2
        · subst e3
          have hm : ¬ m1 = m2 := fun e => hall ⟨⟨rfl, rfl⟩, rfl, e⟩
          have q : ((m1 : Int) == (m2 : Int)) = false := by
            cases hq : ((m1 : Int) == (m2 : Int)) with
            | false => rfl
            | true => exact absurd (by have := eq_of_beq hq; omega) hm
          have q' : (m1 == m2) = false := by simp [hm]
          have qn : ((m1 : Int) != (m2 : Int)) = true := by rw [bne, q]; rfl
          clear hall hm
          go_enter Tryz.func30, Tryz.ntmps30
          go_wp2_with fail
          go_ret
          exact ⟨rfl, FF.out _ _⟩
        · have q : (s1.toList == s2.toList) = false := by
            cases hq : (s1.toList == s2.toList) with
            | false => rfl
            | true => exact absurd (T.ba_ext (by rw [← ByteArray.toList_eq, ← ByteArray.toList_eq]; exact eq_of_beq hq)) e3
          clear hall e3
          go_enter Tryz.func30, Tryz.ntmps30
          go_wp2_with fail
          go_ret
          exact ⟨rfl, FF.out _ _⟩
      · have q : (p1 == p2) = false := by simp [e2]
        have qn : (p1 != p2) = true := by simp [e2]
        clear hall e2
        go_enter Tryz.func30, Tryz.ntmps30
        go_wp2_with fail
        go_ret
        exact ⟨rfl, FF.out _ _⟩
    · have q : (n1 == n2) = false := by simp [e1]
      have qn : (n1 != n2) = true := by simp [e1]
      clear hall e1
      go_enter Tryz.func30, Tryz.ntmps30
      go_wp2_with fail
      go_ret
      exact ⟨rfl, FF.out _ _⟩
end Go.Proofs.YtilbdpnioajkoaaGreat

namespace Go.Proofs.YtilbdpnioajkoaaGreat
open Go.RowKit Go.Maps
set_option linter.unusedVariables false
set_option linter.unusedSimpArgs false
set_option maxRecDepth 100000
attribute [local go_sem] Oper.semAt_some
set_option maxHeartbeats 8000000 in
theorem usame_any {I J : Nat → Prop} {w : World} {a b : Option Addr} {ca cb : Nat} {xs ys : List T.Tn} (h1 : T.Nr I w a xs) (h2 : T.Nr J w b ys) (hx : xs.length ≤ 5000000000000) (hats : ∀ z ∈ xs, z.1.2.ats.length ≤ 9000000000000) :
    Calls Tryz.prog 12 #[.slice a xs.length ca, .slice b ys.length cb] w fun e w' => e = .returned (.bool (T.sames xs ys)) ∧ Fr (fun _ => False) w w' := by
  obtain ⟨n, hn⟩ : ∃ n, xs.length = n := ⟨_, rfl⟩
  obtain ⟨m, hm⟩ : ∃ n, ys.length = n := ⟨_, rfl⟩
  obtain ⟨res, hres⟩ : ∃ r, T.sames xs ys = r := ⟨_, rfl⟩
  by_cases hnm : n = m
  · subst hnm
    have HN := hid hn
    have HM := hid hm
    have H1 := hid h1
    have H2 := hid h2
    have HA := hid hats
    have HRES := hid hres
    rw [hn] at hx
    rw [hn, hm, hres]
    clear h1 h2 hats hn hm hres
    go_enter Tryz.func12, Tryz.ntmps12
    go_wp2_with fail
    go_loopw [5] (fun i wr => ∃ k : Nat, i = .int .i64 k ∧ Hid (k ≤ n ∧ (xs.take k).map Prod.fst = (ys.take k).map Prod.fst ∧ Fr (fun _ => False) w wr))
      (fun i _ => n - (intOf i).toNat)
    case atStart => exact ⟨0, rfl, hid ⟨Nat.zero_le _, rfl, Fr.refl _ _⟩⟩
    case round =>
      obtain ⟨k, rfl, hall⟩ := hrel
      have HF := hid hall.out.2.2
      by_cases hlt : k < n
      · obtain ⟨x, hx1⟩ : ∃ q, xs[k]? = some q := ⟨_, List.getElem?_eq_getElem (by rw [HN.out]; exact hlt)⟩
        obtain ⟨y, hy1⟩ : ∃ q, ys[k]? = some q := ⟨_, List.getElem?_eq_getElem (by rw [HM.out]; exact hlt)⟩
        have KS := hid (fun (V : World) (hf : Fr (fun _ => False) wr V) => usamen_any x y ((H1.out.2 x (List.mem_of_getElem? hx1)).kept (HF.out.trans hf (fun _ _ h => h)) (fun _ _ h => h)) ((H2.out.2 y (List.mem_of_getElem? hy1)).kept (HF.out.trans hf (fun _ _ h => h)) (fun _ _ h => h)) (HA.out x (List.mem_of_getElem? hx1)))
        obtain ⟨g1, o1, rfl, _, a0, a1, a2, a3⟩ := T.flatN_cells (H1.out.1.kept HF.out (fun _ _ h => h)) hx1
        obtain ⟨g2, o2, rfl, _, b0, b1, b2, b3⟩ := T.flatN_cells (H2.out.1.kept HF.out (fun _ _ h => h)) hy1
        have i0 : (0 : Int) ≤ (k : Int) := by omega
        have i1 : (k : Int) < (n : Int) := by omega
        cases hs : T.same x.1 y.1 with
        | true =>
          rw [hs] at KS
          have HR2 := hid (show k + 1 ≤ n ∧ (xs.take (k + 1)).map Prod.fst = (ys.take (k + 1)).map Prod.fst from ⟨hlt, by rw [List.take_add_one, List.take_add_one, hx1, hy1, List.map_append, List.map_append, hall.out.2.1]; show _ ++ [x.1] = _ ++ [y.1]; rw [T.same_iff.1 hs]⟩)
          clear hall hlt hx1 hy1 hs
          go_wp2
          have hmx : Tryz.prog.follows .mixedOrders = true := by kernel_rfl
          refine wp_region_held (S := fun V => Fr (fun _ => False) wr V) hmx ?_
          have hS := (Fr.drew (Fr.refl (fun _ => False) wr))
          simp only [List.size_toArray, List.length_cons, List.length_nil, Nat.reduceAdd, Array.replicate_succ, Array.replicate_zero, List.push_toArray, List.nil_append, List.cons_append]
          refine wpAnyH_take (i := 0) (v := ?_) rfl (by kernel_rfl) (by kernel_rfl) (by kernel_rfl) (fun _ _ _ h => h) (Or.inl ⟨by kernel_rfl, ?_⟩) hS ?_
          rotate_left 1
          · (intro w' hS'; clear hS'; go_simp; try with_reducible rfl)
          simp only [List.getElem_toArray, List.getElem_cons_zero, List.getElem_cons_succ, Act.put, List.setIfInBounds_toArray, List.set_cons_zero, List.set_cons_succ]
          refine wpAnyH_take (i := 1) (v := ?_) rfl (by kernel_rfl) (by kernel_rfl) (by kernel_rfl) (fun _ _ _ h => h) (Or.inl ⟨by kernel_rfl, ?_⟩) hS ?_
          rotate_left 1
          · (intro w' hS'; clear hS'; go_simp; try with_reducible rfl)
          simp only [List.getElem_toArray, List.getElem_cons_zero, List.getElem_cons_succ, Act.put, List.setIfInBounds_toArray, List.set_cons_zero, List.set_cons_succ]
          refine wpAnyH_take (i := 2) (v := ?_) rfl (by kernel_rfl) (by kernel_rfl) (by kernel_rfl) (fun _ _ _ h => h) (Or.inl ⟨by kernel_rfl, ?_⟩) hS ?_
          rotate_left 1
          · (intro w' hS'; clear hS'; go_simp; try with_reducible rfl)
          simp only [List.getElem_toArray, List.getElem_cons_zero, List.getElem_cons_succ, Act.put, List.setIfInBounds_toArray, List.set_cons_zero, List.set_cons_succ]
          refine wpAnyH_take (i := 3) (v := ?_) rfl (by kernel_rfl) (by kernel_rfl) (by kernel_rfl) (fun _ _ _ h => h) (Or.inl ⟨by kernel_rfl, ?_⟩) hS ?_
          rotate_left 1
          · (intro w' hS'; have h0 := cellFr hS' (fun h => h) a0; have h1 := cellFr hS' (fun h => h) a1; have h2 := cellFr hS' (fun h => h) a2; have h3 := cellFr hS' (fun h => h) a3; clear hS'; go_simp; try with_reducible rfl)
          simp only [List.getElem_toArray, List.getElem_cons_zero, List.getElem_cons_succ, Act.put, List.setIfInBounds_toArray, List.set_cons_zero, List.set_cons_succ]
          refine wpAnyH_take (i := 4) (v := ?_) rfl (by kernel_rfl) (by kernel_rfl) (by kernel_rfl) (fun _ _ _ h => h) (Or.inl ⟨by kernel_rfl, ?_⟩) hS ?_
          rotate_left 1
          · (intro w' hS'; clear hS'; go_simp; try with_reducible rfl)
          simp only [List.getElem_toArray, List.getElem_cons_zero, List.getElem_cons_succ, Act.put, List.setIfInBounds_toArray, List.set_cons_zero, List.set_cons_succ]
          refine wpAnyH_take (i := 5) (v := ?_) rfl (by kernel_rfl) (by kernel_rfl) (by kernel_rfl) (fun _ _ _ h => h) (Or.inl ⟨by kernel_rfl, ?_⟩) hS ?_
          rotate_left 1
          · (intro w' hS'; clear hS'; go_simp; try with_reducible rfl)
          simp only [List.getElem_toArray, List.getElem_cons_zero, List.getElem_cons_succ, Act.put, List.setIfInBounds_toArray, List.set_cons_zero, List.set_cons_succ]
          refine wpAnyH_take (i := 6) (v := ?_) rfl (by kernel_rfl) (by kernel_rfl) (by kernel_rfl) (fun _ _ _ h => h) (Or.inl ⟨by kernel_rfl, ?_⟩) hS ?_
          rotate_left 1
          · (intro w' hS'; clear hS'; go_simp; try with_reducible rfl)
          simp only [List.getElem_toArray, List.getElem_cons_zero, List.getElem_cons_succ, Act.put, List.setIfInBounds_toArray, List.set_cons_zero, List.set_cons_succ]
          refine wpAnyH_take (i := 7) (v := ?_) rfl (by kernel_rfl) (by kernel_rfl) (by kernel_rfl) (fun _ _ _ h => h) (Or.inl ⟨by kernel_rfl, ?_⟩) hS ?_
          rotate_left 1
          · (intro w' hS'; have h0 := cellFr hS' (fun h => h) b0; have h1 := cellFr hS' (fun h => h) b1; have h2 := cellFr hS' (fun h => h) b2; have h3 := cellFr hS' (fun h => h) b3; clear hS'; go_simp; try with_reducible rfl)
          simp only [List.getElem_toArray, List.getElem_cons_zero, List.getElem_cons_succ, Act.put, List.setIfInBounds_toArray, List.set_cons_zero, List.set_cons_succ]
          refine wpAnyH_ready (rs := [8]) (by kernel_rfl) (by simp) ?_
          refine AllReadyH.cons rfl (fun K1 hK1 => ?_) (AllReadyH.nil)
          go_simp
          refine (KS.out _ (Fr.drew (Fr.refl _ _))).mono ?_
          rintro e w4 ⟨rfl, fx⟩
          refine hK1.out _ _ (hS.trans fx (fun _ _ h => h.elim)) (fun hS => ?_)
          clear fx
          clear hK1 K1
          simp only [List.getElem_toArray, List.getElem_cons_zero, List.getElem_cons_succ, Act.put, List.setIfInBounds_toArray, List.set_cons_zero, List.set_cons_succ]
          refine wpAnyH_take (i := 9) (v := ?_) rfl (by kernel_rfl) (by kernel_rfl) (by kernel_rfl) (fun _ _ _ h => h) (Or.inl ⟨by kernel_rfl, ?_⟩) hS ?_
          rotate_left 1
          · (intro w' hS'; clear hS'; go_simp; try with_reducible rfl)
          simp only [List.getElem_toArray, List.getElem_cons_zero, List.getElem_cons_succ, Act.put, List.setIfInBounds_toArray, List.set_cons_zero, List.set_cons_succ]
          refine wpAnyH_done (by kernel_rfl) ?_ _
          have F4 := hid (HF.out.trans hS (fun _ _ h => h))
          clear hS
          go_wp2
          go_roundw
          case rel => exact ⟨k + 1, by first | go_num | rfl | trivial, hid ⟨HR2.out.1, HR2.out.2, F4.out⟩⟩
          case measure => simp [intOf]; omega
        | false =>
          rw [hs] at KS
          have HRF := hid (show res = false from by
            rw [← HRES.out]
            cases hq : T.sames xs ys with
            | false => rfl
            | true =>
              have h3 := T.sames_iff.1 hq
              have h4 : (xs.map Prod.fst)[k]? = (ys.map Prod.fst)[k]? := by rw [h3]
              rw [List.getElem?_map, List.getElem?_map, hx1, hy1] at h4
              have h5 : x.1 = y.1 := Option.some.inj h4
              rw [h5, T.same_iff.2 rfl] at hs
              cases hs)
          clear hall hlt hx1 hy1 hs
          go_wp2
          have hmx : Tryz.prog.follows .mixedOrders = true := by kernel_rfl
          refine wp_region_held (S := fun V => Fr (fun _ => False) wr V) hmx ?_
          have hS := (Fr.drew (Fr.refl (fun _ => False) wr))
          simp only [List.size_toArray, List.length_cons, List.length_nil, Nat.reduceAdd, Array.replicate_succ, Array.replicate_zero, List.push_toArray, List.nil_append, List.cons_append]
          refine wpAnyH_take (i := 0) (v := ?_) rfl (by kernel_rfl) (by kernel_rfl) (by kernel_rfl) (fun _ _ _ h => h) (Or.inl ⟨by kernel_rfl, ?_⟩) hS ?_
          rotate_left 1
          · (intro w' hS'; clear hS'; go_simp; try with_reducible rfl)
          simp only [List.getElem_toArray, List.getElem_cons_zero, List.getElem_cons_succ, Act.put, List.setIfInBounds_toArray, List.set_cons_zero, List.set_cons_succ]
          refine wpAnyH_take (i := 1) (v := ?_) rfl (by kernel_rfl) (by kernel_rfl) (by kernel_rfl) (fun _ _ _ h => h) (Or.inl ⟨by kernel_rfl, ?_⟩) hS ?_
          rotate_left 1
          · (intro w' hS'; clear hS'; go_simp; try with_reducible rfl)
          simp only [List.getElem_toArray, List.getElem_cons_zero, List.getElem_cons_succ, Act.put, List.setIfInBounds_toArray, List.set_cons_zero, List.set_cons_succ]
          refine wpAnyH_take (i := 2) (v := ?_) rfl (by kernel_rfl) (by kernel_rfl) (by kernel_rfl) (fun _ _ _ h => h) (Or.inl ⟨by kernel_rfl, ?_⟩) hS ?_
          rotate_left 1
          · (intro w' hS'; clear hS'; go_simp; try with_reducible rfl)
          simp only [List.getElem_toArray, List.getElem_cons_zero, List.getElem_cons_succ, Act.put, List.setIfInBounds_toArray, List.set_cons_zero, List.set_cons_succ]
          refine wpAnyH_take (i := 3) (v := ?_) rfl (by kernel_rfl) (by kernel_rfl) (by kernel_rfl) (fun _ _ _ h => h) (Or.inl ⟨by kernel_rfl, ?_⟩) hS ?_
          rotate_left 1
          · (intro w' hS'; have h0 := cellFr hS' (fun h => h) a0; have h1 := cellFr hS' (fun h => h) a1; have h2 := cellFr hS' (fun h => h) a2; have h3 := cellFr hS' (fun h => h) a3; clear hS'; go_simp; try with_reducible rfl)
          simp only [List.getElem_toArray, List.getElem_cons_zero, List.getElem_cons_succ, Act.put, List.setIfInBounds_toArray, List.set_cons_zero, List.set_cons_succ]
          refine wpAnyH_take (i := 4) (v := ?_) rfl (by kernel_rfl) (by kernel_rfl) (by kernel_rfl) (fun _ _ _ h => h) (Or.inl ⟨by kernel_rfl, ?_⟩) hS ?_
          rotate_left 1
          · (intro w' hS'; clear hS'; go_simp; try with_reducible rfl)
          simp only [List.getElem_toArray, List.getElem_cons_zero, List.getElem_cons_succ, Act.put, List.setIfInBounds_toArray, List.set_cons_zero, List.set_cons_succ]
          refine wpAnyH_take (i := 5) (v := ?_) rfl (by kernel_rfl) (by kernel_rfl) (by kernel_rfl) (fun _ _ _ h => h) (Or.inl ⟨by kernel_rfl, ?_⟩) hS ?_
          rotate_left 1
          · (intro w' hS'; clear hS'; go_simp; try with_reducible rfl)
          simp only [List.getElem_toArray, List.getElem_cons_zero, List.getElem_cons_succ, Act.put, List.setIfInBounds_toArray, List.set_cons_zero, List.set_cons_succ]
          refine wpAnyH_take (i := 6) (v := ?_) rfl (by kernel_rfl) (by kernel_rfl) (by kernel_rfl) (fun _ _ _ h => h) (Or.inl ⟨by kernel_rfl, ?_⟩) hS ?_
          rotate_left 1
          · (intro w' hS'; clear hS'; go_simp; try with_reducible rfl)
          simp only [List.getElem_toArray, List.getElem_cons_zero, List.getElem_cons_succ, Act.put, List.setIfInBounds_toArray, List.set_cons_zero, List.set_cons_succ]
          refine wpAnyH_take (i := 7) (v := ?_) rfl (by kernel_rfl) (by kernel_rfl) (by kernel_rfl) (fun _ _ _ h => h) (Or.inl ⟨by kernel_rfl, ?_⟩) hS ?_
          rotate_left 1
          · (intro w' hS'; have h0 := cellFr hS' (fun h => h) b0; have h1 := cellFr hS' (fun h => h) b1; have h2 := cellFr hS' (fun h => h) b2; have h3 := cellFr hS' (fun h => h) b3; clear hS'; go_simp; try with_reducible rfl)
          simp only [List.getElem_toArray, List.getElem_cons_zero, List.getElem_cons_succ, Act.put, List.setIfInBounds_toArray, List.set_cons_zero, List.set_cons_succ]
          refine wpAnyH_ready (rs := [8]) (by kernel_rfl) (by simp) ?_
          refine AllReadyH.cons rfl (fun K1 hK1 => ?_) (AllReadyH.nil)
          go_simp
          refine (KS.out _ (Fr.drew (Fr.refl _ _))).mono ?_
          rintro e w4 ⟨rfl, fx⟩
          refine hK1.out _ _ (hS.trans fx (fun _ _ h => h.elim)) (fun hS => ?_)
          clear fx
          clear hK1 K1
          simp only [List.getElem_toArray, List.getElem_cons_zero, List.getElem_cons_succ, Act.put, List.setIfInBounds_toArray, List.set_cons_zero, List.set_cons_succ]
          refine wpAnyH_take (i := 9) (v := ?_) rfl (by kernel_rfl) (by kernel_rfl) (by kernel_rfl) (fun _ _ _ h => h) (Or.inl ⟨by kernel_rfl, ?_⟩) hS ?_
          rotate_left 1
          · (intro w' hS'; clear hS'; go_simp; try with_reducible rfl)
          simp only [List.getElem_toArray, List.getElem_cons_zero, List.getElem_cons_succ, Act.put, List.setIfInBounds_toArray, List.set_cons_zero, List.set_cons_succ]
          refine wpAnyH_done (by kernel_rfl) ?_ _
          have F4 := hid (HF.out.trans hS (fun _ _ h => h))
          clear hS
          go_wp2
          go_ret
          exact ⟨ret_bool HRF.out.symm, F4.out⟩
      · obtain rfl : k = n := by have := hall.out.1; omega
        have HRT := hid (show res = true from by
          rw [← HRES.out]
          refine T.sames_iff.2 ?_
          have h3 := hall.out.2.1
          rw [List.take_of_length_le (by rw [HN.out]; exact Nat.le_refl _), List.take_of_length_le (by rw [HM.out]; exact Nat.le_refl _)] at h3
          exact h3)
        have hkk : ¬ ((k : Int) < (k : Int)) := by omega
        clear hall hlt
        go_wp2
        go_ret
        exact ⟨ret_bool HRT.out.symm, HF.out⟩
  · have hr : res = false := by
      rw [← hres]
      cases hq : T.sames xs ys with
      | false => rfl
      | true => exact absurd (by rw [← hn, ← hm]; have := congrArg List.length (T.sames_iff.1 hq); rwa [List.length_map, List.length_map] at this) hnm
    rw [hn, hm, hres, hr]
    have q : ((n : Int) == (m : Int)) = false := by
      cases hq : ((n : Int) == (m : Int)) with
      | false => rfl
      | true => exact absurd (by have := eq_of_beq hq; omega) hnm
    have qn : ((n : Int) != (m : Int)) = true := by rw [bne, q]; rfl
    clear h1 h2 hx hats hn hm hres hr hnm
    go_enter Tryz.func12, Tryz.ntmps12
    go_wp2_with fail
    go_ret
    exact ⟨rfl, Fr.refl _ _⟩
end Go.Proofs.YtilbdpnioajkoaaGreat

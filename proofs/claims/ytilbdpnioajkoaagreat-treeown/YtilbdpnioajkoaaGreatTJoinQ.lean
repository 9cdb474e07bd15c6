/-
  join.
-/
import Derived.Test.YtilbdpnioajkoaaGreatMg37
import Derived.Test.YtilbdpnioajkoaaGreatTEnterQ
import Derived.Test.YtilbdpnioajkoaaGreatMg12
import Derived.Test.YtilbdpnioajkoaaGreatMg20
import Derived.Test.YtilbdpnioajkoaaGreatMg23
namespace Go.Proofs.YtilbdpnioajkoaaGreat
open Go.RowKit Go.Maps
set_option linter.unusedVariables false
set_option linter.unusedSimpArgs false
set_option maxRecDepth 100000
attribute [local go_sem] Oper.semAt_some
/-- one node is let stand where it says -/
def T.jstep (t : T.Tr) (z : T.Tn) : T.Tr := if 2 < z.1.1 then A.put z.1.1 ⟨z.1.2.par, z.1.2.nm, ((A.get z.1.1 t).map (·.ats)).getD []⟩ t else t
def T.joined (t : T.Tr) (zs : List T.Tn) : T.Tr := zs.foldl T.jstep t
def T.standZ (t : T.Tr) (z : T.Tn) : Bool := T.stand t z.1.1 z.1.2.par z.1.2.nm
theorem T.joined_snoc (t : T.Tr) (zs : List T.Tn) (z : T.Tn) : T.joined t (zs ++ [z]) = T.jstep (T.joined t zs) z := by
  unfold T.joined
  rw [List.foldl_append]
  rfl
theorem T.stand_congr {t u : T.Tr} (h : ∀ m, (A.get m u).isSome = (A.get m t).isSome) (n par : Int) (nm : ByteArray) : T.stand u n par nm = T.stand t n par nm := by
  unfold T.stand
  rw [h]
/-- between two rounds -/
structure T.Jn (c0 : Nat → Option T.Col) (w : World) (bud p : Nat) (dos last : Int) (t : T.Tr) (mb : Nat) (f : Int → Nat) (zs : List T.Tn) (k : Nat) (wr : World) (c : Nat → Option T.Col) (u : T.Tr) : Prop where
  le : k ≤ zs.length
  good : (zs.take k).all (T.standZ t) = true
  eq : u = T.joined t (zs.take k)
  up : A.Up u
  isd : ∀ m, (A.get m u).isSome = (A.get m t).isSome
  left : ∀ j z, k ≤ j → zs[j]? = some z → A.get z.1.1 u = A.get z.1.1 t
  more : More c0 c w.heap.size
  lo : Lo c wr.heap.size
  tf : Tf c wr (bud + k) p dos last u mb f
  fr : Fr (fun i => c0 i ≠ none) w wr
theorem T.Jn.step {c0 : Nat → Option T.Col} {w : World} {bud p : Nat} {dos last : Int} {t : T.Tr} {mb : Nat} {f : Int → Nat} {zs : List T.Tn} {k : Nat} {wr : World} {c : Nat → Option T.Col} {u : T.Tr} (h : T.Jn c0 w bud p dos last t mb f zs k wr c u) (hd : zs.Pairwise (fun a b => a.1.1 < b.1.1)) {z : T.Tn} (hz : zs[k]? = some z) (hs : T.standZ t z = true) (hg : (A.get z.1.1 t).isSome = true) {w' : World} {c' : Nat → Option T.Col}
    (hm : More c c' wr.heap.size) (hl : Lo c' w'.heap.size) (ht : Tf c' w' (bud + (k + 1)) p dos last (T.jstep u z) mb f) (hf : Fr (fun i => c i ≠ none) wr w') : T.Jn c0 w bud p dos last t mb f zs (k + 1) w' c' (T.jstep u z) := by
  have hk := (List.getElem?_eq_some_iff.1 hz).1
  have hsz := h.fr.size
  obtain ⟨x, hx⟩ : ∃ x, A.get z.1.1 u = some x := Option.isSome_iff_exists.1 (by rw [h.isd, hg])
  refine ⟨hk, ?_, ?_, ?_, fun m => ?_, fun j y hj hy => ?_, fun i hi => (hm i (by omega)).trans (h.more i hi), hl, ht, h.fr.trans hf (fun i hi e => by rw [h.more i hi] at e; exact e)⟩
  · rw [List.take_add_one, List.all_append, h.good, hz]
    simp [hs]
  · rw [List.take_add_one, hz, h.eq]
    exact (T.joined_snoc t _ z).symm
  · unfold T.jstep
    split
    · exact h.up.put _ _
    · exact h.up
  · rw [← h.isd m]
    unfold T.jstep
    split
    · exact A.isSome_put h.up hx _ m
    · rfl
  · have hne : y.1.1 ≠ z.1.1 := by
      obtain ⟨h1, h2⟩ := List.getElem?_eq_some_iff.1 hy
      obtain ⟨h3, h4⟩ := List.getElem?_eq_some_iff.1 hz
      have := List.pairwise_iff_getElem.1 hd k j h3 h1 (by omega)
      rw [h2, h4] at this
      omega
    rw [← h.left j y (by omega) hy]
    unfold T.jstep
    split
    · exact A.get_put_other h.up hne _
    · rfl
theorem T.Jn.idle {c0 : Nat → Option T.Col} {w : World} {bud p : Nat} {dos last : Int} {t : T.Tr} {mb : Nat} {f : Int → Nat} {zs : List T.Tn} {k : Nat} {wr : World} {c : Nat → Option T.Col} {u : T.Tr} (h : T.Jn c0 w bud p dos last t mb f zs k wr c u) {w' : World} (hf : Fr (fun _ => False) wr w') : T.Jn c0 w bud p dos last t mb f zs k w' c u :=
  ⟨h.le, h.good, h.eq, h.up, h.isd, h.left, h.more, fun i hi => Nat.lt_of_lt_of_le (h.lo i hi) hf.size, h.tf.kept hf (fun _ _ h => h), h.fr.trans hf (fun _ _ h => h.elim)⟩
set_option maxHeartbeats 8000000 in
theorem join_any {c : Nat → Option T.Col} {w : World} {bud p : Nat} {dos last : Int} {t : T.Tr} {mb : Nat} {f : Int → Nat} (h : Tf c w bud p dos last t mb f) (hl : Lo c w.heap.size) (ht : A.Up t) (h0 : A.get 0 t = none) {I : Nat → Prop} {ra : Option Addr} {rc : Nat} {zs : List T.Tn} (hR : T.Nr I w ra zs) (hI : ∀ i, I i → c i = none) (hd : zs.Pairwise (fun a b => a.1.1 < b.1.1)) (hg : ∀ z ∈ zs, ∃ x, A.get z.1.1 t = some x ∧ x.par = 0) (hwf : ∀ z ∈ zs, (Lit.int .i64 z.1.1).wf = true ∧ (Lit.int .i64 z.1.2.par).wf = true) (hb : bud + zs.length < 8000000000000) :
    Calls Tryz.prog 47 #[ptr p, .slice ra zs.length rc] w fun e w' => e = .returned (.bool (zs.all (T.standZ t))) ∧ Fr (fun i => c i ≠ none) w w' ∧ (zs.all (T.standZ t) = true → ∃ c', More c c' w.heap.size ∧ Lo c' w'.heap.size ∧ Tf c' w' (bud + zs.length) p dos last (T.joined t zs) mb f) := by
  obtain ⟨n, hn⟩ : ∃ n, zs.length = n := ⟨_, rfl⟩
  have HN := hid hn
  have HJ0 := hid (show T.Jn c w bud p dos last t mb f zs 0 w c t from ⟨Nat.zero_le _, rfl, rfl, ht, fun _ => rfl, fun _ _ _ _ => rfl, fun _ _ => rfl, hl, h, Fr.refl _ _⟩)
  have HR := hid hR
  have HI := hid hI
  have HD := hid hd
  have HG := hid hg
  have HWF := hid hwf
  have H0 := hid h0
  rw [hn] at hb ⊢
  have hn5 : n ≤ 8000000000000 := by omega
  clear hn hR hI hd hg hwf h hl ht h0
  go_enter Tryz.func47, Tryz.ntmps47
  go_wp2
  go_loopw [10] (fun i wr => ∃ k : Nat, i = .int .i64 k ∧ Hid (∃ c' u, T.Jn c w bud p dos last t mb f zs k wr c' u))
    (fun i _ => (n - intOf i).toNat)
  case atStart => exact ⟨0, rfl, hid ⟨_, _, HJ0.out⟩⟩
  case round =>
    obtain ⟨k, rfl, hall⟩ := hrel
    obtain ⟨c1, u, hJ⟩ := hall.out
    clear hall
    by_cases hlt : k < n
    · obtain ⟨z, hz⟩ : ∃ z, zs[k]? = some z := ⟨_, List.getElem?_eq_getElem (by rw [HN.out]; omega)⟩
      have hRr := HR.out.1.kept hJ.fr (fun i hi e => e (HI.out i hi))
      obtain ⟨g1, o1, rfl, _, a0, a1, a2, a3⟩ := T.flatN_cells hRr hz
      have i0 : (0 : Int) ≤ (k : Int) := by omega
      have i1 : (k : Int) < (n : Int) := by omega
      have hmem := List.mem_of_getElem? hz
      obtain ⟨x, hx, hx0⟩ := HG.out z hmem
      have hxu : A.get z.1.1 u = some x := by rw [hJ.left k z (Nat.le_refl _) hz, hx]
      have hw2 := HWF.out z hmem
      have hsu : T.stand u z.1.1 z.1.2.par z.1.2.nm = T.standZ t z := T.stand_congr hJ.isd _ _ _
      have hu0 : A.get 0 u = none := by
        cases hq : A.get 0 u with
        | none => rfl
        | some q =>
          have := hJ.isd 0
          rw [hq, H0.out] at this
          cases this
      obtain ⟨⟨z1, ⟨z2, z3, z4⟩⟩, ⟨za, zc⟩⟩ := z
      dsimp only at a0 a1 a2 a3 hx hxu hw2 hsu
      have KM := hid (fun (W : World) (hf : Fr (fun _ => False) wr W) => mayStand_any (n := z1) (nm := z3) (hJ.tf.kept hf (fun _ _ h => h)) hw2.2)
      obtain ⟨V, hV⟩ : ∃ V, (wr.alloc (.cells #[.int .i64 z1, .int .i64 z2, .string z3, .slice za z4.length zc] 63)).alloc (.cells #[.int .i64 z2, .string z3] 76) = V := ⟨_, rfl⟩
      have fV : Fr (fun _ => False) wr V := by rw [← hV]; exact Fr.alloc (Fr.alloc (Fr.refl _ _) _) _
      have b6 : V.heap[wr.heap.size]? = some (.cells #[.int .i64 z1, .int .i64 z2, .string z3, .slice za z4.length zc] 63 (0, 0)) := by
        rw [← hV]
        exact (Fr.alloc (Fr.refl (fun _ => False) _) _).cells (Go.heap_alloc_new wr _) (fun h => h)
      have b7 : V.heap[wr.heap.size + 1]? = some (.cells #[.int .i64 z2, .string z3] 76 (0, 0)) := by
        rw [← hV]
        have := Go.heap_alloc_new (wr.alloc (.cells #[.int .i64 z1, .int .i64 z2, .string z3, .slice za z4.length zc] 63)) (.cells #[.int .i64 z2, .string z3] 76)
        rw [alloc_size] at this
        exact this
      have v0 : V.cell? ⟨wr.heap.size, 0, none⟩ = some (.int .i64 z1) := cellA (j := 0) b6 rfl
      have v1 : V.cell? ⟨wr.heap.size + 1, 0, none⟩ = some (.int .i64 z2) := cellA (j := 0) b7 rfl
      have v2 : V.cell? ⟨wr.heap.size + 1, 1, none⟩ = some (.string z3) := cellA (j := 1) b7 rfl
      have KM1 := hid (KM.out V fV)
      rw [hsu] at KM1
      have HV := hid hV
      have FV := hid fV
      have B6 := hid b6
      have B7 := hid b7
      have HJ := hid hJ
      have HZ := hid hz
      have HX := hid hx
      have HXU := hid hxu
      have HW2 := hid hw2
      have HU0 := hid hu0
      clear hV fV b6 b7 hJ hz hx hxu hw2 hsu hu0 KM hRr hmem
      go_upto_region 5 with fail
      rw [HV.out]
      go_wp2_with fail
      refine KM1.out.mono ?_
      rintro e wx ⟨rfl, hfx⟩
      have FX := hid (FV.out.trans hfx (fun _ _ h => h))
      have x0 := cellFr hfx (fun h => h) v0
      have x1 := cellFr hfx (fun h => h) v1
      have x2 := cellFr hfx (fun h => h) v2
      clear v0 v1 v2 hfx a0 a1 a2 a3
      dsimp only
      have HRD : Hid (Fr (fun i => c i ≠ none) w wx) := hid (HJ.out.fr.trans FX.out (fun _ _ h => h.elim))
      cases hst : T.standZ t ((z1, ⟨z2, z3, z4⟩), (za, zc)) with
      | false =>
        have HRF := hid (show zs.all (T.standZ t) = false from by
          cases h : zs.all (T.standZ t) with
          | false => rfl
          | true =>
            have := List.all_eq_true.1 h _ (List.mem_of_getElem? HZ.out)
            rw [hst] at this
            cases this)
        clear hst x0 x1 x2
        go_wp2_with fail
        go_ret
        exact ⟨ret_bool HRF.out.symm, HRD.out, fun h => by rw [HRF.out] at h; cases h⟩
      | true =>
        have HST := hid hst
        clear hst
        by_cases h2 : 2 < z1
        · have hnam : T.nam z3 = true := by
            have h3 := HST.out
            unfold T.standZ T.stand at h3
            rw [if_neg (by dsimp only; omega), Bool.and_eq_true] at h3
            exact h3.2
          have hlen := T.nam_ne hnam
          have hpar : (A.get z2 u).isSome = true := by
            rw [HJ.out.isd]
            have h3 := HST.out
            unfold T.standZ T.stand at h3
            rw [if_neg (by dsimp only; omega), Bool.and_eq_true] at h3
            exact h3.1
          obtain ⟨y, hy⟩ := Option.isSome_iff_exists.1 hpar
          have KC := hid (sclone_t z3 (by omega))
          have KE := hid (fun (W : World) (hf : Fr (fun _ => False) wr W) => enter_any (HJ.out.tf.kept hf (fun _ _ h => h)) (fun i hi => Nat.lt_of_lt_of_le (HJ.out.lo i hi) hf.size) (by omega) HJ.out.up HU0.out (n := z1) (par := z2) (nm := z3) HW2.out.1 h2 HW2.out.2 (by unfold maxLen; omega) HXU.out hx0 hy)
          clear hnam hlen hpar hy
          have HC := hid (show ∀ V, Fr (fun i => c1 i ≠ none) wx V → V.cell? ⟨wr.heap.size, 0, none⟩ = some (.int .i64 z1) ∧ V.cell? ⟨wr.heap.size + 1, 0, none⟩ = some (.int .i64 z2) ∧ V.cell? ⟨wr.heap.size + 1, 1, none⟩ = some (.string z3) from fun V hf => ⟨cellFr hf (fun e => Nat.lt_irrefl _ (HJ.out.lo _ e)) x0, cellFr hf (fun e => by have := HJ.out.lo _ e; omega) x1, cellFr hf (fun e => by have := HJ.out.lo _ e; omega) x2⟩)
          go_wp2_with fail
          clear x0 x1 x2
          have hmx : Tryz.prog.follows .mixedOrders = true := by kernel_rfl
          refine wp_region_held (S := fun V => Fr (fun i => c1 i ≠ none) wx V) hmx ?_
          have hS := (Fr.drew (Fr.refl (fun i => c1 i ≠ none) wx))
          simp only [List.size_toArray, List.length_cons, List.length_nil, Nat.reduceAdd, Array.replicate_succ, Array.replicate_zero, List.push_toArray, List.nil_append, List.cons_append]
          refine wpAnyH_take (i := 0) (v := ?_) rfl (by kernel_rfl) (by kernel_rfl) (by kernel_rfl) (fun _ _ _ h => h) (Or.inl ⟨by kernel_rfl, ?_⟩) hS ?_
          rotate_left 1
          · (intro w' hS'; clear hS'; go_simp; try with_reducible rfl)
          simp only [List.getElem_toArray, List.getElem_cons_zero, List.getElem_cons_succ, Act.put, List.setIfInBounds_toArray, List.set_cons_zero, List.set_cons_succ]
          refine wpAnyH_take (i := 1) (v := ?_) rfl (by kernel_rfl) (by kernel_rfl) (by kernel_rfl) (fun _ _ _ h => h) (Or.inl ⟨by kernel_rfl, ?_⟩) hS ?_
          rotate_left 1
          · (intro w' hS'; clear hS'; go_simp; try with_reducible rfl)
          simp only [List.getElem_toArray, List.getElem_cons_zero, List.getElem_cons_succ, Act.put, List.setIfInBounds_toArray, List.set_cons_zero, List.set_cons_succ]
          refine wpAnyH_take (i := 2) (v := ?_) rfl (by kernel_rfl) (by kernel_rfl) (by kernel_rfl) (fun _ _ _ h => h) (Or.inl ⟨by kernel_rfl, ?_⟩) hS ?_
          rotate_left 1
          · (intro w' hS'; have h1 := (HC.out w' hS').1; clear hS'; go_simp; try with_reducible rfl)
          simp only [List.getElem_toArray, List.getElem_cons_zero, List.getElem_cons_succ, Act.put, List.setIfInBounds_toArray, List.set_cons_zero, List.set_cons_succ]
          refine wpAnyH_take (i := 3) (v := ?_) rfl (by kernel_rfl) (by kernel_rfl) (by kernel_rfl) (fun _ _ _ h => h) (Or.inl ⟨by kernel_rfl, ?_⟩) hS ?_
          rotate_left 1
          · (intro w' hS'; clear hS'; go_simp; try with_reducible rfl)
          simp only [List.getElem_toArray, List.getElem_cons_zero, List.getElem_cons_succ, Act.put, List.setIfInBounds_toArray, List.set_cons_zero, List.set_cons_succ]
          refine wpAnyH_take (i := 4) (v := ?_) rfl (by kernel_rfl) (by kernel_rfl) (by kernel_rfl) (fun _ _ _ h => h) (Or.inl ⟨by kernel_rfl, ?_⟩) hS ?_
          rotate_left 1
          · (intro w' hS'; have h1 := (HC.out w' hS').2.1; clear hS'; go_simp; try with_reducible rfl)
          simp only [List.getElem_toArray, List.getElem_cons_zero, List.getElem_cons_succ, Act.put, List.setIfInBounds_toArray, List.set_cons_zero, List.set_cons_succ]
          refine wpAnyH_take (i := 5) (v := ?_) rfl (by kernel_rfl) (by kernel_rfl) (by kernel_rfl) (fun _ _ _ h => h) (Or.inl ⟨by kernel_rfl, ?_⟩) hS ?_
          rotate_left 1
          · (intro w' hS'; clear hS'; go_simp; try with_reducible rfl)
          simp only [List.getElem_toArray, List.getElem_cons_zero, List.getElem_cons_succ, Act.put, List.setIfInBounds_toArray, List.set_cons_zero, List.set_cons_succ]
          refine wpAnyH_take (i := 6) (v := ?_) rfl (by kernel_rfl) (by kernel_rfl) (by kernel_rfl) (fun _ _ _ h => h) (Or.inl ⟨by kernel_rfl, ?_⟩) hS ?_
          rotate_left 1
          · (intro w' hS'; have h1 := (HC.out w' hS').2.2; clear hS'; go_simp; try with_reducible rfl)
          simp only [List.getElem_toArray, List.getElem_cons_zero, List.getElem_cons_succ, Act.put, List.setIfInBounds_toArray, List.set_cons_zero, List.set_cons_succ]
          refine wpAnyH_ready (rs := [7]) (by kernel_rfl) (by simp) ?_
          refine AllReadyH.cons rfl (fun K1 hK1 => ?_) (AllReadyH.nil)
          go_simp
          refine (KC.out _).mono ?_
          rintro e w4 ⟨rfl, fx⟩
          have F4 := hid ((Fr.drew (Fr.refl (fun _ => False) wx)).trans fx (fun _ _ h => h))
          refine hK1.out _ _ (hS.trans fx (fun _ _ h => h.elim)) (fun hS => ?_)
          clear fx
          clear hK1 K1
          simp only [List.getElem_toArray, List.getElem_cons_zero, List.getElem_cons_succ, Act.put, List.setIfInBounds_toArray, List.set_cons_zero, List.set_cons_succ]
          refine wpAnyH_take (i := 8) (v := ?_) rfl (by kernel_rfl) (by kernel_rfl) (by kernel_rfl) (fun _ _ _ h => h) (Or.inl ⟨by kernel_rfl, ?_⟩) hS ?_
          rotate_left 1
          · (intro w' hS'; clear hS'; go_simp; try with_reducible rfl)
          simp only [List.getElem_toArray, List.getElem_cons_zero, List.getElem_cons_succ, Act.put, List.setIfInBounds_toArray, List.set_cons_zero, List.set_cons_succ]
          refine wpAnyH_ready (rs := [9]) (by kernel_rfl) (by simp) ?_
          refine AllReadyH.cons rfl (fun K1 hK1 => ?_) (AllReadyH.nil)
          go_simp
          refine (KE.out w4 (FX.out.trans F4.out (fun _ _ h => h))).mono ?_
          rintro e w5 ⟨rfl, fx, c2, k1, k2, k3⟩
          have P1 := hid k1
          have P2 := hid k2
          have P3 := hid k3
          have P4 := hid fx
          clear k1 k2 k3
          refine hK1.out _ _ (hS.trans fx (fun _ _ h => h)) (fun hS => ?_)
          clear fx
          clear hK1 K1
          simp only [List.getElem_toArray, List.getElem_cons_zero, List.getElem_cons_succ, Act.put, List.setIfInBounds_toArray, List.set_cons_zero, List.set_cons_succ]
          refine wpAnyH_done (by kernel_rfl) ?_ _
          clear hS
          have hjs : T.jstep u ((z1, ⟨z2, z3, z4⟩), (za, zc)) = A.put z1 ⟨z2, z3, x.ats⟩ u := by
            unfold T.jstep
            dsimp only
            rw [if_pos h2, HXU.out]
            rfl
          have HREL := hid (show ∃ c' v, T.Jn c w bud p dos last t mb f zs (k + 1) w5 c' v from ⟨c2, _, (HJ.out.idle (FX.out.trans F4.out (fun _ _ h => h))).step HD.out HZ.out HST.out (by rw [HX.out]; rfl) P1.out P2.out (by rw [hjs]; exact P3.out) P4.out⟩)
          clear hjs
          go_wp2
          go_roundw
          case rel => exact ⟨k + 1, by first | go_num | rfl | trivial, HREL⟩
          case measure => simp [intOf]; omega
        · have hjs : T.jstep u ((z1, ⟨z2, z3, z4⟩), (za, zc)) = u := if_neg h2
          have HREL := hid (show ∃ c' v, T.Jn c w bud p dos last t mb f zs (k + 1) wx c' v from ⟨c1, u, by
            have h3 := (HJ.out.idle FX.out).step HD.out HZ.out HST.out (by rw [HX.out]; rfl) (w' := wx) (c' := c1) (fun _ _ => rfl) (HJ.out.idle FX.out).lo (by
              rw [hjs]
              exact (HJ.out.idle FX.out).tf.ext (by omega)) (Fr.refl _ _)
            rw [hjs] at h3
            exact h3⟩)
          clear hjs
          go_wp2
          go_roundw
          case rel => exact ⟨k + 1, by first | go_num | rfl | trivial, HREL⟩
          case measure => simp [intOf]; omega
    · obtain rfl : k = n := by have := hJ.le; rw [HN.out] at this; omega
      have hall : zs.all (T.standZ t) = true := by
        have h1 := hJ.good
        rw [List.take_of_length_le (by rw [HN.out]; exact Nat.le_refl _)] at h1
        exact h1
      have heq : u = T.joined t zs := by
        have h1 := hJ.eq
        rw [List.take_of_length_le (by rw [HN.out]; exact Nat.le_refl _)] at h1
        exact h1
      have HRT := hid hall
      have HF := hid hJ
      rw [heq] at HF
      clear hall heq hJ hlt
      go_wp2
      go_ret
      exact ⟨ret_bool HRT.out.symm, HF.out.fr, fun _ => ⟨c1, HF.out.more, HF.out.lo, HF.out.tf⟩⟩
end Go.Proofs.YtilbdpnioajkoaaGreat

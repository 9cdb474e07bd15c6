/-
  Nodes that stand nowhere yet, one more laid in a tree (or in another's place).
  rises, of nodes told.
  What gather has between its rounds.
  mayStand.
-/
import Derived.Test.YtilbdpnioajkoaaGreatMg16
import Derived.Test.YtilbdpnioajkoaaGreatMg23
import Derived.Test.YtilbdpnioajkoaaGreatMg32
import Derived.Test.YtilbdpnioajkoaaGreatTNodesQ
import Derived.Test.YtilbdpnioajkoaaGreatMg12
import Derived.Test.YtilbdpnioajkoaaGreatMg6
import Derived.Test.YtilbdpnioajkoaaGreatMg4
namespace Go.Proofs.YtilbdpnioajkoaaGreat
open Go.RowKit Go.Maps
set_option linter.unusedVariables false
set_option linter.unusedSimpArgs false
set_option maxRecDepth 100000
/-- a key behind all others comes last -/
theorem T.aset_end {k v : ByteArray} (hv : v.toList.isEmpty = false) {l : T.At} (h : ∀ p ∈ l, T.blt p.1 k = true) : T.aset k v l = l ++ [(k, v)] := by
  unfold T.aset
  rw [hv, if_neg (by simp)]
  have hd : T.adel k l = l := by
    unfold T.adel
    refine List.filter_eq_self.2 (fun p hp => ?_)
    have h1 := h p hp
    have : p.1 ≠ k := fun e => by rw [e, T.blt_irrefl] at h1; cases h1
    simp [this]
  rw [hd]
  clear hd
  induction l with
  | nil => rfl
  | cons y r ih =>
    have h1 := h y List.mem_cons_self
    have h2 : ¬ T.blt k y.1 = true := fun e => by
      have := T.blt_trans e h1
      rw [T.blt_irrefl] at this
      cases this
    show (if T.blt k y.1 = true then _ else y :: T.ains (k, v) r) = _
    rw [if_neg h2, ih (fun p hp => h p (List.mem_cons_of_mem _ hp))]
    rfl
/-- no node stands anywhere -/
def T.Bare (t : T.Tr) : Prop := ∀ m x, A.get m t = some x → x.par = 0
theorem T.Bare.kids {t : T.Tr} (ht : A.Up t) (h : T.Bare t) {n : Int} (hn : n ≠ 0) (s : ByteArray) : T.kids t n s = [] := by
  unfold T.kids
  rw [List.map_eq_nil_iff, List.filter_eq_nil_iff]
  rintro ⟨m, x⟩ hm
  have h1 := h m x (A.get_of_mem ht hm)
  have h2 : (x.par == n) = false := by rw [h1]; simp; omega
  simp [h2]
theorem T.Bare.put {t : T.Tr} (ht : A.Up t) (h : T.Bare t) (n : Int) {x : T.Nd} (hx : x.par = 0) : T.Bare (A.put n x t) := fun m y hy => by
  by_cases e : m = n
  · subst e
    rw [A.get_put_same ht] at hy
    cases hy
    exact hx
  · rw [A.get_put_other ht e] at hy
    exact h m y hy
theorem Tf.laid {c : Nat → Option T.Col} {w w' : World} {bud p : Nat} {dos last : Int} {t : T.Tr} {mb : Nat} {f : Int → Nat} (h : Tf c w bud p dos last t mb f) (ht : A.Up t) (h0 : A.get 0 t = none) (hB : T.Bare t) {n : Int} (hn0 : n ≠ 0) {b : Nat} {x : T.Nd} (hx : x.par = 0) (hN : Nm c w bud b n x (fun _ => []))
    (hf : Fr (fun i => i = mb) w w') (hm : Mp 2 litI w' mb (at_ (fun k => (A.get k t).map (fun _ => ptr (f k))) n (some (ptr b))) (if ((A.get n t).map (fun _ => ptr (f n))).isSome then t.length else t.length + 1)) :
    Tf c w' (bud + 1) p dos last (A.put n x t) mb (fun k => if k = n then b else f k) := by
  have hpm : p ≠ mb := fun e => by have := h.cp; rw [e, h.cm] at this; cases this
  have hB2 := hB.put ht n hx
  have ht2 := ht.put n x
  refine ⟨hf.cells h.cells hpm, h.cp, h.cm, ?_, ?_, fun k z hz => ?_⟩
  · have e : (fun k => (A.get k (A.put n x t)).map (fun _ => ptr (if k = n then b else f k))) = at_ (fun k => (A.get k t).map (fun _ => ptr (f k))) n (some (ptr b)) := by
      funext k
      unfold at_
      by_cases e : k = n
      · subst e
        rw [A.get_put_same ht, if_pos rfl, if_pos rfl]
        rfl
      · rw [A.get_put_other ht e, if_neg e, if_neg e]
    rw [e]
    cases hg : A.get n t with
    | some y =>
      rw [hg] at hm
      rw [A.length_put_same ht hg]
      exact hm
    | none =>
      rw [hg] at hm
      rw [A.length_put_new hg]
      exact hm
  · have := A.length_put_le n x t
    have := h.few
    omega
  · have hk0 : k ≠ 0 := fun e => by
      rw [e, A.get_put_other ht (Ne.symm hn0), h0] at hz
      cases hz
    have hmb : ∀ i col, c i = some col → col.own = some k → ¬ i = mb := fun i col e1 e2 e3 => by
      rw [e3, h.cm] at e1
      cases e1
      cases e2
    by_cases e : k = n
    · subst e
      rw [A.get_put_same ht] at hz
      cases hz
      simp only [if_pos]
      refine ((hN.kept hf hmb).ext (fun _ _ h => h) (Nat.le_succ _)).kids (fun s => hB2.kids ht2 hn0 s)
    · rw [A.get_put_other ht e] at hz
      simp only [if_neg e]
      refine (((h.node k z hz).kept hf hmb).ext (fun _ _ h => h) (Nat.le_succ _)).kids (fun s => ?_)
      rw [hB2.kids ht2 hk0, hB.kids ht hk0]
end Go.Proofs.YtilbdpnioajkoaaGreat

namespace Go.Proofs.YtilbdpnioajkoaaGreat
open Go.RowKit Go.Maps
set_option linter.unusedVariables false
set_option linter.unusedSimpArgs false
set_option maxRecDepth 100000
attribute [local go_sem] Oper.semAt_some
set_option maxHeartbeats 1600000 in
theorem belN_any (x y : T.Tn) (w : World) : Calls Tryz.prog 78 #[T.aggN x, T.aggN y] w fun e w' => e = .returned (.bool (decide (x.1.1 < y.1.1))) ∧ Fr (fun _ => False) w w' := by
  obtain ⟨⟨n1, ⟨p1, s1, l1⟩⟩, ⟨a1, c1⟩⟩ := x
  obtain ⟨⟨n2, ⟨p2, s2, l2⟩⟩, ⟨a2, c2⟩⟩ := y
  obtain ⟨m1, hm1⟩ : ∃ m, l1.length = m := ⟨_, rfl⟩
  obtain ⟨m2, hm2⟩ : ∃ m, l2.length = m := ⟨_, rfl⟩
  dsimp only [T.aggN]
  rw [hm1, hm2]
  clear hm1 hm2
  go_enter Tryz.func78, Tryz.ntmps78
  go_wp2
  go_ret
  exact ⟨rfl, (Fr.alloc (Fr.alloc (Fr.refl _ _) _) _)⟩
set_option maxHeartbeats 4000000 in
theorem risesN_any {w : World} {I : Nat → Prop} {ra : Option Addr} {rc : Nat} {l : List T.Tn} (hR : Rw I w 4 ra l.length (T.flatN l)) (hb : l.length ≤ 5000000000000) :
    Calls Tryz.prog 77 #[.slice ra l.length rc, .func (.func 78) #[] #[]] w fun e w' => e = .returned (.bool (T.asc (fun a b => decide (a.1.1 < b.1.1)) l)) ∧ Fr (fun _ => False) w w' := by
  obtain ⟨n, hn⟩ : ∃ n, l.length = n := ⟨_, rfl⟩
  have HN := hid hn
  have HR := hid hR
  rw [hn] at hb ⊢
  clear hn hR
  have KB := hid belN_any
  go_enter Tryz.func77, Tryz.ntmps77
  go_wp2
  go_loopw [5] (fun i wr => ∃ k : Nat, i = .int .i64 k ∧ Hid (1 ≤ k ∧ (k ≤ n ∨ k = 1) ∧ (∀ j a b, j + 1 < k → l[j]? = some a → l[j + 1]? = some b → decide (a.1.1 < b.1.1) = true) ∧ Fr (fun _ => False) w wr))
    (fun i _ => (n - intOf i).toNat)
  case atStart => exact ⟨1, rfl, hid ⟨Nat.le_refl _, .inr rfl, fun j a b h _ _ => by omega, Fr.refl _ _⟩⟩
  case round =>
    obtain ⟨k, rfl, hall⟩ := hrel
    by_cases hlt : k < n
    · obtain ⟨q, rfl⟩ : ∃ q, k = q + 1 := ⟨k - 1, by have := hall.out.1; omega⟩
      obtain ⟨x, hx1⟩ : ∃ z, l[q]? = some z := ⟨_, List.getElem?_eq_getElem (by rw [HN.out]; omega)⟩
      obtain ⟨y, hy1⟩ : ∃ z, l[q + 1]? = some z := ⟨_, List.getElem?_eq_getElem (by rw [HN.out]; omega)⟩
      have hRr := HR.out.kept hall.out.2.2.2 (fun _ _ h => h)
      obtain ⟨g1, o1, rfl, _, a0, a1, a2, a3⟩ := T.flatN_cells hRr hx1
      obtain ⟨g2, o2, he, _, b0, b1, b2, b3⟩ := T.flatN_cells hRr hy1
      cases he
      have i0 : (0 : Int) ≤ (q : Int) := by omega
      have i1 : (q : Int) < (n : Int) := by omega
      have i2 : (0 : Int) ≤ (q : Int) + 1 := by omega
      have i3 : (q : Int) + 1 < (n : Int) := by omega
      obtain ⟨⟨x1, ⟨p1, s1, l1⟩⟩, ⟨xa, xc⟩⟩ := x
      obtain ⟨⟨y1, ⟨p2, s2, l2⟩⟩, ⟨ya, yc⟩⟩ := y
      dsimp only at a0 a1 a2 a3 b0 b1 b2 b3
      have HX := hid hx1
      have HY := hid hy1
      have e1 : ((q + 1 : Nat) : Int) - 1 = (q : Int) := by omega
      clear hx1 hy1 hRr
      have HC := hid (show ∀ V, Fr (fun _ => False) wr V → (V.cell? ⟨g1, o1 + q * 4, none⟩ = some (.int .i64 x1) ∧ V.cell? ⟨g1, o1 + q * 4 + 1, none⟩ = some (.int .i64 p1) ∧ V.cell? ⟨g1, o1 + q * 4 + 2, none⟩ = some (.string s1) ∧ V.cell? ⟨g1, o1 + q * 4 + 3, none⟩ = some (.slice xa l1.length xc)) ∧ V.cell? ⟨g1, o1 + (q + 1) * 4, none⟩ = some (.int .i64 y1) ∧ V.cell? ⟨g1, o1 + (q + 1) * 4 + 1, none⟩ = some (.int .i64 p2) ∧ V.cell? ⟨g1, o1 + (q + 1) * 4 + 2, none⟩ = some (.string s2) ∧ V.cell? ⟨g1, o1 + (q + 1) * 4 + 3, none⟩ = some (.slice ya l2.length yc) from fun V hf => ⟨⟨cellFr hf (fun h => h) a0, cellFr hf (fun h => h) a1, cellFr hf (fun h => h) a2, cellFr hf (fun h => h) a3⟩, cellFr hf (fun h => h) b0, cellFr hf (fun h => h) b1, cellFr hf (fun h => h) b2, cellFr hf (fun h => h) b3⟩)
      have HALL := hid hall.out
      have HWQ := hid (show IntKind.i64.wrap (q : Int) = (q : Int) from by rw [IntKind.wrap_i64]; omega)
      clear hall
      go_wp2_with fail
      have hmx : Tryz.prog.follows .mixedOrders = true := by kernel_rfl
      refine wp_region_held (S := fun V => Fr (fun _ => False) wr V) hmx ?_
      have hS := (Fr.drew (Fr.refl (fun _ => False) wr))
      simp only [List.size_toArray, List.length_cons, List.length_nil, Nat.reduceAdd, Array.replicate_succ, Array.replicate_zero, List.push_toArray, List.nil_append, List.cons_append]
      refine wpAnyH_take (i := 0) (v := ?_) rfl (by kernel_rfl) (by kernel_rfl) (by kernel_rfl) (fun _ _ _ h => h) (Or.inl ⟨by kernel_rfl, ?_⟩) hS ?_
      rotate_left 1
      · (intro w' hS'; clear hS'; go_simp; try with_reducible rfl)
      simp only [List.getElem_toArray, List.getElem_cons_zero, List.getElem_cons_succ, Act.put, List.setIfInBounds_toArray, List.set_cons_zero, List.set_cons_succ]
      refine wpAnyH_take (i := 1) (v := ?_) rfl (by kernel_rfl) (by kernel_rfl) (by kernel_rfl) (fun _ _ _ h => h) (Or.inl ⟨by kernel_rfl, ?_⟩) hS ?_
      rotate_left 1
      · (intro w' hS'; clear hS'; go_simp; try with_reducible rfl)
      simp only [List.getElem_toArray, List.getElem_cons_zero, List.getElem_cons_succ, Act.put, List.setIfInBounds_toArray, List.set_cons_zero, List.set_cons_succ]
      refine wpAnyH_take (i := 2) (v := ?_) rfl (by kernel_rfl) (by kernel_rfl) (by kernel_rfl) (fun _ _ _ h => h) (Or.inl ⟨by kernel_rfl, ?_⟩) hS ?_
      rotate_left 1
      · (intro w' hS'; clear hS'; go_simp; try with_reducible rfl)
      simp only [List.getElem_toArray, List.getElem_cons_zero, List.getElem_cons_succ, Act.put, List.setIfInBounds_toArray, List.set_cons_zero, List.set_cons_succ]
      refine wpAnyH_take (i := 3) (v := .int .i64 (q : Int)) rfl (by kernel_rfl) (by kernel_rfl) (by kernel_rfl) (fun _ _ _ h => h) (Or.inl ⟨by kernel_rfl, fun w' hS' => by clear hS'; go_simp; rw [HWQ.out]⟩) hS ?_
      simp only [List.getElem_toArray, List.getElem_cons_zero, List.getElem_cons_succ, Act.put, List.setIfInBounds_toArray, List.set_cons_zero, List.set_cons_succ]
      refine wpAnyH_take (i := 4) (v := ?_) rfl (by kernel_rfl) (by kernel_rfl) (by kernel_rfl) (fun _ _ _ h => h) (Or.inl ⟨by kernel_rfl, ?_⟩) hS ?_
      rotate_left 1
      · (intro w' hS'; clear hS'; go_simp; try with_reducible rfl)
      simp only [List.getElem_toArray, List.getElem_cons_zero, List.getElem_cons_succ, Act.put, List.setIfInBounds_toArray, List.set_cons_zero, List.set_cons_succ]
      refine wpAnyH_take (i := 5) (v := ?_) rfl (by kernel_rfl) (by kernel_rfl) (by kernel_rfl) (fun _ _ _ h => h) (Or.inl ⟨by kernel_rfl, ?_⟩) hS ?_
      rotate_left 1
      · (intro w' hS'; obtain ⟨⟨h1, h2, h3, h4⟩, _⟩ := HC.out w' hS'; clear hS'; go_simp; try with_reducible rfl)
      simp only [List.getElem_toArray, List.getElem_cons_zero, List.getElem_cons_succ, Act.put, List.setIfInBounds_toArray, List.set_cons_zero, List.set_cons_succ]
      refine wpAnyH_take (i := 6) (v := ?_) rfl (by kernel_rfl) (by kernel_rfl) (by kernel_rfl) (fun _ _ _ h => h) (Or.inl ⟨by kernel_rfl, ?_⟩) hS ?_
      rotate_left 1
      · (intro w' hS'; clear hS'; go_simp; try with_reducible rfl)
      simp only [List.getElem_toArray, List.getElem_cons_zero, List.getElem_cons_succ, Act.put, List.setIfInBounds_toArray, List.set_cons_zero, List.set_cons_succ]
      refine wpAnyH_take (i := 7) (v := ?_) rfl (by kernel_rfl) (by kernel_rfl) (by kernel_rfl) (fun _ _ _ h => h) (Or.inl ⟨by kernel_rfl, ?_⟩) hS ?_
      rotate_left 1
      · (intro w' hS'; clear hS'; go_simp; try with_reducible rfl)
      simp only [List.getElem_toArray, List.getElem_cons_zero, List.getElem_cons_succ, Act.put, List.setIfInBounds_toArray, List.set_cons_zero, List.set_cons_succ]
      refine wpAnyH_take (i := 8) (v := .pointer (some ⟨g1, o1 + (q + 1) * 4, none⟩)) rfl (by kernel_rfl) (by kernel_rfl) (by kernel_rfl) (fun _ _ _ h => h) (Or.inl ⟨by kernel_rfl, fun w' hS' => by clear hS'; go_simp; try rfl⟩) hS ?_
      simp only [List.getElem_toArray, List.getElem_cons_zero, List.getElem_cons_succ, Act.put, List.setIfInBounds_toArray, List.set_cons_zero, List.set_cons_succ]
      refine wpAnyH_take (i := 9) (v := ?_) rfl (by kernel_rfl) (by kernel_rfl) (by kernel_rfl) (fun _ _ _ h => h) (Or.inl ⟨by kernel_rfl, ?_⟩) hS ?_
      rotate_left 1
      · (intro w' hS'; obtain ⟨_, h1, h2, h3, h4⟩ := HC.out w' hS'; clear hS'; go_simp; try with_reducible rfl)
      simp only [List.getElem_toArray, List.getElem_cons_zero, List.getElem_cons_succ, Act.put, List.setIfInBounds_toArray, List.set_cons_zero, List.set_cons_succ]
      refine wpAnyH_ready (rs := [10]) (by kernel_rfl) (by simp) ?_
      refine AllReadyH.cons rfl (fun K1 hK1 => ?_) (AllReadyH.nil)
      go_simp
      refine (KB.out ((x1, ⟨p1, s1, l1⟩), (xa, xc)) ((y1, ⟨p2, s2, l2⟩), (ya, yc)) _).mono ?_
      rintro e w4 ⟨rfl, fx⟩
      have F4 := hid ((Fr.drew (Fr.refl (fun _ => False) wr)).trans fx (fun _ _ h => h))
      refine hK1.out _ _ (hS.trans fx (fun _ _ h => h.elim)) (fun hS => ?_)
      clear fx
      clear hK1 K1
      simp only [List.getElem_toArray, List.getElem_cons_zero, List.getElem_cons_succ, Act.put, List.setIfInBounds_toArray, List.set_cons_zero, List.set_cons_succ]
      refine wpAnyH_take (i := 11) (v := ?_) rfl (by kernel_rfl) (by kernel_rfl) (by kernel_rfl) (fun _ _ _ h => h) (Or.inl ⟨by kernel_rfl, ?_⟩) hS ?_
      rotate_left 1
      · (intro w' hS'; clear hS'; go_simp; try with_reducible rfl)
      simp only [List.getElem_toArray, List.getElem_cons_zero, List.getElem_cons_succ, Act.put, List.setIfInBounds_toArray, List.set_cons_zero, List.set_cons_succ]
      refine wpAnyH_done (by kernel_rfl) ?_ _
      have FW4 := hid (HALL.out.2.2.2.trans hS (fun _ _ h => h))
      clear hS
      cases hbl : decide (x1 < y1) with
      | true =>
        have HREL := hid (show 1 ≤ q + 2 ∧ (q + 2 ≤ n ∨ q + 2 = 1) ∧ (∀ j a b, j + 1 < q + 2 → l[j]? = some a → l[j + 1]? = some b → decide (a.1.1 < b.1.1) = true) ∧ Fr (fun _ => False) w w4 from ⟨by omega, .inl (by omega), fun j a b hj ha hb => by
          by_cases e : j = q
          · subst e
            rw [HX.out] at ha
            rw [HY.out] at hb
            cases ha
            cases hb
            exact hbl
          · exact HALL.out.2.2.1 j a b (by omega) ha hb, FW4.out⟩)
        clear hbl a0 a1 a2 a3 b0 b1 b2 b3
        go_wp2
        go_roundw
        case rel => exact ⟨q + 2, by first | go_num | rfl | trivial, HREL⟩
        case measure => simp [intOf]; omega
      | false =>
        have HRF := hid (show T.asc (fun (a b : T.Tn) => decide (a.1.1 < b.1.1)) l = false from by
          cases h : T.asc (fun (a b : T.Tn) => decide (a.1.1 < b.1.1)) l with
          | false => rfl
          | true =>
            have := T.asc_iff.1 h q _ _ HX.out HY.out
            rw [hbl] at this
            cases this)
        clear hbl a0 a1 a2 a3 b0 b1 b2 b3
        go_wp2
        go_ret
        exact ⟨ret_bool HRF.out.symm, FW4.out⟩
    · have HRT := hid (show T.asc (fun (a b : T.Tn) => decide (a.1.1 < b.1.1)) l = true from T.asc_iff.2 (fun j a b ha hb => hall.out.2.2.1 j a b (by
        have := (List.getElem?_eq_some_iff.1 hb).1
        rw [HN.out] at this
        omega) ha hb))
      have HF := hid hall.out.2.2.2
      have hkn : (n : Int) ≤ (k : Int) := by omega
      have hkn2 : ¬ ((k : Int) < (n : Int)) := by omega
      clear hall hlt
      go_wp2
      go_ret
      exact ⟨ret_bool HRT.out.symm, HF.out⟩
end Go.Proofs.YtilbdpnioajkoaaGreat

namespace Go.Proofs.YtilbdpnioajkoaaGreat
open Go.RowKit Go.Maps
set_option linter.unusedVariables false
set_option linter.unusedSimpArgs false
set_option maxRecDepth 100000
theorem Tf.extc {c c' : Nat → Option T.Col} {w : World} {bud p : Nat} {dos last : Int} {t : T.Tr} {mb : Nat} {f : Int → Nat} (h : Tf c w bud p dos last t mb f) (hc : ∀ i col, c i = some col → c' i = some col) : Tf c' w bud p dos last t mb f :=
  ⟨h.cells, hc _ _ h.cp, hc _ _ h.cm, h.map, h.few, fun n x hx => (h.node n x hx).ext hc (Nat.le_refl _)⟩
def T.gstep (t : T.Tr) (z : T.Tn) : T.Tr := A.put z.1.1 ⟨0, ⟨#[]⟩, z.1.2.ats⟩ t
def T.gathered (t : T.Tr) (zs : List T.Tn) : T.Tr := zs.foldl T.gstep t
theorem T.gathered_snoc (t : T.Tr) (zs : List T.Tn) (z : T.Tn) : T.gathered t (zs ++ [z]) = T.gstep (T.gathered t zs) z := by
  unfold T.gathered
  rw [List.foldl_append]
  rfl
/-- may one be put in? -/
def T.gok (z : T.Tn) : Bool := decide (1 ≤ z.1.1) && (T.txts z.1.2.ats && T.asc (fun a b => T.blt a.1 b.1) z.1.2.ats)
structure T.Gn (c0 : Nat → Option T.Col) (w : World) (bud p : Nat) (dos last : Int) (t : T.Tr) (mb : Nat) (zs : List T.Tn) (k : Nat) (wr : World) (c : Nat → Option T.Col) (u : T.Tr) (f : Int → Nat) : Prop where
  le : k ≤ zs.length
  good : (zs.take k).all T.gok = true
  eq : u = T.gathered t (zs.take k)
  up : A.Up u
  h0 : A.get 0 u = none
  bare : T.Bare u
  more : More c0 c w.heap.size
  lo : Lo c wr.heap.size
  tf : Tf c wr (bud + k) p dos last u mb f
  fr : Fr (fun i => c0 i ≠ none) w wr
theorem T.Gn.idle {c0 : Nat → Option T.Col} {w : World} {bud p : Nat} {dos last : Int} {t : T.Tr} {mb : Nat} {zs : List T.Tn} {k : Nat} {wr : World} {c : Nat → Option T.Col} {u : T.Tr} {f : Int → Nat} (h : T.Gn c0 w bud p dos last t mb zs k wr c u f) {w' : World} (hf : Fr (fun _ => False) wr w') : T.Gn c0 w bud p dos last t mb zs k w' c u f :=
  ⟨h.le, h.good, h.eq, h.up, h.h0, h.bare, h.more, fun i hi => Nat.lt_of_lt_of_le (h.lo i hi) hf.size, h.tf.kept hf (fun _ _ h => h), h.fr.trans hf (fun _ _ h => h.elim)⟩
/-- a node of one's own, being filled: block b, all its blocks from b on -/
def T.Own1 (b bud : Nat) (n : Int) (ats : T.At) (W : World) : Prop := ∃ cN : Nat → Option T.Col, (∀ i, i < b → cN i = none) ∧ Lo cN W.heap.size ∧ Nm cN W bud b n ⟨0, ⟨#[]⟩, ats⟩ (fun _ => [])
theorem T.Own1.idle {b bud : Nat} {n : Int} {ats : T.At} {W W' : World} (h : T.Own1 b bud n ats W) (hf : Fr (fun _ => False) W W') : T.Own1 b bud n ats W' := by
  obtain ⟨cN, h1, h2, h3⟩ := h
  exact ⟨cN, h1, fun i hi => Nat.lt_of_lt_of_le (h2 i hi) hf.size, h3.kept hf (fun _ _ _ _ h => h)⟩
theorem T.Own1.new {b bud : Nat} {n : Int} {W : World} (hb : W.heap[b]? = some (.cells #[.int .i64 0, .string ⟨#[]⟩, .map none, .map none] 80 (0, 0))) : T.Own1 b bud n [] W :=
  ⟨fun i => if i = b then some (.node n) else none, fun i hi => if_neg (by omega), fun i hi => by
    by_cases e : i = b
    · rw [e]; exact lt_of_row hb
    · simp only [if_neg e] at hi; exact absurd rfl hi, Nm.fresh hb (if_pos rfl)⟩
/-- .. and laid in the tree -/
theorem T.Gn.step {c0 : Nat → Option T.Col} {w : World} {bud p : Nat} {dos last : Int} {t : T.Tr} {mb : Nat} {zs : List T.Tn} {k : Nat} {wr : World} {c : Nat → Option T.Col} {u : T.Tr} {f : Int → Nat} (h : T.Gn c0 w bud p dos last t mb zs k wr c u f) {z : T.Tn} (hz : zs[k]? = some z) (hs : T.gok z = true) {b : Nat} {W W' : World} (hb : wr.heap.size ≤ b)
    (hO : T.Own1 b (bud + k) z.1.1 z.1.2.ats W) (hf : Fr (fun _ => False) wr W) (hf2 : Fr (fun i => i = mb) W W') (hm : Mp 2 litI W' mb (at_ (fun k => (A.get k u).map (fun _ => ptr (f k))) z.1.1 (some (ptr b))) (if ((A.get z.1.1 u).map (fun _ => ptr (f z.1.1))).isSome then u.length else u.length + 1)) :
    ∃ c' f', T.Gn c0 w bud p dos last t mb zs (k + 1) W' c' (T.gstep u z) f' := by
  obtain ⟨cN, h1, h2, h3⟩ := hO
  have hk := (List.getElem?_eq_some_iff.1 hz).1
  have hn1 : z.1.1 ≠ 0 := by
    unfold T.gok at hs
    simp at hs
    omega
  have hsz := hf.size
  have hsw := h.fr.size
  have hcb : ∀ i, c i ≠ none → i < b := fun i hi => Nat.lt_of_lt_of_le (h.lo i hi) hb
  have e1 : ∀ i col, c i = some col → (fun i => if i < b then c i else cN i) i = some col := fun i col e => by
    have := hcb i (by rw [e]; simp)
    simp only [if_pos this]
    exact e
  have e2 : ∀ i col, cN i = some col → (fun i => if i < b then c i else cN i) i = some col := fun i col e => by
    have : ¬ i < b := fun hlt => by rw [h1 i hlt] at e; cases e
    simp only [if_neg this]
    exact e
  have htf := Tf.laid ((h.tf.kept hf (fun _ _ h => h)).extc e1) h.up h.h0 h.bare hn1 rfl (h3.ext e2 (Nat.le_refl _)) hf2 hm
  refine ⟨_, _, hk, ?_, ?_, h.up.put _ _, ?_, h.bare.put h.up _ rfl, fun i hi => ?_, fun i hi => ?_, htf, (h.fr.trans hf (fun _ _ h => h.elim)).trans hf2 (fun i hi e => ?_)⟩
  · rw [List.take_add_one, List.all_append, h.good, hz]
    simp [hs]
  · rw [List.take_add_one, hz, h.eq]
    exact (T.gathered_snoc t _ z).symm
  · exact (A.get_put_other h.up (Ne.symm hn1) _).trans h.h0
  · simp only [if_pos (show i < b by omega)]
    exact h.more i hi
  · by_cases e : i < b
    · simp only [if_pos e] at hi
      exact Nat.lt_of_lt_of_le (h.lo i hi) (Nat.le_trans hsz hf2.size)
    · simp only [if_neg e] at hi
      exact Nat.lt_of_lt_of_le (h2 i hi) hf2.size
  · subst e
    rw [← h.more _ hi, h.tf.cm]
    simp
end Go.Proofs.YtilbdpnioajkoaaGreat

namespace Go.Proofs.YtilbdpnioajkoaaGreat
open Go.RowKit Go.Maps
set_option linter.unusedVariables false
set_option linter.unusedSimpArgs false
set_option maxRecDepth 100000
attribute [local go_sem] Oper.semAt_some
/-- may a node stand at a place? -/
def T.stand (t : T.Tr) (n par : Int) (nm : ByteArray) : Bool := if n ≤ 2 then decide (par = 0 ∧ nm = ⟨#[]⟩) else (A.get par t).isSome && T.nam nm
theorem mayStand_any {c : Nat → Option T.Col} {w : World} {bud p : Nat} {dos last : Int} {t : T.Tr} {mb : Nat} {f : Int → Nat} (h : Tf c w bud p dos last t mb f) {n par : Int} (hp : (Lit.int .i64 par).wf = true) {nm : ByteArray} :
    Calls Tryz.prog 82 #[ptr p, .int .i64 n, .agg #[.int .i64 par, .string nm]] w fun e w' => e = .returned (.bool (T.stand t n par nm)) ∧ Fr (fun _ => False) w w' := by
  have KH := hid (fun (W : World) (hf : Fr (fun _ => False) w W) => has_any (h.kept hf (fun _ _ h => h)) hp)
  clear h
  have KN := hid (fun (W : World) => tname_any nm W)
  have F1 := hid (Fr.alloc (Fr.refl (fun _ => False) w) (.cells #[.int .i64 par, .string nm] 76))
  by_cases hn : n ≤ 2
  · have HR := hid (show T.stand t n par nm = decide (par = 0 ∧ nm = ⟨#[]⟩) from if_pos hn)
    by_cases hz : par = 0
    · subst hz
      by_cases hs : nm = ⟨#[]⟩
      · subst hs
        go_enter Tryz.func82, Tryz.ntmps82
        go_wp2
        go_ret
        exact ⟨ret_bool (by rw [HR.out]; rfl), F1.out⟩
      · have hs2 : ¬ nm.toList = [] := fun e => hs (T.ba_ext (by rw [← ByteArray.toList_eq, e]))
        have HRF := hid (show T.stand t n 0 nm = false from by rw [HR.out]; exact decide_eq_false (fun e => hs e.2))
        have hs3 : (nm.toList == (⟨#[]⟩ : ByteArray).toList) = false := by
          cases h : (nm.toList == (⟨#[]⟩ : ByteArray).toList) with
          | false => rfl
          | true => exact absurd ((eq_of_beq h).trans (by rw [ByteArray.toList_eq])) hs2
        go_enter Tryz.func82, Tryz.ntmps82
        go_wp2
        go_ret
        exact ⟨ret_bool HRF.out.symm, F1.out⟩
    · have HRF := hid (show T.stand t n par nm = false from by rw [HR.out]; exact decide_eq_false (fun e => hz e.1))
      go_enter Tryz.func82, Tryz.ntmps82
      go_wp2
      go_ret
      exact ⟨ret_bool HRF.out.symm, F1.out⟩
  · have HR := hid (show T.stand t n par nm = ((A.get par t).isSome && T.nam nm) from if_neg hn)
    cases hg : (A.get par t).isSome with
    | true =>
      rw [hg] at KH HR
      clear hg
      go_enter Tryz.func82, Tryz.ntmps82
      go_wp2_with (first
        | (go_at_call 66; refine (KH.out _ F1.out).mono ?_; rintro e wx ⟨rfl, rfl⟩)
        | (go_at_call 67; refine (KN.out _).mono ?_; rintro e wx ⟨rfl, rfl⟩))
      go_ret
      exact ⟨ret_bool HR.out.symm, F1.out⟩
    | false =>
      rw [hg] at KH HR
      clear hg
      go_enter Tryz.func82, Tryz.ntmps82
      go_wp2_with (first
        | (go_at_call 66; refine (KH.out _ F1.out).mono ?_; rintro e wx ⟨rfl, rfl⟩)
        | (go_at_call 67; refine (KN.out _).mono ?_; rintro e wx ⟨rfl, rfl⟩))
      go_ret
      exact ⟨ret_bool HR.out.symm, F1.out⟩
end Go.Proofs.YtilbdpnioajkoaaGreat

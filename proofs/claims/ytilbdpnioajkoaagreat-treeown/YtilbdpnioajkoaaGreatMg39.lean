/-
  A tree's nodes, gathered and joined, are that tree.
  slices.Backward, of children: gone through from the last one on; marks of ranges over functions that pile up.
  What is gone through below a node.
-/
import Derived.Test.YtilbdpnioajkoaaGreatMg37
import Derived.Test.YtilbdpnioajkoaaGreatTJoinQ
import Derived.Test.YtilbdpnioajkoaaGreatMg12
import Derived.Test.YtilbdpnioajkoaaGreatMg20
import Derived.Test.YtilbdpnioajkoaaGreatTKidsQ
import Derived.Test.YtilbdpnioajkoaaGreatMg5
namespace Go.Proofs.YtilbdpnioajkoaaGreat
open Go.RowKit Go.Maps
set_option linter.unusedVariables false
set_option linter.unusedSimpArgs false
namespace T
theorem gathered_up {t : Tr} (ht : A.Up t) : ∀ zs : List Tn, A.Up (gathered t zs) := fun zs => by
  unfold gathered
  induction zs generalizing t with
  | nil => exact ht
  | cons z r ih => exact ih (ht.put _ _)
/-- what is at a place after all -/
theorem gathered_get {t : Tr} (ht : A.Up t) (m : Int) : ∀ {zs : List Tn}, (zs.map (fun z => z.1.1)).Nodup → (∀ z ∈ zs, z.1.1 = m → A.get m (gathered t zs) = some ⟨0, ⟨#[]⟩, z.1.2.ats⟩) ∧ ((∀ z ∈ zs, z.1.1 ≠ m) → A.get m (gathered t zs) = A.get m t)
  | [], _ => ⟨fun z hz => by simp at hz, fun _ => rfl⟩
  | y :: r, h => by
    rw [List.map_cons, List.nodup_cons] at h
    obtain ⟨h1, h2⟩ := gathered_get (ht.put y.1.1 ⟨0, ⟨#[]⟩, y.1.2.ats⟩) m (zs := r) h.2
    refine ⟨fun z hz e => ?_, fun hn => ?_⟩
    · rcases List.mem_cons.1 hz with rfl | hz
      · have h3 := h2 (fun z' hz' e' => h.1 (List.mem_map.2 ⟨z', hz', e'.trans e.symm⟩))
        refine h3.trans ?_
        rw [← e]
        exact A.get_put_same ht _ _
      · exact h1 z hz e
    · refine (h2 (fun z hz => hn z (List.mem_cons_of_mem _ hz))).trans ?_
      exact A.get_put_other ht (Ne.symm (hn y List.mem_cons_self)) _
theorem jstep_up {t : Tr} (ht : A.Up t) (z : Tn) : A.Up (jstep t z) := by
  unfold jstep
  split
  · exact ht.put _ _
  · exact ht
theorem joined_up {t : Tr} (ht : A.Up t) : ∀ zs : List Tn, A.Up (joined t zs) := fun zs => by
  unfold joined
  induction zs generalizing t with
  | nil => exact ht
  | cons z r ih => exact ih (jstep_up ht z)
theorem joined_get {t : Tr} (ht : A.Up t) (m : Int) : ∀ {zs : List Tn}, (zs.map (fun z => z.1.1)).Nodup → (∀ z ∈ zs, z.1.1 = m → 2 < m → A.get m (joined t zs) = some ⟨z.1.2.par, z.1.2.nm, ((A.get m t).map (·.ats)).getD []⟩) ∧ (((∀ z ∈ zs, z.1.1 ≠ m) ∨ m ≤ 2) → A.get m (joined t zs) = A.get m t)
  | [], _ => ⟨fun z hz => by simp at hz, fun _ => rfl⟩
  | y :: r, h => by
    rw [List.map_cons, List.nodup_cons] at h
    obtain ⟨h1, h2⟩ := joined_get (jstep_up ht y) m (zs := r) h.2
    have hoth : y.1.1 ≠ m ∨ m ≤ 2 → A.get m (jstep t y) = A.get m t := fun hm => by
      unfold jstep
      split
      · rename_i h5
        refine A.get_put_other ht (fun e => ?_) _
        rcases hm with h6 | h6
        · exact h6 e.symm
        · omega
      · rfl
    refine ⟨fun z hz e e2 => ?_, fun hn => ?_⟩
    · rcases List.mem_cons.1 hz with rfl | hz
      · have h3 := h2 (.inl (fun z' hz' e' => h.1 (List.mem_map.2 ⟨z', hz', e'.trans e.symm⟩)))
        refine h3.trans ?_
        unfold jstep
        rw [if_pos (by omega), ← e]
        exact A.get_put_same ht _ _
      · have hy : y.1.1 ≠ m := fun e' => h.1 (List.mem_map.2 ⟨z, hz, e.trans e'.symm⟩)
        have h3 := h1 z hz e e2
        rw [hoth (.inl hy)] at h3
        exact h3
    · refine (h2 ?_).trans (hoth ?_)
      · exact hn.imp (fun h z hz => h z (List.mem_cons_of_mem _ hz)) id
      · exact hn.imp (fun h => h y List.mem_cons_self) id
theorem get_ext_up {t u : Tr} (ht : A.Up t) (hu : A.Up u) (h : ∀ m, A.get m t = A.get m u) : t = u :=
  A.up_ext ht hu (fun p => by
    obtain ⟨m, x⟩ := p
    rw [← A.get_iff ht, ← A.get_iff hu, h])
theorem told_mem {t : Tr} (hw : Wf t) {zs : List Tn} (hz : zs.map Prod.fst = told t) {z : Tn} (h : z ∈ zs) : A.get z.1.1 t = some z.1.2 ∧ tells z.1 = true := by
  have h1 : z.1 ∈ told t := by rw [← hz]; exact List.mem_map.2 ⟨z, h, rfl⟩
  obtain ⟨h2, h3⟩ := List.mem_filter.1 h1
  exact ⟨A.get_of_mem hw.up h2, h3⟩
theorem told_has {t : Tr} {zs : List Tn} (hz : zs.map Prod.fst = told t) {m : Int} {x : Nd} (hx : A.get m t = some x) (ht : tells (m, x) = true) : ∃ z ∈ zs, z.1 = (m, x) := by
  have h1 : (m, x) ∈ told t := List.mem_filter.2 ⟨A.get_mem hx, ht⟩
  rw [← hz] at h1
  obtain ⟨z, h2, h3⟩ := List.mem_map.1 h1
  exact ⟨z, h2, h3⟩
theorem told_lt {t : Tr} (hw : Wf t) {zs : List Tn} (hz : zs.map Prod.fst = told t) : zs.Pairwise (fun a b => a.1.1 < b.1.1) := by
  have h1 : (zs.map Prod.fst).Pairwise (fun p q => p.1 < q.1) := by rw [hz]; exact List.Pairwise.filter _ hw.up
  exact (List.pairwise_map (f := fun (z : Tn) => z.1) (R := fun (p q : Int × Nd) => p.1 < q.1)).1 h1
theorem told_nodup {t : Tr} (hw : Wf t) {zs : List Tn} (hz : zs.map Prod.fst = told t) : (zs.map (fun z => z.1.1)).Nodup :=
  List.pairwise_map.2 ((told_lt hw hz).imp (fun h e => by rw [e] at h; exact Int.lt_irrefl _ h))
theorem zero_up : A.Up zero := by
  unfold A.Up zero
  simp
theorem untold {t : Tr} (hw : Wf t) {m : Int} {x : Nd} (hx : A.get m t = some x) (ht : tells (m, x) = false) : A.get m zero = some zn ∧ x = zn ∧ m ≤ 2 := by
  unfold tells at ht
  simp only [Bool.or_eq_false_iff, decide_eq_false_iff_not, Bool.not_eq_false'] at ht
  have h1 := (hw.num m x hx).1
  have h2 := hw.top m x hx (by omega)
  have h3 : x.ats = [] := by simpa using ht.2
  refine ⟨?_, ?_, by omega⟩
  · have : m = 1 ∨ m = 2 := by omega
    rcases this with rfl | rfl <;> rfl
  · obtain ⟨a, b, c⟩ := x
    simp only at h2 h3
    rw [h2.1, h2.2, h3]
    rfl
/-- of a tree's nodes: each is there, ahead of the joining -/
theorem gath_some {t : Tr} (hw : Wf t) {zs : List Tn} (hz : zs.map Prod.fst = told t) {m : Int} (h : (A.get m t).isSome = true) : (A.get m (gathered zero zs)).isSome = true := by
  obtain ⟨x, hx⟩ := Option.isSome_iff_exists.1 h
  obtain ⟨g1, g2⟩ := gathered_get zero_up m (told_nodup hw hz)
  cases htl : tells (m, x) with
  | true =>
    obtain ⟨z, hzm, e⟩ := told_has hz hx htl
    rw [g1 z hzm (by rw [e])]
    rfl
  | false =>
    rw [g2 (fun z hzm e => ?_), (untold hw hx htl).1]
    · rfl
    · have := told_mem hw hz hzm
      rw [e, hx] at this
      have e2 : z.1 = (m, x) := Prod.ext e (Option.some.inj this.1).symm
      rw [e2, htl] at this
      cases this.2
theorem again {t : Tr} (hw : Wf t) {zs : List Tn} (hz : zs.map Prod.fst = told t) : joined (gathered zero zs) zs = t := by
  have hnd := told_nodup hw hz
  have hgu := gathered_up zero_up zs
  refine get_ext_up (joined_up hgu zs) hw.up (fun m => ?_)
  obtain ⟨g1, g2⟩ := gathered_get zero_up m hnd
  obtain ⟨j1, j2⟩ := joined_get hgu m hnd
  cases hx : A.get m t with
  | some x =>
    cases htl : tells (m, x) with
    | true =>
      obtain ⟨z, hzm, e⟩ := told_has hz hx htl
      have hg := g1 z hzm (by rw [e])
      by_cases h2 : 2 < m
      · rw [j1 z hzm (by rw [e]) h2, hg, e]
        rfl
      · rw [j2 (.inr (by omega)), hg, e]
        have h3 := hw.top m x hx (by omega)
        obtain ⟨a, b, c⟩ := x
        simp only at h3 ⊢
        rw [h3.1, h3.2]
    | false =>
      have hno : ∀ z ∈ zs, z.1.1 ≠ m := fun z hzm e => by
        have := told_mem hw hz hzm
        rw [e, hx] at this
        have e2 : z.1 = (m, x) := Prod.ext e (Option.some.inj this.1).symm
        rw [e2, htl] at this
        cases this.2
      have h3 := untold hw hx htl
      rw [j2 (.inl hno), g2 hno, h3.1, h3.2.1]
  | none =>
    have hno : ∀ z ∈ zs, z.1.1 ≠ m := fun z hzm e => by
      have := (told_mem hw hz hzm).1
      rw [e, hx] at this
      cases this
    rw [j2 (.inl hno), g2 hno]
    have h1 : m ≠ 1 := fun e => by have := hw.one; rw [← e, hx] at this; cases this
    have h2 : m ≠ 2 := fun e => by have := hw.two; rw [← e, hx] at this; cases this
    exact A.get_none.2 (fun p hp => by
      unfold zero at hp
      simp at hp
      rcases hp with rfl | rfl
      · exact Ne.symm h1
      · exact Ne.symm h2)
theorem asc_of {α : Type} {lt : α → α → Bool} {l : List α} (h : l.Pairwise (fun a b => lt a b = true)) : asc lt l = true :=
  asc_iff.2 (fun k a b ha hb => by
    obtain ⟨h1, h2⟩ := List.getElem?_eq_some_iff.1 ha
    obtain ⟨h3, h4⟩ := List.getElem?_eq_some_iff.1 hb
    have := List.pairwise_iff_getElem.1 h k (k + 1) h1 h3 (by omega)
    rw [h2, h4] at this
    exact this)
theorem told_asc {t : Tr} (hw : Wf t) {zs : List Tn} (hz : zs.map Prod.fst = told t) : asc (fun (a b : Tn) => decide (a.1.1 < b.1.1)) zs = true :=
  asc_of ((told_lt hw hz).imp (fun h => decide_eq_true h))
theorem told_gok {t : Tr} (hw : Wf t) {zs : List Tn} (hz : zs.map Prod.fst = told t) : zs.all gok = true := by
  refine List.all_eq_true.2 (fun z hzm => ?_)
  have h1 := (told_mem hw hz hzm).1
  have h2 := hw.ats _ _ h1
  unfold gok
  rw [Bool.and_eq_true, Bool.and_eq_true]
  refine ⟨decide_eq_true (by have := (hw.num _ _ h1).1; omega), List.all_eq_true.2 (fun p hp => by rw [Bool.and_eq_true]; exact h2.2 p hp), asc_of h2.1⟩
theorem told_stand {t : Tr} (hw : Wf t) {zs : List Tn} (hz : zs.map Prod.fst = told t) : zs.all (standZ (gathered zero zs)) = true := by
  refine List.all_eq_true.2 (fun z hzm => ?_)
  have h1 := (told_mem hw hz hzm).1
  unfold standZ stand
  split
  · rename_i h2
    exact decide_eq_true (hw.top _ _ h1 h2)
  · rename_i h2
    have h3 := hw.low _ _ h1 (by omega)
    rw [Bool.and_eq_true]
    exact ⟨gath_some hw hz h3.1, h3.2⟩
theorem told_bare {t : Tr} (hw : Wf t) {zs : List Tn} (hz : zs.map Prod.fst = told t) : ∀ z ∈ zs, ∃ x, A.get z.1.1 (gathered zero zs) = some x ∧ x.par = 0 := fun z hzm =>
  ⟨_, (gathered_get zero_up z.1.1 (told_nodup hw hz)).1 z hzm rfl, rfl⟩
end T
end Go.Proofs.YtilbdpnioajkoaaGreat

namespace Go.Proofs.YtilbdpnioajkoaaGreat
open Go.RowKit Go.Maps
set_option linter.unusedVariables false
set_option linter.unusedSimpArgs false
set_option maxRecDepth 100000
attribute [local go_sem] Oper.semAt_some
theorem bk_fn (a : Option Addr) (n c : Nat) (w : World) : Calls Tryz.prog 108 #[.slice a n c] w fun e w' => e = .returned (.func (.func 133) #[] #[ptr w.heap.size]) ∧ w' = w.alloc (.cells #[.slice a n c] 66) := by
  go_enter Tryz.func108, Tryz.ntmps108
  go_wp2
  go_ret
  exact ⟨rfl, rfl⟩
/-- what is yielded: a place, a child -/
abbrev T.El := Int × T.Ch
abbrev T.encE (x : T.El) : Array Value := #[.int .i64 x.1, .agg #[.string x.2.1, .int .i64 x.2.2]]
theorem T.flatC_cells {w : World} {a : Option Addr} {c : Nat} {xs : List T.Ch} (h : Ro w 70 2 a xs.length c (T.flatC xs)) {k : Nat} {x : T.Ch} (hx : xs[k]? = some x) : ∃ g o, a = some ⟨g, o, none⟩ ∧ w.cell? ⟨g, o + k * 2, none⟩ = some (.string x.1) ∧ w.cell? ⟨g, o + k * 2 + 1, none⟩ = some (.int .i64 x.2) := by
  obtain ⟨g, o, rfl⟩ := h.some_of (by have := (List.getElem?_eq_some_iff.1 hx).1; omega)
  refine ⟨g, o, rfl, h.cell (j := k * 2) ?_, ?_⟩
  · rw [T.flatC_get, show k * 2 / 2 = k by omega, hx, show k * 2 % 2 = 0 by omega]; rfl
  · have := h.cell (j := k * 2 + 1) (u := .int .i64 x.2) (by rw [T.flatC_get, show (k * 2 + 1) / 2 = k by omega, hx, show (k * 2 + 1) % 2 = 1 by omega]; rfl)
    rw [← Nat.add_assoc] at this
    exact this
set_option maxHeartbeats 4000000 in
theorem bk1_in (n : Nat) (hn : 1 ≤ n) (l B rc : Nat) (ra : Option Addr) (xs : List T.Ch) (K : Nat → Prop) (J Jx : List T.El → World → Prop) (W : World)
    (hY : ∀ pre x W0 W1, J pre W0 → Fr (fun _ => False) W0 W1 → pre.map Prod.snd ++ [x.2] <+: xs.reverse → YieldAt Fence.wide (n - 1) Tryz.prog l (T.encE x) W1 fun e W' =>
      (e = .returned (.bool true) ∧ J (pre ++ [x]) W' ∧ Kz (fun i => ¬ K i) W1 W') ∨ (e = .returned (.bool false) ∧ Jx (pre ++ [x]) W'))
    (hB : W.heap[B]? = some (.cells #[.slice ra xs.length rc] 66 (0, 0))) (hKB : K B) (hR : Ro W 70 2 ra xs.length rc (T.flatC xs)) (hKR : ∀ i, blk ra = some i → K i) (hb : xs.length ≤ 5000000000000) (h0 : J [] W) :
    CallsIn Fence.wide n Tryz.prog 133 #[.func (.yield l) #[] #[], ptr B] W fun e W' => (∃ v, e = .returned v) ∧
      ((∃ ys : List T.El, ys.map Prod.snd = xs.reverse ∧ J ys W') ∨ (∃ pre : List T.El, Jx pre W')) := by
  obtain ⟨len, hlen⟩ : ∃ len, xs.length = len := ⟨_, rfl⟩
  have HL := hid hlen
  have HY := hid hY
  have c0 : W.cell? ⟨B, 0, none⟩ = some (.slice ra xs.length rc) := cellA hB rfl
  have HBX := hid hB
  have HR := hid hR
  have HKB := hid hKB
  have HKR := hid hKR
  rw [hlen] at c0 hb
  clear hlen hY hB hR hKB hKR
  refine callsIn_of_wp Tryz.func133 rfl trivial ?_ rfl
  simp only [Tryz.ntmps133, List.size_toArray, List.length_cons, List.length_nil, Nat.reduceAdd, Nat.reduceSub, Array.replicate_succ, Array.replicate_zero, List.push_toArray, List.append_toArray, List.nil_append, List.cons_append]
  gi_wp2
  gi_loopw [3] (fun i wr => ∃ (j : Nat) (pre : List T.El), i = .int .i64 ((j : Int) - 1) ∧ Hid (j ≤ len ∧ J pre wr ∧ pre.map Prod.snd = (xs.drop j).reverse ∧ Kz (fun i => ¬ K i) W wr))
    (fun i _ => (intOf i + 1).toNat)
  case atStart => exact ⟨len, [], rfl, hid ⟨Nat.le_refl _, h0, by rw [List.drop_eq_nil_of_le (by rw [HL.out]; exact Nat.le_refl _)]; rfl, Kc.refl _ _, Nat.le_refl _⟩⟩
  case round =>
    obtain ⟨j, pre, rfl, hall⟩ := hrel
    obtain ⟨hj, hJ, hpre, hkz⟩ := hall.out
    rcases Nat.eq_zero_or_pos j with rfl | hjp
    · have HP := hid (show pre.map Prod.snd = xs.reverse from by rw [hpre, List.drop_zero])
      have HJ := hid hJ
      clear hj hJ hpre hkz hall
      gi_wp2
      go_end0
      exact ⟨⟨_, rfl⟩, .inl ⟨pre, HP.out, HJ.out⟩⟩
    · obtain ⟨q, rfl⟩ : ∃ q, j = q + 1 := ⟨j - 1, by omega⟩
      obtain ⟨x, hx⟩ : ∃ z, xs[q]? = some z := ⟨_, List.getElem?_eq_getElem (by rw [HL.out]; omega)⟩
      have hRr := HR.out.kc hkz.1 (fun i hi hn => hn (HKR.out i hi))
      obtain ⟨g, o, rfl, a0, a1⟩ := T.flatC_cells hRr hx
      have cB : wr.cell? ⟨B, 0, none⟩ = some (.slice (some ⟨g, o, none⟩) len rc) := by
        have := (hkz.1 _ _ _ _ HBX.out (fun hn => hn HKB.out)).trans HBX.out
        rw [HL.out] at this
        exact cellA this rfl
      have hdr : xs.drop q = x :: xs.drop (q + 1) := by
        obtain ⟨h3, rfl⟩ := List.getElem?_eq_some_iff.1 hx
        exact List.drop_eq_getElem_cons h3
      have hmap : pre.map Prod.snd ++ [x] = (xs.drop q).reverse := by rw [hpre, hdr, List.reverse_cons]
      have hpf : pre.map Prod.snd ++ [x] <+: xs.reverse := by
        rw [hmap]
        exact ⟨(xs.take q).reverse, by rw [← List.reverse_append, List.take_append_drop]⟩
      have e1 : ((q + 1 : Nat) : Int) - 1 = (q : Int) := by omega
      rw [e1]
      have i0 : (0 : Int) ≤ (q : Int) := by omega
      have i1 : (q : Int) < (len : Int) := by omega
      obtain ⟨fn, tmps, assign, body, hy, hYR⟩ := HY.out pre ((q : Int), x) wr wr hJ (Fr.refl _ _) hpf
      have HYB := hid hYR
      have HMAP := hid hmap
      have HKZ := hid hkz
      have HQ := hid (show q ≤ len by omega)
      obtain ⟨x1, x2⟩ := x
      clear hj hJ hpre hkz hall hx hRr hdr hmap hpf hYR e1
      gi_wp2
      refine HYB.out.mono ?_
      clear hy
      rintro e w8 (⟨rfl, hJ8, hK8⟩ | ⟨rfl, hJx8⟩)
      · have HREL := hid (show q ≤ len ∧ J (pre ++ [((q : Int), (x1, x2))]) w8 ∧ (pre ++ [((q : Int), (x1, x2))]).map Prod.snd = (xs.drop q).reverse ∧ Kz (fun i => ¬ K i) W w8 from ⟨HQ.out, hJ8, by rw [List.map_append]; exact HMAP.out, HKZ.out.trans hK8⟩)
        clear hJ8 hK8
        gi_wp2
        go_roundw
        case rel => exact ⟨q, _, by first | rfl | go_num | trivial, HREL⟩
        case measure => first | (simp [intOf]; done) | (simp [intOf]; omega)
      · have HJX := hid hJx8
        clear hJx8
        gi_wp2
        refine bodyPost_ret (results_none rfl _ _ _) rfl ?_
        exact ⟨⟨_, rfl⟩, .inr ⟨_, HJX.out⟩⟩
theorem bk1_seq (n : Nat) (hn : 1 ≤ n) (B rc : Nat) (ra : Option Addr) (xs : List T.Ch) (K : Nat → Prop) (w : World) (hB : w.heap[B]? = some (.cells #[.slice ra xs.length rc] 66 (0, 0))) (hKB : K B) (hR : Ro w 70 2 ra xs.length rc (T.flatC xs)) (hKR : ∀ i, blk ra = some i → K i) (hb : xs.length ≤ 5000000000000) :
    SeqV Fence.wide n Tryz.prog 133 #[ptr B] T.encE (fun pre x _ _ => pre.map Prod.snd ++ [x.2] <+: xs.reverse) (Kz (fun i => ¬ K i)) (fun ys => ys.map Prod.snd = xs.reverse) (fun _ => True) w := fun l J Jx W hW hJ _ hY h0 => by
  have hf := Fr.of_below hW
  exact (bk1_in n hn l B rc ra xs K J Jx W (fun pre x W0 W1 h1 h2 h3 => hY pre x W0 W1 h1 h2 h3) (hf.cells hB (fun h => h)) hKB (hR.kept hf (fun _ _ h => h)) hKR hb h0).mono (fun e W' ⟨h1, h2⟩ => ⟨h1, h2.elim .inl (fun ⟨pre, h3⟩ => .inr ⟨pre, trivial, h3⟩)⟩)
/-! ### marks that pile up -/
def T.mark (D : Nat) : Deferred := { target := .collected D, args := #[] }
/-- marks whose blocks hold no call -/
def T.Marks (w : World) (ds : List Nat) : Prop := ds.Nodup ∧ ∀ D ∈ ds, w.heap[D]? = some (.deferred (some []))
theorem leaves_marks {F : Fence} {n : Nat} {P : Program} {fn : Func} {tmps : Array Value} {R : Ending → World → Prop} : ∀ (ds : List Nat) (w : World), T.Marks w ds → (∀ w', Fr (fun i => i ∈ ds) w w' → LeavesIn F n P fn tmps R [] .returning w') → LeavesInM F n P fn tmps R (ds.map T.mark) .returning w
  | [], w, _, h => h w (Fr.refl _ _)
  | D :: ds, w, hm, h => by
    refine ⟨by simp, .inl ⟨D, _, rfl, run_takeDeferred (hm.2 D List.mem_cons_self), ?_⟩⟩
    have hnd := List.nodup_cons.1 hm.1
    have f1 : Fr (fun i => i = D) w (w.putObj D (.deferred none)) := (Fr.of_grown (grownBy_putObj' w D _)).mono (fun i _ e => by simp at e; exact e.symm)
    refine leaves_marks ds _ ⟨hnd.2, fun D' hD' => ?_⟩ (fun w' hf => h w' ((f1.mono (fun i _ e => by rw [e]; exact List.mem_cons_self)).trans hf (fun i _ e => List.mem_cons_of_mem _ e)))
    have hne : D' ≠ D := fun e => by rw [e] at hD'; exact hnd.1 hD'
    exact (World.putObj_heap_other (by first | exact hne | exact hne.symm)).trans (hm.2 D' (List.mem_cons_of_mem _ hD'))
end Go.Proofs.YtilbdpnioajkoaaGreat

namespace Go.Proofs.YtilbdpnioajkoaaGreat
open Go.RowKit Go.Maps
set_option linter.unusedVariables false
set_option linter.unusedSimpArgs false
set_option maxRecDepth 100000
namespace T
/-- how deep, and which node -/
abbrev Sp := Nat × Int
/-- a node and all below it, k deep at most -/
def sub (t : Tr) : Nat → Nat → Int → List Sp
  | 0, _, _ => []
  | k + 1, d, n => (d, n) :: (chs t n).flatMap (fun c => sub t k (d + 1) c.2)
/-- below a node it is less than k deep -/
def deepOk (t : Tr) : Nat → Int → Prop
  | 0, _ => False
  | k + 1, n => ∀ c ∈ chs t n, deepOk t k c.2
theorem deepOk_succ {t : Tr} : ∀ {k : Nat} {n : Int}, deepOk t k n → deepOk t (k + 1) n
  | 0, n, h => h.elim
  | k + 1, n, h => fun c hc => deepOk_succ (h c hc)
theorem sub_succ {t : Tr} : ∀ {k d : Nat} {n : Int}, deepOk t k n → sub t (k + 1) d n = sub t k d n
  | 0, d, n, h => h.elim
  | k + 1, d, n, h => by
    show (d, n) :: (chs t n).flatMap (fun c => sub t (k + 1) (d + 1) c.2) = (d, n) :: (chs t n).flatMap (fun c => sub t k (d + 1) c.2)
    congr 1
    have : ∀ l : List Ch, (∀ c ∈ l, deepOk t k c.2) → l.flatMap (fun c => sub t (k + 1) (d + 1) c.2) = l.flatMap (fun c => sub t k (d + 1) c.2) := fun l => by
      induction l with
      | nil => intro _; rfl
      | cons x r ih =>
        intro hl
        rw [List.flatMap_cons, List.flatMap_cons, sub_succ (hl x List.mem_cons_self), ih (fun c hc => hl c (List.mem_cons_of_mem _ hc))]
    exact this _ h
/-- a node, then those below it, as deep as ever -/
theorem sub_eq {t : Tr} {k d : Nat} {n : Int} (h : deepOk t k n) : sub t k d n = (d, n) :: (chs t n).flatMap (fun c => sub t k (d + 1) c.2) ∧ ∀ c ∈ chs t n, deepOk t k c.2 := by
  cases k with
  | zero => exact h.elim
  | succ k =>
    refine ⟨?_, fun c hc => deepOk_succ (h c hc)⟩
    rw [← sub_succ h]
    rfl
/-- what is still to come of a list of what is to do, the last one first -/
def rest (t : Tr) (k : Nat) (td : List Sp) : List Sp := td.reverse.flatMap (fun s => sub t k s.1 s.2)
theorem rest_push {t : Tr} {k : Nat} (td l : List Sp) : rest t k (td ++ l) = l.reverse.flatMap (fun s => sub t k s.1 s.2) ++ rest t k td := by
  unfold rest
  rw [List.reverse_append, List.flatMap_append]
/-- one is taken, those under it come in its place -/
theorem rest_pop {t : Tr} {k : Nat} {td : List Sp} {s : Sp} (h : deepOk t k s.2) : rest t k (td ++ [s]) = s :: rest t k (td ++ (chs t s.2).reverse.map (fun c => (s.1 + 1, c.2))) := by
  rw [rest_push, rest_push, ← List.map_reverse, List.reverse_reverse, List.flatMap_map]
  have h1 := (sub_eq (d := s.1) h).1
  simp only [List.reverse_singleton, List.flatMap_cons, List.flatMap_nil, List.append_nil]
  rw [h1]
  rfl
theorem rest_len {t : Tr} {k : Nat} {td : List Sp} (h : ∀ s ∈ td, deepOk t k s.2) : td.length ≤ (rest t k td).length := by
  unfold rest
  have h' : ∀ s ∈ td.reverse, deepOk t k s.2 := fun s hs => h s (List.mem_reverse.1 hs)
  have e : td.length = td.reverse.length := by simp
  rw [e]
  generalize td.reverse = l at h'
  induction l with
  | nil => simp
  | cons x r ih =>
    rw [List.flatMap_cons, List.length_append, List.length_cons, (sub_eq (d := x.1) (h' x List.mem_cons_self)).1, List.length_cons]
    have := ih (fun s hs => h' s (List.mem_cons_of_mem _ hs))
    omega
def flatS (l : List Sp) : List Value := (l.map (fun s => [Value.int .i64 s.1, .int .i64 s.2])).flatten
theorem flatS_append (xs ys : List Sp) : flatS (xs ++ ys) = flatS xs ++ flatS ys := by simp [flatS]
theorem flatS_get : ∀ (xs : List Sp) (j : Nat), (flatS xs)[j]? = (xs[j / 2]?).bind (fun x => [Value.int .i64 x.1, .int .i64 x.2][j % 2]?)
  | [], j => by simp [flatS]
  | x :: r, 0 => rfl
  | x :: r, 1 => rfl
  | x :: r, j + 2 => by
    have e : flatS (x :: r) = Value.int .i64 x.1 :: Value.int .i64 x.2 :: flatS r := rfl
    rw [e, List.getElem?_cons_succ, List.getElem?_cons_succ, flatS_get r j, show (j + 2) / 2 = j / 2 + 1 by omega, show (j + 2) % 2 = j % 2 by omega, List.getElem?_cons_succ]
end T
theorem T.infoS1 : (Tryz.prog.info? 154).map (fun i => (i.size, i.bytes)) = some (2, 16) := by kernel_rfl
theorem T.infoS2 : ((Tryz.prog.info? 154).bind (fun i => i.zero)).map (fun z => z.cells.size) = some 2 := by kernel_rfl
theorem T.info_s : ∃ i z, Tryz.prog.info? 154 = some i ∧ i.zero = some z ∧ i.size = 2 ∧ i.bytes = 16 ∧ z.cells.size = 2 := by
  have h1 := T.infoS1
  have h2 := T.infoS2
  cases hi : Tryz.prog.info? 154 with
  | none => rw [hi] at h1; cases h1
  | some i =>
    rw [hi] at h1 h2
    simp only [Option.map_some, Option.some.injEq, Prod.mk.injEq, Option.bind_some] at h1 h2
    cases hz : i.zero with
    | none => rw [hz] at h2; cases h2
    | some z =>
      rw [hz] at h2
      simp only [Option.map_some, Option.some.injEq] at h2
      exact ⟨i, z, rfl, hz, h1.1, h1.2, h2⟩
theorem T.step_append (w : World) (ra : Option Addr) (rc n : Nat) (xs : List Value) (hrow : Ro w 154 2 ra n rc xs) (hb : n ≤ 9000000000000) (d m : Int) :
    ∃ ra' rc' w', (Builtin.append_ #[145, 145] 145 #[.slice ra n rc, .slice (some ⟨w.heap.size, 0, none⟩) 1 1]).run Tryz.prog (w.alloc (.cells #[.int .i64 d, .int .i64 m] 154)) = .ok (.slice ra' (n + 1) rc') w' ∧
      Ro w' 154 2 ra' (n + 1) rc' (xs ++ [.int .i64 d, .int .i64 m]) ∧ (w.alloc (.cells #[.int .i64 d, .int .i64 m] 154)).grownBy w' (blk ra) ∧ (∀ k, blk ra' = some k → blk ra = some k ∨ w.heap.size ≤ k) := by
  obtain ⟨i0, z0, hi, hz0, hz1, hz2, hz3⟩ := T.info_s
  have f0 : Fr (fun _ => False) w (w.alloc (.cells #[.int .i64 d, .int .i64 m] 154)) := Fr.alloc (Fr.refl _ _) _
  have hn := Go.heap_alloc_new w (.cells #[.int .i64 d, .int .i64 m] 154)
  obtain ⟨a', c', w', hr, h2, h3, h4⟩ := run_append_o (P := Tryz.prog) (w.alloc (.cells #[.int .i64 d, .int .i64 m] 154)) 145 145 154 i0 z0 2 16 Tryz.underlying145 hi hz0 hz1 hz2 hz3 (by omega) ra n rc xs (hrow.kept f0 (fun _ _ h => h)) ⟨w.heap.size, 0, none⟩ 1 1 [.int .i64 d, .int .i64 m] rfl (fun j u hu => by
    rw [Addr.add_lit, Nat.zero_add]
    exact cellA hn (by rw [← Array.getElem?_toList]; exact hu)) (fun u hu => by simp at hu; rcases hu with rfl | rfl <;> rfl) (by omega) (by omega) (by omega)
  refine ⟨a', c', w', hr, h2, h3, fun k hk => ?_⟩
  rcases h4 with ⟨rfl, _⟩ | ⟨rfl, _⟩
  · exact .inl hk
  · simp [blk] at hk; exact .inr (by omega)
end Go.Proofs.YtilbdpnioajkoaaGreat

/-
  Walk: what is gone through, told one by one.
  Node: a node as it stands.
  What stands below the root and below the trash is every node, once.
-/
import Derived.Test.YtmgnldangjfohaaGreatTWalkQ
import Derived.Test.YtmgnldangjfohaaGreatTSortedQ
import Derived.Test.YtmgnldangjfohaaGreatMg10
import Derived.Test.YtmgnldangjfohaaGreatMg36
import Derived.Test.YtmgnldangjfohaaGreatTWfQ
namespace Go.Proofs.YtmgnldangjfohaaGreat
open Go.RowKit Go.Maps
set_option linter.unusedVariables false
set_option linter.unusedSimpArgs false
set_option maxRecDepth 100000
attribute [local go_sem] Oper.semAt_some
abbrev T.encS (x : T.Sp) : Array Value := #[.int .i64 x.1, .int .i64 x.2]
theorem T.flatS_cells {w : World} {a : Option Addr} {c : Nat} {xs : List T.Sp} (h : Ro w 126 2 a xs.length c (T.flatS xs)) {k : Nat} {x : T.Sp} (hx : xs[k]? = some x) : ∃ g o, a = some ⟨g, o, none⟩ ∧ w.cell? ⟨g, o + k * 2, none⟩ = some (.int .i64 x.1) ∧ w.cell? ⟨g, o + k * 2 + 1, none⟩ = some (.int .i64 x.2) := by
  obtain ⟨g, o, rfl⟩ := h.some_of (by have := (List.getElem?_eq_some_iff.1 hx).1; omega)
  refine ⟨g, o, rfl, h.cell (j := k * 2) ?_, ?_⟩
  · rw [T.flatS_get, show k * 2 / 2 = k by omega, hx, show k * 2 % 2 = 0 by omega]; rfl
  · have := h.cell (j := k * 2 + 1) (u := .int .i64 x.2) (by rw [T.flatS_get, show (k * 2 + 1) / 2 = k by omega, hx, show (k * 2 + 1) % 2 = 1 by omega]; rfl)
    rw [← Nat.add_assoc] at this
    exact this
set_option maxHeartbeats 4000000 in
theorem wk1_in (n : Nat) (hn : 1 ≤ n) (l B rc : Nat) (ra : Option Addr) (xs : List T.Sp) (K : Nat → Prop) (J Jx : List T.Sp → World → Prop) (W : World)
    (hY : ∀ pre x W0 W1, J pre W0 → Fr (fun _ => False) W0 W1 → pre ++ [x] <+: xs → YieldAt Fence.wide (n - 1) Tryz.prog l (T.encS x) W1 fun e W' =>
      (e = .returned (.bool true) ∧ J (pre ++ [x]) W' ∧ Kz (fun i => ¬ K i) W1 W') ∨ (e = .returned (.bool false) ∧ Jx (pre ++ [x]) W'))
    (hB : W.heap[B]? = some (.cells #[.slice ra xs.length rc] 122 (0, 0))) (hKB : K B) (hR : Ro W 126 2 ra xs.length rc (T.flatS xs)) (hKR : ∀ i, blk ra = some i → K i) (hb : xs.length ≤ 5000000000000) (h0 : J [] W) :
    CallsIn Fence.wide n Tryz.prog 61 #[.func (.yield l) #[] #[], ptr B] W fun e W' => (∃ v, e = .returned v) ∧
      ((∃ ys : List T.Sp, ys = xs ∧ J ys W') ∨ (∃ pre : List T.Sp, Jx pre W')) := by
  obtain ⟨len, hlen⟩ : ∃ len, xs.length = len := ⟨_, rfl⟩
  have HL := hid hlen
  have HY := hid hY
  have c0 : W.cell? ⟨B, 0, none⟩ = some (.slice ra xs.length rc) := cellA hB rfl
  have HR := hid hR
  have HKR := hid hKR
  rw [hlen] at c0 hb
  clear hlen hY hB hR hKB hKR
  refine callsIn_of_wp Tryz.func61 rfl trivial ?_ rfl
  simp only [Tryz.ntmps61, List.size_toArray, List.length_cons, List.length_nil, Nat.reduceAdd, Nat.reduceSub, Array.replicate_succ, Array.replicate_zero, List.push_toArray, List.append_toArray, List.nil_append, List.cons_append]
  gi_wp2
  gi_loopw [7] (fun i wr => ∃ (j : Nat), i = .int .i64 (j : Int) ∧ Hid (j ≤ len ∧ J (xs.take j) wr ∧ Kz (fun i => ¬ K i) W wr))
    (fun i _ => (len - intOf i).toNat)
  case atStart => exact ⟨0, rfl, hid ⟨Nat.zero_le _, by rw [List.take_zero]; exact h0, Kc.refl _ _, Nat.le_refl _⟩⟩
  case round =>
    obtain ⟨j, rfl, hall⟩ := hrel
    obtain ⟨hj, hJ, hkz⟩ := hall.out
    by_cases hlt : j < len
    · obtain ⟨x, hx⟩ : ∃ z, xs[j]? = some z := ⟨_, List.getElem?_eq_getElem (by rw [HL.out]; omega)⟩
      have hRr := HR.out.kc hkz.1 (fun i hi hn => hn (HKR.out i hi))
      obtain ⟨g, o, rfl, a0, a1⟩ := T.flatS_cells hRr hx
      have hmap : xs.take (j + 1) = xs.take j ++ [x] := by rw [List.take_add_one, hx]; rfl
      have hpf : xs.take j ++ [x] <+: xs := by rw [← hmap]; exact List.take_prefix _ _
      have i0 : (0 : Int) ≤ (j : Int) := by omega
      have i1 : (j : Int) < (len : Int) := by omega
      obtain ⟨V, hV⟩ : ∃ V, wr.alloc (.cells #[.int .i64 x.1, .int .i64 x.2] 126) = V := ⟨_, rfl⟩
      have fV : Fr (fun _ => False) wr V := by rw [← hV]; exact Fr.alloc (Fr.refl _ _) _
      obtain ⟨fn, tmps, assign, body, hy, hYR⟩ := HY.out (xs.take j) x wr V hJ fV hpf
      have HYB := hid hYR
      have HMAP := hid hmap
      have HKZ := hid (hkz.trans (Kz.of_fr fV))
      have HV := hid hV
      have HQ := hid hj
      have bV : V.heap[wr.heap.size]? = some (.cells #[.int .i64 x.1, .int .i64 x.2] 126 (0, 0)) := by rw [← hV]; exact Go.heap_alloc_new wr _
      have d0 : V.cell? ⟨wr.heap.size, 0, none⟩ = some (.int .i64 x.1) := cellA (j := 0) bV rfl
      have d1 : V.cell? ⟨wr.heap.size, 1, none⟩ = some (.int .i64 x.2) := cellA (j := 1) bV rfl
      obtain ⟨x1, x2⟩ := x
      clear hj hJ hkz hall hx hRr hmap hpf hYR fV hV bV
      gi_upto_region 3 with fail
      rw [HV.out]
      gi_wp2
      refine HYB.out.mono ?_
      clear hy
      rintro e w8 (⟨rfl, hJ8, hK8⟩ | ⟨rfl, hJx8⟩)
      · have HREL := hid (show j + 1 ≤ len ∧ J (xs.take (j + 1)) w8 ∧ Kz (fun i => ¬ K i) W w8 from ⟨hlt, by rw [HMAP.out]; exact hJ8, HKZ.out.trans hK8⟩)
        clear hJ8 hK8
        gi_wp2
        go_roundw
        case rel => exact ⟨j + 1, by first | rfl | go_num | trivial, HREL⟩
        case measure => first | (simp [intOf]; done) | (simp [intOf]; omega)
      · have HJX := hid hJx8
        clear hJx8
        gi_wp2
        refine bodyPost_ret (results_none rfl _ _ _) rfl ?_
        exact ⟨⟨_, rfl⟩, .inr ⟨_, HJX.out⟩⟩
    · have hje : j = len := by omega
      subst hje
      have HJ := hid (show J xs wr from by rw [← List.take_length (l := xs), HL.out]; exact hJ)
      clear hj hJ hkz hall hlt
      gi_wp2
      go_end0
      exact ⟨⟨_, rfl⟩, .inl ⟨xs, rfl, HJ.out⟩⟩
theorem wk1_seq (n : Nat) (hn : 1 ≤ n) (B rc : Nat) (ra : Option Addr) (xs : List T.Sp) (K : Nat → Prop) (w : World) (hB : w.heap[B]? = some (.cells #[.slice ra xs.length rc] 122 (0, 0))) (hKB : K B) (hR : Ro w 126 2 ra xs.length rc (T.flatS xs)) (hKR : ∀ i, blk ra = some i → K i) (hb : xs.length ≤ 5000000000000) :
    SeqV Fence.wide n Tryz.prog 61 #[ptr B] T.encS (fun pre x _ _ => pre ++ [x] <+: xs) (Kz (fun i => ¬ K i)) (fun ys => ys = xs) (fun _ => True) w := fun l J Jx W hW hJ _ hY h0 => by
  have hf := Fr.of_below hW
  exact (wk1_in n hn l B rc ra xs K J Jx W (fun pre x W0 W1 h1 h2 h3 => hY pre x W0 W1 h1 h2 h3) (hf.cells hB (fun h => h)) hKB (hR.kept hf (fun _ _ h => h)) hKR hb h0).mono (fun e W' ⟨h1, h2⟩ => ⟨h1, h2.elim .inl (fun ⟨pre, h3⟩ => .inr ⟨pre, trivial, h3⟩)⟩)
set_option maxHeartbeats 4000000 in
theorem walkit_any {c : Nat → Option T.Col} {w : World} {bud p : Nat} {dos last : Int} {t : T.Tr} {mb : Nat} {f : Int → Nat} (h : Tf c w bud p dos last t mb f) (hu : A.Up t) (hb : bud ≤ 8000000000000) (hlen : t.length ≤ 5000000000000) (hnm : ∀ k y, A.get k t = some y → y.nm.size ≤ maxLen) (hnum : ∀ k y, A.get k t = some y → (Lit.int .i64 k).wf = true) {n : Int} {x : T.Nd} (hx : A.get n t = some x) {K : Nat} (hK : T.deepOk t K n) (hB : (T.sub t K 0 n).length ≤ 5000000000000) :
    Calls Tryz.prog 23 #[ptr p, .int .i64 n] w fun e w' => ∃ B a cp, e = .returned (.func (.func 61) #[] #[ptr B]) ∧ w'.heap[B]? = some (.cells #[.slice a (T.sub t K 0 n).length cp] 122 (0, 0)) ∧ Ro w' 126 2 a (T.sub t K 0 n).length cp (T.flatS (T.sub t K 0 n)) ∧ w.heap.size ≤ B ∧ (∀ k, blk a = some k → w.heap.size ≤ k) ∧ Fr (fun _ => False) w w' := by
  have KW := hid (walk_any h hu hb hlen hnm hnum hx hK hB)
  clear h hu hb hlen hnm hnum hx hB
  go_enter Tryz.func23, Tryz.ntmps23
  go_wp2_with fail
  refine KW.out.mono ?_
  rintro e w1 ⟨a, cp, rfl, hr, hn, hf⟩
  have HR := hid hr
  have HN := hid hn
  have F1 := hid hf
  clear hr hn hf
  dsimp only
  go_wp2
  go_ret
  exact ⟨_, a, cp, rfl, Go.heap_alloc_new _ _, HR.out.kept (Fr.alloc (Fr.refl (fun _ => False) _) _) (fun _ _ h => h), F1.out.size, HN.out, F1.out.trans (Fr.alloc (Fr.refl _ _) _) (fun _ _ h => h)⟩
end Go.Proofs.YtmgnldangjfohaaGreat

namespace Go.Proofs.YtmgnldangjfohaaGreat
open Go.RowKit Go.Maps
set_option linter.unusedVariables false
set_option linter.unusedSimpArgs false
set_option maxRecDepth 100000
attribute [local go_sem] Oper.semAt_some
theorem node_any {c : Nat → Option T.Col} {w : World} {bud p : Nat} {dos last : Int} {t : T.Tr} {mb : Nat} {f : Int → Nat} (h : Tf c w bud p dos last t mb f) {n : Int} (hn : (Lit.int .i64 n).wf = true) {x : T.Nd} (hx : A.get n t = some x) (hA : T.Ak x.ats) (hb : x.ats.length ≤ 5000000000000) :
    Calls Tryz.prog 24 #[ptr p, .int .i64 n] w fun e w' => ∃ a cp, e = .returned (.tuple #[T.tn n x a cp, .bool true]) ∧ Rw (fun g => w.heap.size ≤ g ∧ g < w'.heap.size) w' 2 a x.ats.length (T.flatA x.ats) ∧ Fr (fun _ => False) w w' := by
  obtain ⟨W, hW⟩ : ∃ W, w.alloc (.cells #[.int .i64 0, .int .i64 0, .string ⟨#[]⟩, .slice none 0 0] 68) = W := ⟨_, rfl⟩
  have fW : Fr (fun _ => False) w W := by rw [← hW]; exact Fr.alloc (Fr.refl _ _) _
  have KA := hid (at_any (h.kept fW (fun _ _ h => h)) hn)
  rw [T.loc_some hx] at KA
  have KT := hid (tell_any (n := n) ((h.kept fW (fun _ _ h => h)).node n x hx) hA hb)
  have FW := hid fW
  have HBX := hid (show W.heap[w.heap.size]? = some (.cells #[.int .i64 0, .int .i64 0, .string ⟨#[]⟩, .slice none 0 0] 68 (0, 0)) by rw [← hW]; exact Go.heap_alloc_new w _)
  have HW := hid hW
  clear h hn hx hA hb fW hW
  go_enter Tryz.func24, Tryz.ntmps24
  go_wp2_with fail
  rw [HW.out]
  refine KA.out.mono ?_
  rintro e wx ⟨rfl, rfl⟩
  dsimp only
  go_wp2_with fail
  refine KT.out.mono ?_
  rintro e w1 ⟨a, cp, rfl, hr, hf⟩
  obtain ⟨w6, st, hb6, f6⟩ := box_whole (V := w1) (b := w.heap.size) (ty := 68) (c := #[.int .i64 n, .int .i64 x.par, .string x.nm, .slice a x.ats.length cp]) (hf.cells HBX.out (fun h => h)) rfl (by kernel_rfl) (by simp [Value.oneCell'])
  have LR := hid (loadVar_whole hb6 (ty := 68) Tryz.underlying68 rfl (by kernel_rfl))
  have HR := hid ((hr.kept f6 (fun i hi e => by have h1 := hi.1; have h2 := lt_of_row HBX.out; omega)).mono (J := fun g => w.heap.size ≤ g ∧ g < w6.heap.size) (fun i hi => ⟨Nat.le_trans FW.out.size hi.1, Nat.lt_of_lt_of_le hi.2 f6.size⟩))
  have HF := hid ((FW.out.trans hf (fun _ _ h => h)).trans f6 (fun i hi e => by omega))
  have ST := hid st
  clear hr hf st hb6 f6
  dsimp only
  go_wp2_with (refine wpList_store_v ST.out (by exact ⟨_, _, rfl, rfl, rfl⟩) (by kernel_rfl) ?_)
  refine bodyPost_ret (v := .tuple #[T.tn n x a cp, .bool true]) (results_cell2 Tryz.results24 _ _ _ _ _ _ (by rfl) LR.out (by rfl)) rfl ⟨a, cp, rfl, HR.out, HF.out⟩
theorem node_no {c : Nat → Option T.Col} {w : World} {bud p : Nat} {dos last : Int} {t : T.Tr} {mb : Nat} {f : Int → Nat} (h : Tf c w bud p dos last t mb f) {n : Int} (hn : (Lit.int .i64 n).wf = true) (hx : A.get n t = none) :
    Calls Tryz.prog 24 #[ptr p, .int .i64 n] w fun e w' => e = .returned (.tuple #[.agg #[.int .i64 0, .int .i64 0, .string ⟨#[]⟩, .slice none 0 0], .bool false]) ∧ Fr (fun _ => False) w w' := by
  obtain ⟨W, hW⟩ : ∃ W, w.alloc (.cells #[.int .i64 0, .int .i64 0, .string ⟨#[]⟩, .slice none 0 0] 68) = W := ⟨_, rfl⟩
  have fW : Fr (fun _ => False) w W := by rw [← hW]; exact Fr.alloc (Fr.refl _ _) _
  have KA := hid (at_any (h.kept fW (fun _ _ h => h)) hn)
  rw [T.loc_none hx] at KA
  have FW := hid fW
  obtain ⟨w6, st, hb6, f6⟩ := box_whole (V := W) (b := w.heap.size) (ty := 68) (c := #[.int .i64 0, .int .i64 0, .string ⟨#[]⟩, .slice none 0 0]) (show W.heap[w.heap.size]? = some (.cells #[.int .i64 0, .int .i64 0, .string ⟨#[]⟩, .slice none 0 0] 68 (0, 0)) by rw [← hW]; exact Go.heap_alloc_new w _) rfl (by kernel_rfl) (by simp [Value.oneCell'])
  have LR := hid (loadVar_whole hb6 (ty := 68) Tryz.underlying68 rfl (by kernel_rfl))
  have ST := hid st
  have F6 := hid (fW.trans f6 (fun i hi e => by omega))
  clear st hb6 f6
  have HW := hid hW
  clear h hn hx fW hW
  go_enter Tryz.func24, Tryz.ntmps24
  go_wp2_with fail
  rw [HW.out]
  refine KA.out.mono ?_
  rintro e wx ⟨rfl, rfl⟩
  dsimp only
  go_wp2_with (refine wpList_store_v ST.out (by exact ⟨_, _, rfl, rfl, rfl⟩) (by kernel_rfl) ?_)
  refine bodyPost_ret (v := .tuple #[.agg #[.int .i64 0, .int .i64 0, .string ⟨#[]⟩, .slice none 0 0], .bool false]) (results_cell2 Tryz.results24 _ _ _ _ _ _ (by rfl) LR.out (by rfl)) rfl ⟨rfl, F6.out⟩
end Go.Proofs.YtmgnldangjfohaaGreat

namespace Go.Proofs.YtmgnldangjfohaaGreat
open Go.RowKit Go.Maps
set_option linter.unusedVariables false
set_option linter.unusedSimpArgs false
namespace T
/-- all nodes' numbers of a walk -/
def ns (l : List Sp) : List Int := l.map Prod.snd
/-- those who stand under a node -/
def kidsOf (t : Tr) (n : Int) : List Int := (chs t n).map Prod.snd
theorem mem_kidsOf {t : Tr} (ht : A.Up t) {n m : Int} : m ∈ kidsOf t n ↔ 2 < m ∧ ∃ y, A.get m t = some y ∧ y.par = n := by
  unfold kidsOf
  constructor
  · intro h
    obtain ⟨c, hc, rfl⟩ := List.mem_map.1 h
    obtain ⟨h1, y, h2, h3, _⟩ := (mem_chs ht).1 hc
    exact ⟨h1, y, h2, h3⟩
  · rintro ⟨h1, y, h2, h3⟩
    exact List.mem_map.2 ⟨(y.nm, m), (mem_chs ht).2 ⟨h1, y, h2, h3, rfl⟩, rfl⟩
theorem kidsOf_nodup {t : Tr} (ht : A.Up t) (n : Int) : (kidsOf t n).Nodup := by
  have h1 : ((t.filter (fun p => decide (2 < p.1) && p.2.par == n)).map Prod.fst).Nodup := by
    refine List.pairwise_map.2 ((List.Pairwise.filter _ ht).imp (fun h e => ?_))
    rw [e] at h
    exact Int.lt_irrefl _ h
  refine List.Perm.nodup (l := (t.filter (fun p => decide (2 < p.1) && p.2.par == n)).map Prod.fst) ?_ h1
  unfold kidsOf chs
  have := ((List.mergeSort_perm ((t.filter (fun p => decide (2 < p.1) && p.2.par == n)).map (fun p => (p.2.nm, p.1))) cle).map Prod.snd).symm
  rw [List.map_map] at this
  exact this
theorem cnt_kid {t : Tr} (ht : A.Up t) {m : Int} {y : Nd} (h2 : 2 < m) (hm : A.get m t = some y) (n : Int) : (kidsOf t n).count m = if n = y.par then 1 else 0 := by
  by_cases h : n = y.par
  · rw [if_pos h]
    exact (kidsOf_nodup ht n).count (a := m) |>.trans (if_pos ((mem_kidsOf ht).2 ⟨h2, y, hm, h.symm⟩))
  · rw [if_neg h]
    refine List.count_eq_zero.2 (fun hk => ?_)
    obtain ⟨_, z, hz, e⟩ := (mem_kidsOf ht).1 hk
    rw [hm] at hz
    cases hz
    exact h e.symm
theorem cnt_kids_low {t : Tr} (ht : A.Up t) {m : Int} {y : Nd} (h2 : 2 < m) (hm : A.get m t = some y) : ∀ L : List Int, (L.flatMap (kidsOf t)).count m = L.count y.par
  | [] => rfl
  | x :: L => by
    rw [List.flatMap_cons, List.count_append, cnt_kid ht h2 hm, cnt_kids_low ht h2 hm L, List.count_cons]
    by_cases h : x = y.par
    · simp [h]; omega
    · simp [h]
theorem cnt_kids_no {t : Tr} (ht : A.Up t) {m : Int} (h : m ≤ 2 ∨ A.get m t = none) (L : List Int) : (L.flatMap (kidsOf t)).count m = 0 := by
  refine List.count_eq_zero.2 (fun hk => ?_)
  obtain ⟨x, _, hx⟩ := List.mem_flatMap.1 hk
  obtain ⟨h1, y, h2, _⟩ := (mem_kidsOf ht).1 hx
  rcases h with h | h
  · omega
  · rw [h] at h2; cases h2
/-- each in a walk brings those under it -/
theorem sub_kids {t : Tr} (m : Int) : ∀ {k d : Nat} {n : Int}, deepOk t k n → (ns (sub t k d n)).count m = (if n = m then 1 else 0) + ((ns (sub t k d n)).flatMap (kidsOf t)).count m
  | 0, d, n, h => h.elim
  | k + 1, d, n, h => by
    have hF : ∀ C : List Ch, (∀ c ∈ C, deepOk t k c.2) → (ns (C.flatMap (fun c => sub t k (d + 1) c.2))).count m = (C.map Prod.snd).count m + ((ns (C.flatMap (fun c => sub t k (d + 1) c.2))).flatMap (kidsOf t)).count m := fun C => by
      induction C with
      | nil => intro _; rfl
      | cons c C ih =>
        intro hC
        have h1 := sub_kids m (d := d + 1) (hC c List.mem_cons_self)
        have h2 := ih (fun c' hc' => hC c' (List.mem_cons_of_mem _ hc'))
        unfold ns at h1 h2 ⊢
        rw [List.flatMap_cons, List.map_append, List.flatMap_append, List.count_append, List.count_append, List.map_cons, List.count_cons]
        simp only [beq_iff_eq]
        omega
    have h3 := hF (chs t n) h
    show (ns ((d, n) :: (chs t n).flatMap (fun c => sub t k (d + 1) c.2))).count m = _ + ((ns ((d, n) :: (chs t n).flatMap (fun c => sub t k (d + 1) c.2))).flatMap (kidsOf t)).count m
    unfold ns at h3 ⊢
    rw [List.map_cons, List.count_cons, List.flatMap_cons, List.count_append]
    simp only [beq_iff_eq]
    have h4 : (kidsOf t n).count m = ((chs t n).map Prod.snd).count m := rfl
    omega
/-- no walk is deeper than the way up -/
theorem deepOk_of {t : Tr} (ht : A.Up t) : ∀ {k j : Nat} {n : Int}, ¬ ends t j n → (∀ m, ends t (j + k) m) → deepOk t k n
  | 0, j, n, h, hm => h (hm n)
  | k + 1, j, n, h, hm => fun c hc => by
    obtain ⟨_, y, hy, hp, _⟩ := (mem_chs ht).1 hc
    refine deepOk_of ht (j := j + 1) (fun e => h ?_) (fun m => by rw [show j + 1 + k = j + (k + 1) by omega]; exact hm m)
    rw [← hp]
    exact e y hy
theorem Wf.deep {t : Tr} (h : Wf t) {K : Nat} (hK : ∀ n, ends t K n) {n : Int} (hn : (A.get n t).isSome = true) : deepOk t K n :=
  deepOk_of h.up (j := 0) (fun e => by rw [show A.get n t = none from e] at hn; cases hn) (fun m => by rw [Nat.zero_add]; exact hK m)
/-- root and trash together -/
def both (t : Tr) (K : Nat) : List Int := ns (sub t K 0 1) ++ ns (sub t K 0 2)
theorem both_cnt {t : Tr} (h : Wf t) {K : Nat} (hK : ∀ n, ends t K n) (m : Int) : (both t K).count m = (if 1 = m then 1 else 0) + (if 2 = m then 1 else 0) + ((both t K).flatMap (kidsOf t)).count m := by
  have h1 := sub_kids m (d := 0) (h.deep hK h.one)
  have h2 := sub_kids m (d := 0) (h.deep hK h.two)
  unfold both
  rw [List.count_append, List.flatMap_append, List.count_append]
  omega
theorem both_one {t : Tr} (h : Wf t) {K : Nat} (hK : ∀ n, ends t K n) : ∀ {j : Nat} {m : Int} {y : Nd}, ends t j m → A.get m t = some y → (both t K).count m = 1
  | 0, m, y, he, hy => by rw [show A.get m t = none from he] at hy; cases hy
  | j + 1, m, y, he, hy => by
    rw [both_cnt h hK]
    have h0 := (h.num m y hy).1
    by_cases h2 : 2 < m
    · obtain ⟨z, hz⟩ := Option.isSome_iff_exists.1 (h.low m y hy h2).1
      rw [cnt_kids_low h.up h2 hy, both_one h hK (he y hy) hz, if_neg (by omega), if_neg (by omega)]
    · rw [cnt_kids_no h.up (.inl (by omega))]
      by_cases h1 : 1 = m
      · rw [if_pos h1, if_neg (by omega)]
      · rw [if_neg h1, if_pos (by omega)]
/-- every node, once -/
theorem both_perm {t : Tr} (h : Wf t) {K : Nat} (hK : ∀ n, ends t K n) : (both t K).Perm (t.map Prod.fst) := by
  refine List.perm_iff_count.2 (fun m => ?_)
  have hnd : (t.map Prod.fst).Nodup := List.pairwise_map.2 (h.up.imp (fun h e => by rw [e] at h; exact Int.lt_irrefl _ h))
  cases hg : A.get m t with
  | some y =>
    rw [both_one h hK (hK m) hg]
    exact (hnd.count (a := m) |>.trans (if_pos (List.mem_map.2 ⟨(m, y), A.get_mem hg, rfl⟩))).symm
  | none =>
    have h1 : (1 : Int) ≠ m := fun e => by have := h.one; rw [e, hg] at this; cases this
    have h2 : (2 : Int) ≠ m := fun e => by have := h.two; rw [e, hg] at this; cases this
    rw [both_cnt h hK, cnt_kids_no h.up (.inr hg), if_neg h1, if_neg h2]
    refine (List.count_eq_zero.2 (fun hm => ?_)).symm
    obtain ⟨p, hp, e⟩ := List.mem_map.1 hm
    exact A.get_none.1 hg p hp e
theorem both_len {t : Tr} (h : Wf t) {K : Nat} (hK : ∀ n, ends t K n) : (sub t K 0 1).length + (sub t K 0 2).length = t.length := by
  have := (both_perm h hK).length_eq
  unfold both ns at this
  rw [List.length_append, List.length_map, List.length_map, List.length_map] at this
  exact this
end T
end Go.Proofs.YtmgnldangjfohaaGreat

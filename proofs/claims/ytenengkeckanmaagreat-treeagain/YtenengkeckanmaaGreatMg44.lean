/-
  What stands below the root and below the trash is every node, once.
  hasRing of a tree: no.
-/
import Derived.Test.YtenengkeckanmaaGreatMg42
import Derived.Test.YtenengkeckanmaaGreatMg24
import Derived.Test.YtenengkeckanmaaGreatTWalkQ
namespace Go.Proofs.YtenengkeckanmaaGreat
open Go.RowKit Go.Maps
set_option linter.unusedVariables false
set_option linter.unusedSimpArgs false
namespace T
/-- all nodes' numbers of a walk -/
def ns (l : List Sp) : List Int := l.map Prod.snd
/-- those who stand under a node -/
def kidsOf (t : Tr) (n : Int) : List Int := (chs t n).map Prod.snd
theorem mem_kidsOf {t : Tr} (ht : A.Up t) {n m : Int} : m ∈ kidsOf t n ↔ 2 < m ∧ ∃ y, A.get m t = some y ∧ y.par = n := by
  unfold kidsOf
  constructor
  · intro h
    obtain ⟨c, hc, rfl⟩ := List.mem_map.1 h
    obtain ⟨h1, y, h2, h3, _⟩ := (mem_chs ht).1 hc
    exact ⟨h1, y, h2, h3⟩
  · rintro ⟨h1, y, h2, h3⟩
    exact List.mem_map.2 ⟨(y.nm, m), (mem_chs ht).2 ⟨h1, y, h2, h3, rfl⟩, rfl⟩
theorem kidsOf_nodup {t : Tr} (ht : A.Up t) (n : Int) : (kidsOf t n).Nodup := by
  have h1 : ((t.filter (fun p => decide (2 < p.1) && p.2.par == n)).map Prod.fst).Nodup := by
    refine List.pairwise_map.2 ((List.Pairwise.filter _ ht).imp (fun h e => ?_))
    rw [e] at h
    exact Int.lt_irrefl _ h
  refine List.Perm.nodup (l := (t.filter (fun p => decide (2 < p.1) && p.2.par == n)).map Prod.fst) ?_ h1
  unfold kidsOf chs
  have := ((List.mergeSort_perm ((t.filter (fun p => decide (2 < p.1) && p.2.par == n)).map (fun p => (p.2.nm, p.1))) cle).map Prod.snd).symm
  rw [List.map_map] at this
  exact this
theorem cnt_kid {t : Tr} (ht : A.Up t) {m : Int} {y : Nd} (h2 : 2 < m) (hm : A.get m t = some y) (n : Int) : (kidsOf t n).count m = if n = y.par then 1 else 0 := by
  by_cases h : n = y.par
  · rw [if_pos h]
    exact (kidsOf_nodup ht n).count (a := m) |>.trans (if_pos ((mem_kidsOf ht).2 ⟨h2, y, hm, h.symm⟩))
  · rw [if_neg h]
    refine List.count_eq_zero.2 (fun hk => ?_)
    obtain ⟨_, z, hz, e⟩ := (mem_kidsOf ht).1 hk
    rw [hm] at hz
    cases hz
    exact h e.symm
theorem cnt_kids_low {t : Tr} (ht : A.Up t) {m : Int} {y : Nd} (h2 : 2 < m) (hm : A.get m t = some y) : ∀ L : List Int, (L.flatMap (kidsOf t)).count m = L.count y.par
  | [] => rfl
  | x :: L => by
    rw [List.flatMap_cons, List.count_append, cnt_kid ht h2 hm, cnt_kids_low ht h2 hm L, List.count_cons]
    by_cases h : x = y.par
    · simp [h]; omega
    · simp [h]
theorem cnt_kids_no {t : Tr} (ht : A.Up t) {m : Int} (h : m ≤ 2 ∨ A.get m t = none) (L : List Int) : (L.flatMap (kidsOf t)).count m = 0 := by
  refine List.count_eq_zero.2 (fun hk => ?_)
  obtain ⟨x, _, hx⟩ := List.mem_flatMap.1 hk
  obtain ⟨h1, y, h2, _⟩ := (mem_kidsOf ht).1 hx
  rcases h with h | h
  · omega
  · rw [h] at h2; cases h2
/-- each in a walk brings those under it -/
theorem sub_kids {t : Tr} (m : Int) : ∀ {k d : Nat} {n : Int}, deepOk t k n → (ns (sub t k d n)).count m = (if n = m then 1 else 0) + ((ns (sub t k d n)).flatMap (kidsOf t)).count m
  | 0, d, n, h => h.elim
  | k + 1, d, n, h => by
    have hF : ∀ C : List Ch, (∀ c ∈ C, deepOk t k c.2) → (ns (C.flatMap (fun c => sub t k (d + 1) c.2))).count m = (C.map Prod.snd).count m + ((ns (C.flatMap (fun c => sub t k (d + 1) c.2))).flatMap (kidsOf t)).count m := fun C => by
      induction C with
      | nil => intro _; rfl
      | cons c C ih =>
        intro hC
        have h1 := sub_kids m (d := d + 1) (hC c List.mem_cons_self)
        have h2 := ih (fun c' hc' => hC c' (List.mem_cons_of_mem _ hc'))
        unfold ns at h1 h2 ⊢
        rw [List.flatMap_cons, List.map_append, List.flatMap_append, List.count_append, List.count_append, List.map_cons, List.count_cons]
        simp only [beq_iff_eq]
        omega
    have h3 := hF (chs t n) h
    show (ns ((d, n) :: (chs t n).flatMap (fun c => sub t k (d + 1) c.2))).count m = _ + ((ns ((d, n) :: (chs t n).flatMap (fun c => sub t k (d + 1) c.2))).flatMap (kidsOf t)).count m
    unfold ns at h3 ⊢
    rw [List.map_cons, List.count_cons, List.flatMap_cons, List.count_append]
    simp only [beq_iff_eq]
    have h4 : (kidsOf t n).count m = ((chs t n).map Prod.snd).count m := rfl
    omega
/-- no walk is deeper than the way up -/
theorem deepOk_of {t : Tr} (ht : A.Up t) : ∀ {k j : Nat} {n : Int}, ¬ ends t j n → (∀ m, ends t (j + k) m) → deepOk t k n
  | 0, j, n, h, hm => h (hm n)
  | k + 1, j, n, h, hm => fun c hc => by
    obtain ⟨_, y, hy, hp, _⟩ := (mem_chs ht).1 hc
    refine deepOk_of ht (j := j + 1) (fun e => h ?_) (fun m => by rw [show j + 1 + k = j + (k + 1) by omega]; exact hm m)
    rw [← hp]
    exact e y hy
theorem Wf.deep {t : Tr} (h : Wf t) {K : Nat} (hK : ∀ n, ends t K n) {n : Int} (hn : (A.get n t).isSome = true) : deepOk t K n :=
  deepOk_of h.up (j := 0) (fun e => by rw [show A.get n t = none from e] at hn; cases hn) (fun m => by rw [Nat.zero_add]; exact hK m)
/-- root and trash together -/
def both (t : Tr) (K : Nat) : List Int := ns (sub t K 0 1) ++ ns (sub t K 0 2)
theorem both_cnt {t : Tr} (h : Wf t) {K : Nat} (hK : ∀ n, ends t K n) (m : Int) : (both t K).count m = (if 1 = m then 1 else 0) + (if 2 = m then 1 else 0) + ((both t K).flatMap (kidsOf t)).count m := by
  have h1 := sub_kids m (d := 0) (h.deep hK h.one)
  have h2 := sub_kids m (d := 0) (h.deep hK h.two)
  unfold both
  rw [List.count_append, List.flatMap_append, List.count_append]
  omega
theorem both_one {t : Tr} (h : Wf t) {K : Nat} (hK : ∀ n, ends t K n) : ∀ {j : Nat} {m : Int} {y : Nd}, ends t j m → A.get m t = some y → (both t K).count m = 1
  | 0, m, y, he, hy => by rw [show A.get m t = none from he] at hy; cases hy
  | j + 1, m, y, he, hy => by
    rw [both_cnt h hK]
    have h0 := (h.num m y hy).1
    by_cases h2 : 2 < m
    · obtain ⟨z, hz⟩ := Option.isSome_iff_exists.1 (h.low m y hy h2).1
      rw [cnt_kids_low h.up h2 hy, both_one h hK (he y hy) hz, if_neg (by omega), if_neg (by omega)]
    · rw [cnt_kids_no h.up (.inl (by omega))]
      by_cases h1 : 1 = m
      · rw [if_pos h1, if_neg (by omega)]
      · rw [if_neg h1, if_pos (by omega)]
/-- every node, once -/
theorem both_perm {t : Tr} (h : Wf t) {K : Nat} (hK : ∀ n, ends t K n) : (both t K).Perm (t.map Prod.fst) := by
  refine List.perm_iff_count.2 (fun m => ?_)
  have hnd : (t.map Prod.fst).Nodup := List.pairwise_map.2 (h.up.imp (fun h e => by rw [e] at h; exact Int.lt_irrefl _ h))
  cases hg : A.get m t with
  | some y =>
    rw [both_one h hK (hK m) hg]
    exact (hnd.count (a := m) |>.trans (if_pos (List.mem_map.2 ⟨(m, y), A.get_mem hg, rfl⟩))).symm
  | none =>
    have h1 : (1 : Int) ≠ m := fun e => by have := h.one; rw [e, hg] at this; cases this
    have h2 : (2 : Int) ≠ m := fun e => by have := h.two; rw [e, hg] at this; cases this
    rw [both_cnt h hK, cnt_kids_no h.up (.inr hg), if_neg h1, if_neg h2]
    refine (List.count_eq_zero.2 (fun hm => ?_)).symm
    obtain ⟨p, hp, e⟩ := List.mem_map.1 hm
    exact A.get_none.1 hg p hp e
theorem both_len {t : Tr} (h : Wf t) {K : Nat} (hK : ∀ n, ends t K n) : (sub t K 0 1).length + (sub t K 0 2).length = t.length := by
  have := (both_perm h hK).length_eq
  unfold both ns at this
  rw [List.length_append, List.length_map, List.length_map, List.length_map] at this
  exact this
end T
end Go.Proofs.YtenengkeckanmaaGreat

namespace Go.Proofs.YtenengkeckanmaaGreat
open Go.RowKit Go.Maps
set_option linter.unusedVariables false
set_option linter.unusedSimpArgs false
set_option maxRecDepth 100000
attribute [local go_sem] Oper.semAt_some
theorem T.Wf.nmlen {t : T.Tr} (hw : T.Wf t) : ∀ k y, A.get k t = some y → y.nm.size ≤ maxLen := fun k y hy => by
  by_cases h2 : 2 < k
  · have h1 := T.nam_ne (hw.low k y hy h2).2
    unfold maxLen
    omega
  · rw [(hw.top k y hy (by omega)).2]
    exact Nat.zero_le _
theorem T.Wf.numwf {t : T.Tr} (hw : T.Wf t) : ∀ k y, A.get k t = some y → (Lit.int .i64 k).wf = true := fun k y hy => wfI (by have := hw.num k y hy; omega)
set_option maxHeartbeats 4000000 in
theorem hasRing_any {c : Nat → Option T.Col} {w : World} {bud p : Nat} {dos last : Int} {t : T.Tr} {mb : Nat} {f : Int → Nat} (h : Tf c w bud p dos last t mb f) (hb : bud ≤ 8000000000000) (hlen : t.length ≤ 5000000000000) (hw : T.Wf t) :
    Calls Tryz.prog 53 #[ptr p] w fun e w' => e = .returned (.bool false) ∧ Fr (fun _ => False) w w' := by
  obtain ⟨K, hK⟩ := hw.fin
  have hbl := T.both_len hw hK
  obtain ⟨x1, hx1⟩ := Option.isSome_iff_exists.1 hw.one
  obtain ⟨x2, hx2⟩ := Option.isSome_iff_exists.1 hw.two
  obtain ⟨l1, hl1⟩ : ∃ l, T.sub t K 0 1 = l := ⟨_, rfl⟩
  obtain ⟨l2, hl2⟩ : ∃ l, T.sub t K 0 2 = l := ⟨_, rfl⟩
  have K1 := hid (walk_any h hw.up hb hlen hw.nmlen hw.numwf hx1 (hw.deep hK hw.one) (by omega))
  have K2 := hid (fun (W : World) (hf : Fr (fun _ => False) w W) => walk_any (h.kept hf (fun _ _ h => h)) hw.up hb hlen hw.nmlen hw.numwf hx2 (hw.deep hK hw.two) (by omega))
  have KL := hid (fun (W : World) (hf : Fr (fun _ => False) w W) => tlen_any (h.kept hf (fun _ _ h => h)))
  rw [hl1] at K1 hbl
  rw [hl2] at K2 hbl
  obtain ⟨n1, hn1⟩ : ∃ n, l1.length = n := ⟨_, rfl⟩
  obtain ⟨n2, hn2⟩ : ∃ n, l2.length = n := ⟨_, rfl⟩
  obtain ⟨n3, hn3⟩ : ∃ n, List.length t = n := ⟨_, rfl⟩
  rw [hn1] at K1 hbl
  rw [hn2] at K2 hbl
  rw [hn3] at KL hbl hlen
  have hb1 : n1 + n2 ≤ 5000000000000 := by omega
  have HBL := hid hbl
  clear h hb hlen hw hK hx1 hx2 hl1 hl2 hn1 hn2 hn3 hbl
  go_enter Tryz.func53, Tryz.ntmps53
  go_wp2_with fail
  refine K1.out.mono ?_
  rintro e w1 ⟨a1, cp1, rfl, _, _, hf1⟩
  have F1 := hid hf1
  clear hf1
  dsimp only
  go_wp2_with fail
  refine (K2.out w1 F1.out).mono ?_
  rintro e w2 ⟨a2, cp2, rfl, _, _, hf2⟩
  have F2 := hid (F1.out.trans hf2 (fun _ _ h => h))
  clear hf2
  dsimp only
  go_wp2_with (first
    | (go_at_call 13; refine (KL.out _ F2.out).mono ?_; rintro e w3 ⟨rfl, rfl⟩))
  go_ret
  refine ⟨?_, F2.out⟩
  rw [decide_eq_false (by have := HBL.out; omega)]
  rfl
end Go.Proofs.YtenengkeckanmaaGreat

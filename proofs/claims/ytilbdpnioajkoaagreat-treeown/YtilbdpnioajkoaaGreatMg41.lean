/-
  What stands below the root and below the trash is every node, once.
  hasRing of a tree: no.
  What a walk from the root or from the trash tells of each node.
  Nodes that may go round in rings: what stands below the root and below the trash is every node that comes to an end, once.
  hasRing, of nodes that may go round.
-/
import Derived.Test.YtilbdpnioajkoaaGreatMg39
import Derived.Test.YtilbdpnioajkoaaGreatMg20
import Derived.Test.YtilbdpnioajkoaaGreatTWalkQ
namespace Go.Proofs.YtilbdpnioajkoaaGreat
open Go.RowKit Go.Maps
set_option linter.unusedVariables false
set_option linter.unusedSimpArgs false
namespace T
/-- all nodes' numbers of a walk -/
def ns (l : List Sp) : List Int := l.map Prod.snd
/-- those who stand under a node -/
def kidsOf (t : Tr) (n : Int) : List Int := (chs t n).map Prod.snd
theorem mem_kidsOf {t : Tr} (ht : A.Up t) {n m : Int} : m ∈ kidsOf t n ↔ 2 < m ∧ ∃ y, A.get m t = some y ∧ y.par = n := by
  unfold kidsOf
  constructor
  · intro h
    obtain ⟨c, hc, rfl⟩ := List.mem_map.1 h
    obtain ⟨h1, y, h2, h3, _⟩ := (mem_chs ht).1 hc
    exact ⟨h1, y, h2, h3⟩
  · rintro ⟨h1, y, h2, h3⟩
    exact List.mem_map.2 ⟨(y.nm, m), (mem_chs ht).2 ⟨h1, y, h2, h3, rfl⟩, rfl⟩
theorem kidsOf_nodup {t : Tr} (ht : A.Up t) (n : Int) : (kidsOf t n).Nodup := by
  have h1 : ((t.filter (fun p => decide (2 < p.1) && p.2.par == n)).map Prod.fst).Nodup := by
    refine List.pairwise_map.2 ((List.Pairwise.filter _ ht).imp (fun h e => ?_))
    rw [e] at h
    exact Int.lt_irrefl _ h
  refine List.Perm.nodup (l := (t.filter (fun p => decide (2 < p.1) && p.2.par == n)).map Prod.fst) ?_ h1
  unfold kidsOf chs
  have := ((List.mergeSort_perm ((t.filter (fun p => decide (2 < p.1) && p.2.par == n)).map (fun p => (p.2.nm, p.1))) cle).map Prod.snd).symm
  rw [List.map_map] at this
  exact this
theorem cnt_kid {t : Tr} (ht : A.Up t) {m : Int} {y : Nd} (h2 : 2 < m) (hm : A.get m t = some y) (n : Int) : (kidsOf t n).count m = if n = y.par then 1 else 0 := by
  by_cases h : n = y.par
  · rw [if_pos h]
    exact (kidsOf_nodup ht n).count (a := m) |>.trans (if_pos ((mem_kidsOf ht).2 ⟨h2, y, hm, h.symm⟩))
  · rw [if_neg h]
    refine List.count_eq_zero.2 (fun hk => ?_)
    obtain ⟨_, z, hz, e⟩ := (mem_kidsOf ht).1 hk
    rw [hm] at hz
    cases hz
    exact h e.symm
theorem cnt_kids_low {t : Tr} (ht : A.Up t) {m : Int} {y : Nd} (h2 : 2 < m) (hm : A.get m t = some y) : ∀ L : List Int, (L.flatMap (kidsOf t)).count m = L.count y.par
  | [] => rfl
  | x :: L => by
    rw [List.flatMap_cons, List.count_append, cnt_kid ht h2 hm, cnt_kids_low ht h2 hm L, List.count_cons]
    by_cases h : x = y.par
    · simp [h]; omega
    · simp [h]
theorem cnt_kids_no {t : Tr} (ht : A.Up t) {m : Int} (h : m ≤ 2 ∨ A.get m t = none) (L : List Int) : (L.flatMap (kidsOf t)).count m = 0 := by
  refine List.count_eq_zero.2 (fun hk => ?_)
  obtain ⟨x, _, hx⟩ := List.mem_flatMap.1 hk
  obtain ⟨h1, y, h2, _⟩ := (mem_kidsOf ht).1 hx
  rcases h with h | h
  · omega
  · rw [h] at h2; cases h2
/-- each in a walk brings those under it -/
theorem sub_kids {t : Tr} (m : Int) : ∀ {k d : Nat} {n : Int}, deepOk t k n → (ns (sub t k d n)).count m = (if n = m then 1 else 0) + ((ns (sub t k d n)).flatMap (kidsOf t)).count m
  | 0, d, n, h => h.elim
  | k + 1, d, n, h => by
    have hF : ∀ C : List Ch, (∀ c ∈ C, deepOk t k c.2) → (ns (C.flatMap (fun c => sub t k (d + 1) c.2))).count m = (C.map Prod.snd).count m + ((ns (C.flatMap (fun c => sub t k (d + 1) c.2))).flatMap (kidsOf t)).count m := fun C => by
      induction C with
      | nil => intro _; rfl
      | cons c C ih =>
        intro hC
        have h1 := sub_kids m (d := d + 1) (hC c List.mem_cons_self)
        have h2 := ih (fun c' hc' => hC c' (List.mem_cons_of_mem _ hc'))
        unfold ns at h1 h2 ⊢
        rw [List.flatMap_cons, List.map_append, List.flatMap_append, List.count_append, List.count_append, List.map_cons, List.count_cons]
        simp only [beq_iff_eq]
        omega
    have h3 := hF (chs t n) h
    show (ns ((d, n) :: (chs t n).flatMap (fun c => sub t k (d + 1) c.2))).count m = _ + ((ns ((d, n) :: (chs t n).flatMap (fun c => sub t k (d + 1) c.2))).flatMap (kidsOf t)).count m
    unfold ns at h3 ⊢
    rw [List.map_cons, List.count_cons, List.flatMap_cons, List.count_append]
    simp only [beq_iff_eq]
    have h4 : (kidsOf t n).count m = ((chs t n).map Prod.snd).count m := rfl
    omega
/-- no walk is deeper than the way up -/
theorem deepOk_of {t : Tr} (ht : A.Up t) : ∀ {k j : Nat} {n : Int}, ¬ ends t j n → (∀ m, ends t (j + k) m) → deepOk t k n
  | 0, j, n, h, hm => h (hm n)
  | k + 1, j, n, h, hm => fun c hc => by
    obtain ⟨_, y, hy, hp, _⟩ := (mem_chs ht).1 hc
    refine deepOk_of ht (j := j + 1) (fun e => h ?_) (fun m => by rw [show j + 1 + k = j + (k + 1) by omega]; exact hm m)
    rw [← hp]
    exact e y hy
theorem Wf.deep {t : Tr} (h : Wf t) {K : Nat} (hK : ∀ n, ends t K n) {n : Int} (hn : (A.get n t).isSome = true) : deepOk t K n :=
  deepOk_of h.up (j := 0) (fun e => by rw [show A.get n t = none from e] at hn; cases hn) (fun m => by rw [Nat.zero_add]; exact hK m)
/-- root and trash together -/
def both (t : Tr) (K : Nat) : List Int := ns (sub t K 0 1) ++ ns (sub t K 0 2)
theorem both_cnt {t : Tr} (h : Wf t) {K : Nat} (hK : ∀ n, ends t K n) (m : Int) : (both t K).count m = (if 1 = m then 1 else 0) + (if 2 = m then 1 else 0) + ((both t K).flatMap (kidsOf t)).count m := by
  have h1 := sub_kids m (d := 0) (h.deep hK h.one)
  have h2 := sub_kids m (d := 0) (h.deep hK h.two)
  unfold both
  rw [List.count_append, List.flatMap_append, List.count_append]
  omega
theorem both_one {t : Tr} (h : Wf t) {K : Nat} (hK : ∀ n, ends t K n) : ∀ {j : Nat} {m : Int} {y : Nd}, ends t j m → A.get m t = some y → (both t K).count m = 1
  | 0, m, y, he, hy => by rw [show A.get m t = none from he] at hy; cases hy
  | j + 1, m, y, he, hy => by
    rw [both_cnt h hK]
    have h0 := (h.num m y hy).1
    by_cases h2 : 2 < m
    · obtain ⟨z, hz⟩ := Option.isSome_iff_exists.1 (h.low m y hy h2).1
      rw [cnt_kids_low h.up h2 hy, both_one h hK (he y hy) hz, if_neg (by omega), if_neg (by omega)]
    · rw [cnt_kids_no h.up (.inl (by omega))]
      by_cases h1 : 1 = m
      · rw [if_pos h1, if_neg (by omega)]
      · rw [if_neg h1, if_pos (by omega)]
/-- every node, once -/
theorem both_perm {t : Tr} (h : Wf t) {K : Nat} (hK : ∀ n, ends t K n) : (both t K).Perm (t.map Prod.fst) := by
  refine List.perm_iff_count.2 (fun m => ?_)
  have hnd : (t.map Prod.fst).Nodup := List.pairwise_map.2 (h.up.imp (fun h e => by rw [e] at h; exact Int.lt_irrefl _ h))
  cases hg : A.get m t with
  | some y =>
    rw [both_one h hK (hK m) hg]
    exact (hnd.count (a := m) |>.trans (if_pos (List.mem_map.2 ⟨(m, y), A.get_mem hg, rfl⟩))).symm
  | none =>
    have h1 : (1 : Int) ≠ m := fun e => by have := h.one; rw [e, hg] at this; cases this
    have h2 : (2 : Int) ≠ m := fun e => by have := h.two; rw [e, hg] at this; cases this
    rw [both_cnt h hK, cnt_kids_no h.up (.inr hg), if_neg h1, if_neg h2]
    refine (List.count_eq_zero.2 (fun hm => ?_)).symm
    obtain ⟨p, hp, e⟩ := List.mem_map.1 hm
    exact A.get_none.1 hg p hp e
theorem both_len {t : Tr} (h : Wf t) {K : Nat} (hK : ∀ n, ends t K n) : (sub t K 0 1).length + (sub t K 0 2).length = t.length := by
  have := (both_perm h hK).length_eq
  unfold both ns at this
  rw [List.length_append, List.length_map, List.length_map, List.length_map] at this
  exact this
end T
end Go.Proofs.YtilbdpnioajkoaaGreat

namespace Go.Proofs.YtilbdpnioajkoaaGreat
open Go.RowKit Go.Maps
set_option linter.unusedVariables false
set_option linter.unusedSimpArgs false
set_option maxRecDepth 100000
attribute [local go_sem] Oper.semAt_some
theorem T.Wf.nmlen {t : T.Tr} (hw : T.Wf t) : ∀ k y, A.get k t = some y → y.nm.size ≤ maxLen := fun k y hy => by
  by_cases h2 : 2 < k
  · have h1 := T.nam_ne (hw.low k y hy h2).2
    unfold maxLen
    omega
  · rw [(hw.top k y hy (by omega)).2]
    exact Nat.zero_le _
theorem T.Wf.numwf {t : T.Tr} (hw : T.Wf t) : ∀ k y, A.get k t = some y → (Lit.int .i64 k).wf = true := fun k y hy => wfI (by have := hw.num k y hy; omega)
set_option maxHeartbeats 4000000 in
theorem hasRing_any {c : Nat → Option T.Col} {w : World} {bud p : Nat} {dos last : Int} {t : T.Tr} {mb : Nat} {f : Int → Nat} (h : Tf c w bud p dos last t mb f) (hb : bud ≤ 8000000000000) (hlen : t.length ≤ 5000000000000) (hw : T.Wf t) :
    Calls Tryz.prog 48 #[ptr p] w fun e w' => e = .returned (.bool false) ∧ Fr (fun _ => False) w w' := by
  obtain ⟨K, hK⟩ := hw.fin
  have hbl := T.both_len hw hK
  obtain ⟨x1, hx1⟩ := Option.isSome_iff_exists.1 hw.one
  obtain ⟨x2, hx2⟩ := Option.isSome_iff_exists.1 hw.two
  obtain ⟨l1, hl1⟩ : ∃ l, T.sub t K 0 1 = l := ⟨_, rfl⟩
  obtain ⟨l2, hl2⟩ : ∃ l, T.sub t K 0 2 = l := ⟨_, rfl⟩
  have K1 := hid (walk_any h hw.up hb hlen hw.nmlen hw.numwf hx1 (hw.deep hK hw.one) (by omega))
  have K2 := hid (fun (W : World) (hf : Fr (fun _ => False) w W) => walk_any (h.kept hf (fun _ _ h => h)) hw.up hb hlen hw.nmlen hw.numwf hx2 (hw.deep hK hw.two) (by omega))
  have KL := hid (fun (W : World) (hf : Fr (fun _ => False) w W) => tlen_any (h.kept hf (fun _ _ h => h)))
  rw [hl1] at K1 hbl
  rw [hl2] at K2 hbl
  obtain ⟨n1, hn1⟩ : ∃ n, l1.length = n := ⟨_, rfl⟩
  obtain ⟨n2, hn2⟩ : ∃ n, l2.length = n := ⟨_, rfl⟩
  obtain ⟨n3, hn3⟩ : ∃ n, List.length t = n := ⟨_, rfl⟩
  rw [hn1] at K1 hbl
  rw [hn2] at K2 hbl
  rw [hn3] at KL hbl hlen
  have hb1 : n1 + n2 ≤ 5000000000000 := by omega
  have HBL := hid hbl
  clear h hb hlen hw hK hx1 hx2 hl1 hl2 hn1 hn2 hn3 hbl
  go_enter Tryz.func48, Tryz.ntmps48
  go_wp2_with fail
  refine K1.out.mono ?_
  rintro e w1 ⟨a1, cp1, rfl, _, _, hf1⟩
  have F1 := hid hf1
  clear hf1
  dsimp only
  go_wp2_with fail
  refine (K2.out w1 F1.out).mono ?_
  rintro e w2 ⟨a2, cp2, rfl, _, _, hf2⟩
  have F2 := hid (F1.out.trans hf2 (fun _ _ h => h))
  clear hf2
  dsimp only
  go_wp2_with (first
    | (go_at_call 10; refine (KL.out _ F2.out).mono ?_; rintro e w3 ⟨rfl, rfl⟩))
  go_ret
  refine ⟨?_, F2.out⟩
  rw [decide_eq_false (by have := HBL.out; omega)]
  rfl
end Go.Proofs.YtilbdpnioajkoaaGreat

namespace Go.Proofs.YtilbdpnioajkoaaGreat
open Go.RowKit Go.Maps
set_option linter.unusedVariables false
set_option linter.unusedSimpArgs false
namespace T
theorem sub_there {t : Tr} (ht : A.Up t) : ∀ {k d : Nat} {n : Int}, (A.get n t).isSome = true → ∀ s ∈ sub t k d n, (A.get s.2 t).isSome = true
  | 0, _, _, _, s, hs => by cases hs
  | k + 1, d, n, hn, s, hs => by
    rcases List.mem_cons.1 hs with rfl | hs
    · exact hn
    · obtain ⟨c, hc, hs⟩ := List.mem_flatMap.1 hs
      obtain ⟨_, y, hy, _⟩ := (mem_chs ht).1 hc
      exact sub_there ht (by rw [hy]; rfl) s hs
theorem sub_top {t : Tr} (ht : A.Up t) : ∀ {k d : Nat} {n : Int}, ∀ s ∈ sub t k d n, s = (d, n) ∨ (d < s.1 ∧ 2 < s.2)
  | 0, _, _, s, hs => by cases hs
  | k + 1, d, n, s, hs => by
    rcases List.mem_cons.1 hs with rfl | hs
    · exact .inl rfl
    · obtain ⟨c, hc, hs⟩ := List.mem_flatMap.1 hs
      obtain ⟨h2, _⟩ := (mem_chs ht).1 hc
      rcases sub_top ht s hs with rfl | ⟨h3, h4⟩
      · exact .inr ⟨Nat.lt_succ_self _, h2⟩
      · exact .inr ⟨by omega, h4⟩
theorem up_one {t : Tr} {n : Int} (hn : (A.get n t).isSome = true) : up t 1 n n = true := by
  obtain ⟨x, hx⟩ := Option.isSome_iff_exists.1 hn
  unfold up
  rw [hx]
  simp
theorem up_over {t : Tr} {c n : Int} {y : Nd} (hc : A.get c t = some y) (hp : y.par = n) (hn : (A.get n t).isSome = true) : ∀ {j : Nat} {m : Int}, up t j m c = true → ∃ i, up t i m n = true
  | 0, m, h => by cases h
  | j + 1, m, h => by
    by_cases e : m = n
    · subst e; exact ⟨1, up_one hn⟩
    · unfold up at h
      cases hg : A.get m t with
      | none => rw [hg] at h; cases h
      | some x =>
        rw [hg] at h
        simp only at h
        by_cases e2 : m = c
        · subst e2
          rw [hc] at hg
          cases hg
          refine ⟨2, ?_⟩
          unfold up
          rw [hc]
          simp only [if_neg e]
          rw [hp]
          exact up_one hn
        · rw [if_neg e2] at h
          obtain ⟨i, hi⟩ := up_over hc hp hn h
          refine ⟨i + 1, ?_⟩
          unfold up
          rw [hg]
          simp only [if_neg e]
          exact hi
theorem sub_up {t : Tr} (ht : A.Up t) : ∀ {k d : Nat} {n : Int}, (A.get n t).isSome = true → ∀ s ∈ sub t k d n, ∃ i, up t i s.2 n = true
  | 0, _, _, _, s, hs => by cases hs
  | k + 1, d, n, hn, s, hs => by
    rcases List.mem_cons.1 hs with rfl | hs
    · exact ⟨1, up_one hn⟩
    · obtain ⟨c, hc, hs⟩ := List.mem_flatMap.1 hs
      obtain ⟨_, y, hy, hp, _⟩ := (mem_chs ht).1 hc
      obtain ⟨i, hi⟩ := sub_up ht (by rw [hy]; rfl) s hs
      exact up_over hy hp hn hi
/-- never below both -/
theorem up_two {t : Tr} (h0 : A.get 0 t = none) (htop : ∀ n x, A.get n t = some x → n ≤ 2 → x.par = 0) {a b : Int} (ha : a ≤ 2) (hb : b ≤ 2) (hab : a ≠ b) : ∀ {i j : Nat} {m : Int}, up t i m a = true → up t j m b = true → False
  | 0, _, m, h, _ => by cases h
  | i + 1, 0, m, _, h => by cases h
  | i + 1, j + 1, m, h, h' => by
    have end0 : ∀ k c, up t k 0 c = false := fun k c => by
      cases k with
      | zero => rfl
      | succ k => unfold up; rw [h0]
    unfold up at h h'
    cases hg : A.get m t with
    | none => rw [hg] at h; cases h
    | some x =>
      rw [hg] at h h'
      simp only at h h'
      by_cases e : m = a
      · subst e
        rw [if_neg hab, htop _ _ hg ha, end0] at h'
        cases h'
      · rw [if_neg e] at h
        by_cases e2 : m = b
        · subst e2
          rw [htop _ _ hg hb, end0] at h
          cases h
        · rw [if_neg e2] at h'
          exact up_two h0 htop ha hb hab h h'
/-- who stands above ends no later -/
theorem up_rank {t : Tr} {n : Int} : ∀ {i j : Nat} {m : Int}, up t i m n = true → ends t j m → ends t j n
  | 0, _, m, h, _ => by cases h
  | i + 1, j, m, h, he => by
    unfold up at h
    cases hg : A.get m t with
    | none => rw [hg] at h; cases h
    | some x =>
      rw [hg] at h
      simp only at h
      by_cases e : m = n
      · subst e; exact he
      · rw [if_neg e] at h
        cases j with
        | zero => rw [show A.get m t = none from he] at hg; cases hg
        | succ j => exact ends_succ (up_rank h (he x hg))
/-- none is below one of its children -/
theorem up_not {t : Tr} {n : Int} {x : Nd} (hx : A.get n t = some x) {i : Nat} (h : up t i x.par n = true) : ∀ j, ¬ ends t j n
  | 0, he => by rw [show A.get n t = none from he] at hx; cases hx
  | j + 1, he => up_not hx h j (up_rank h (he x hx))
theorem Wf.up_par {t : Tr} (h : Wf t) {n : Int} {x : Nd} (hx : A.get n t = some x) (i : Nat) : T.up t i x.par n = false := by
  cases hu : T.up t i x.par n with
  | false => rfl
  | true =>
    obtain ⟨K, hK⟩ := h.fin
    exact (up_not hx hu K (hK n)).elim
/-- how often a child stands in a list -/
def times (nm : ByteArray) (n : Int) (l : List Ch) : Nat := l.countP (fun c => decide (c.2 = n) && decide (c.1 = nm))
theorem times_one {t : Tr} (ht : A.Up t) {n : Int} {x : Nd} (h2 : 2 < n) (hx : A.get n t = some x) : times x.nm n (chs t x.par) = 1 := by
  have h1 := cnt_kid ht h2 hx x.par
  rw [if_pos rfl] at h1
  unfold kidsOf at h1
  rw [← h1]
  unfold times
  rw [List.count_eq_countP, List.countP_map]
  refine List.countP_congr (fun c hc => ?_)
  obtain ⟨_, y, hy, _, hn⟩ := (mem_chs ht).1 hc
  simp only [Bool.and_eq_true, decide_eq_true_eq, Function.comp, beq_iff_eq]
  constructor
  · rintro ⟨h, _⟩; exact h
  · intro e
    rw [e, hx] at hy
    cases hy
    exact ⟨e, hn.symm⟩
theorem times_snoc (nm : ByteArray) (n : Int) (l : List Ch) (c : Ch) : times nm n (l ++ [c]) = times nm n l + (if c.2 = n ∧ c.1 = nm then 1 else 0) := by
  unfold times
  rw [List.countP_append, List.countP_cons, List.countP_nil]
  by_cases h : c.2 = n ∧ c.1 = nm
  · rw [if_pos h]; simp [h.1, h.2]
  · rw [if_neg h]
    have : (decide (c.2 = n) && decide (c.1 = nm)) = false := by
      cases hb : (decide (c.2 = n) && decide (c.1 = nm)) with
      | false => rfl
      | true => simp at hb; exact (h hb).elim
    simp [this]
/-- what a round over a top's walk is told -/
structure Told (t : Tr) (K : Nat) (top : Int) (s : Sp) : Prop where
  x : ∃ x, A.get s.2 t = some x ∧ (s.2 ≠ top → 2 < s.2 ∧ (A.get x.par t).isSome = true ∧ times x.nm s.2 (chs t x.par) = 1) ∧ ∀ i, up t i x.par s.2 = false
  zero : s.1 = 0 ↔ s.2 = top
  low : up t K s.2 top = true
  off : up t K s.2 (3 - top) = false
theorem told_of {t : Tr} (h : Wf t) {K : Nat} (hK : ∀ n, ends t K n) {top : Int} (htop : top = 1 ∨ top = 2) {s : Sp} (hs : s ∈ sub t K 0 top) : Told t K top s := by
  have hone : (A.get top t).isSome = true := by
    rcases htop with rfl | rfl
    · exact h.one
    · exact h.two
  have ht := sub_there h.up hone s hs
  obtain ⟨x, hx⟩ := Option.isSome_iff_exists.1 ht
  have h2 := sub_top h.up s hs
  obtain ⟨i, hi⟩ := sub_up h.up hone s hs
  have hlo : up t K s.2 top = true := by
    have h3 := up_le hi K
    rw [Nat.add_comm, up_ends (hK _)] at h3
    exact h3
  refine ⟨⟨x, hx, fun hne => ?_, fun i => h.up_par hx i⟩, ?_, hlo, ?_⟩
  · have h3 : 2 < s.2 := by
      rcases h2 with rfl | h3
      · exact (hne rfl).elim
      · exact h3.2
    exact ⟨h3, (h.low _ _ hx h3).1, times_one h.up h3 hx⟩
  · rcases h2 with rfl | ⟨h3, h4⟩
    · simp
    · constructor
      · intro e; omega
      · intro e; omega
  · cases hu : up t K s.2 (3 - top) with
    | false => rfl
    | true => exact (up_two h.h0 (fun n x hx hn => (h.top n x hx hn).1) (by omega) (by omega) (by omega) hlo hu).elim
end T
end Go.Proofs.YtilbdpnioajkoaaGreat

namespace Go.Proofs.YtilbdpnioajkoaaGreat
open Go.RowKit Go.Maps
set_option linter.unusedVariables false
set_option linter.unusedSimpArgs false
namespace T
/-- a tree, but for rings -/
structure Pf (t : Tr) : Prop where
  up : A.Up t
  one : (A.get 1 t).isSome = true
  two : (A.get 2 t).isSome = true
  num : ∀ n x, A.get n t = some x → 0 < n ∧ n ≤ 9223372036854775807
  top : ∀ n x, A.get n t = some x → n ≤ 2 → x.par = 0 ∧ x.nm = ⟨#[]⟩
  low : ∀ n x, A.get n t = some x → 2 < n → (A.get x.par t).isSome = true ∧ T.nam x.nm = true
  ats : ∀ n x, A.get n t = some x → Ak x.ats ∧ ∀ p ∈ x.ats, T.txt p.1 = true ∧ T.txt p.2 = true
theorem Pf.wf {t : Tr} (h : Pf t) (hf : ∃ K, ∀ n, ends t K n) : Wf t := ⟨h.up, h.one, h.two, h.num, h.top, h.low, h.ats, hf⟩
theorem Pf.h0 {t : Tr} (h : Pf t) : A.get 0 t = none := by
  cases hg : A.get 0 t with
  | none => rfl
  | some x => have := (h.num 0 x hg).1; omega
theorem len_sub : ∀ {L M : List Int}, L.Nodup → (∀ x ∈ L, x ∈ M) → L.length ≤ M.length
  | [], _, _, _ => Nat.zero_le _
  | x :: L, M, h, hs => by
    rw [List.nodup_cons] at h
    have hx := hs x List.mem_cons_self
    have h1 := len_sub (L := L) (M := M.erase x) h.2 (fun y hy => (List.mem_erase_of_ne (fun e => h.1 (by rw [← e]; exact hy))).2 (hs y (List.mem_cons_of_mem _ hy)))
    rw [List.length_erase_of_mem hx] at h1
    have := List.length_pos_of_mem hx
    rw [List.length_cons]
    omega
/-- so many steps up from it there is nothing, and not sooner -/
def rk (t : Tr) (r : Nat) (n : Int) : Prop := ends t r n ∧ ∀ j, j < r → ¬ ends t j n
theorem rk_of {t : Tr} {n : Int} : ∀ {k : Nat}, ends t k n → ∃ r, r ≤ k ∧ rk t r n := fun {k} => by
  induction k using Nat.strongRecOn with
  | ind k ih =>
    intro h
    by_cases hj : ∃ j, j < k ∧ ends t j n
    · obtain ⟨j, hjk, hj⟩ := hj
      obtain ⟨r, h1, h2⟩ := ih j hjk hj
      exact ⟨r, by omega, h2⟩
    · exact ⟨k, Nat.le_refl _, h, fun j hj' e => hj ⟨j, hj', e⟩⟩
theorem rk_inj {t : Tr} {n : Int} {r s : Nat} (h : rk t r n) (k : rk t s n) : r = s := by
  rcases Nat.lt_trichotomy r s with e | e | e
  · exact (k.2 r e h.1).elim
  · exact e
  · exact (h.2 s e k.1).elim
theorem rk_chain {t : Tr} : ∀ {r : Nat} {n : Int}, rk t r n → ∃ L : List Int, L.length = r ∧ L.Nodup ∧ ∀ m ∈ L, m ∈ t.map Prod.fst ∧ ∃ i, i ≤ r ∧ rk t i m
  | 0, n, h => ⟨[], rfl, List.nodup_nil, fun m hm => by cases hm⟩
  | r + 1, n, h => by
    obtain ⟨x, hx⟩ : ∃ x, A.get n t = some x := by
      cases hg : A.get n t with
      | none => exact (h.2 0 (Nat.succ_pos _) hg).elim
      | some x => exact ⟨x, rfl⟩
    have hp : rk t r x.par := ⟨h.1 x hx, fun j hj e => h.2 (j + 1) (by omega) (fun y hy => by rw [hx] at hy; cases hy; exact e)⟩
    obtain ⟨L, h1, h2, h3⟩ := rk_chain hp
    refine ⟨n :: L, by rw [List.length_cons, h1], List.nodup_cons.2 ⟨fun hn => ?_, h2⟩, fun m hm => ?_⟩
    · obtain ⟨_, i, h4, h5⟩ := h3 n hn
      have := rk_inj h h5
      omega
    · rcases List.mem_cons.1 hm with rfl | hm
      · exact ⟨List.mem_map.2 ⟨_, A.get_mem hx, rfl⟩, r + 1, Nat.le_refl _, h⟩
      · obtain ⟨h4, i, h5, h6⟩ := h3 m hm
        exact ⟨h4, i, by omega, h6⟩
/-- no way up is longer than there are nodes -/
theorem ends_len {t : Tr} {k : Nat} {n : Int} (h : ends t k n) : ends t t.length n := by
  obtain ⟨r, _, hr⟩ := rk_of h
  obtain ⟨L, h1, h2, h3⟩ := rk_chain hr
  have h4 := len_sub h2 (fun m hm => (h3 m hm).1)
  rw [h1, List.length_map] at h4
  have h5 := ends_le hr.1 (t.length - r)
  rw [show r + (t.length - r) = t.length by omega] at h5
  exact h5
theorem deep_rank {t : Tr} (ht : A.Up t) : ∀ {k j : Nat} {n : Int}, ¬ ends t j n → ends t (j + 1) n → t.length ≤ j + k → deepOk t k n
  | 0, j, n, h, he, hl => by
    have h1 := ends_le (ends_len he) (j - t.length)
    rw [show t.length + (j - t.length) = j by omega] at h1
    exact h h1
  | k + 1, j, n, h, he, hl => fun c hc => by
    obtain ⟨_, y, hy, hp, _⟩ := (mem_chs ht).1 hc
    refine deep_rank ht (j := j + 1) (fun e => h ?_) (fun y' hy' => ?_) (by omega)
    · have := e y hy
      rw [hp] at this
      exact this
    · rw [hy] at hy'
      cases hy'
      rw [hp]
      exact he
theorem Pf.deep {t : Tr} (h : Pf t) {n : Int} (hn : n = 1 ∨ n = 2) : deepOk t t.length n := by
  have hs : (A.get n t).isSome = true := by
    rcases hn with rfl | rfl
    · exact h.one
    · exact h.two
  refine deep_rank h.up (j := 0) (fun e => by rw [show A.get n t = none from e] at hs; cases hs) (fun x hx => ?_) (by omega)
  show A.get x.par t = none
  rw [(h.top n x hx (by omega)).1]
  exact h.h0
theorem sub_ends {t : Tr} (ht : A.Up t) : ∀ {k d j : Nat} {n : Int}, ends t j n → ∀ s ∈ sub t k d n, ∃ i, ends t i s.2
  | 0, _, _, _, _, s, hs => by cases hs
  | k + 1, d, j, n, h, s, hs => by
    rcases List.mem_cons.1 hs with rfl | hs
    · exact ⟨j, h⟩
    · obtain ⟨c, hc, hs⟩ := List.mem_flatMap.1 hs
      obtain ⟨_, y, hy, hp, _⟩ := (mem_chs ht).1 hc
      exact sub_ends ht (j := j + 1) (fun y' hy' => by rw [hy] at hy'; cases hy'; rw [hp]; exact h) s hs
theorem Pf.cnt {t : Tr} (h : Pf t) (m : Int) : (both t t.length).count m = (if 1 = m then 1 else 0) + (if 2 = m then 1 else 0) + ((both t t.length).flatMap (kidsOf t)).count m := by
  have h1 := sub_kids m (d := 0) (h.deep (.inl rfl))
  have h2 := sub_kids m (d := 0) (h.deep (.inr rfl))
  unfold both
  rw [List.count_append, List.flatMap_append, List.count_append]
  omega
theorem Pf.cnt_one {t : Tr} (h : Pf t) : ∀ {j : Nat} {m : Int} {y : Nd}, ends t j m → A.get m t = some y → (both t t.length).count m = 1
  | 0, m, y, he, hy => by rw [show A.get m t = none from he] at hy; cases hy
  | j + 1, m, y, he, hy => by
    rw [h.cnt]
    have h0 := (h.num m y hy).1
    by_cases h2 : 2 < m
    · obtain ⟨z, hz⟩ := Option.isSome_iff_exists.1 (h.low m y hy h2).1
      rw [cnt_kids_low h.up h2 hy, h.cnt_one (he y hy) hz, if_neg (by omega), if_neg (by omega)]
    · rw [cnt_kids_no h.up (.inl (by omega))]
      by_cases h1 : 1 = m
      · rw [if_pos h1, if_neg (by omega)]
      · rw [if_neg h1, if_pos (by omega)]
theorem Pf.top_ends {t : Tr} (h : Pf t) {n : Int} (hn : n ≤ 2) : ends t 1 n := fun x hx => by
  show A.get x.par t = none
  rw [(h.top n x hx hn).1]
  exact h.h0
/-- every node that comes to an end, once -/
theorem Pf.perm {t : Tr} (h : Pf t) : (both t t.length).Perm ((t.map Prod.fst).filter (fun m => @decide (ends t t.length m) (Classical.propDecidable _))) := by
  refine List.perm_iff_count.2 (fun m => ?_)
  have hnd : (t.map Prod.fst).Nodup := List.pairwise_map.2 (h.up.imp (fun h e => by rw [e] at h; exact Int.lt_irrefl _ h))
  by_cases he : ends t t.length m
  · rw [List.count_filter (by simpa using he)]
    cases hg : A.get m t with
    | some y =>
      rw [h.cnt_one he hg]
      exact (hnd.count (a := m) |>.trans (if_pos (List.mem_map.2 ⟨(m, y), A.get_mem hg, rfl⟩))).symm
    | none =>
      have h1 : (1 : Int) ≠ m := fun e => by have := h.one; rw [e, hg] at this; cases this
      have h2 : (2 : Int) ≠ m := fun e => by have := h.two; rw [e, hg] at this; cases this
      rw [h.cnt, cnt_kids_no h.up (.inr hg), if_neg h1, if_neg h2]
      refine (List.count_eq_zero.2 (fun hm => ?_)).symm
      obtain ⟨p, hp, e⟩ := List.mem_map.1 hm
      exact A.get_none.1 hg p hp e
  · have h1 : ((t.map Prod.fst).filter (fun m => @decide (ends t t.length m) (Classical.propDecidable _))).count m = 0 := List.count_eq_zero.2 (fun hm => he (by simpa using (List.mem_filter.1 hm).2))
    rw [h1]
    refine List.count_eq_zero.2 (fun hm => ?_)
    unfold both ns at hm
    rcases List.mem_append.1 hm with hm | hm
    · obtain ⟨s, hs, rfl⟩ := List.mem_map.1 hm
      obtain ⟨i, hi⟩ := sub_ends h.up (h.top_ends (by omega)) s hs
      exact he (ends_len hi)
    · obtain ⟨s, hs, rfl⟩ := List.mem_map.1 hm
      obtain ⟨i, hi⟩ := sub_ends h.up (h.top_ends (by omega)) s hs
      exact he (ends_len hi)
theorem Pf.len {t : Tr} (h : Pf t) : (sub t t.length 0 1).length + (sub t t.length 0 2).length = ((t.map Prod.fst).filter (fun m => @decide (ends t t.length m) (Classical.propDecidable _))).length := by
  have := h.perm.length_eq
  unfold both ns at this
  rw [List.length_append, List.length_map, List.length_map] at this
  exact this
/-- is there a ring? -/
noncomputable def ring (t : Tr) : Bool := @decide (¬ ∀ n, ends t t.length n) (Classical.propDecidable _)
theorem Pf.ring_iff {t : Tr} (h : Pf t) : ring t = decide ((sub t t.length 0 1).length + (sub t t.length 0 2).length < t.length) := by
  rw [h.len]
  have h1 : ring t = true ↔ ((t.map Prod.fst).filter (fun m => @decide (ends t t.length m) (Classical.propDecidable _))).length < t.length := by
    have h2 : (t.map Prod.fst).length = t.length := List.length_map ..
    have h3 := List.length_filter_lt_length_iff_exists (p := fun m => @decide (ends t t.length m) (Classical.propDecidable _)) (l := t.map Prod.fst)
    rw [h2] at h3
    rw [h3]
    unfold ring
    rw [@decide_eq_true_iff _ (Classical.propDecidable _)]
    constructor
    · intro hn
      obtain ⟨n, hn⟩ := Classical.not_forall.1 hn
      refine ⟨n, ?_, by simpa using hn⟩
      cases hg : A.get n t with
      | none => exact (hn (ends_none hg _)).elim
      | some x => exact List.mem_map.2 ⟨_, A.get_mem hg, rfl⟩
    · rintro ⟨n, _, hn⟩ hall
      exact hn (by simpa using hall n)
  cases hr : ring t with
  | true => exact (decide_eq_true (h1.1 hr)).symm
  | false => exact (decide_eq_false (fun e => by rw [h1.2 e] at hr; cases hr)).symm
theorem Pf.len_le {t : Tr} (h : Pf t) : (sub t t.length 0 1).length + (sub t t.length 0 2).length ≤ t.length := by
  rw [h.len]
  have := List.length_filter_le (fun m => @decide (ends t t.length m) (Classical.propDecidable _)) (t.map Prod.fst)
  rw [List.length_map] at this
  exact this
end T
end Go.Proofs.YtilbdpnioajkoaaGreat

namespace Go.Proofs.YtilbdpnioajkoaaGreat
open Go.RowKit Go.Maps
set_option linter.unusedVariables false
set_option linter.unusedSimpArgs false
set_option maxRecDepth 100000
attribute [local go_sem] Oper.semAt_some
theorem T.Pf.nmlen {t : T.Tr} (hw : T.Pf t) : ∀ k y, A.get k t = some y → y.nm.size ≤ maxLen := fun k y hy => by
  by_cases h2 : 2 < k
  · have h1 := T.nam_ne (hw.low k y hy h2).2
    unfold maxLen
    omega
  · rw [(hw.top k y hy (by omega)).2]
    exact Nat.zero_le _
theorem T.Pf.numwf {t : T.Tr} (hw : T.Pf t) : ∀ k y, A.get k t = some y → (Lit.int .i64 k).wf = true := fun k y hy => wfI (by have := hw.num k y hy; omega)
set_option maxHeartbeats 4000000 in
theorem hasRing2_any {c : Nat → Option T.Col} {w : World} {bud p : Nat} {dos last : Int} {t : T.Tr} {mb : Nat} {f : Int → Nat} (h : Tf c w bud p dos last t mb f) (hb : bud ≤ 8000000000000) (hlen : t.length ≤ 5000000000000) (hw : T.Pf t) :
    Calls Tryz.prog 48 #[ptr p] w fun e w' => e = .returned (.bool (T.ring t)) ∧ Fr (fun _ => False) w w' := by
  have hbl := hw.len_le
  have hri := hw.ring_iff
  obtain ⟨x1, hx1⟩ := Option.isSome_iff_exists.1 hw.one
  obtain ⟨x2, hx2⟩ := Option.isSome_iff_exists.1 hw.two
  obtain ⟨l1, hl1⟩ : ∃ l, T.sub t t.length 0 1 = l := ⟨_, rfl⟩
  obtain ⟨l2, hl2⟩ : ∃ l, T.sub t t.length 0 2 = l := ⟨_, rfl⟩
  rw [hl1, hl2] at hbl hri
  have K1 := hid (walk_any h hw.up hb hlen hw.nmlen hw.numwf hx1 (hw.deep (.inl rfl)) (by rw [hl1]; omega))
  have K2 := hid (fun (W : World) (hf : Fr (fun _ => False) w W) => walk_any (h.kept hf (fun _ _ h => h)) hw.up hb hlen hw.nmlen hw.numwf hx2 (hw.deep (.inr rfl)) (by rw [hl2]; omega))
  have KL := hid (fun (W : World) (hf : Fr (fun _ => False) w W) => tlen_any (h.kept hf (fun _ _ h => h)))
  rw [hl1] at K1
  rw [hl2] at K2
  obtain ⟨n1, hn1⟩ : ∃ n, l1.length = n := ⟨_, rfl⟩
  obtain ⟨n2, hn2⟩ : ∃ n, l2.length = n := ⟨_, rfl⟩
  obtain ⟨n3, hn3⟩ : ∃ n, List.length t = n := ⟨_, rfl⟩
  obtain ⟨rg, hrg⟩ : ∃ b, T.ring t = b := ⟨_, rfl⟩
  rw [hn1] at K1 hbl hri
  rw [hn2] at K2 hbl hri
  rw [hn3] at KL hbl hlen hri
  rw [hrg] at hri ⊢
  have hb1 : n1 + n2 ≤ 5000000000000 := by omega
  have HRI := hid hri
  clear h hb hlen hw hx1 hx2 hl1 hl2 hn1 hn2 hn3 hbl hri hrg
  go_enter Tryz.func48, Tryz.ntmps48
  go_wp2_with fail
  refine K1.out.mono ?_
  rintro e w1 ⟨a1, cp1, rfl, _, _, hf1⟩
  have F1 := hid hf1
  clear hf1
  dsimp only
  go_wp2_with fail
  refine (K2.out w1 F1.out).mono ?_
  rintro e w2 ⟨a2, cp2, rfl, _, _, hf2⟩
  have F2 := hid (F1.out.trans hf2 (fun _ _ h => h))
  clear hf2
  dsimp only
  go_wp2_with (first
    | (go_at_call 10; refine (KL.out _ F2.out).mono ?_; rintro e w3 ⟨rfl, rfl⟩))
  go_ret
  refine ⟨?_, F2.out⟩
  rw [HRI.out]
  have he : decide ((n1 : Int) + (n2 : Int) < (n3 : Int)) = decide (n1 + n2 < n3) := decide_eq_decide.2 (by omega)
  rw [← he]
  rfl
end Go.Proofs.YtilbdpnioajkoaaGreat

/-
  What a tree stays, whatever is done; what is set back.
  Ballots, and slots: Check, isSlot, inOrder, Compare, and the document's.
  Entries in memory: their cells, and the two rows behind them; clones.
-/
import Derived.Test.YtilbdpnioajkoaaGreatMg6
import Derived.Test.YtilbdpnioajkoaaGreatMg4
import Derived.Test.YtilbdpnioajkoaaGreatMg7
import Derived.Test.YtilbdpnioajkoaaGreatTBackQ
import Derived.Test.YtilbdpnioajkoaaGreatMg1
import Derived.LoopN
import Derived.Test.YtilbdpnioajkoaaGreatMg2
import Derived.Lib.SliceRun
namespace Go.Proofs.YtilbdpnioajkoaaGreat
set_option linter.unusedVariables false
set_option maxRecDepth 100000
namespace A
theorem put_get {α : Type} {l : List (Int × α)} (h : Up l) {k : Int} {v : α} (hm : get k l = some v) : put k v l = l :=
  up_ext (h.put k v) h (fun p => by
    rw [mem_put]
    constructor
    · rintro (rfl | ⟨h1, _⟩)
      · exact get_mem hm
      · exact h1
    · intro hp
      by_cases e : p.1 = k
      · left
        have := h.inj hp (get_mem hm) e
        exact this
      · exact .inr ⟨hp, e⟩)
theorem del_get {α : Type} {l : List (Int × α)} {k : Int} (hm : get k l = none) : del k l = l := by
  unfold del
  exact List.filter_eq_self.2 (fun p hp => by have := get_none.1 hm p hp; simp [this])
end A
namespace T
/-- with the same keys and values -/
theorem ak_ext : ∀ {l m : At}, Ak l → Ak m → (∀ s, aget s l = aget s m) → l = m
  | [], [], _, _, _ => rfl
  | [], y :: r, _, _, h => by have := h y.1; rw [aget_cons, if_pos rfl] at this; cases this
  | x :: r, [], _, _, h => by have := h x.1; rw [aget_cons, if_pos rfl] at this; cases this
  | x :: r, y :: s, hl, hm, h => by
    unfold Ak at hl hm
    rw [List.pairwise_cons] at hl hm
    have none_of : ∀ {a : ByteArray} {l : At}, (∀ q ∈ l, blt a q.1 = true) → aget a l = none := fun {a l} hq => by
      unfold aget
      rw [Option.map_eq_none_iff, List.find?_eq_none]
      intro q hqm e
      simp at e
      have := hq q hqm
      rw [e, blt_irrefl] at this
      cases this
    have e1 : x.1 = y.1 := Classical.byContradiction fun ne => by
      by_cases hb : blt x.1 y.1 = true
      · have h1 := h x.1
        rw [aget_cons, if_pos rfl, aget_cons, if_neg (fun e => ne e.symm), none_of (fun q hq => blt_trans hb (hm.1 q hq))] at h1
        cases h1
      · have hb2 := blt_total ne hb
        have h1 := h y.1
        rw [aget_cons, if_neg ne, none_of (fun q hq => blt_trans hb2 (hl.1 q hq)), aget_cons, if_pos rfl] at h1
        cases h1
    have e2 : x.2 = y.2 := by
      have h1 := h x.1
      rw [aget_cons, if_pos rfl, aget_cons, if_pos e1.symm] at h1
      exact Option.some.inj h1
    have exy : x = y := Prod.ext e1 e2
    subst exy
    rw [ak_ext hl.2 hm.2 (fun k => ?_)]
    by_cases e : x.1 = k
    · subst e
      rw [none_of (fun q hq => hl.1 q hq), none_of (fun q hq => hm.1 q hq)]
    · have h1 := h k
      rw [aget_cons, if_neg e, aget_cons, if_neg e] at h1
      exact h1
theorem aget_mem {s v : ByteArray} : ∀ {l : At}, aget s l = some v → (s, v) ∈ l
  | [], h => by cases h
  | y :: r, h => by
    rw [aget_cons] at h
    by_cases e : y.1 = s
    · rw [if_pos e] at h
      cases h
      subst e
      exact List.mem_cons_self
    · rw [if_neg e] at h
      exact List.mem_cons_of_mem _ (aget_mem h)
theorem mem_aset {k v : ByteArray} {l : At} {p : ByteArray × ByteArray} (h : p ∈ aset k v l) : (p = (k, v) ∧ v.toList.isEmpty = false) ∨ p ∈ l := by
  unfold aset at h
  by_cases e : v.toList.isEmpty = true
  · rw [if_pos e] at h
    exact .inr (mem_adel.1 h).1
  · rw [if_neg e] at h
    rcases mem_ains.1 h with h | h
    · exact .inl ⟨h, by simpa using e⟩
    · exact .inr (mem_adel.1 h).1
/-- what was set is set back -/
theorem aset_back {l : At} (h : Ak l) (hv : ∀ p ∈ l, p.2.toList.isEmpty = false) (k v : ByteArray) : aset k ((aget k l).getD ⟨#[]⟩) (aset k v l) = l := by
  refine ak_ext ((h.aset k v).aset k _) h (fun s => ?_)
  rw [aget_aset]
  by_cases e : s = k
  · subst e
    rw [if_pos rfl]
    cases hg : aget s l with
    | none => rw [if_pos (by simp [ByteArray.toList_eq])]
    | some u =>
      have := hv _ (aget_mem hg)
      simp only [Option.getD_some]
      rw [if_neg (by rw [this]; simp)]
  · rw [if_neg e, aget_aset, if_neg e]

/-- a tree -/
structure Wf (t : Tr) : Prop where
  up : A.Up t
  one : (A.get 1 t).isSome = true
  two : (A.get 2 t).isSome = true
  num : ∀ n x, A.get n t = some x → 0 < n ∧ n ≤ 9223372036854775807
  top : ∀ n x, A.get n t = some x → n ≤ 2 → x.par = 0 ∧ x.nm = ⟨#[]⟩
  low : ∀ n x, A.get n t = some x → 2 < n → (A.get x.par t).isSome = true ∧ T.nam x.nm = true
  ats : ∀ n x, A.get n t = some x → Ak x.ats ∧ ∀ p ∈ x.ats, T.txt p.1 = true ∧ T.txt p.2 = true
  fin : ∃ K, ∀ n, ends t K n
theorem Wf.h0 {t : Tr} (h : Wf t) : A.get 0 t = none := by
  cases hg : A.get 0 t with
  | none => rfl
  | some x => have := (h.num 0 x hg).1; omega
theorem up_mono {t : Tr} {a : Int} : ∀ {k : Nat} {n : Int}, up t k n a = true → up t (k + 1) n a = true
  | 0, n, h => by cases h
  | k + 1, n, h => by
    unfold up at h ⊢
    cases hx : A.get n t with
    | none => rw [hx] at h; cases h
    | some x =>
      rw [hx] at h
      simp only [] at h ⊢
      by_cases e : n = a
      · rw [if_pos e]
      · rw [if_neg e] at h ⊢
        exact up_mono h
theorem up_le {t : Tr} {a n : Int} {k : Nat} (h : up t k n a = true) : ∀ j, up t (k + j) n a = true
  | 0 => h
  | j + 1 => up_mono (up_le h j)
theorem ends_le {t : Tr} {n : Int} {k : Nat} (h : ends t k n) : ∀ j, ends t (k + j) n
  | 0 => h
  | j + 1 => ends_succ (ends_le h j)
theorem up_ends {t : Tr} {a n : Int} {k : Nat} (h : ends t k n) : ∀ j, up t (k + j) n a = up t k n a
  | 0 => rfl
  | j + 1 => by rw [← Nat.add_assoc, up_succ (ends_le h j), up_ends h j]
/-- is a node below another one? -/
noncomputable def below (t : Tr) (n a : Int) : Bool := @decide (∃ k, up t k n a = true) (Classical.propDecidable _)
theorem below_eq {t : Tr} {K : Nat} {n : Int} (hK : ends t K n) (a : Int) : up t K n a = below t n a := by
  unfold below
  cases hu : up t K n a with
  | true => exact (@decide_eq_true _ (Classical.propDecidable _) ⟨K, hu⟩).symm
  | false =>
    refine (@decide_eq_false _ (Classical.propDecidable _) ?_).symm
    rintro ⟨k, hk⟩
    have h1 := up_le hk K
    rw [Nat.add_comm, up_ends hK, hu] at h1
    cases h1
/-- the guard -/
noncomputable def guard (t : Tr) (o : S.Op) : Bool := if o.k = 1 then T.may1 t o else if o.k = 2 then decide (2 < o.n) && ((A.get o.n t).isSome && ((A.get o.p t).isSome && (T.nam o.a && !below t o.p o.n))) else if o.k = 3 then T.may3 t o else false
theorem may_guard {t : Tr} {K : Nat} (hK : ∀ n, ends t K n) (o : S.Op) : T.may t K o = guard t o := by
  unfold T.may guard T.may2
  rw [below_eq (hK o.p)]
/-- an operation is done -/
def doOp (t : Tr) (o : S.Op) : Tr := if o.k = 3 then (match A.get o.n t with | some x => A.put o.n ⟨x.par, x.nm, aset o.b o.c x.ats⟩ t | none => t) else A.put o.n ⟨o.p, o.a, ((A.get o.n t).map (·.ats)).getD []⟩ t
/-! ### what a tree stays -/
theorem ends_none {t : Tr} {n : Int} (h : A.get n t = none) : ∀ k, ends t k n
  | 0 => h
  | k + 1 => fun x hx => by rw [h] at hx; cases hx
theorem get_put {α : Type} {t : List (Int × α)} (h : A.Up t) (k n : Int) (v : α) : A.get n (A.put k v t) = if n = k then some v else A.get n t := by
  by_cases e : n = k
  · subst e; rw [A.get_put_same h, if_pos rfl]
  · rw [A.get_put_other h e, if_neg e]
/-- a node that nobody stands under does not part where others end -/
theorem ends_put_new {t : Tr} (ht : A.Up t) {n : Int} {x : Nd} (hf : ∀ m y, A.get m t = some y → y.par ≠ n) : ∀ {k : Nat} {m : Int}, m ≠ n → ends t k m → ends (A.put n x t) k m
  | 0, m, hm, h => by
    show A.get m _ = none
    rw [get_put ht, if_neg hm]; exact h
  | k + 1, m, hm, h => fun y hy => by
    rw [get_put ht, if_neg hm] at hy
    exact ends_put_new ht hf (hf m y hy) (h y hy)
/-- a node is moved: who does not stand below it ends where he ended -/
theorem ends_put_off {t : Tr} (ht : A.Up t) {n : Int} {x x0 : Nd} (hn : A.get n t = some x0) : ∀ {k : Nat} {m : Int}, up t k m n = false → ends t k m → ends (A.put n x t) k m
  | 0, m, hu, h => by
    show A.get m _ = none
    have : m ≠ n := fun e => by
      subst e
      rw [show A.get m t = none from h] at hn
      cases hn
    rw [get_put ht, if_neg this]; exact h
  | k + 1, m, hu, h => fun y hy => by
    unfold up at hu
    by_cases e : m = n
    · subst e
      rw [hn] at hu
      simp at hu
    · rw [get_put ht, if_neg e] at hy
      rw [hy] at hu
      simp only [if_neg e] at hu
      exact ends_put_off ht hn hu (h y hy)
theorem ends_put_all {t : Tr} (ht : A.Up t) {n : Int} {x x0 : Nd} (hn : A.get n t = some x0) {K : Nat} (hp : ends (A.put n x t) K x.par) : ∀ {k : Nat} {m : Int}, ends t k m → ends (A.put n x t) (k + K + 1) m
  | 0, m, h => by
    have : m ≠ n := fun e => by
      subst e
      rw [show A.get m t = none from h] at hn
      cases hn
    exact ends_none (by rw [get_put ht, if_neg this]; exact h) _
  | k + 1, m, h => by
    show ends _ (k + 1 + K + 1) m
    rw [show k + 1 + K + 1 = (k + K + 1) + 1 by omega]
    intro y hy
    rw [get_put ht] at hy
    by_cases e : m = n
    · rw [if_pos e] at hy
      cases hy
      have := ends_le hp (k + 1)
      rw [show K + (k + 1) = k + K + 1 by omega] at this
      exact this
    · rw [if_neg e] at hy
      exact ends_put_all ht hn hp (h y hy)
theorem ends_congr {t u : Tr} (h : ∀ m, (A.get m u).map (·.par) = (A.get m t).map (·.par)) : ∀ {k : Nat} {m : Int}, ends t k m → ends u k m
  | 0, m, he => by
    have h1 := h m
    rw [show A.get m t = none from he] at h1
    show A.get m u = none
    simpa using h1
  | k + 1, m, he => fun y hy => by
    have h1 := h m
    rw [hy] at h1
    cases hg : A.get m t with
    | none => rw [hg] at h1; cases h1
    | some x =>
      rw [hg] at h1
      simp at h1
      rw [h1]
      exact ends_congr h (he x hg)
theorem up_congr {t u : Tr} (h : ∀ m, (A.get m u).map (·.par) = (A.get m t).map (·.par)) (a : Int) : ∀ {k : Nat} {m : Int}, up u k m a = up t k m a
  | 0, m => rfl
  | k + 1, m => by
    have h1 := h m
    unfold up
    cases hu : A.get m u with
    | none =>
      rw [hu] at h1
      cases hg : A.get m t with
      | none => rfl
      | some x => rw [hg] at h1; cases h1
    | some y =>
      cases hg : A.get m t with
      | none => rw [hu, hg] at h1; cases h1
      | some x =>
        rw [hu, hg] at h1
        simp at h1
        simp only []
        rw [h1, up_congr h a]
theorem Wf.par {t : Tr} (h : Wf t) {m : Int} {y : Nd} (hy : A.get m t = some y) : y.par = 0 ∨ (A.get y.par t).isSome = true := by
  by_cases e : m ≤ 2
  · exact .inl (h.top m y hy e).1
  · exact .inr (h.low m y hy (by omega)).1
theorem Wf.free {t : Tr} (h : Wf t) {n : Int} (hn : A.get n t = none) (h2 : 2 < n) : ∀ m y, A.get m t = some y → y.par ≠ n := fun m y hy e => by
  rcases h.par hy with e1 | e1
  · omega
  · rw [e, hn] at e1; cases e1
theorem Wf.kids_free {t : Tr} (h : Wf t) {n : Int} (hn : A.get n t = none) (h2 : 2 < n) (s : ByteArray) : kids t n s = [] := by
  cases hk : kids t n s with
  | nil => rfl
  | cons k r =>
    have hm : k ∈ kids t n s := by rw [hk]; exact List.mem_cons_self
    obtain ⟨_, y, h3, h4, _⟩ := (mem_kids h.up).1 hm
    exact absurd h4 (h.free hn h2 k y h3)
theorem txt_ne {s : ByteArray} (h : T.txt s = true) : s.toList.isEmpty = false ∧ s.size ≤ 255 := by
  unfold T.txt at h
  simpa using h
theorem nam_ne {s : ByteArray} (h : T.nam s = true) : s.size ≤ 255 := by
  unfold T.nam at h
  simp only [Bool.and_eq_true] at h
  exact (txt_ne h.1.1.1).2
/-- no node is its own parent -/
theorem Wf.own {t : Tr} (h : Wf t) {n : Int} {x : Nd} (hx : A.get n t = some x) : x.par ≠ n := fun e => by
  obtain ⟨K, hK⟩ := h.fin
  have : ∀ k, ¬ ends t k n := fun k => by
    induction k with
    | zero => intro he; rw [show A.get n t = none from he] at hx; cases hx
    | succ k ih => intro he; have := he x hx; rw [e] at this; exact ih this
  exact this K (hK n)
/-- a node is put: anew, or in its own place -/
theorem Wf.put {t : Tr} (h : Wf t) {n : Int} {x : Nd} (h2 : 2 < n) (hn : n ≤ 9223372036854775807) (hp : (A.get x.par t).isSome = true) (hnm : T.nam x.nm = true) (hak : Ak x.ats ∧ ∀ p ∈ x.ats, T.txt p.1 = true ∧ T.txt p.2 = true) (hf : ∃ K, ∀ m, ends (A.put n x t) K m) : Wf (A.put n x t) := by
  have some_of : ∀ m, (A.get m t).isSome = true → (A.get m (A.put n x t)).isSome = true := fun m hm => by
    rw [get_put h.up]
    by_cases e : m = n
    · rw [if_pos e]; rfl
    · rw [if_neg e]; exact hm
  refine ⟨h.up.put n x, some_of 1 h.one, some_of 2 h.two, fun m y hy => ?_, fun m y hy hm => ?_, fun m y hy hm => ?_, fun m y hy => ?_, hf⟩
  all_goals rw [get_put h.up] at hy
  all_goals by_cases e : m = n
  all_goals first | rw [if_pos e] at hy | rw [if_neg e] at hy
  all_goals try cases hy
  · omega
  · exact h.num m y hy
  · omega
  · exact h.top m y hy hm
  · exact ⟨some_of _ hp, hnm⟩
  · exact ⟨some_of _ (h.low m y hy hm).1, (h.low m y hy hm).2⟩
  · exact hak
  · exact h.ats m y hy
theorem Wf.make {t : Tr} (h : Wf t) {n : Int} {x : Nd} (h2 : 2 < n) (hn : n ≤ 9223372036854775807) (hg : A.get n t = none) (hp : (A.get x.par t).isSome = true) (hnm : T.nam x.nm = true) (hak : x.ats = []) : Wf (A.put n x t) := by
  refine h.put h2 hn hp hnm (by rw [hak]; exact ⟨List.Pairwise.nil, fun p hp => by cases hp⟩) ?_
  obtain ⟨K, hK⟩ := h.fin
  have hpn : x.par ≠ n := fun e => by rw [e, hg] at hp; cases hp
  refine ⟨K + 1, fun m => ?_⟩
  by_cases e : m = n
  · intro y hy
    rw [get_put h.up, if_pos e] at hy
    cases hy
    exact ends_put_new h.up (h.free hg h2) hpn (hK _)
  · exact ends_succ (ends_put_new h.up (h.free hg h2) e (hK m))
theorem Wf.move {t : Tr} (h : Wf t) {n : Int} {x x0 : Nd} (h2 : 2 < n) (hg : A.get n t = some x0) (hp : (A.get x.par t).isSome = true) (hnm : T.nam x.nm = true) (hak : x.ats = x0.ats) (hb : below t x.par n = false) : Wf (A.put n x t) := by
  refine h.put h2 (h.num n x0 hg).2 hp hnm (by rw [hak]; exact h.ats n x0 hg) ?_
  obtain ⟨K, hK⟩ := h.fin
  rw [← below_eq (hK x.par)] at hb
  exact ⟨K + K + 1, fun m => ends_put_all h.up hg (ends_put_off h.up hg hb (hK x.par)) (hK m)⟩
theorem par_attr {t : Tr} (h : A.Up t) {n : Int} {x : Nd} (hx : A.get n t = some x) (l : At) (m : Int) : (A.get m (A.put n ⟨x.par, x.nm, l⟩ t)).map (·.par) = (A.get m t).map (·.par) := by
  rw [get_put h]
  by_cases e : m = n
  · subst e; rw [if_pos rfl, hx]; rfl
  · rw [if_neg e]
theorem Wf.attr {t : Tr} (h : Wf t) {n : Int} {x : Nd} (hx : A.get n t = some x) {l : At} (hl : Ak l ∧ ∀ p ∈ l, T.txt p.1 = true ∧ T.txt p.2 = true) : Wf (A.put n ⟨x.par, x.nm, l⟩ t) := by
  have some_of : ∀ m, (A.get m t).isSome = true → (A.get m (A.put n ⟨x.par, x.nm, l⟩ t)).isSome = true := fun m hm => by
    rw [get_put h.up]
    by_cases e : m = n
    · rw [if_pos e]; rfl
    · rw [if_neg e]; exact hm
  refine ⟨h.up.put n _, some_of 1 h.one, some_of 2 h.two, fun m y hy => ?_, fun m y hy hm => ?_, fun m y hy hm => ?_, fun m y hy => ?_, ?_⟩
  · rw [get_put h.up] at hy
    by_cases e : m = n
    · subst e; exact h.num m x hx
    · rw [if_neg e] at hy; exact h.num m y hy
  · rw [get_put h.up] at hy
    by_cases e : m = n
    · subst e; rw [if_pos rfl] at hy; cases hy; exact h.top m x hx hm
    · rw [if_neg e] at hy; exact h.top m y hy hm
  · rw [get_put h.up] at hy
    by_cases e : m = n
    · subst e; rw [if_pos rfl] at hy; cases hy; exact ⟨some_of _ (h.low m x hx hm).1, (h.low m x hx hm).2⟩
    · rw [if_neg e] at hy; exact ⟨some_of _ (h.low m y hy hm).1, (h.low m y hy hm).2⟩
  · rw [get_put h.up] at hy
    by_cases e : m = n
    · subst e; rw [if_pos rfl] at hy; cases hy; exact hl
    · rw [if_neg e] at hy; exact h.ats m y hy
  · obtain ⟨K, hK⟩ := h.fin
    exact ⟨K, fun m => ends_congr (par_attr h.up hx l) (hK m)⟩
theorem ok_aset {l : At} (h : Ak l ∧ ∀ p ∈ l, T.txt p.1 = true ∧ T.txt p.2 = true) {k v : ByteArray} (hk : T.txt k = true) (hv : v.size ≤ 255) : Ak (aset k v l) ∧ ∀ p ∈ aset k v l, T.txt p.1 = true ∧ T.txt p.2 = true := by
  refine ⟨h.1.aset k v, fun p hp => ?_⟩
  rcases mem_aset hp with ⟨rfl, hne⟩ | hp
  · refine ⟨hk, ?_⟩
    unfold T.txt
    simp [hne, hv]
  · exact h.2 p hp
/-- what the guard says, kind by kind -/
theorem guard1 {t : Tr} {o : S.Op} (h : guard t o = true) (hk : o.k = 1) : 2 < o.n ∧ A.get o.n t = none ∧ (A.get o.p t).isSome = true ∧ T.nam o.a = true := by
  unfold guard at h
  rw [if_pos hk] at h
  simp only [T.may1, Bool.and_eq_true, decide_eq_true_eq, Bool.not_eq_true', Option.isSome_eq_false_iff, Option.isNone_iff_eq_none] at h
  exact ⟨h.1, h.2.1, h.2.2.1, h.2.2.2⟩
theorem guard2 {t : Tr} {o : S.Op} (h : guard t o = true) (hk : o.k = 2) : 2 < o.n ∧ (∃ x, A.get o.n t = some x) ∧ (A.get o.p t).isSome = true ∧ T.nam o.a = true ∧ below t o.p o.n = false := by
  unfold guard at h
  rw [if_neg (by omega), if_pos hk] at h
  simp only [Bool.and_eq_true, decide_eq_true_eq, Bool.not_eq_true', Option.isSome_iff_exists] at h
  exact ⟨h.1, h.2.1, by rw [Option.isSome_iff_exists]; exact h.2.2.1, h.2.2.2.1, h.2.2.2.2⟩
theorem guard3 {t : Tr} {o : S.Op} (h : guard t o = true) (hk : o.k = 3) : (∃ x, A.get o.n t = some x) ∧ T.txt o.b = true ∧ o.c.size ≤ 255 := by
  unfold guard at h
  rw [if_neg (by omega), if_neg (by omega), if_pos hk] at h
  simp only [T.may3, Bool.and_eq_true, decide_eq_true_eq, Option.isSome_iff_exists] at h
  exact ⟨h.1, h.2.1, h.2.2⟩
theorem guard_k {t : Tr} {o : S.Op} (h : guard t o = true) : o.k = 1 ∨ o.k = 2 ∨ o.k = 3 := by
  unfold guard at h
  by_cases h1 : o.k = 1
  · exact .inl h1
  · by_cases h2 : o.k = 2
    · exact .inr (.inl h2)
    · by_cases h3 : o.k = 3
      · exact .inr (.inr h3)
      · rw [if_neg h1, if_neg h2, if_neg h3] at h
        cases h
theorem Wf.step {t : Tr} (h : Wf t) {o : S.Op} (hi : o.n ≤ 9223372036854775807) (hg : guard t o = true) : Wf (doOp t o) := by
  rcases guard_k hg with hk | hk | hk
  · obtain ⟨h1, h2, h3, h4⟩ := guard1 hg hk
    unfold doOp
    rw [if_neg (by omega), h2]
    exact h.make h1 hi h2 h3 h4 rfl
  · obtain ⟨h1, ⟨x, h2⟩, h3, h4, h5⟩ := guard2 hg hk
    unfold doOp
    rw [if_neg (by omega), h2]
    exact h.move h1 h2 h3 h4 rfl h5
  · obtain ⟨⟨x, h1⟩, h2, h3⟩ := guard3 hg hk
    unfold doOp
    rw [if_pos hk, h1]
    exact h.attr h1 (ok_aset (h.ats _ _ h1) h2 h3)
theorem Wf.zero : Wf T.zero := by
  have g : ∀ n x, A.get n T.zero = some x → (n = 1 ∨ n = 2) ∧ x = zn := fun n x hx => by
    have := A.get_mem hx
    simp only [T.zero, List.mem_cons, Prod.mk.injEq, List.not_mem_nil, or_false] at this
    rcases this with ⟨rfl, rfl⟩ | ⟨rfl, rfl⟩ <;> simp
  refine ⟨by simp [A.Up, T.zero], rfl, rfl, fun n x hx => ?_, fun n x hx _ => ?_, fun n x hx h => ?_, fun n x hx => ?_, 1, fun n x hx => ?_⟩
  · have := (g n x hx).1; omega
  · rw [(g n x hx).2]; exact ⟨rfl, rfl⟩
  · have := (g n x hx).1; omega
  · rw [(g n x hx).2]; exact ⟨List.Pairwise.nil, fun p hp => by cases hp⟩
  · rw [(g n x hx).2]; rfl
theorem length_step {t : Tr} (h : A.Up t) (o : S.Op) : (doOp t o).length ≤ t.length + 1 := by
  unfold doOp
  by_cases hk : o.k = 3
  · rw [if_pos hk]
    cases hg : A.get o.n t with
    | none => simp
    | some x => simp only []; exact A.length_put_le _ _ _
  · rw [if_neg hk]
    exact A.length_put_le _ _ _
end T
end Go.Proofs.YtilbdpnioajkoaaGreat

namespace Go.Proofs.YtilbdpnioajkoaaGreat
open Go.RowKit
set_option linter.unusedVariables false
set_option linter.unusedSimpArgs false

/-- a ballot: its round, its replica -/
abbrev A.Bl := Int × Int
def A.okB (b : A.Bl) : Bool := decide (1 ≤ b.1 ∧ b.1 ≤ 1099511627776 ∧ 0 ≤ b.2 ∧ b.2 < 5)
def A.okS (s : Int) : Bool := decide (0 ≤ s ∧ s ≤ 1099511627776)
/-- a is no greater than b -/
def A.le (a b : A.Bl) : Bool := decide (a.1 < b.1 ∨ a.1 = b.1 ∧ a.2 ≤ b.2)
def A.cmp (a b : A.Bl) : Int := if A.le b a = false then -1 else if A.le a b = false then 1 else 0
abbrev A.bv (b : A.Bl) : Value := .agg #[.int .i64 b.1, .int .i64 b.2]

theorem cmp_ref (a1 a2 b1 b2 : Int) : A.cmp (a1, a2) (b1, b2) = if a1 < b1 ∨ a1 = b1 ∧ a2 < b2 then -1 else if a1 = b1 ∧ a2 = b2 then 0 else 1 := by
  simp only [A.cmp, A.le, decide_eq_false_iff_not]
  split <;> split <;> (try split) <;> omega
end Go.Proofs.YtilbdpnioajkoaaGreat

namespace Go.Proofs.YtilbdpnioajkoaaGreat
open Go.RowKit
set_option linter.unusedVariables false

/-- WHAT A SLICE OF ELEMENTS OF k CELLS READS AS, in blocks of I. -/
def Rw (I : Nat → Prop) (w : World) (k : Nat) (a : Option Addr) (n : Nat) (xs : List Value) : Prop :=
  xs.length = n * k ∧ (n = 0 ∨ ∃ g o, a = some ⟨g, o, none⟩ ∧ I g ∧ ∀ j u, xs[j]? = some u → w.cell? ⟨g, o + j, none⟩ = some u)
theorem Rw.nil (I : Nat → Prop) (w : World) (k : Nat) (a : Option Addr) : Rw I w k a 0 [] := ⟨by simp, .inl rfl⟩
theorem Rw.kept {I S : Nat → Prop} {w w' : World} {k : Nat} {a : Option Addr} {n : Nat} {xs : List Value} (h : Rw I w k a n xs) (hf : Fr S w w') (hS : ∀ i, I i → ¬ S i) : Rw I w' k a n xs := by
  refine ⟨h.1, ?_⟩
  rcases h.2 with h0 | ⟨g, o, rfl, hI, hc⟩
  · exact .inl h0
  · exact .inr ⟨g, o, rfl, hI, fun j u hu => cellFr hf (hS g hI) (hc j u hu)⟩
theorem Rw.mono {I J : Nat → Prop} {w : World} {k : Nat} {a : Option Addr} {n : Nat} {xs : List Value} (h : Rw I w k a n xs) (hJ : ∀ i, I i → J i) : Rw J w k a n xs := by
  refine ⟨h.1, ?_⟩
  rcases h.2 with h0 | ⟨g, o, rfl, hI, hc⟩
  · exact .inl h0
  · exact .inr ⟨g, o, rfl, hJ g hI, hc⟩
theorem Rw.of_ro {I : Nat → Prop} {w : World} {e : TypeId} {k : Nat} {a : Option Addr} {n c : Nat} {xs : List Value} (h : Ro w e k a n c xs) (hI : ∀ g, blk a = some g → I g) : Rw I w k a n xs := by
  refine ⟨h.1, ?_⟩
  rcases Nat.eq_zero_or_pos n with h0 | h0
  · exact .inl h0
  · obtain ⟨g, fo, rfl⟩ := h.some_of h0
    exact .inr ⟨g, fo, rfl, hI g rfl, fun j u hu => h.cell hu⟩
theorem infoOp : (Tryz.prog.info? 35).map (fun i => (i.zero, i.size, i.bytes)) = some (some (.agg #[.int .i64 0, .int .i64 0, .int .i64 0, .int .i64 0, .int .i64 0, .string ⟨#[]⟩, .string ⟨#[]⟩, .string ⟨#[]⟩]), 8, 88) := by kernel_rfl
theorem infoByte : (Tryz.prog.info? 5).map (fun i => (i.zero, i.size, i.bytes)) = some (some (.int .u8 0), 1, 1) := by kernel_rfl
/-- append of a slice's elements onto an empty literal -/
theorem clone_run (w : World) (t e : TypeId) (i0 : TypeInfo) (z : Value) (k by_ : Nat) (ht : Tryz.prog.underlying t = some (.slice e)) (hi : Tryz.prog.info? e = some i0) (hz0 : i0.zero = some z) (hz1 : i0.size = k) (hz2 : i0.bytes = by_) (hzs : z.cells.size = k) (hk : 0 < k)
    (I : Nat → Prop) (ad : Addr) (n sc : Nat) (xs : List Value) (h : Rw I w k (some ad) n xs) (h1 : ∀ u ∈ xs, u.oneCell' = true) (hn : n ≤ 200000000000000) (hnb : (0 + n + (0 + n) / 4 + 192) * by_ ≤ 281474976710656) :
    ∃ a' c' w', (Builtin.append_ #[t, t] t #[.slice (some ⟨w.heap.size, 0, none⟩) 0 0, .slice (some ad) n sc]).run Tryz.prog (w.alloc (.cells #[] e)) = .ok (.slice a' n c') w' ∧ Rw (fun g => w.heap.size ≤ g ∧ g < w'.heap.size) w' k a' n xs ∧ Fr (fun _ => False) w w' := by
  have f0 : Fr (fun _ => False) w (w.alloc (.cells #[] e)) := Fr.alloc (Fr.refl _ _) _
  have hr0 : Ro (w.alloc (.cells #[] e)) e k (some ⟨w.heap.size, 0, none⟩) 0 0 [] := ⟨by simp, .inr ⟨w.heap.size, 0, #[], by simp, Go.heap_alloc_new w _, Nat.le_refl _, Nat.zero_le _, by simp, by simp⟩⟩
  rcases Nat.eq_zero_or_pos n with h0 | h0
  · subst h0
    have hs : xs = [] := List.eq_nil_of_length_eq_zero (by rw [h.1]; simp)
    have hsrc : Src Tryz.prog k t (.slice (some ad) 0 sc) 0 [] (w.alloc (.cells #[] e)) := Src.ofSlice _ ht ad 0 sc [] (by simp) (by simp) (by simp)
    refine ⟨_, _, _, run_append_nothing (w.alloc (.cells #[] e)) t t t e i0 ht hi (some ⟨w.heap.size, 0, none⟩) 0 0 (Nat.le_refl _) _ (by rw [hz1]; exact hsrc), by rw [hs]; exact Rw.nil _ _ _ _, f0⟩
  · have hcell : ∀ j u, xs[j]? = some u → (w.alloc (.cells #[] e)).cell? (ad.add j) = some u := fun j u hu => by
      rcases (h.kept f0 (fun _ _ h => h)).2 with hv | ⟨g, o, hv, _, hc⟩
      · omega
      · cases hv
        rw [Addr.add_lit]
        exact hc j u hu
    obtain ⟨a', c', w', hr, h2, h3, h4⟩ := run_append_o (P := Tryz.prog) (w.alloc (.cells #[] e)) t t e i0 z k by_ ht hi hz0 hz1 hz2 hzs hk (some ⟨w.heap.size, 0, none⟩) 0 0 [] hr0 ad n sc xs h.1 hcell h1 h0 (by omega) hnb
    rw [Nat.zero_add, List.nil_append] at h2
    rw [Nat.zero_add] at hr
    refine ⟨a', c', w', hr, Rw.of_ro h2 (fun g hg => ⟨?_, h2.lt g hg⟩), f0.trans (Fr.of_grown h3) (fun i hi e => by simp [blk] at e; omega)⟩
    rcases h4 with ⟨rfl, _⟩ | ⟨rfl, _⟩
    · simp [blk] at hg; omega
    · simp [blk] at hg; omega
/-- what a clone of a row is: the same elements, in new memory -/
def Cw (w : World) (k n : Nat) (xs : List Value) (e : Ending) (w' : World) : Prop := ∃ a c, e = .returned (.slice a n c) ∧ Rw (fun g => w.heap.size ≤ g ∧ g < w'.heap.size) w' k a n xs ∧ Fr (fun _ => False) w w'
/-- AN ENTRY: its cells (where its two slices stand: nil), its operations' cells, its part's bytes -/
structure A.En where
  fx : List Value
  ops : List (List Value)
  dt : List UInt8
/-- what stands at a place: 0 a number, 1 a string, 2 nothing -/
def A.tyAt (j : Nat) : Nat := if j = 13 ∨ j = 52 then 2 else if 8 ≤ j ∧ j ≤ 10 then 1 else 0
def A.vOk : Nat → Value → Prop
  | 0, v => ∃ x : Int, v = .int .i64 x
  | 1, v => ∃ s : ByteArray, v = .string s
  | _, v => v = .slice none 0 0
theorem A.vOk.one {t : Nat} {v : Value} (h : A.vOk t v) : v.oneCell' = true := by
  unfold A.vOk at h
  split at h
  · obtain ⟨x, rfl⟩ := h; rfl
  · obtain ⟨x, rfl⟩ := h; rfl
  · subst h; rfl
structure A.En.Ok (e : A.En) : Prop where
  len : e.fx.length = 56
  ty : ∀ (j : Nat) v, e.fx[j]? = some v → A.vOk (A.tyAt j) v
  op : ∀ o ∈ e.ops, o.length = 8 ∧ ∀ (j : Nat) v, o[j]? = some v → A.vOk (if 5 ≤ j then 1 else 0) v
  many : e.ops.length ≤ 1599289640401
  long : e.dt.length ≤ 140737488355328
theorem flat_len {k : Nat} : ∀ {l : List (List Value)}, (∀ o ∈ l, o.length = k) → l.flatten.length = l.length * k
  | [], _ => by simp
  | o :: r, h => by
    rw [List.flatten_cons, List.length_append, h o (by simp), flat_len (fun o ho => h o (by simp [ho])), List.length_cons, Nat.add_mul]
    omega
theorem A.En.Ok.oneOps {e : A.En} (h : e.Ok) : ∀ u ∈ e.ops.flatten, u.oneCell' = true := fun u hu => by
  obtain ⟨o, ho, hu⟩ := List.mem_flatten.1 hu
  obtain ⟨j, hj⟩ := List.getElem?_of_mem hu
  exact ((h.op o ho).2 j u hj).one
/-- ITS CELLS READ AS AN ENTRY, in blocks of I. -/
def Re (I : Nat → Prop) (w : World) (cs : List Value) (e : A.En) : Prop :=
  e.Ok ∧ ∃ a1 c1 a2 c2, cs = (e.fx.set 13 (.slice a1 e.ops.length c1)).set 52 (.slice a2 e.dt.length c2) ∧ Rw I w 8 a1 e.ops.length e.ops.flatten ∧ Rw I w 1 a2 e.dt.length (e.dt.map B)
theorem Re.kept {I S : Nat → Prop} {w w' : World} {cs : List Value} {e : A.En} (h : Re I w cs e) (hf : Fr S w w') (hS : ∀ i, I i → ¬ S i) : Re I w' cs e := by
  obtain ⟨h0, a1, c1, a2, c2, h1, h2, h3⟩ := h
  exact ⟨h0, a1, c1, a2, c2, h1, h2.kept hf hS, h3.kept hf hS⟩
theorem Re.mono {I J : Nat → Prop} {w : World} {cs : List Value} {e : A.En} (h : Re I w cs e) (hJ : ∀ i, I i → J i) : Re J w cs e := by
  obtain ⟨h0, a1, c1, a2, c2, h1, h2, h3⟩ := h
  exact ⟨h0, a1, c1, a2, c2, h1, h2.mono hJ, h3.mono hJ⟩
theorem Re.len {I : Nat → Prop} {w : World} {cs : List Value} {e : A.En} (h : Re I w cs e) : cs.length = 56 := by
  obtain ⟨h0, a1, c1, a2, c2, rfl, _⟩ := h
  simp [h0.len]
theorem Re.one {I : Nat → Prop} {w : World} {cs : List Value} {e : A.En} (h : Re I w cs e) : ∀ u ∈ cs, u.oneCell' = true := by
  obtain ⟨h0, a1, c1, a2, c2, rfl, _⟩ := h
  intro u hu
  rcases List.mem_or_eq_of_mem_set hu with hu | rfl
  · rcases List.mem_or_eq_of_mem_set hu with hu | rfl
    · obtain ⟨j, hj⟩ := List.getElem?_of_mem hu
      exact (h0.ty j u hj).one
    · rfl
  · rfl
/-- A SLOTTED ENTRY -/
structure A.Sd where
  slot : Int
  bl : A.Bl
  en : A.En
/-- its cells -/
def Rs (I : Nat → Prop) (w : World) (cs : Array Value) (s : A.Sd) : Prop := ∃ ec, cs = (.int .i64 s.slot :: .int .i64 s.bl.1 :: .int .i64 s.bl.2 :: ec).toArray ∧ Re I w ec s.en
theorem Rs.kept {I S : Nat → Prop} {w w' : World} {cs : Array Value} {s : A.Sd} (h : Rs I w cs s) (hf : Fr S w w') (hS : ∀ i, I i → ¬ S i) : Rs I w' cs s := by
  obtain ⟨ec, h1, h2⟩ := h
  exact ⟨ec, h1, h2.kept hf hS⟩
theorem Rs.mono {I J : Nat → Prop} {w : World} {cs : Array Value} {s : A.Sd} (h : Rs I w cs s) (hJ : ∀ i, I i → J i) : Rs J w cs s := by
  obtain ⟨ec, h1, h2⟩ := h
  exact ⟨ec, h1, h2.mono hJ⟩
theorem Rs.size {I : Nat → Prop} {w : World} {cs : Array Value} {s : A.Sd} (h : Rs I w cs s) : cs.size = 59 := by
  obtain ⟨ec, rfl, h2⟩ := h
  simp [h2.len]
theorem Rs.one {I : Nat → Prop} {w : World} {cs : Array Value} {s : A.Sd} (h : Rs I w cs s) : cs.all (·.oneCell') = true := by
  obtain ⟨ec, rfl, h2⟩ := h
  rw [Array.all_eq_true_iff_forall_mem]
  intro u hu
  simp only [List.mem_toArray, List.mem_cons] at hu
  rcases hu with rfl | rfl | rfl | hu
  · rfl
  · rfl
  · rfl
  · exact h2.one u hu
/-- its parts -/
theorem Rs.parts {I : Nat → Prop} {w : World} {cs : Array Value} {s : A.Sd} (h : Rs I w cs s) : s.en.Ok ∧ ∃ a1 c1 a2 c2, cs[16]? = some (.slice a1 s.en.ops.length c1) ∧ cs[55]? = some (.slice a2 s.en.dt.length c2) ∧ cs[0]? = some (.int .i64 s.slot) ∧ cs[1]? = some (.int .i64 s.bl.1) ∧ cs[2]? = some (.int .i64 s.bl.2) ∧
    Rw I w 8 a1 s.en.ops.length s.en.ops.flatten ∧ Rw I w 1 a2 s.en.dt.length (s.en.dt.map B) := by
  obtain ⟨ec, rfl, h0, a1, c1, a2, c2, rfl, h2, h3⟩ := h
  refine ⟨h0, a1, c1, a2, c2, ?_, ?_, rfl, rfl, rfl, h2, h3⟩
  · simp [h0.len]
  · simp [h0.len]
/-- with other rows of the same elements it is the same -/
theorem Rs.other {I J : Nat → Prop} {w w' : World} {cs : Array Value} {s : A.Sd} (h : Rs I w cs s) {a1 a2 : Option Addr} {c1 c2 : Nat} (h1 : Rw J w' 8 a1 s.en.ops.length s.en.ops.flatten) (h2 : Rw J w' 1 a2 s.en.dt.length (s.en.dt.map B)) :
    Rs J w' ((cs.setIfInBounds 16 (.slice a1 s.en.ops.length c1)).setIfInBounds 55 (.slice a2 s.en.dt.length c2)) s := by
  obtain ⟨ec, rfl, h0, b1, d1, b2, d2, rfl, _, _⟩ := h
  refine ⟨(s.en.fx.set 13 (.slice a1 s.en.ops.length c1)).set 52 (.slice a2 s.en.dt.length c2), ?_, h0, a1, c1, a2, c2, rfl, h1, h2⟩
  simp only [List.setIfInBounds_toArray, List.set_cons_succ]
  congr 4
  apply List.ext_getElem?
  intro j
  simp only [List.getElem?_set, List.length_set, h0.len]
  by_cases e1 : 52 = j
  · subst e1; simp
  · by_cases e2 : 13 = j
    · subst e2; simp
    · simp [e1, e2]
/-- what a clone of a slotted entry is -/
def Cs (w : World) (s : A.Sd) (e : Ending) (w' : World) : Prop := ∃ cs, e = .returned (.agg cs) ∧ Rs (fun g => w.heap.size ≤ g ∧ g < w'.heap.size) w' cs s ∧ Fr (fun _ => False) w w'
end Go.Proofs.YtilbdpnioajkoaaGreat

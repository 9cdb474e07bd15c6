/-
  What a walk from the root or from the trash tells of each node.
  The library's contracts on the sorted keys of a map of numbers, laid at this dump.
  slices.Sorted(maps.Keys(m)), at maps of numbers: the numbers, rising.
-/
import Derived.Test.YtmgnldangjfohaaGreatMg38
import Derived.Test.YtmgnldangjfohaaGreatRows
import Derived.WalkKit
import Derived.Shelf.SlIterI.Nil
import Derived.Shelf.SortM.Plain
import Derived.Shelf.SortM.SortNone
import Derived.Ground.GgzProg
import Derived.Ground.SlgmProg
import Derived.Test.YtmgnldangjfohaaGreatTSortedQ
namespace Go.Proofs.YtmgnldangjfohaaGreat
open Go.RowKit Go.Maps
set_option linter.unusedVariables false
set_option linter.unusedSimpArgs false
namespace T
theorem sub_there {t : Tr} (ht : A.Up t) : ∀ {k d : Nat} {n : Int}, (A.get n t).isSome = true → ∀ s ∈ sub t k d n, (A.get s.2 t).isSome = true
  | 0, _, _, _, s, hs => by cases hs
  | k + 1, d, n, hn, s, hs => by
    rcases List.mem_cons.1 hs with rfl | hs
    · exact hn
    · obtain ⟨c, hc, hs⟩ := List.mem_flatMap.1 hs
      obtain ⟨_, y, hy, _⟩ := (mem_chs ht).1 hc
      exact sub_there ht (by rw [hy]; rfl) s hs
theorem sub_top {t : Tr} (ht : A.Up t) : ∀ {k d : Nat} {n : Int}, ∀ s ∈ sub t k d n, s = (d, n) ∨ (d < s.1 ∧ 2 < s.2)
  | 0, _, _, s, hs => by cases hs
  | k + 1, d, n, s, hs => by
    rcases List.mem_cons.1 hs with rfl | hs
    · exact .inl rfl
    · obtain ⟨c, hc, hs⟩ := List.mem_flatMap.1 hs
      obtain ⟨h2, _⟩ := (mem_chs ht).1 hc
      rcases sub_top ht s hs with rfl | ⟨h3, h4⟩
      · exact .inr ⟨Nat.lt_succ_self _, h2⟩
      · exact .inr ⟨by omega, h4⟩
theorem up_one {t : Tr} {n : Int} (hn : (A.get n t).isSome = true) : up t 1 n n = true := by
  obtain ⟨x, hx⟩ := Option.isSome_iff_exists.1 hn
  unfold up
  rw [hx]
  simp
theorem up_over {t : Tr} {c n : Int} {y : Nd} (hc : A.get c t = some y) (hp : y.par = n) (hn : (A.get n t).isSome = true) : ∀ {j : Nat} {m : Int}, up t j m c = true → ∃ i, up t i m n = true
  | 0, m, h => by cases h
  | j + 1, m, h => by
    by_cases e : m = n
    · subst e; exact ⟨1, up_one hn⟩
    · unfold up at h
      cases hg : A.get m t with
      | none => rw [hg] at h; cases h
      | some x =>
        rw [hg] at h
        simp only at h
        by_cases e2 : m = c
        · subst e2
          rw [hc] at hg
          cases hg
          refine ⟨2, ?_⟩
          unfold up
          rw [hc]
          simp only [if_neg e]
          rw [hp]
          exact up_one hn
        · rw [if_neg e2] at h
          obtain ⟨i, hi⟩ := up_over hc hp hn h
          refine ⟨i + 1, ?_⟩
          unfold up
          rw [hg]
          simp only [if_neg e]
          exact hi
theorem sub_up {t : Tr} (ht : A.Up t) : ∀ {k d : Nat} {n : Int}, (A.get n t).isSome = true → ∀ s ∈ sub t k d n, ∃ i, up t i s.2 n = true
  | 0, _, _, _, s, hs => by cases hs
  | k + 1, d, n, hn, s, hs => by
    rcases List.mem_cons.1 hs with rfl | hs
    · exact ⟨1, up_one hn⟩
    · obtain ⟨c, hc, hs⟩ := List.mem_flatMap.1 hs
      obtain ⟨_, y, hy, hp, _⟩ := (mem_chs ht).1 hc
      obtain ⟨i, hi⟩ := sub_up ht (by rw [hy]; rfl) s hs
      exact up_over hy hp hn hi
/-- never below both -/
theorem up_two {t : Tr} (h0 : A.get 0 t = none) (htop : ∀ n x, A.get n t = some x → n ≤ 2 → x.par = 0) {a b : Int} (ha : a ≤ 2) (hb : b ≤ 2) (hab : a ≠ b) : ∀ {i j : Nat} {m : Int}, up t i m a = true → up t j m b = true → False
  | 0, _, m, h, _ => by cases h
  | i + 1, 0, m, _, h => by cases h
  | i + 1, j + 1, m, h, h' => by
    have end0 : ∀ k c, up t k 0 c = false := fun k c => by
      cases k with
      | zero => rfl
      | succ k => unfold up; rw [h0]
    unfold up at h h'
    cases hg : A.get m t with
    | none => rw [hg] at h; cases h
    | some x =>
      rw [hg] at h h'
      simp only at h h'
      by_cases e : m = a
      · subst e
        rw [if_neg hab, htop _ _ hg ha, end0] at h'
        cases h'
      · rw [if_neg e] at h
        by_cases e2 : m = b
        · subst e2
          rw [htop _ _ hg hb, end0] at h
          cases h
        · rw [if_neg e2] at h'
          exact up_two h0 htop ha hb hab h h'
/-- who stands above ends no later -/
theorem up_rank {t : Tr} {n : Int} : ∀ {i j : Nat} {m : Int}, up t i m n = true → ends t j m → ends t j n
  | 0, _, m, h, _ => by cases h
  | i + 1, j, m, h, he => by
    unfold up at h
    cases hg : A.get m t with
    | none => rw [hg] at h; cases h
    | some x =>
      rw [hg] at h
      simp only at h
      by_cases e : m = n
      · subst e; exact he
      · rw [if_neg e] at h
        cases j with
        | zero => rw [show A.get m t = none from he] at hg; cases hg
        | succ j => exact ends_succ (up_rank h (he x hg))
/-- none is below one of its children -/
theorem up_not {t : Tr} {n : Int} {x : Nd} (hx : A.get n t = some x) {i : Nat} (h : up t i x.par n = true) : ∀ j, ¬ ends t j n
  | 0, he => by rw [show A.get n t = none from he] at hx; cases hx
  | j + 1, he => up_not hx h j (up_rank h (he x hx))
theorem Wf.up_par {t : Tr} (h : Wf t) {n : Int} {x : Nd} (hx : A.get n t = some x) (i : Nat) : T.up t i x.par n = false := by
  cases hu : T.up t i x.par n with
  | false => rfl
  | true =>
    obtain ⟨K, hK⟩ := h.fin
    exact (up_not hx hu K (hK n)).elim
/-- how often a child stands in a list -/
def times (nm : ByteArray) (n : Int) (l : List Ch) : Nat := l.countP (fun c => decide (c.2 = n) && decide (c.1 = nm))
theorem times_one {t : Tr} (ht : A.Up t) {n : Int} {x : Nd} (h2 : 2 < n) (hx : A.get n t = some x) : times x.nm n (chs t x.par) = 1 := by
  have h1 := cnt_kid ht h2 hx x.par
  rw [if_pos rfl] at h1
  unfold kidsOf at h1
  rw [← h1]
  unfold times
  rw [List.count_eq_countP, List.countP_map]
  refine List.countP_congr (fun c hc => ?_)
  obtain ⟨_, y, hy, _, hn⟩ := (mem_chs ht).1 hc
  simp only [Bool.and_eq_true, decide_eq_true_eq, Function.comp, beq_iff_eq]
  constructor
  · rintro ⟨h, _⟩; exact h
  · intro e
    rw [e, hx] at hy
    cases hy
    exact ⟨e, hn.symm⟩
theorem times_snoc (nm : ByteArray) (n : Int) (l : List Ch) (c : Ch) : times nm n (l ++ [c]) = times nm n l + (if c.2 = n ∧ c.1 = nm then 1 else 0) := by
  unfold times
  rw [List.countP_append, List.countP_cons, List.countP_nil]
  by_cases h : c.2 = n ∧ c.1 = nm
  · rw [if_pos h]; simp [h.1, h.2]
  · rw [if_neg h]
    have : (decide (c.2 = n) && decide (c.1 = nm)) = false := by
      cases hb : (decide (c.2 = n) && decide (c.1 = nm)) with
      | false => rfl
      | true => simp at hb; exact (h hb).elim
    simp [this]
/-- what a round over a top's walk is told -/
structure Told (t : Tr) (K : Nat) (top : Int) (s : Sp) : Prop where
  x : ∃ x, A.get s.2 t = some x ∧ (s.2 ≠ top → 2 < s.2 ∧ (A.get x.par t).isSome = true ∧ times x.nm s.2 (chs t x.par) = 1) ∧ ∀ i, up t i x.par s.2 = false
  zero : s.1 = 0 ↔ s.2 = top
  low : up t K s.2 top = true
  off : up t K s.2 (3 - top) = false
theorem told_of {t : Tr} (h : Wf t) {K : Nat} (hK : ∀ n, ends t K n) {top : Int} (htop : top = 1 ∨ top = 2) {s : Sp} (hs : s ∈ sub t K 0 top) : Told t K top s := by
  have hone : (A.get top t).isSome = true := by
    rcases htop with rfl | rfl
    · exact h.one
    · exact h.two
  have ht := sub_there h.up hone s hs
  obtain ⟨x, hx⟩ := Option.isSome_iff_exists.1 ht
  have h2 := sub_top h.up s hs
  obtain ⟨i, hi⟩ := sub_up h.up hone s hs
  have hlo : up t K s.2 top = true := by
    have h3 := up_le hi K
    rw [Nat.add_comm, up_ends (hK _)] at h3
    exact h3
  refine ⟨⟨x, hx, fun hne => ?_, fun i => h.up_par hx i⟩, ?_, hlo, ?_⟩
  · have h3 : 2 < s.2 := by
      rcases h2 with rfl | h3
      · exact (hne rfl).elim
      · exact h3.2
    exact ⟨h3, (h.low _ _ hx h3).1, times_one h.up h3 hx⟩
  · rcases h2 with rfl | ⟨h3, h4⟩
    · simp
    · constructor
      · intro e; omega
      · intro e; omega
  · cases hu : up t K s.2 (3 - top) with
    | false => rfl
    | true => exact (up_two h.h0 (fun n x hx hn => (h.top n x hx hn).1) (by omega) (by omega) (by omega) hlo hu).elim
end T
end Go.Proofs.YtmgnldangjfohaaGreat

namespace Go.Proofs.YtmgnldangjfohaaGreat
open Go.RowKit Go.Sort Go.Shelf
set_option linter.unusedVariables false

def Lkeysi_ren : Go.Shelf.Ren := ⟨fun | 7 => 46 | 10 => 75 | n => n, fun | 23 => 88 | 26 => 2 | 3 => 81 | 28 => 108 | 0 => 0 | 27 => 107 | 33 => 139 | 4 => 4 | n => n, fun | n => n⟩
theorem Lkeysi : Go.Proofs.SlLaysZI.n7 Tryz.prog Lkeysi_ren := {
  mixed := by kernel_rfl
  f7 := ⟨Tryz.f46.name, by decide, Tryz.func46.trans (congrArg some (by kernel_rfl))⟩
  f10 := ⟨Tryz.f75.name, by decide, Tryz.func75.trans (congrArg some (by kernel_rfl))⟩
  t0 := Tryz.underlying0
  a0 := Tryz.isAgg0
  z0 := Tryz.sizeOf0
  v0 := Tryz.zeroValue0
  t4 := Tryz.underlying4
  a4 := Tryz.isAgg4
  z4 := Tryz.sizeOf4
  v4 := Tryz.zeroValue4
  t23 := Tryz.underlying88
  a23 := Tryz.isAgg88
  z23 := Tryz.sizeOf88
  v23 := Tryz.zeroValue88
  t26 := Tryz.underlying2
  a26 := Tryz.isAgg2
  z26 := Tryz.sizeOf2
  v26 := Tryz.zeroValue2
  t27 := Tryz.underlying107
  a27 := Tryz.isAgg107
  z27 := Tryz.sizeOf107
  v27 := Tryz.zeroValue107
  t28 := Tryz.underlying108
  a28 := Tryz.isAgg108
  z28 := Tryz.sizeOf108
  v28 := Tryz.zeroValue108
  t33 := Tryz.underlying139
  a33 := Tryz.isAgg139
  z33 := Tryz.sizeOf139
  v33 := Tryz.zeroValue139 }
def Lsortedi_ren : Go.Shelf.Ren := ⟨fun | 6 => 45 | 8 => 73 | 9 => 74 | 11 => 99 | 13 => 101 | 12 => 100 | 23 => 128 | 24 => 129 | 14 => 119 | 15 => 120 | 16 => 121 | 17 => 122 | 18 => 123 | 19 => 124 | 20 => 125 | 21 => 126 | 22 => 127 | 25 => 146 | 26 => 147 | 27 => 148 | 28 => 149 | 29 => 150 | 30 => 151 | 31 => 172 | n => n, fun | 26 => 2 | 28 => 108 | 24 => 62 | 0 => 0 | 3 => 3 | 37 => 166 | 48 => 186 | 50 => 188 | 4 => 4 | 40 => 180 | 39 => 179 | 45 => 115 | 5 => 5 | 9 => 9 | 51 => 200 | 55 => 204 | 57 => 218 | 58 => 219 | 33 => 139 | n => n, fun | n => n⟩
theorem Lsortedi : Go.Proofs.SlLaysZI.n6 Tryz.prog Lsortedi_ren := {
  mixed := by kernel_rfl
  f6 := ⟨Tryz.f45.name, by decide, Tryz.func45.trans (congrArg some (by kernel_rfl))⟩
  f8 := ⟨Tryz.f73.name, by decide, Tryz.func73.trans (congrArg some (by kernel_rfl))⟩
  f11 := ⟨Tryz.f99.name, by decide, Tryz.func99.trans (congrArg some (by kernel_rfl))⟩
  t0 := Tryz.underlying0
  a0 := Tryz.isAgg0
  z0 := Tryz.sizeOf0
  v0 := Tryz.zeroValue0
  t24 := Tryz.underlying62
  a24 := Tryz.isAgg62
  z24 := Tryz.sizeOf62
  v24 := Tryz.zeroValue62
  t26 := Tryz.underlying2
  a26 := Tryz.isAgg2
  z26 := Tryz.sizeOf2
  v26 := Tryz.zeroValue2
  t28 := Tryz.underlying108
  a28 := Tryz.isAgg108
  z28 := Tryz.sizeOf108
  v28 := Tryz.zeroValue108
  i26 := by kernel_rfl }
def Lsorti_ren : Go.Shelf.Ren := ⟨fun | 5 => 74 | 8 => 101 | 7 => 100 | 19 => 128 | 20 => 129 | 10 => 119 | 11 => 120 | 12 => 121 | 13 => 122 | 14 => 123 | 15 => 124 | 16 => 125 | 17 => 126 | 18 => 127 | 30 => 146 | 31 => 147 | 32 => 148 | 33 => 149 | 34 => 150 | 35 => 151 | 40 => 172 | n => n, fun | 23 => 62 | 25 => 2 | 3 => 3 | 32 => 166 | 22 => 62 | 0 => 0 | 44 => 186 | 46 => 188 | 4 => 4 | 36 => 180 | 35 => 179 | 41 => 115 | 5 => 5 | 9 => 9 | 53 => 200 | 57 => 204 | 63 => 218 | 64 => 219 | n => n, fun | n => n⟩
theorem Lsorti : Go.Proofs.SlLaysM.n5 Tryz.prog Lsorti_ren := {
  mixed := by kernel_rfl
  f5 := ⟨Tryz.f74.name, by decide, Tryz.func74.trans (congrArg some (by kernel_rfl))⟩
  f7 := ⟨Tryz.f100.name, by decide, Tryz.func100.trans (congrArg some (by kernel_rfl))⟩
  f8 := Tryz.func101.trans (congrArg some (by kernel_rfl))
  f10 := ⟨Tryz.f119.name, by decide, Tryz.func119.trans (congrArg some (by kernel_rfl))⟩
  f11 := ⟨Tryz.f120.name, by decide, Tryz.func120.trans (congrArg some (by kernel_rfl))⟩
  f12 := ⟨Tryz.f121.name, by decide, Tryz.func121.trans (congrArg some (by kernel_rfl))⟩
  f13 := ⟨Tryz.f122.name, by decide, Tryz.func122.trans (congrArg some (by kernel_rfl))⟩
  f14 := ⟨Tryz.f123.name, by decide, Tryz.func123.trans (congrArg some (by kernel_rfl))⟩
  f15 := ⟨Tryz.f124.name, by decide, Tryz.func124.trans (congrArg some (by kernel_rfl))⟩
  f16 := ⟨Tryz.f125.name, by decide, Tryz.func125.trans (congrArg some (by kernel_rfl))⟩
  f17 := ⟨Tryz.f126.name, by decide, Tryz.func126.trans (congrArg some (by kernel_rfl))⟩
  f18 := ⟨Tryz.f127.name, by decide, Tryz.func127.trans (congrArg some (by kernel_rfl))⟩
  f19 := Tryz.func128.trans (congrArg some (by kernel_rfl))
  f20 := Tryz.func129.trans (congrArg some (by kernel_rfl))
  f30 := ⟨Tryz.f146.name, by decide, Tryz.func146.trans (congrArg some (by kernel_rfl))⟩
  f31 := Tryz.func147.trans (congrArg some (by kernel_rfl))
  f32 := Tryz.func148.trans (congrArg some (by kernel_rfl))
  f33 := ⟨Tryz.f149.name, by decide, Tryz.func149.trans (congrArg some (by kernel_rfl))⟩
  f34 := ⟨Tryz.f150.name, by decide, Tryz.func150.trans (congrArg some (by kernel_rfl))⟩
  f35 := ⟨Tryz.f151.name, by decide, Tryz.func151.trans (congrArg some (by kernel_rfl))⟩
  f40 := ⟨Tryz.f172.name, by decide, Tryz.func172.trans (congrArg some (by kernel_rfl))⟩
  t0 := Tryz.underlying0
  a0 := Tryz.isAgg0
  z0 := Tryz.sizeOf0
  v0 := Tryz.zeroValue0
  t3 := Tryz.underlying3
  a3 := Tryz.isAgg3
  z3 := Tryz.sizeOf3
  v3 := Tryz.zeroValue3
  t4 := Tryz.underlying4
  a4 := Tryz.isAgg4
  z4 := Tryz.sizeOf4
  v4 := Tryz.zeroValue4
  t5 := Tryz.underlying5
  a5 := Tryz.isAgg5
  z5 := Tryz.sizeOf5
  v5 := Tryz.zeroValue5
  t9 := Tryz.underlying9
  a9 := Tryz.isAgg9
  z9 := Tryz.sizeOf9
  v9 := Tryz.zeroValue9
  t22 := Tryz.underlying62
  a22 := Tryz.isAgg62
  z22 := Tryz.sizeOf62
  v22 := Tryz.zeroValue62
  t23 := Tryz.underlying62
  a23 := Tryz.isAgg62
  z23 := Tryz.sizeOf62
  v23 := Tryz.zeroValue62
  t25 := Tryz.underlying2
  a25 := Tryz.isAgg2
  z25 := Tryz.sizeOf2
  v25 := Tryz.zeroValue2
  t32 := Tryz.underlying166
  a32 := Tryz.isAgg166
  z32 := Tryz.sizeOf166
  v32 := Tryz.zeroValue166
  t35 := Tryz.underlying179
  a35 := Tryz.isAgg179
  z35 := Tryz.sizeOf179
  v35 := Tryz.zeroValue179
  t36 := Tryz.underlying180
  a36 := Tryz.isAgg180
  z36 := Tryz.sizeOf180
  v36 := Tryz.zeroValue180
  t41 := Tryz.underlying115
  a41 := Tryz.isAgg115
  z41 := Tryz.sizeOf115
  v41 := Tryz.zeroValue115
  t44 := Tryz.underlying186
  a44 := Tryz.isAgg186
  z44 := Tryz.sizeOf186
  v44 := Tryz.zeroValue186
  t46 := Tryz.underlying188
  a46 := Tryz.isAgg188
  z46 := Tryz.sizeOf188
  v46 := Tryz.zeroValue188
  t53 := Tryz.underlying200
  a53 := Tryz.isAgg200
  z53 := Tryz.sizeOf200
  v53 := Tryz.zeroValue200
  t57 := Tryz.underlying204
  a57 := Tryz.isAgg204
  z57 := Tryz.sizeOf204
  v57 := Tryz.zeroValue204
  t63 := Tryz.underlying218
  a63 := Tryz.isAgg218
  z63 := Tryz.sizeOf218
  v63 := Tryz.zeroValue218
  t64 := Tryz.underlying219
  a64 := Tryz.isAgg219
  z64 := Tryz.sizeOf219
  v64 := Tryz.zeroValue219 }

end Go.Proofs.YtmgnldangjfohaaGreat

namespace Go.Proofs.YtmgnldangjfohaaGreat
open Go.RowKit Go.Maps Go.Sort Go.Shelf
set_option linter.unusedVariables false
set_option linter.unusedSimpArgs false
set_option maxRecDepth 100000
theorem sortsI (m : Nat) : AnyZI.SortsIn Tryz.prog Lsortedi_ren Fence.wide m :=
  ⟨fun blk off cap ss W h1 h2 h3 => callsIn_wide.2 (AnyM.slices_Sort_int Lsorti blk off cap ss W h1 h2 h3), fun p cap W => callsIn_wide.2 (AnyM.slices_Sort_int_none Lsorti p cap W)⟩
theorem keysI_fn (mb : Option Nat) (W : World) : Calls Tryz.prog 46 #[.map mb] W fun e w' => e = .returned (.func (.func 75) #[] #[ptr W.heap.size]) ∧ w' = W.alloc (.cells #[.map mb] 88) :=
  callsIn_wide.1 (AnyZI.keys_in Lkeysi Fence.wide 5 trivial rfl mb W)
theorem T.sortI_eq {l ss : List Int} (hl : T.Rise l) (hp : ss.Perm l) : ss.mergeSort (fun x y => decide (x ≤ y)) = l := by
  have h1 : (ss.mergeSort (fun x y => decide (x ≤ y))).Perm l := (List.mergeSort_perm _ _).trans hp
  have h2 : (ss.mergeSort (fun x y => decide (x ≤ y))).Pairwise (fun x y => decide (x ≤ y) = true) := List.pairwise_mergeSort (fun a b c h k => by simp at *; omega) (fun a b => by simp; omega) _
  have h3 : l.Pairwise (fun x y : Int => x ≠ y) := List.Pairwise.imp (fun h => by omega) hl
  have h4 := (h1.pairwise_iff (R := fun x y : Int => x ≠ y) (fun h e => h e.symm)).2 h3
  refine T.rise_ext ?_ hl (fun p => h1.mem_iff)
  exact List.Pairwise.imp (fun {x y} h => by have h5 := h.1; simp at h5; have := h.2; omega) (h2.and h4)
set_option maxHeartbeats 1000000 in
theorem sortedI_fn {w : World} {b m : Nat} {g : Int → Option Value} (hm : Mp 2 litI w b g m) (hb : m ≤ 10000000000000) {l : List Int} (hl : T.Rise l) (hg : ∀ x, x ∈ l ↔ (g x).isSome = true) :
    Calls Tryz.prog 45 #[.func (.func 75) #[] #[ptr w.heap.size]] (w.alloc (.cells #[.map (some b)] 88)) fun e w' => ∃ a c, e = .returned (.slice a l.length c) ∧ Rw (fun i => w.heap.size ≤ i ∧ i < w'.heap.size) w' 1 a l.length (l.map (Value.int .i64)) ∧ Fr (fun _ => False) (w.alloc (.cells #[.map (some b)] 88)) w' := by
  obtain ⟨D, hown, hD1, hD2⟩ := hm
  have hbl := hown.lt
  have hnd : l.Nodup := List.Pairwise.imp (fun h => by omega) hl
  have hperm : l.Perm (intKeys D) := CollectedI.perm (left := fun _ => false) ⟨hnd, fun x => by
    have := has_orZ (hD2 x)
    have e : (litI x) = Lit.int .i64 x := rfl
    rw [← e, this, hg x]; simp⟩ hown keyI Tryz.underlying2 (fun _ => rfl)
  refine (callsIn_wide (n := 5)).1 ?_
  have hmx : Maps.size D ≤ maxLen := by unfold maxLen; omega
  have hseq : SeqGives Fence.wide 2 Tryz.prog 75 #[ptr w.heap.size] encZ (fun ss => ss.Perm (intKeys D)) (Maps.size D) (w.alloc (.cells #[.map (some b)] 88)) := by
    refine AnyZI.keys_gives (ρ := Lkeysi_ren) (R := asIs) { Lkeysi with } Fence.wide _ trivial rfl (by omega) w.heap.size b m D _ (by simp) (by simp) ?_
    obtain ⟨es, clock, hb, r⟩ := hown
    exact ⟨es, clock, (Below.heap_alloc _ _ b hbl).trans hb, r⟩
  have cS := AnyZI.sorted_in Lsortedi Fence.wide 5 trivial trivial trivial trivial rfl (by omega) (sortsI _) (enters_of Tryz.func74 (by kernel_rfl) rfl) 75 #[ptr w.heap.size] trivial (enters_of Tryz.func75 (by kernel_rfl) rfl) _ _ hmx (by omega) _ hseq
  change CallsIn _ _ Tryz.prog 45 _ _ _ at cS
  refine cS.mono ?_
  rintro e w' ⟨v, ss, rfl, hS, hrow, hnil, hB⟩
  have hsort := T.sortI_eq hl (hS.trans hperm.symm)
  have hlen : ss.length = l.length := by rw [← hsort, List.length_mergeSort]
  rw [hsort, hlen] at hrow
  have hf := Fr.of_below hB
  rcases hrow.2 with ⟨rfl, h0⟩ | ⟨g', cap, cur, rfl, hg', hcur, _, _, _, htk⟩
  · have h0' : l = [] := List.eq_nil_of_length_eq_zero h0
    subst h0'
    exact ⟨none, 0, rfl, Rw.nil _ _ _ _, hf⟩
  · refine ⟨_, cap, rfl, ⟨by simp, .inr ⟨g', 0, rfl, ⟨by rw [alloc_size] at hg'; omega, lt_of_row hcur⟩, fun j u hu => ?_⟩⟩, hf⟩
    rw [Nat.zero_add, cell_of_row w' g' j _ _ _ hcur]
    have h1 : (cur.toList.take (l.length * 1))[j]? = some u := by
      rw [htk]
      exact hu
    rw [List.getElem?_take] at h1
    split at h1
    · simpa using h1
    · cases h1
end Go.Proofs.YtmgnldangjfohaaGreat

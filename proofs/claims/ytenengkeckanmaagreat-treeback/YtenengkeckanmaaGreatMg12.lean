/-
  The library's contracts on slices.SortFunc of attributes and on strings.Compare, laid at this dump.
  Plain trees: those under a node.
-/
import Derived.Test.YtenengkeckanmaaGreatRows
import Derived.WalkKit
import Derived.Shelf.SlSortCmp.NoneTotal
import Derived.Shelf.Small.Strs
import Derived.Ground.SlsfProg
import Derived.Ground.NamesProg
import Derived.Test.YtenengkeckanmaaGreatTMemQ
namespace Go.Proofs.YtenengkeckanmaaGreat
open Go.RowKit Go.Sort Go.Shelf
set_option linter.unusedVariables false

def Lsorta_ren : Go.Shelf.Ren := ⟨fun | 6 => 105 | 15 => 103 | 14 => 133 | 28 => 130 | 29 => 131 | 20 => 154 | 21 => 155 | 22 => 156 | 23 => 157 | 24 => 158 | 25 => 159 | 26 => 160 | 27 => 161 | 46 => 175 | 47 => 149 | 48 => 150 | 49 => 176 | 50 => 177 | 57 => 182 | n => n, fun | 22 => 66 | 24 => 80 | 25 => 147 | 3 => 3 | 39 => 167 | 0 => 0 | 53 => 187 | 55 => 189 | 4 => 4 | 46 => 181 | 45 => 180 | 50 => 117 | 5 => 5 | 9 => 9 | 66 => 201 | 70 => 205 | 76 => 219 | 77 => 220 | n => n, fun | n => n⟩
theorem Lsorta : Go.Proofs.SlLaysF0.n6 Tryz.prog Lsorta_ren := {
  mixed := by kernel_rfl
  f6 := ⟨Tryz.f105.name, by decide, Tryz.func105.trans (congrArg some (by kernel_rfl))⟩
  f14 := ⟨Tryz.f133.name, by decide, Tryz.func133.trans (congrArg some (by kernel_rfl))⟩
  f15 := Tryz.func103.trans (congrArg some (by kernel_rfl))
  f20 := ⟨Tryz.f154.name, by decide, Tryz.func154.trans (congrArg some (by kernel_rfl))⟩
  f21 := ⟨Tryz.f155.name, by decide, Tryz.func155.trans (congrArg some (by kernel_rfl))⟩
  f22 := ⟨Tryz.f156.name, by decide, Tryz.func156.trans (congrArg some (by kernel_rfl))⟩
  f23 := ⟨Tryz.f157.name, by decide, Tryz.func157.trans (congrArg some (by kernel_rfl))⟩
  f24 := ⟨Tryz.f158.name, by decide, Tryz.func158.trans (congrArg some (by kernel_rfl))⟩
  f25 := ⟨Tryz.f159.name, by decide, Tryz.func159.trans (congrArg some (by kernel_rfl))⟩
  f26 := ⟨Tryz.f160.name, by decide, Tryz.func160.trans (congrArg some (by kernel_rfl))⟩
  f27 := ⟨Tryz.f161.name, by decide, Tryz.func161.trans (congrArg some (by kernel_rfl))⟩
  f28 := Tryz.func130.trans (congrArg some (by kernel_rfl))
  f29 := Tryz.func131.trans (congrArg some (by kernel_rfl))
  f46 := ⟨Tryz.f175.name, by decide, Tryz.func175.trans (congrArg some (by kernel_rfl))⟩
  f47 := Tryz.func149.trans (congrArg some (by kernel_rfl))
  f48 := Tryz.func150.trans (congrArg some (by kernel_rfl))
  f49 := ⟨Tryz.f176.name, by decide, Tryz.func176.trans (congrArg some (by kernel_rfl))⟩
  f50 := ⟨Tryz.f177.name, by decide, Tryz.func177.trans (congrArg some (by kernel_rfl))⟩
  f57 := ⟨Tryz.f182.name, by decide, Tryz.func182.trans (congrArg some (by kernel_rfl))⟩
  t0 := Tryz.underlying0
  a0 := Tryz.isAgg0
  z0 := Tryz.sizeOf0
  v0 := Tryz.zeroValue0
  t3 := Tryz.underlying3
  a3 := Tryz.isAgg3
  z3 := Tryz.sizeOf3
  v3 := Tryz.zeroValue3
  t4 := Tryz.underlying4
  a4 := Tryz.isAgg4
  z4 := Tryz.sizeOf4
  v4 := Tryz.zeroValue4
  t5 := Tryz.underlying5
  a5 := Tryz.isAgg5
  z5 := Tryz.sizeOf5
  v5 := Tryz.zeroValue5
  t9 := Tryz.underlying9
  a9 := Tryz.isAgg9
  z9 := Tryz.sizeOf9
  v9 := Tryz.zeroValue9
  t22 := Tryz.underlying66
  a22 := Tryz.isAgg66
  z22 := Tryz.sizeOf66
  v22 := Tryz.zeroValue66
  t25 := Tryz.underlying147
  a25 := Tryz.isAgg147
  z25 := Tryz.sizeOf147
  v25 := Tryz.zeroValue147
  t39 := Tryz.underlying167
  a39 := Tryz.isAgg167
  z39 := Tryz.sizeOf167
  v39 := Tryz.zeroValue167
  t45 := Tryz.underlying180
  a45 := Tryz.isAgg180
  z45 := Tryz.sizeOf180
  v45 := Tryz.zeroValue180
  t46 := Tryz.underlying181
  a46 := Tryz.isAgg181
  z46 := Tryz.sizeOf181
  v46 := Tryz.zeroValue181
  t50 := Tryz.underlying117
  a50 := Tryz.isAgg117
  z50 := Tryz.sizeOf117
  v50 := Tryz.zeroValue117
  t53 := Tryz.underlying187
  a53 := Tryz.isAgg187
  z53 := Tryz.sizeOf187
  v53 := Tryz.zeroValue187
  t55 := Tryz.underlying189
  a55 := Tryz.isAgg189
  z55 := Tryz.sizeOf189
  v55 := Tryz.zeroValue189
  t66 := Tryz.underlying201
  a66 := Tryz.isAgg201
  z66 := Tryz.sizeOf201
  v66 := Tryz.zeroValue201
  t70 := Tryz.underlying205
  a70 := Tryz.isAgg205
  z70 := Tryz.sizeOf205
  v70 := Tryz.zeroValue205
  t76 := Tryz.underlying219
  a76 := Tryz.isAgg219
  z76 := Tryz.sizeOf219
  v76 := Tryz.zeroValue219
  t77 := Tryz.underlying220
  a77 := Tryz.isAgg220
  z77 := Tryz.sizeOf220
  v77 := Tryz.zeroValue220 }
def Lcmps_ren : Go.Shelf.Ren := ⟨fun | 106 => 81 | 213 => 107 | 265 => 134 | n => n, fun | 9 => 9 | 3 => 3 | n => n, fun | n => n⟩
theorem Lcmps : Go.Proofs.Lays.n106 Tryz.prog Lcmps_ren := {
  mixed := by kernel_rfl
  f106 := Tryz.func81.trans (congrArg some (by kernel_rfl))
  f213 := Tryz.func107.trans (congrArg some (by kernel_rfl))
  f265 := Tryz.func134.trans (congrArg some (by kernel_rfl))
  t3 := Tryz.underlying3
  a3 := Tryz.isAgg3
  z3 := Tryz.sizeOf3
  v3 := Tryz.zeroValue3
  t9 := Tryz.underlying9
  a9 := Tryz.isAgg9
  z9 := Tryz.sizeOf9
  v9 := Tryz.zeroValue9 }

end Go.Proofs.YtenengkeckanmaaGreat

namespace Go.Proofs.YtenengkeckanmaaGreat
set_option linter.unusedVariables false
set_option maxRecDepth 100000
namespace T
/-- a list of numbers rises -/
def Rise (l : List Int) : Prop := l.Pairwise (· < ·)
def insI (n : Int) : List Int → List Int
  | [] => [n]
  | y :: r => if n < y then n :: y :: r else y :: insI n r
theorem mem_insI {n k : Int} : ∀ {l : List Int}, k ∈ insI n l ↔ k = n ∨ k ∈ l
  | [] => by simp [insI]
  | y :: r => by
    unfold insI
    split
    · simp
    · simp only [List.mem_cons, mem_insI (l := r)]
      constructor
      · rintro (h | h | h) <;> simp [h]
      · rintro (h | h | h) <;> simp [h]
theorem Rise.insI {n : Int} : ∀ {l : List Int}, Rise l → n ∉ l → Rise (T.insI n l)
  | [], _, _ => by simp [T.insI, Rise]
  | y :: r, h, hn => by
    unfold T.insI
    unfold Rise at h
    rw [List.pairwise_cons] at h
    split
    · rename_i hb
      exact List.pairwise_cons.2 ⟨fun k hk => by
        rcases List.mem_cons.1 hk with rfl | hk
        · exact hb
        · exact Int.lt_trans hb (h.1 k hk), List.pairwise_cons.2 h⟩
    · rename_i hb
      refine List.pairwise_cons.2 ⟨fun k hk => ?_, Rise.insI h.2 (fun h => hn (by simp [h]))⟩
      rcases mem_insI.1 hk with rfl | hk
      · have : k ≠ y := fun e => hn (by simp [e])
        omega
      · exact h.1 k hk
theorem rise_ext : ∀ {l m : List Int}, Rise l → Rise m → (∀ k, k ∈ l ↔ k ∈ m) → l = m
  | [], [], _, _, _ => rfl
  | [], y :: r, _, _, h => by have := (h y).2 (by simp); cases this
  | x :: r, [], _, _, h => by have := (h x).1 (by simp); cases this
  | x :: r, y :: s, hl, hm, h => by
    unfold Rise at hl hm
    rw [List.pairwise_cons] at hl hm
    have e : x = y := by
      rcases List.mem_cons.1 ((h x).1 (by simp)) with e | h1
      · exact e
      · rcases List.mem_cons.1 ((h y).2 (by simp)) with e | h2
        · exact e.symm
        · have a := hl.1 y h2
          have b := hm.1 x h1
          omega
    subst e
    rw [rise_ext hl.2 hm.2 (fun k => ⟨fun hk => ?_, fun hk => ?_⟩)]
    · rcases List.mem_cons.1 ((h k).1 (by simp [hk])) with rfl | h1
      · exact absurd (hl.1 k hk) (by omega)
      · exact h1
    · rcases List.mem_cons.1 ((h k).2 (by simp [hk])) with rfl | h1
      · exact absurd (hm.1 k hk) (by omega)
      · exact h1
theorem mem_kids {t : Tr} (ht : A.Up t) {m k : Int} {s : ByteArray} : k ∈ kids t m s ↔ 2 < k ∧ ∃ y, A.get k t = some y ∧ y.par = m ∧ y.nm = s := by
  unfold kids
  simp only [List.mem_map, List.mem_filter, Bool.and_eq_true, decide_eq_true_eq, beq_iff_eq]
  constructor
  · rintro ⟨⟨a, y⟩, ⟨h1, h2, h3, h4⟩, rfl⟩
    exact ⟨h2, y, A.get_of_mem ht h1, h3, h4⟩
  · rintro ⟨h2, y, h1, h3, h4⟩
    exact ⟨(k, y), ⟨A.get_mem h1, h2, h3, h4⟩, rfl⟩
theorem rise_kids {t : Tr} (ht : A.Up t) (m : Int) (s : ByteArray) : Rise (kids t m s) := by
  unfold kids Rise
  rw [List.pairwise_map]
  exact List.Pairwise.filter _ ht
theorem kids_len (t : Tr) (m : Int) (s : ByteArray) : (kids t m s).length ≤ t.length := by
  unfold kids
  rw [List.length_map]
  exact List.length_filter_le _ _
/-- a node comes to stand under another one -/
theorem kids_put {t : Tr} (ht : A.Up t) {n : Int} (hn : 2 < n) (x : Nd) {m : Int} (s : ByteArray) (hx : ∀ y, A.get n t = some y → y.par ≠ m) :
    kids (A.put n x t) m s = if m = x.par ∧ s = x.nm then insI n (kids t m s) else kids t m s := by
  have hnot : n ∉ kids t m s := fun h => by
    obtain ⟨_, y, h1, h2, _⟩ := (mem_kids ht).1 h
    exact hx y h1 h2
  have key : ∀ k, k ∈ kids (A.put n x t) m s ↔ (k = n ∧ m = x.par ∧ s = x.nm) ∨ k ∈ kids t m s := fun k => by
    rw [mem_kids (ht.put n x), mem_kids ht]
    by_cases e : k = n
    · subst e
      rw [A.get_put_same ht]
      constructor
      · rintro ⟨h1, y, h2, h3, h4⟩
        cases h2
        exact .inl ⟨rfl, h3.symm, h4.symm⟩
      · rintro (⟨_, h1, h2⟩ | ⟨h1, y, h2, h3, _⟩)
        · exact ⟨hn, x, rfl, h1.symm, h2.symm⟩
        · exact absurd h3 (hx y h2)
    · rw [A.get_put_other ht e]
      constructor
      · exact .inr
      · rintro (⟨h, _⟩ | h)
        · exact absurd h e
        · exact h
  by_cases e : m = x.par ∧ s = x.nm
  · rw [if_pos e]
    refine rise_ext (rise_kids (ht.put n x) m s) ((rise_kids ht m s).insI hnot) (fun k => ?_)
    rw [key, mem_insI]
    simp [e]
  · rw [if_neg e]
    refine rise_ext (rise_kids (ht.put n x) m s) (rise_kids ht m s) (fun k => ?_)
    rw [key]
    constructor
    · rintro (⟨_, h⟩ | h)
      · exact absurd h e
      · exact h
    · exact .inr
/-- .. and stands nowhere -/
theorem kids_loose {t : Tr} (ht : A.Up t) {n : Int} {x z : Nd} (hx : A.get n t = some x) (hz : z.par = 0) {m : Int} (hm : m ≠ 0) (s : ByteArray) :
    kids (A.put n z t) m s = (kids t m s).filter (fun k => !(k == n)) := by
  refine rise_ext (rise_kids (ht.put n z) m s) (List.Pairwise.filter _ (rise_kids ht m s)) (fun k => ?_)
  rw [mem_kids (ht.put n z), List.mem_filter, mem_kids ht]
  by_cases e : k = n
  · subst e
    rw [A.get_put_same ht]
    constructor
    · rintro ⟨_, y, h2, h3, _⟩
      cases h2
      exact absurd (hz.symm.trans h3).symm hm
    · rintro ⟨_, h⟩
      simp at h
  · rw [A.get_put_other ht e]
    simp [e]
theorem filter_not_mem {n : Int} {l : List Int} (h : n ∉ l) : l.filter (fun k => !(k == n)) = l := List.filter_eq_self.2 (fun k hk => by
  have : k ≠ n := fun e => h (e ▸ hk)
  simp [this])
end T
end Go.Proofs.YtenengkeckanmaaGreat

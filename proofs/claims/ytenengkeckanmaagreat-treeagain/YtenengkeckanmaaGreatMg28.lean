/-
  Nodes that stand nowhere yet, one more laid in a tree (or in another's place).
  The library's contracts on the sorted keys of a map of numbers, laid at this dump.
-/
import Derived.Test.YtenengkeckanmaaGreatMg17
import Derived.Test.YtenengkeckanmaaGreatTStkQ
import Derived.Test.YtenengkeckanmaaGreatRows
import Derived.WalkKit
import Derived.Shelf.SlIterI.Nil
import Derived.Shelf.SortM.Plain
import Derived.Shelf.SortM.SortNone
import Derived.Ground.GgzProg
import Derived.Ground.SlgmProg
namespace Go.Proofs.YtenengkeckanmaaGreat
open Go.RowKit Go.Maps
set_option linter.unusedVariables false
set_option linter.unusedSimpArgs false
set_option maxRecDepth 100000
/-- a key behind all others comes last -/
theorem T.aset_end {k v : ByteArray} (hv : v.toList.isEmpty = false) {l : T.At} (h : ∀ p ∈ l, T.blt p.1 k = true) : T.aset k v l = l ++ [(k, v)] := by
  unfold T.aset
  rw [hv, if_neg (by simp)]
  have hd : T.adel k l = l := by
    unfold T.adel
    refine List.filter_eq_self.2 (fun p hp => ?_)
    have h1 := h p hp
    have : p.1 ≠ k := fun e => by rw [e, T.blt_irrefl] at h1; cases h1
    simp [this]
  rw [hd]
  clear hd
  induction l with
  | nil => rfl
  | cons y r ih =>
    have h1 := h y List.mem_cons_self
    have h2 : ¬ T.blt k y.1 = true := fun e => by
      have := T.blt_trans e h1
      rw [T.blt_irrefl] at this
      cases this
    show (if T.blt k y.1 = true then _ else y :: T.ains (k, v) r) = _
    rw [if_neg h2, ih (fun p hp => h p (List.mem_cons_of_mem _ hp))]
    rfl
/-- no node stands anywhere -/
def T.Bare (t : T.Tr) : Prop := ∀ m x, A.get m t = some x → x.par = 0
theorem T.Bare.kids {t : T.Tr} (ht : A.Up t) (h : T.Bare t) {n : Int} (hn : n ≠ 0) (s : ByteArray) : T.kids t n s = [] := by
  unfold T.kids
  rw [List.map_eq_nil_iff, List.filter_eq_nil_iff]
  rintro ⟨m, x⟩ hm
  have h1 := h m x (A.get_of_mem ht hm)
  have h2 : (x.par == n) = false := by rw [h1]; simp; omega
  simp [h2]
theorem T.Bare.put {t : T.Tr} (ht : A.Up t) (h : T.Bare t) (n : Int) {x : T.Nd} (hx : x.par = 0) : T.Bare (A.put n x t) := fun m y hy => by
  by_cases e : m = n
  · subst e
    rw [A.get_put_same ht] at hy
    cases hy
    exact hx
  · rw [A.get_put_other ht e] at hy
    exact h m y hy
theorem Tf.laid {c : Nat → Option T.Col} {w w' : World} {bud p : Nat} {dos last : Int} {t : T.Tr} {mb : Nat} {f : Int → Nat} (h : Tf c w bud p dos last t mb f) (ht : A.Up t) (h0 : A.get 0 t = none) (hB : T.Bare t) {n : Int} (hn0 : n ≠ 0) {b : Nat} {x : T.Nd} (hx : x.par = 0) (hN : Nm c w bud b n x (fun _ => []))
    (hf : Fr (fun i => i = mb) w w') (hm : Mp 2 litI w' mb (at_ (fun k => (A.get k t).map (fun _ => ptr (f k))) n (some (ptr b))) (if ((A.get n t).map (fun _ => ptr (f n))).isSome then t.length else t.length + 1)) :
    Tf c w' (bud + 1) p dos last (A.put n x t) mb (fun k => if k = n then b else f k) := by
  have hpm : p ≠ mb := fun e => by have := h.cp; rw [e, h.cm] at this; cases this
  have hB2 := hB.put ht n hx
  have ht2 := ht.put n x
  refine ⟨hf.cells h.cells hpm, h.cp, h.cm, ?_, ?_, fun k z hz => ?_⟩
  · have e : (fun k => (A.get k (A.put n x t)).map (fun _ => ptr (if k = n then b else f k))) = at_ (fun k => (A.get k t).map (fun _ => ptr (f k))) n (some (ptr b)) := by
      funext k
      unfold at_
      by_cases e : k = n
      · subst e
        rw [A.get_put_same ht, if_pos rfl, if_pos rfl]
        rfl
      · rw [A.get_put_other ht e, if_neg e, if_neg e]
    rw [e]
    cases hg : A.get n t with
    | some y =>
      rw [hg] at hm
      rw [A.length_put_same ht hg]
      exact hm
    | none =>
      rw [hg] at hm
      rw [A.length_put_new hg]
      exact hm
  · have := A.length_put_le n x t
    have := h.few
    omega
  · have hk0 : k ≠ 0 := fun e => by
      rw [e, A.get_put_other ht (Ne.symm hn0), h0] at hz
      cases hz
    have hmb : ∀ i col, c i = some col → col.own = some k → ¬ i = mb := fun i col e1 e2 e3 => by
      rw [e3, h.cm] at e1
      cases e1
      cases e2
    by_cases e : k = n
    · subst e
      rw [A.get_put_same ht] at hz
      cases hz
      simp only [if_pos]
      refine ((hN.kept hf hmb).ext (fun _ _ h => h) (Nat.le_succ _)).kids (fun s => hB2.kids ht2 hn0 s)
    · rw [A.get_put_other ht e] at hz
      simp only [if_neg e]
      refine (((h.node k z hz).kept hf hmb).ext (fun _ _ h => h) (Nat.le_succ _)).kids (fun s => ?_)
      rw [hB2.kids ht2 hk0, hB.kids ht hk0]
end Go.Proofs.YtenengkeckanmaaGreat

namespace Go.Proofs.YtenengkeckanmaaGreat
open Go.RowKit Go.Sort Go.Shelf
set_option linter.unusedVariables false

def Lkeysi_ren : Go.Shelf.Ren := ⟨fun | 7 => 49 | 10 => 77 | n => n, fun | 23 => 90 | 26 => 2 | 3 => 83 | 28 => 110 | 0 => 0 | 27 => 109 | 33 => 135 | 4 => 4 | n => n, fun | n => n⟩
theorem Lkeysi : Go.Proofs.SlLaysZI.n7 Tryz.prog Lkeysi_ren := {
  mixed := by kernel_rfl
  f7 := ⟨Tryz.f49.name, by decide, Tryz.func49.trans (congrArg some (by kernel_rfl))⟩
  f10 := ⟨Tryz.f77.name, by decide, Tryz.func77.trans (congrArg some (by kernel_rfl))⟩
  t0 := Tryz.underlying0
  a0 := Tryz.isAgg0
  z0 := Tryz.sizeOf0
  v0 := Tryz.zeroValue0
  t4 := Tryz.underlying4
  a4 := Tryz.isAgg4
  z4 := Tryz.sizeOf4
  v4 := Tryz.zeroValue4
  t23 := Tryz.underlying90
  a23 := Tryz.isAgg90
  z23 := Tryz.sizeOf90
  v23 := Tryz.zeroValue90
  t26 := Tryz.underlying2
  a26 := Tryz.isAgg2
  z26 := Tryz.sizeOf2
  v26 := Tryz.zeroValue2
  t27 := Tryz.underlying109
  a27 := Tryz.isAgg109
  z27 := Tryz.sizeOf109
  v27 := Tryz.zeroValue109
  t28 := Tryz.underlying110
  a28 := Tryz.isAgg110
  z28 := Tryz.sizeOf110
  v28 := Tryz.zeroValue110
  t33 := Tryz.underlying135
  a33 := Tryz.isAgg135
  z33 := Tryz.sizeOf135
  v33 := Tryz.zeroValue135 }
def Lsortedi_ren : Go.Shelf.Ren := ⟨fun | 6 => 48 | 8 => 75 | 9 => 76 | 11 => 101 | 13 => 103 | 12 => 102 | 23 => 130 | 24 => 131 | 14 => 121 | 15 => 122 | 16 => 123 | 17 => 124 | 18 => 125 | 19 => 126 | 20 => 127 | 21 => 128 | 22 => 129 | 25 => 148 | 26 => 149 | 27 => 150 | 28 => 151 | 29 => 152 | 30 => 153 | 31 => 174 | n => n, fun | 26 => 2 | 28 => 110 | 24 => 62 | 0 => 0 | 3 => 3 | 37 => 167 | 48 => 187 | 50 => 189 | 4 => 4 | 40 => 181 | 39 => 180 | 45 => 117 | 5 => 5 | 9 => 9 | 51 => 201 | 55 => 205 | 57 => 219 | 58 => 220 | 33 => 135 | n => n, fun | n => n⟩
theorem Lsortedi : Go.Proofs.SlLaysZI.n6 Tryz.prog Lsortedi_ren := {
  mixed := by kernel_rfl
  f6 := ⟨Tryz.f48.name, by decide, Tryz.func48.trans (congrArg some (by kernel_rfl))⟩
  f8 := ⟨Tryz.f75.name, by decide, Tryz.func75.trans (congrArg some (by kernel_rfl))⟩
  f11 := ⟨Tryz.f101.name, by decide, Tryz.func101.trans (congrArg some (by kernel_rfl))⟩
  t0 := Tryz.underlying0
  a0 := Tryz.isAgg0
  z0 := Tryz.sizeOf0
  v0 := Tryz.zeroValue0
  t24 := Tryz.underlying62
  a24 := Tryz.isAgg62
  z24 := Tryz.sizeOf62
  v24 := Tryz.zeroValue62
  t26 := Tryz.underlying2
  a26 := Tryz.isAgg2
  z26 := Tryz.sizeOf2
  v26 := Tryz.zeroValue2
  t28 := Tryz.underlying110
  a28 := Tryz.isAgg110
  z28 := Tryz.sizeOf110
  v28 := Tryz.zeroValue110
  i26 := by kernel_rfl }
def Lsorti_ren : Go.Shelf.Ren := ⟨fun | 5 => 76 | 8 => 103 | 7 => 102 | 19 => 130 | 20 => 131 | 10 => 121 | 11 => 122 | 12 => 123 | 13 => 124 | 14 => 125 | 15 => 126 | 16 => 127 | 17 => 128 | 18 => 129 | 30 => 148 | 31 => 149 | 32 => 150 | 33 => 151 | 34 => 152 | 35 => 153 | 40 => 174 | n => n, fun | 23 => 62 | 25 => 2 | 3 => 3 | 32 => 167 | 22 => 62 | 0 => 0 | 44 => 187 | 46 => 189 | 4 => 4 | 36 => 181 | 35 => 180 | 41 => 117 | 5 => 5 | 9 => 9 | 53 => 201 | 57 => 205 | 63 => 219 | 64 => 220 | n => n, fun | n => n⟩
theorem Lsorti : Go.Proofs.SlLaysM.n5 Tryz.prog Lsorti_ren := {
  mixed := by kernel_rfl
  f5 := ⟨Tryz.f76.name, by decide, Tryz.func76.trans (congrArg some (by kernel_rfl))⟩
  f7 := ⟨Tryz.f102.name, by decide, Tryz.func102.trans (congrArg some (by kernel_rfl))⟩
  f8 := Tryz.func103.trans (congrArg some (by kernel_rfl))
  f10 := ⟨Tryz.f121.name, by decide, Tryz.func121.trans (congrArg some (by kernel_rfl))⟩
  f11 := ⟨Tryz.f122.name, by decide, Tryz.func122.trans (congrArg some (by kernel_rfl))⟩
  f12 := ⟨Tryz.f123.name, by decide, Tryz.func123.trans (congrArg some (by kernel_rfl))⟩
  f13 := ⟨Tryz.f124.name, by decide, Tryz.func124.trans (congrArg some (by kernel_rfl))⟩
  f14 := ⟨Tryz.f125.name, by decide, Tryz.func125.trans (congrArg some (by kernel_rfl))⟩
  f15 := ⟨Tryz.f126.name, by decide, Tryz.func126.trans (congrArg some (by kernel_rfl))⟩
  f16 := ⟨Tryz.f127.name, by decide, Tryz.func127.trans (congrArg some (by kernel_rfl))⟩
  f17 := ⟨Tryz.f128.name, by decide, Tryz.func128.trans (congrArg some (by kernel_rfl))⟩
  f18 := ⟨Tryz.f129.name, by decide, Tryz.func129.trans (congrArg some (by kernel_rfl))⟩
  f19 := Tryz.func130.trans (congrArg some (by kernel_rfl))
  f20 := Tryz.func131.trans (congrArg some (by kernel_rfl))
  f30 := ⟨Tryz.f148.name, by decide, Tryz.func148.trans (congrArg some (by kernel_rfl))⟩
  f31 := Tryz.func149.trans (congrArg some (by kernel_rfl))
  f32 := Tryz.func150.trans (congrArg some (by kernel_rfl))
  f33 := ⟨Tryz.f151.name, by decide, Tryz.func151.trans (congrArg some (by kernel_rfl))⟩
  f34 := ⟨Tryz.f152.name, by decide, Tryz.func152.trans (congrArg some (by kernel_rfl))⟩
  f35 := ⟨Tryz.f153.name, by decide, Tryz.func153.trans (congrArg some (by kernel_rfl))⟩
  f40 := ⟨Tryz.f174.name, by decide, Tryz.func174.trans (congrArg some (by kernel_rfl))⟩
  t0 := Tryz.underlying0
  a0 := Tryz.isAgg0
  z0 := Tryz.sizeOf0
  v0 := Tryz.zeroValue0
  t3 := Tryz.underlying3
  a3 := Tryz.isAgg3
  z3 := Tryz.sizeOf3
  v3 := Tryz.zeroValue3
  t4 := Tryz.underlying4
  a4 := Tryz.isAgg4
  z4 := Tryz.sizeOf4
  v4 := Tryz.zeroValue4
  t5 := Tryz.underlying5
  a5 := Tryz.isAgg5
  z5 := Tryz.sizeOf5
  v5 := Tryz.zeroValue5
  t9 := Tryz.underlying9
  a9 := Tryz.isAgg9
  z9 := Tryz.sizeOf9
  v9 := Tryz.zeroValue9
  t22 := Tryz.underlying62
  a22 := Tryz.isAgg62
  z22 := Tryz.sizeOf62
  v22 := Tryz.zeroValue62
  t23 := Tryz.underlying62
  a23 := Tryz.isAgg62
  z23 := Tryz.sizeOf62
  v23 := Tryz.zeroValue62
  t25 := Tryz.underlying2
  a25 := Tryz.isAgg2
  z25 := Tryz.sizeOf2
  v25 := Tryz.zeroValue2
  t32 := Tryz.underlying167
  a32 := Tryz.isAgg167
  z32 := Tryz.sizeOf167
  v32 := Tryz.zeroValue167
  t35 := Tryz.underlying180
  a35 := Tryz.isAgg180
  z35 := Tryz.sizeOf180
  v35 := Tryz.zeroValue180
  t36 := Tryz.underlying181
  a36 := Tryz.isAgg181
  z36 := Tryz.sizeOf181
  v36 := Tryz.zeroValue181
  t41 := Tryz.underlying117
  a41 := Tryz.isAgg117
  z41 := Tryz.sizeOf117
  v41 := Tryz.zeroValue117
  t44 := Tryz.underlying187
  a44 := Tryz.isAgg187
  z44 := Tryz.sizeOf187
  v44 := Tryz.zeroValue187
  t46 := Tryz.underlying189
  a46 := Tryz.isAgg189
  z46 := Tryz.sizeOf189
  v46 := Tryz.zeroValue189
  t53 := Tryz.underlying201
  a53 := Tryz.isAgg201
  z53 := Tryz.sizeOf201
  v53 := Tryz.zeroValue201
  t57 := Tryz.underlying205
  a57 := Tryz.isAgg205
  z57 := Tryz.sizeOf205
  v57 := Tryz.zeroValue205
  t63 := Tryz.underlying219
  a63 := Tryz.isAgg219
  z63 := Tryz.sizeOf219
  v63 := Tryz.zeroValue219
  t64 := Tryz.underlying220
  a64 := Tryz.isAgg220
  z64 := Tryz.sizeOf220
  v64 := Tryz.zeroValue220 }

end Go.Proofs.YtenengkeckanmaaGreat

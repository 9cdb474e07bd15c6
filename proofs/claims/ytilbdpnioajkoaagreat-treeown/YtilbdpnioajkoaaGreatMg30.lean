/-
  The document's set, in plain words.
  The library's contracts on the sorted keys of a map of texts, laid at this dump.
  slices.Sorted(maps.Keys(m)), at maps of texts: the names, rising.
-/
import Derived.Test.YtilbdpnioajkoaaGreatMg4
import Derived.Test.YtilbdpnioajkoaaGreatMg20
import Derived.Test.YtilbdpnioajkoaaGreatRows
import Derived.WalkKit
import Derived.Shelf.SlIter.Nil
import Derived.Shelf.SortM.Plain
import Derived.Shelf.SortM.SortNone
import Derived.Ground.GgzProg
import Derived.Ground.SlgmProg
import Derived.Test.YtilbdpnioajkoaaGreatMg21
namespace Go.Proofs.YtilbdpnioajkoaaGreat
set_option linter.unusedVariables false
set_option linter.unusedSimpArgs false
namespace U
open T
/-- one round of set: what is gathered, and whether the key has been put -/
def sstep (k v : ByteArray) (s : At × Bool) (p : ByteArray × ByteArray) : At × Bool :=
  (if p.1 = k then (if s.2 || blt p.1 k then s.1 else s.1 ++ [(k, v)]) else (if s.2 || blt p.1 k then s.1 else s.1 ++ [(k, v)]) ++ [p], s.2 || !blt p.1 k)
def sgo (k v : ByteArray) (l : At) : At × Bool := l.foldl (sstep k v) ([], v.toList.isEmpty)
def sfin (k v : ByteArray) (s : At × Bool) : At := if s.2 then s.1 else s.1 ++ [(k, v)]
theorem adel_cons (k : ByteArray) (p : ByteArray × ByteArray) (r : At) : adel k (p :: r) = if p.1 = k then adel k r else p :: adel k r := by
  unfold adel
  rw [List.filter_cons]
  by_cases e : p.1 = k
  · rw [if_neg (by simp [e]), if_pos e]
  · rw [if_pos (by simp [e]), if_neg e]
theorem sgo_done (k v : ByteArray) : ∀ (l out : At), l.foldl (sstep k v) (out, true) = (out ++ adel k l, true)
  | [], out => by simp [adel]
  | p :: r, out => by
    rw [List.foldl_cons, adel_cons]
    unfold sstep
    simp only [Bool.true_or, if_true]
    by_cases e : p.1 = k
    · rw [if_pos e, if_pos e]
      exact sgo_done k v r out
    · rw [if_neg e, if_neg e]
      have := sgo_done k v r (out ++ [p])
      rw [List.append_assoc] at this
      exact this
theorem ains_head (x : ByteArray × ByteArray) : ∀ {l : At}, (∀ q ∈ l, blt x.1 q.1 = true) → ains x l = x :: l
  | [], _ => rfl
  | y :: r, h => by
    unfold ains
    rw [if_pos (h y List.mem_cons_self)]
theorem sgo_open (k v : ByteArray) : ∀ {l : At} (out : At), Ak l → sfin k v (l.foldl (sstep k v) (out, false)) = out ++ ains (k, v) (adel k l)
  | [], out, _ => by simp [sfin, adel, ains]
  | p :: r, out, h => by
    unfold Ak at h
    rw [List.pairwise_cons] at h
    rw [List.foldl_cons, adel_cons]
    cases hb : blt p.1 k with
    | true =>
      have hne : p.1 ≠ k := fun e => by rw [e, blt_irrefl] at hb; cases hb
      have hs : sstep k v (out, false) p = (out ++ [p], false) := by
        unfold sstep
        simp only [Bool.false_or, hb, if_true, if_neg hne, Bool.not_true]
      rw [hs, sgo_open k v (out ++ [p]) h.2, if_neg hne]
      have hnb : ¬ blt k p.1 = true := fun e => by
        have := blt_trans e hb
        rw [blt_irrefl] at this
        cases this
      show _ = out ++ (if blt k p.1 = true then _ else _)
      rw [if_neg hnb, List.append_assoc]
      rfl
    | false =>
      by_cases e : p.1 = k
      · have hs : sstep k v (out, false) p = (out ++ [(k, v)], true) := by
          unfold sstep
          simp only [Bool.false_or, hb, if_pos e, Bool.not_false]
          simp
        rw [hs, sgo_done, if_pos e, ains_head (k, v) (l := adel k r) (fun q hq => by rw [← e]; exact h.1 q (mem_adel.1 hq).1)]
        simp [sfin]
      · have hs : sstep k v (out, false) p = (out ++ [(k, v)] ++ [p], true) := by
          unfold sstep
          simp only [Bool.false_or, hb, if_neg e, Bool.not_false]
          simp
        have hkb : blt k p.1 = true := blt_total e (by rw [hb]; simp)
        rw [hs, sgo_done, if_neg e, ains_head (k, v) (l := p :: adel k r) (fun q hq => by
          rcases List.mem_cons.1 hq with rfl | hq
          · exact hkb
          · exact blt_trans hkb (h.1 q (mem_adel.1 hq).1))]
        simp [sfin]
/-- what set answers -/
theorem set_eq {k v : ByteArray} {l : At} (h : Ak l) : sfin k v (sgo k v l) = aset k v l := by
  unfold sgo aset
  cases hv : v.toList.isEmpty with
  | true => rw [sgo_done, if_pos rfl]; simp [sfin]
  | false => rw [sgo_open k v [] h, if_neg (by simp)]; simp
theorem sgo_take {k v : ByteArray} {l : At} {j : Nat} {p : ByteArray × ByteArray} (h : l[j]? = some p) : sgo k v (l.take (j + 1)) = sstep k v (sgo k v (l.take j)) p := by
  unfold sgo
  rw [List.take_add_one, h, List.foldl_append]
  rfl
theorem sgo_len (k v : ByteArray) : ∀ (l : At), (sgo k v l).1.length ≤ 2 * l.length := fun l => by
  have : ∀ (l : At) (s : At × Bool), (l.foldl (sstep k v) s).1.length ≤ s.1.length + 2 * l.length := fun l => by
    induction l with
    | nil => intro s; simp
    | cons p r ih =>
      intro s
      rw [List.foldl_cons, List.length_cons]
      have h1 := ih (sstep k v s p)
      have h2 : (sstep k v s p).1.length ≤ s.1.length + 2 := by
        unfold sstep
        simp only []
        split <;> split <;> simp
      omega
  have := this l ([], v.toList.isEmpty)
  simpa [sgo] using this
end U
end Go.Proofs.YtilbdpnioajkoaaGreat

namespace Go.Proofs.YtilbdpnioajkoaaGreat
open Go.RowKit Go.Sort Go.Shelf
set_option linter.unusedVariables false

def Lkeyss_ren : Go.Shelf.Ren := ⟨fun | 7 => 60 | 10 => 92 | n => n, fun | 23 => 78 | 26 => 9 | 3 => 100 | 28 => 121 | 0 => 0 | 27 => 120 | 33 => 108 | 4 => 4 | n => n, fun | n => n⟩
theorem Lkeyss : Go.Proofs.SlLaysZ.n7 Tryz.prog Lkeyss_ren := {
  mixed := by kernel_rfl
  f7 := ⟨Tryz.f60.name, by decide, Tryz.func60.trans (congrArg some (by kernel_rfl))⟩
  f10 := ⟨Tryz.f92.name, by decide, Tryz.func92.trans (congrArg some (by kernel_rfl))⟩
  t0 := Tryz.underlying0
  a0 := Tryz.isAgg0
  z0 := Tryz.sizeOf0
  v0 := Tryz.zeroValue0
  t4 := Tryz.underlying4
  a4 := Tryz.isAgg4
  z4 := Tryz.sizeOf4
  v4 := Tryz.zeroValue4
  t23 := Tryz.underlying78
  a23 := Tryz.isAgg78
  z23 := Tryz.sizeOf78
  v23 := Tryz.zeroValue78
  t26 := Tryz.underlying9
  a26 := Tryz.isAgg9
  z26 := Tryz.sizeOf9
  v26 := Tryz.zeroValue9
  t27 := Tryz.underlying120
  a27 := Tryz.isAgg120
  z27 := Tryz.sizeOf120
  v27 := Tryz.zeroValue120
  t28 := Tryz.underlying121
  a28 := Tryz.isAgg121
  z28 := Tryz.sizeOf121
  v28 := Tryz.zeroValue121
  t33 := Tryz.underlying108
  a33 := Tryz.isAgg108
  z33 := Tryz.sizeOf108
  v33 := Tryz.zeroValue108 }
def Lsorteds_ren : Go.Shelf.Ren := ⟨fun | 6 => 59 | 8 => 90 | 9 => 91 | 11 => 113 | 13 => 99 | 12 => 114 | 23 => 126 | 24 => 127 | 14 => 135 | 15 => 136 | 16 => 137 | 17 => 138 | 18 => 139 | 19 => 140 | 20 => 141 | 21 => 142 | 22 => 143 | 25 => 163 | 26 => 146 | 27 => 147 | 28 => 164 | 29 => 165 | 30 => 166 | 31 => 176 | n => n, fun | 26 => 9 | 28 => 121 | 24 => 118 | 0 => 0 | 3 => 3 | 37 => 161 | 48 => 183 | 50 => 185 | 4 => 4 | 40 => 177 | 39 => 176 | 45 => 110 | 5 => 5 | 9 => 9 | 51 => 198 | 55 => 202 | 57 => 216 | 58 => 217 | 33 => 108 | n => n, fun | n => n⟩
theorem Lsorteds : Go.Proofs.SlLaysZ.n6 Tryz.prog Lsorteds_ren := {
  mixed := by kernel_rfl
  f6 := ⟨Tryz.f59.name, by decide, Tryz.func59.trans (congrArg some (by kernel_rfl))⟩
  f8 := ⟨Tryz.f90.name, by decide, Tryz.func90.trans (congrArg some (by kernel_rfl))⟩
  f11 := ⟨Tryz.f113.name, by decide, Tryz.func113.trans (congrArg some (by kernel_rfl))⟩
  t0 := Tryz.underlying0
  a0 := Tryz.isAgg0
  z0 := Tryz.sizeOf0
  v0 := Tryz.zeroValue0
  t24 := Tryz.underlying118
  a24 := Tryz.isAgg118
  z24 := Tryz.sizeOf118
  v24 := Tryz.zeroValue118
  t26 := Tryz.underlying9
  a26 := Tryz.isAgg9
  z26 := Tryz.sizeOf9
  v26 := Tryz.zeroValue9
  t28 := Tryz.underlying121
  a28 := Tryz.isAgg121
  z28 := Tryz.sizeOf121
  v28 := Tryz.zeroValue121
  i26 := by kernel_rfl }
def Lsorts_ren : Go.Shelf.Ren := ⟨fun | 6 => 91 | 8 => 99 | 9 => 114 | 19 => 126 | 20 => 127 | 21 => 135 | 22 => 136 | 23 => 137 | 24 => 138 | 25 => 139 | 26 => 140 | 27 => 141 | 28 => 142 | 29 => 143 | 36 => 163 | 31 => 146 | 32 => 147 | 37 => 164 | 38 => 165 | 39 => 166 | 41 => 176 | n => n, fun | 27 => 118 | 29 => 9 | 3 => 3 | 32 => 161 | 26 => 118 | 0 => 0 | 44 => 183 | 46 => 185 | 4 => 4 | 36 => 177 | 35 => 176 | 41 => 110 | 5 => 5 | 9 => 9 | 53 => 198 | 57 => 202 | 63 => 216 | 64 => 217 | n => n, fun | n => n⟩
theorem Lsorts : Go.Proofs.SlLaysM.n6 Tryz.prog Lsorts_ren := {
  mixed := by kernel_rfl
  f6 := ⟨Tryz.f91.name, by decide, Tryz.func91.trans (congrArg some (by kernel_rfl))⟩
  f8 := Tryz.func99.trans (congrArg some (by kernel_rfl))
  f9 := ⟨Tryz.f114.name, by decide, Tryz.func114.trans (congrArg some (by kernel_rfl))⟩
  f19 := Tryz.func126.trans (congrArg some (by kernel_rfl))
  f20 := Tryz.func127.trans (congrArg some (by kernel_rfl))
  f21 := ⟨Tryz.f135.name, by decide, Tryz.func135.trans (congrArg some (by kernel_rfl))⟩
  f22 := ⟨Tryz.f136.name, by decide, Tryz.func136.trans (congrArg some (by kernel_rfl))⟩
  f23 := ⟨Tryz.f137.name, by decide, Tryz.func137.trans (congrArg some (by kernel_rfl))⟩
  f24 := ⟨Tryz.f138.name, by decide, Tryz.func138.trans (congrArg some (by kernel_rfl))⟩
  f25 := ⟨Tryz.f139.name, by decide, Tryz.func139.trans (congrArg some (by kernel_rfl))⟩
  f26 := ⟨Tryz.f140.name, by decide, Tryz.func140.trans (congrArg some (by kernel_rfl))⟩
  f27 := ⟨Tryz.f141.name, by decide, Tryz.func141.trans (congrArg some (by kernel_rfl))⟩
  f28 := ⟨Tryz.f142.name, by decide, Tryz.func142.trans (congrArg some (by kernel_rfl))⟩
  f29 := ⟨Tryz.f143.name, by decide, Tryz.func143.trans (congrArg some (by kernel_rfl))⟩
  f31 := Tryz.func146.trans (congrArg some (by kernel_rfl))
  f32 := Tryz.func147.trans (congrArg some (by kernel_rfl))
  f36 := ⟨Tryz.f163.name, by decide, Tryz.func163.trans (congrArg some (by kernel_rfl))⟩
  f37 := ⟨Tryz.f164.name, by decide, Tryz.func164.trans (congrArg some (by kernel_rfl))⟩
  f38 := ⟨Tryz.f165.name, by decide, Tryz.func165.trans (congrArg some (by kernel_rfl))⟩
  f39 := ⟨Tryz.f166.name, by decide, Tryz.func166.trans (congrArg some (by kernel_rfl))⟩
  f41 := ⟨Tryz.f176.name, by decide, Tryz.func176.trans (congrArg some (by kernel_rfl))⟩
  t0 := Tryz.underlying0
  a0 := Tryz.isAgg0
  z0 := Tryz.sizeOf0
  v0 := Tryz.zeroValue0
  t3 := Tryz.underlying3
  a3 := Tryz.isAgg3
  z3 := Tryz.sizeOf3
  v3 := Tryz.zeroValue3
  t4 := Tryz.underlying4
  a4 := Tryz.isAgg4
  z4 := Tryz.sizeOf4
  v4 := Tryz.zeroValue4
  t5 := Tryz.underlying5
  a5 := Tryz.isAgg5
  z5 := Tryz.sizeOf5
  v5 := Tryz.zeroValue5
  t9 := Tryz.underlying9
  a9 := Tryz.isAgg9
  z9 := Tryz.sizeOf9
  v9 := Tryz.zeroValue9
  t26 := Tryz.underlying118
  a26 := Tryz.isAgg118
  z26 := Tryz.sizeOf118
  v26 := Tryz.zeroValue118
  t27 := Tryz.underlying118
  a27 := Tryz.isAgg118
  z27 := Tryz.sizeOf118
  v27 := Tryz.zeroValue118
  t29 := Tryz.underlying9
  a29 := Tryz.isAgg9
  z29 := Tryz.sizeOf9
  v29 := Tryz.zeroValue9
  t32 := Tryz.underlying161
  a32 := Tryz.isAgg161
  z32 := Tryz.sizeOf161
  v32 := Tryz.zeroValue161
  t35 := Tryz.underlying176
  a35 := Tryz.isAgg176
  z35 := Tryz.sizeOf176
  v35 := Tryz.zeroValue176
  t36 := Tryz.underlying177
  a36 := Tryz.isAgg177
  z36 := Tryz.sizeOf177
  v36 := Tryz.zeroValue177
  t41 := Tryz.underlying110
  a41 := Tryz.isAgg110
  z41 := Tryz.sizeOf110
  v41 := Tryz.zeroValue110
  t44 := Tryz.underlying183
  a44 := Tryz.isAgg183
  z44 := Tryz.sizeOf183
  v44 := Tryz.zeroValue183
  t46 := Tryz.underlying185
  a46 := Tryz.isAgg185
  z46 := Tryz.sizeOf185
  v46 := Tryz.zeroValue185
  t53 := Tryz.underlying198
  a53 := Tryz.isAgg198
  z53 := Tryz.sizeOf198
  v53 := Tryz.zeroValue198
  t57 := Tryz.underlying202
  a57 := Tryz.isAgg202
  z57 := Tryz.sizeOf202
  v57 := Tryz.zeroValue202
  t63 := Tryz.underlying216
  a63 := Tryz.isAgg216
  z63 := Tryz.sizeOf216
  v63 := Tryz.zeroValue216
  t64 := Tryz.underlying217
  a64 := Tryz.isAgg217
  z64 := Tryz.sizeOf217
  v64 := Tryz.zeroValue217 }

end Go.Proofs.YtilbdpnioajkoaaGreat

namespace Go.Proofs.YtilbdpnioajkoaaGreat
open Go.RowKit Go.Maps Go.Sort Go.Shelf
set_option linter.unusedVariables false
set_option linter.unusedSimpArgs false
set_option maxRecDepth 100000
theorem sortsS (m : Nat) : AnyZ.SortsIn Tryz.prog Lsorteds_ren Fence.wide m :=
  ⟨fun blk off cap ss W h1 h2 h3 => callsIn_wide.2 (AnyM.slices_Sort_string Lsorts blk off cap ss W h1 h2 h3), fun p cap W => callsIn_wide.2 (AnyM.slices_Sort_string_none Lsorts p cap W)⟩
theorem keysS_fn (mb : Option Nat) (W : World) : Calls Tryz.prog 60 #[.map mb] W fun e w' => e = .returned (.func (.func 92) #[] #[ptr W.heap.size]) ∧ w' = W.alloc (.cells #[.map mb] 78) :=
  callsIn_wide.1 (AnyZ.keys_in Lkeyss Fence.wide 5 trivial rfl mb W)
/-- the names for which there is something, rising -/
structure T.NamesOf (g : ByteArray → Option Value) (l : List ByteArray) : Prop where
  up : l.Pairwise (fun a b => T.blt a b = true)
  mem : ∀ s, s ∈ l ↔ (g s).isSome = true
def T.ofL (l : List UInt8) : ByteArray := ⟨l.toArray⟩
theorem T.ofL_list (l : List UInt8) : (T.ofL l).data.toList = l := rfl
theorem T.litS_ofL (l : List UInt8) : litS (T.ofL l) = Lit.string l := rfl
theorem T.strKeys_facts {w : World} {b n : Nat} {D : DataW Value} (hown : w.ownsMap Tryz.prog 9 asIs b n D) : (strKeys D).Nodup ∧ (∀ x, x ∈ strKeys D ↔ has D (.string x) = true) ∧ (strKeys D).length = Maps.size D := by
  obtain ⟨es, hD, hp, _⟩ := hown.entries keyS
  obtain ⟨es', hD', hko⟩ := hown.keysOf
  obtain rfl : es = es' := by rw [hD] at hD'; simpa using hD'
  subst hD
  have hk : ∀ p ∈ es, ∃ x, p.1 = .string x := fun p hp => by
    obtain ⟨v, hv⟩ := hko p hp
    obtain ⟨x, _, hx, _⟩ := Maps.keyOf_str Tryz.underlying9 hv
    exact ⟨x, hx⟩
  refine ⟨?_, fun x => ?_, by show (es.map fun p => strOf p.1).length = es.length; simp⟩
  · show (es.map fun p => strOf p.1).Nodup
    refine List.pairwise_map.2 (hp.imp_of_mem fun {p q} hp' hq' hne e => hne ?_)
    obtain ⟨a, ha⟩ := hk p hp'
    obtain ⟨b, hb⟩ := hk q hq'
    rw [ha, hb] at e ⊢
    exact congrArg _ e
  · rw [has_eq, List.any_eq_true]
    show x ∈ es.map (fun p => strOf p.1) ↔ _
    rw [List.mem_map]
    constructor
    · rintro ⟨p, hp', rfl⟩
      obtain ⟨a, ha⟩ := hk p hp'
      exact ⟨p, hp', by rw [ha]; simp [Lit.sameKey, strOf]⟩
    · rintro ⟨p, hp', hs⟩
      obtain ⟨a, ha⟩ := hk p hp'
      rw [ha] at hs
      exact ⟨p, hp', by rw [ha]; simpa [Lit.sameKey, strOf] using hs⟩
theorem T.namesOf {g : ByteArray → Option Value} {D : DataW Value} (hD2 : ∀ x z, D.atKey (litS x) z = orZ z (g x)) {ss : List (List UInt8)} (hS : ss.Perm (strKeys D)) (hf : (strKeys D).Nodup ∧ ∀ x, x ∈ strKeys D ↔ has D (.string x) = true) : T.NamesOf g ((ss.mergeSort (fun x y => decide (x ≤ y))).map T.ofL) := by
  have hnd : (ss.mergeSort (fun x y => decide (x ≤ y))).Nodup := ((List.mergeSort_perm _ _).trans hS).nodup_iff.2 hf.1
  have hst : (ss.mergeSort (fun x y => decide (x ≤ y))).Pairwise (fun x y => decide (x ≤ y) = true) := List.pairwise_mergeSort (fun a b c h1 h2 => by simp only [decide_eq_true_eq] at *; exact List.le_trans h1 h2) (fun a b => by simp only [Bool.or_eq_true, decide_eq_true_eq]; exact List.le_total a b) _
  refine ⟨?_, fun s => ?_⟩
  · rw [List.pairwise_map]
    refine List.Pairwise.imp (fun {a b} h => ?_) (hst.and hnd)
    unfold T.blt
    rw [T.ofL_list, T.ofL_list]
    refine decide_eq_true ?_
    have h1 : a ≤ b := by simpa using h.1
    rcases List.le_iff_lt_or_eq.1 h1 with h2 | h2
    · exact h2
    · exact absurd h2 h.2
  · rw [List.mem_map]
    have hh := has_orZ (hD2 s)
    constructor
    · rintro ⟨l, hl, rfl⟩
      have h1 := (hf.2 l).1 (((List.mergeSort_perm _ _).trans hS).mem_iff.1 hl)
      rw [← T.litS_ofL, hh] at h1
      exact h1
    · intro h
      refine ⟨s.data.toList, ((List.mergeSort_perm _ _).trans hS).mem_iff.2 ((hf.2 _).2 ?_), T.ba_ext rfl⟩
      rw [← hh] at h
      exact h
set_option maxHeartbeats 1000000 in
theorem sortedS_any {w : World} {uv : Option Nat} {m : Nat} {g : ByteArray → Option Value} (hm : Mo 9 litS w uv g m) (hb : m ≤ 8000000000000) :
    Calls Tryz.prog 59 #[.func (.func 92) #[] #[ptr w.heap.size]] (w.alloc (.cells #[.map uv] 78)) fun e w' => ∃ a c l, e = .returned (.slice a (List.length l) c) ∧ T.NamesOf g l ∧ l.length ≤ m ∧ Rw (fun i => w.heap.size ≤ i ∧ i < w'.heap.size) w' 1 a l.length (l.map Value.string) ∧ Fr (fun _ => False) (w.alloc (.cells #[.map uv] 78)) w' := by
  cases uv with
  | none =>
    refine (callsIn_wide (n := 5)).1 ?_
    have hseq : SeqGives Fence.wide 2 Tryz.prog 92 #[ptr w.heap.size] encStr (fun ss : List (List UInt8) => ss = []) 0 (w.alloc (.cells #[.map none] 78)) :=
      AnyZ.keys_gives_nil (ρ := Lkeyss_ren) { Lkeyss with } Fence.wide _ trivial rfl w.heap.size _ (by simp) (by simp)
    have cS := AnyZ.sorted_in Lsorteds Fence.wide 5 trivial trivial trivial trivial rfl (by omega) (sortsS _) (enters_of Tryz.func91 (by kernel_rfl) rfl) 92 #[ptr w.heap.size] trivial (enters_of Tryz.func92 (by kernel_rfl) rfl) _ 0 (Nat.zero_le _) (by omega) _ hseq
    change CallsIn _ _ Tryz.prog 59 _ _ _ at cS
    refine cS.mono ?_
    rintro e w' ⟨v, ss, rfl, rfl, hrow, hnil, hB⟩
    obtain rfl : v = .slice none 0 0 := hnil.2 rfl
    exact ⟨none, 0, [], rfl, ⟨List.Pairwise.nil, fun s => by rw [hm.1 s]; simp⟩, Nat.zero_le _, Rw.nil _ _ _ _, Fr.of_below hB⟩
  | some b =>
    obtain ⟨D, hown, hD1, hD2⟩ := (show Mp 9 litS w b g m from hm)
    have hbl := hown.lt
    refine (callsIn_wide (n := 5)).1 ?_
    have hmx : Maps.size D ≤ maxLen := by unfold maxLen; omega
    have hseq : SeqGives Fence.wide 2 Tryz.prog 92 #[ptr w.heap.size] encStr (fun ss => ss.Perm (strKeys D)) (Maps.size D) (w.alloc (.cells #[.map (some b)] 78)) := by
      refine AnyZ.keys_gives (ρ := Lkeyss_ren) (R := asIs) { Lkeyss with } Fence.wide _ trivial rfl (by omega) w.heap.size b m D _ (by simp) (by simp) ?_
      obtain ⟨es, clock, hb, r⟩ := hown
      exact ⟨es, clock, (Below.heap_alloc _ _ b hbl).trans hb, r⟩
    have cS := AnyZ.sorted_in Lsorteds Fence.wide 5 trivial trivial trivial trivial rfl (by omega) (sortsS _) (enters_of Tryz.func91 (by kernel_rfl) rfl) 92 #[ptr w.heap.size] trivial (enters_of Tryz.func92 (by kernel_rfl) rfl) _ _ hmx (by omega) _ hseq
    change CallsIn _ _ Tryz.prog 59 _ _ _ at cS
    refine cS.mono ?_
    rintro e w' ⟨v, ss, rfl, hS, hrow, hnil, hB⟩
    have hfk := T.strKeys_facts hown
    have hN := T.namesOf hD2 hS ⟨hfk.1, hfk.2.1⟩
    have hlen : ((ss.mergeSort (fun x y => decide (x ≤ y))).map T.ofL).length = ss.length := by rw [List.length_map, List.length_mergeSort]
    have hle : ss.length ≤ m := by rw [hS.length_eq, hfk.2.2]; omega
    have hf := Fr.of_below hB
    have hrw : (ss.mergeSort (fun x y => decide (x ≤ y))).map encStr = ((ss.mergeSort (fun x y => decide (x ≤ y))).map T.ofL).map Value.string := by rw [List.map_map]; rfl
    rw [hrw] at hrow
    generalize (ss.mergeSort (fun x y => decide (x ≤ y))).map T.ofL = L at hN hlen hrow
    rcases hrow.2 with ⟨rfl, h0⟩ | ⟨g', cap, cur, rfl, hg', hcur, _, _, _, htk⟩
    · have h0' : L = [] := List.eq_nil_of_length_eq_zero (by omega)
      subst h0'
      exact ⟨none, 0, [], rfl, hN, Nat.zero_le _, Rw.nil _ _ _ _, hf⟩
    · refine ⟨_, cap, L, by rw [hlen], hN, by omega, ⟨by simp, .inr ⟨g', 0, rfl, ⟨by rw [alloc_size] at hg'; omega, lt_of_row hcur⟩, fun j u hu => ?_⟩⟩, hf⟩
      rw [Nat.zero_add, cell_of_row w' g' j _ _ _ hcur]
      have h1 : (cur.toList.take (ss.length * 1))[j]? = some u := by
        rw [htk]
        exact hu
      rw [List.getElem?_take] at h1
      split at h1
      · simpa using h1
      · cases h1
end Go.Proofs.YtilbdpnioajkoaaGreat

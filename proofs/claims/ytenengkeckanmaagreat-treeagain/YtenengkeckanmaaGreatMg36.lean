/-
  The library's contracts on the sorted keys of a map of texts, laid at this dump.
  slices.Sorted(maps.Keys(m)), at maps of texts: the names, rising.
-/
import Derived.Test.YtenengkeckanmaaGreatRows
import Derived.WalkKit
import Derived.Shelf.SlIter.Nil
import Derived.Shelf.SortM.Plain
import Derived.Shelf.SortM.SortNone
import Derived.Ground.GgzProg
import Derived.Ground.SlgmProg
import Derived.Test.YtenengkeckanmaaGreatTSortedQ
namespace Go.Proofs.YtenengkeckanmaaGreat
open Go.RowKit Go.Sort Go.Shelf
set_option linter.unusedVariables false

def Lkeyss_ren : Go.Shelf.Ren := ⟨fun | 7 => 67 | 10 => 97 | n => n, fun | 23 => 87 | 26 => 9 | 3 => 62 | 28 => 133 | 0 => 0 | 27 => 132 | 33 => 115 | 4 => 4 | n => n, fun | n => n⟩
theorem Lkeyss : Go.Proofs.SlLaysZ.n7 Tryz.prog Lkeyss_ren := {
  mixed := by kernel_rfl
  f7 := ⟨Tryz.f67.name, by decide, Tryz.func67.trans (congrArg some (by kernel_rfl))⟩
  f10 := ⟨Tryz.f97.name, by decide, Tryz.func97.trans (congrArg some (by kernel_rfl))⟩
  t0 := Tryz.underlying0
  a0 := Tryz.isAgg0
  z0 := Tryz.sizeOf0
  v0 := Tryz.zeroValue0
  t4 := Tryz.underlying4
  a4 := Tryz.isAgg4
  z4 := Tryz.sizeOf4
  v4 := Tryz.zeroValue4
  t23 := Tryz.underlying87
  a23 := Tryz.isAgg87
  z23 := Tryz.sizeOf87
  v23 := Tryz.zeroValue87
  t26 := Tryz.underlying9
  a26 := Tryz.isAgg9
  z26 := Tryz.sizeOf9
  v26 := Tryz.zeroValue9
  t27 := Tryz.underlying132
  a27 := Tryz.isAgg132
  z27 := Tryz.sizeOf132
  v27 := Tryz.zeroValue132
  t28 := Tryz.underlying133
  a28 := Tryz.isAgg133
  z28 := Tryz.sizeOf133
  v28 := Tryz.zeroValue133
  t33 := Tryz.underlying115
  a33 := Tryz.isAgg115
  z33 := Tryz.sizeOf115
  v33 := Tryz.zeroValue115 }
def Lsorteds_ren : Go.Shelf.Ren := ⟨fun | 6 => 66 | 8 => 95 | 9 => 96 | 11 => 117 | 13 => 103 | 12 => 118 | 23 => 130 | 24 => 131 | 14 => 138 | 15 => 139 | 16 => 140 | 17 => 141 | 18 => 142 | 19 => 143 | 20 => 144 | 21 => 145 | 22 => 146 | 25 => 166 | 26 => 149 | 27 => 150 | 28 => 167 | 29 => 168 | 30 => 169 | 31 => 179 | n => n, fun | 26 => 9 | 28 => 133 | 24 => 130 | 0 => 0 | 3 => 3 | 37 => 167 | 48 => 187 | 50 => 189 | 4 => 4 | 40 => 181 | 39 => 180 | 45 => 117 | 5 => 5 | 9 => 9 | 51 => 201 | 55 => 205 | 57 => 219 | 58 => 220 | 33 => 115 | n => n, fun | n => n⟩
theorem Lsorteds : Go.Proofs.SlLaysZ.n6 Tryz.prog Lsorteds_ren := {
  mixed := by kernel_rfl
  f6 := ⟨Tryz.f66.name, by decide, Tryz.func66.trans (congrArg some (by kernel_rfl))⟩
  f8 := ⟨Tryz.f95.name, by decide, Tryz.func95.trans (congrArg some (by kernel_rfl))⟩
  f11 := ⟨Tryz.f117.name, by decide, Tryz.func117.trans (congrArg some (by kernel_rfl))⟩
  t0 := Tryz.underlying0
  a0 := Tryz.isAgg0
  z0 := Tryz.sizeOf0
  v0 := Tryz.zeroValue0
  t24 := Tryz.underlying130
  a24 := Tryz.isAgg130
  z24 := Tryz.sizeOf130
  v24 := Tryz.zeroValue130
  t26 := Tryz.underlying9
  a26 := Tryz.isAgg9
  z26 := Tryz.sizeOf9
  v26 := Tryz.zeroValue9
  t28 := Tryz.underlying133
  a28 := Tryz.isAgg133
  z28 := Tryz.sizeOf133
  v28 := Tryz.zeroValue133
  i26 := by kernel_rfl }
def Lsorts_ren : Go.Shelf.Ren := ⟨fun | 6 => 96 | 8 => 103 | 9 => 118 | 19 => 130 | 20 => 131 | 21 => 138 | 22 => 139 | 23 => 140 | 24 => 141 | 25 => 142 | 26 => 143 | 27 => 144 | 28 => 145 | 29 => 146 | 36 => 166 | 31 => 149 | 32 => 150 | 37 => 167 | 38 => 168 | 39 => 169 | 41 => 179 | n => n, fun | 27 => 130 | 29 => 9 | 3 => 3 | 32 => 167 | 26 => 130 | 0 => 0 | 44 => 187 | 46 => 189 | 4 => 4 | 36 => 181 | 35 => 180 | 41 => 117 | 5 => 5 | 9 => 9 | 53 => 201 | 57 => 205 | 63 => 219 | 64 => 220 | n => n, fun | n => n⟩
theorem Lsorts : Go.Proofs.SlLaysM.n6 Tryz.prog Lsorts_ren := {
  mixed := by kernel_rfl
  f6 := ⟨Tryz.f96.name, by decide, Tryz.func96.trans (congrArg some (by kernel_rfl))⟩
  f8 := Tryz.func103.trans (congrArg some (by kernel_rfl))
  f9 := ⟨Tryz.f118.name, by decide, Tryz.func118.trans (congrArg some (by kernel_rfl))⟩
  f19 := Tryz.func130.trans (congrArg some (by kernel_rfl))
  f20 := Tryz.func131.trans (congrArg some (by kernel_rfl))
  f21 := ⟨Tryz.f138.name, by decide, Tryz.func138.trans (congrArg some (by kernel_rfl))⟩
  f22 := ⟨Tryz.f139.name, by decide, Tryz.func139.trans (congrArg some (by kernel_rfl))⟩
  f23 := ⟨Tryz.f140.name, by decide, Tryz.func140.trans (congrArg some (by kernel_rfl))⟩
  f24 := ⟨Tryz.f141.name, by decide, Tryz.func141.trans (congrArg some (by kernel_rfl))⟩
  f25 := ⟨Tryz.f142.name, by decide, Tryz.func142.trans (congrArg some (by kernel_rfl))⟩
  f26 := ⟨Tryz.f143.name, by decide, Tryz.func143.trans (congrArg some (by kernel_rfl))⟩
  f27 := ⟨Tryz.f144.name, by decide, Tryz.func144.trans (congrArg some (by kernel_rfl))⟩
  f28 := ⟨Tryz.f145.name, by decide, Tryz.func145.trans (congrArg some (by kernel_rfl))⟩
  f29 := ⟨Tryz.f146.name, by decide, Tryz.func146.trans (congrArg some (by kernel_rfl))⟩
  f31 := Tryz.func149.trans (congrArg some (by kernel_rfl))
  f32 := Tryz.func150.trans (congrArg some (by kernel_rfl))
  f36 := ⟨Tryz.f166.name, by decide, Tryz.func166.trans (congrArg some (by kernel_rfl))⟩
  f37 := ⟨Tryz.f167.name, by decide, Tryz.func167.trans (congrArg some (by kernel_rfl))⟩
  f38 := ⟨Tryz.f168.name, by decide, Tryz.func168.trans (congrArg some (by kernel_rfl))⟩
  f39 := ⟨Tryz.f169.name, by decide, Tryz.func169.trans (congrArg some (by kernel_rfl))⟩
  f41 := ⟨Tryz.f179.name, by decide, Tryz.func179.trans (congrArg some (by kernel_rfl))⟩
  t0 := Tryz.underlying0
  a0 := Tryz.isAgg0
  z0 := Tryz.sizeOf0
  v0 := Tryz.zeroValue0
  t3 := Tryz.underlying3
  a3 := Tryz.isAgg3
  z3 := Tryz.sizeOf3
  v3 := Tryz.zeroValue3
  t4 := Tryz.underlying4
  a4 := Tryz.isAgg4
  z4 := Tryz.sizeOf4
  v4 := Tryz.zeroValue4
  t5 := Tryz.underlying5
  a5 := Tryz.isAgg5
  z5 := Tryz.sizeOf5
  v5 := Tryz.zeroValue5
  t9 := Tryz.underlying9
  a9 := Tryz.isAgg9
  z9 := Tryz.sizeOf9
  v9 := Tryz.zeroValue9
  t26 := Tryz.underlying130
  a26 := Tryz.isAgg130
  z26 := Tryz.sizeOf130
  v26 := Tryz.zeroValue130
  t27 := Tryz.underlying130
  a27 := Tryz.isAgg130
  z27 := Tryz.sizeOf130
  v27 := Tryz.zeroValue130
  t29 := Tryz.underlying9
  a29 := Tryz.isAgg9
  z29 := Tryz.sizeOf9
  v29 := Tryz.zeroValue9
  t32 := Tryz.underlying167
  a32 := Tryz.isAgg167
  z32 := Tryz.sizeOf167
  v32 := Tryz.zeroValue167
  t35 := Tryz.underlying180
  a35 := Tryz.isAgg180
  z35 := Tryz.sizeOf180
  v35 := Tryz.zeroValue180
  t36 := Tryz.underlying181
  a36 := Tryz.isAgg181
  z36 := Tryz.sizeOf181
  v36 := Tryz.zeroValue181
  t41 := Tryz.underlying117
  a41 := Tryz.isAgg117
  z41 := Tryz.sizeOf117
  v41 := Tryz.zeroValue117
  t44 := Tryz.underlying187
  a44 := Tryz.isAgg187
  z44 := Tryz.sizeOf187
  v44 := Tryz.zeroValue187
  t46 := Tryz.underlying189
  a46 := Tryz.isAgg189
  z46 := Tryz.sizeOf189
  v46 := Tryz.zeroValue189
  t53 := Tryz.underlying201
  a53 := Tryz.isAgg201
  z53 := Tryz.sizeOf201
  v53 := Tryz.zeroValue201
  t57 := Tryz.underlying205
  a57 := Tryz.isAgg205
  z57 := Tryz.sizeOf205
  v57 := Tryz.zeroValue205
  t63 := Tryz.underlying219
  a63 := Tryz.isAgg219
  z63 := Tryz.sizeOf219
  v63 := Tryz.zeroValue219
  t64 := Tryz.underlying220
  a64 := Tryz.isAgg220
  z64 := Tryz.sizeOf220
  v64 := Tryz.zeroValue220 }

end Go.Proofs.YtenengkeckanmaaGreat

namespace Go.Proofs.YtenengkeckanmaaGreat
open Go.RowKit Go.Maps Go.Sort Go.Shelf
set_option linter.unusedVariables false
set_option linter.unusedSimpArgs false
set_option maxRecDepth 100000
theorem sortsS (m : Nat) : AnyZ.SortsIn Tryz.prog Lsorteds_ren Fence.wide m :=
  ⟨fun blk off cap ss W h1 h2 h3 => callsIn_wide.2 (AnyM.slices_Sort_string Lsorts blk off cap ss W h1 h2 h3), fun p cap W => callsIn_wide.2 (AnyM.slices_Sort_string_none Lsorts p cap W)⟩
theorem keysS_fn (mb : Option Nat) (W : World) : Calls Tryz.prog 67 #[.map mb] W fun e w' => e = .returned (.func (.func 97) #[] #[ptr W.heap.size]) ∧ w' = W.alloc (.cells #[.map mb] 87) :=
  callsIn_wide.1 (AnyZ.keys_in Lkeyss Fence.wide 5 trivial rfl mb W)
/-- the names for which there is something, rising -/
structure T.NamesOf (g : ByteArray → Option Value) (l : List ByteArray) : Prop where
  up : l.Pairwise (fun a b => T.blt a b = true)
  mem : ∀ s, s ∈ l ↔ (g s).isSome = true
def T.ofL (l : List UInt8) : ByteArray := ⟨l.toArray⟩
theorem T.ofL_list (l : List UInt8) : (T.ofL l).data.toList = l := rfl
theorem T.litS_ofL (l : List UInt8) : litS (T.ofL l) = Lit.string l := rfl
theorem T.strKeys_facts {w : World} {b n : Nat} {D : DataW Value} (hown : w.ownsMap Tryz.prog 9 asIs b n D) : (strKeys D).Nodup ∧ (∀ x, x ∈ strKeys D ↔ has D (.string x) = true) ∧ (strKeys D).length = Maps.size D := by
  obtain ⟨es, hD, hp, _⟩ := hown.entries keyS
  obtain ⟨es', hD', hko⟩ := hown.keysOf
  obtain rfl : es = es' := by rw [hD] at hD'; simpa using hD'
  subst hD
  have hk : ∀ p ∈ es, ∃ x, p.1 = .string x := fun p hp => by
    obtain ⟨v, hv⟩ := hko p hp
    obtain ⟨x, _, hx, _⟩ := Maps.keyOf_str Tryz.underlying9 hv
    exact ⟨x, hx⟩
  refine ⟨?_, fun x => ?_, by show (es.map fun p => strOf p.1).length = es.length; simp⟩
  · show (es.map fun p => strOf p.1).Nodup
    refine List.pairwise_map.2 (hp.imp_of_mem fun {p q} hp' hq' hne e => hne ?_)
    obtain ⟨a, ha⟩ := hk p hp'
    obtain ⟨b, hb⟩ := hk q hq'
    rw [ha, hb] at e ⊢
    exact congrArg _ e
  · rw [has_eq, List.any_eq_true]
    show x ∈ es.map (fun p => strOf p.1) ↔ _
    rw [List.mem_map]
    constructor
    · rintro ⟨p, hp', rfl⟩
      obtain ⟨a, ha⟩ := hk p hp'
      exact ⟨p, hp', by rw [ha]; simp [Lit.sameKey, strOf]⟩
    · rintro ⟨p, hp', hs⟩
      obtain ⟨a, ha⟩ := hk p hp'
      rw [ha] at hs
      exact ⟨p, hp', by rw [ha]; simpa [Lit.sameKey, strOf] using hs⟩
theorem T.namesOf {g : ByteArray → Option Value} {D : DataW Value} (hD2 : ∀ x z, D.atKey (litS x) z = orZ z (g x)) {ss : List (List UInt8)} (hS : ss.Perm (strKeys D)) (hf : (strKeys D).Nodup ∧ ∀ x, x ∈ strKeys D ↔ has D (.string x) = true) : T.NamesOf g ((ss.mergeSort (fun x y => decide (x ≤ y))).map T.ofL) := by
  have hnd : (ss.mergeSort (fun x y => decide (x ≤ y))).Nodup := ((List.mergeSort_perm _ _).trans hS).nodup_iff.2 hf.1
  have hst : (ss.mergeSort (fun x y => decide (x ≤ y))).Pairwise (fun x y => decide (x ≤ y) = true) := List.pairwise_mergeSort (fun a b c h1 h2 => by simp only [decide_eq_true_eq] at *; exact List.le_trans h1 h2) (fun a b => by simp only [Bool.or_eq_true, decide_eq_true_eq]; exact List.le_total a b) _
  refine ⟨?_, fun s => ?_⟩
  · rw [List.pairwise_map]
    refine List.Pairwise.imp (fun {a b} h => ?_) (hst.and hnd)
    unfold T.blt
    rw [T.ofL_list, T.ofL_list]
    refine decide_eq_true ?_
    have h1 : a ≤ b := by simpa using h.1
    rcases List.le_iff_lt_or_eq.1 h1 with h2 | h2
    · exact h2
    · exact absurd h2 h.2
  · rw [List.mem_map]
    have hh := has_orZ (hD2 s)
    constructor
    · rintro ⟨l, hl, rfl⟩
      have h1 := (hf.2 l).1 (((List.mergeSort_perm _ _).trans hS).mem_iff.1 hl)
      rw [← T.litS_ofL, hh] at h1
      exact h1
    · intro h
      refine ⟨s.data.toList, ((List.mergeSort_perm _ _).trans hS).mem_iff.2 ((hf.2 _).2 ?_), T.ba_ext rfl⟩
      rw [← hh] at h
      exact h
set_option maxHeartbeats 1000000 in
theorem sortedS_any {w : World} {uv : Option Nat} {m : Nat} {g : ByteArray → Option Value} (hm : Mo 9 litS w uv g m) (hb : m ≤ 8000000000000) :
    Calls Tryz.prog 66 #[.func (.func 97) #[] #[ptr w.heap.size]] (w.alloc (.cells #[.map uv] 87)) fun e w' => ∃ a c l, e = .returned (.slice a (List.length l) c) ∧ T.NamesOf g l ∧ l.length ≤ m ∧ Rw (fun i => w.heap.size ≤ i ∧ i < w'.heap.size) w' 1 a l.length (l.map Value.string) ∧ Fr (fun _ => False) (w.alloc (.cells #[.map uv] 87)) w' := by
  cases uv with
  | none =>
    refine (callsIn_wide (n := 5)).1 ?_
    have hseq : SeqGives Fence.wide 2 Tryz.prog 97 #[ptr w.heap.size] encStr (fun ss : List (List UInt8) => ss = []) 0 (w.alloc (.cells #[.map none] 87)) :=
      AnyZ.keys_gives_nil (ρ := Lkeyss_ren) { Lkeyss with } Fence.wide _ trivial rfl w.heap.size _ (by simp) (by simp)
    have cS := AnyZ.sorted_in Lsorteds Fence.wide 5 trivial trivial trivial trivial rfl (by omega) (sortsS _) (enters_of Tryz.func96 (by kernel_rfl) rfl) 97 #[ptr w.heap.size] trivial (enters_of Tryz.func97 (by kernel_rfl) rfl) _ 0 (Nat.zero_le _) (by omega) _ hseq
    change CallsIn _ _ Tryz.prog 66 _ _ _ at cS
    refine cS.mono ?_
    rintro e w' ⟨v, ss, rfl, rfl, hrow, hnil, hB⟩
    obtain rfl : v = .slice none 0 0 := hnil.2 rfl
    exact ⟨none, 0, [], rfl, ⟨List.Pairwise.nil, fun s => by rw [hm.1 s]; simp⟩, Nat.zero_le _, Rw.nil _ _ _ _, Fr.of_below hB⟩
  | some b =>
    obtain ⟨D, hown, hD1, hD2⟩ := (show Mp 9 litS w b g m from hm)
    have hbl := hown.lt
    refine (callsIn_wide (n := 5)).1 ?_
    have hmx : Maps.size D ≤ maxLen := by unfold maxLen; omega
    have hseq : SeqGives Fence.wide 2 Tryz.prog 97 #[ptr w.heap.size] encStr (fun ss => ss.Perm (strKeys D)) (Maps.size D) (w.alloc (.cells #[.map (some b)] 87)) := by
      refine AnyZ.keys_gives (ρ := Lkeyss_ren) (R := asIs) { Lkeyss with } Fence.wide _ trivial rfl (by omega) w.heap.size b m D _ (by simp) (by simp) ?_
      obtain ⟨es, clock, hb, r⟩ := hown
      exact ⟨es, clock, (Below.heap_alloc _ _ b hbl).trans hb, r⟩
    have cS := AnyZ.sorted_in Lsorteds Fence.wide 5 trivial trivial trivial trivial rfl (by omega) (sortsS _) (enters_of Tryz.func96 (by kernel_rfl) rfl) 97 #[ptr w.heap.size] trivial (enters_of Tryz.func97 (by kernel_rfl) rfl) _ _ hmx (by omega) _ hseq
    change CallsIn _ _ Tryz.prog 66 _ _ _ at cS
    refine cS.mono ?_
    rintro e w' ⟨v, ss, rfl, hS, hrow, hnil, hB⟩
    have hfk := T.strKeys_facts hown
    have hN := T.namesOf hD2 hS ⟨hfk.1, hfk.2.1⟩
    have hlen : ((ss.mergeSort (fun x y => decide (x ≤ y))).map T.ofL).length = ss.length := by rw [List.length_map, List.length_mergeSort]
    have hle : ss.length ≤ m := by rw [hS.length_eq, hfk.2.2]; omega
    have hf := Fr.of_below hB
    have hrw : (ss.mergeSort (fun x y => decide (x ≤ y))).map encStr = ((ss.mergeSort (fun x y => decide (x ≤ y))).map T.ofL).map Value.string := by rw [List.map_map]; rfl
    rw [hrw] at hrow
    generalize (ss.mergeSort (fun x y => decide (x ≤ y))).map T.ofL = L at hN hlen hrow
    rcases hrow.2 with ⟨rfl, h0⟩ | ⟨g', cap, cur, rfl, hg', hcur, _, _, _, htk⟩
    · have h0' : L = [] := List.eq_nil_of_length_eq_zero (by omega)
      subst h0'
      exact ⟨none, 0, [], rfl, hN, Nat.zero_le _, Rw.nil _ _ _ _, hf⟩
    · refine ⟨_, cap, L, by rw [hlen], hN, by omega, ⟨by simp, .inr ⟨g', 0, rfl, ⟨by rw [alloc_size] at hg'; omega, lt_of_row hcur⟩, fun j u hu => ?_⟩⟩, hf⟩
      rw [Nat.zero_add, cell_of_row w' g' j _ _ _ hcur]
      have h1 : (cur.toList.take (ss.length * 1))[j]? = some u := by
        rw [htk]
        exact hu
      rw [List.getElem?_take] at h1
      split at h1
      · simpa using h1
      · cases h1
end Go.Proofs.YtenengkeckanmaaGreat

/-
  slices.Sorted(maps.Keys(m)), at maps of texts: the names, rising.
  A pointer against itself.
-/
import Derived.Test.YtmgnldangjfohaaGreatTKeysT
import Derived.Test.YtmgnldangjfohaaGreatTSortedQ
import Derived.Test.YtmgnldangjfohaaGreatMg6
namespace Go.Proofs.YtmgnldangjfohaaGreat
open Go.RowKit Go.Maps Go.Sort Go.Shelf
set_option linter.unusedVariables false
set_option linter.unusedSimpArgs false
set_option maxRecDepth 100000
theorem sortsS (m : Nat) : AnyZ.SortsIn Tryz.prog Lsorteds_ren Fence.wide m :=
  ⟨fun blk off cap ss W h1 h2 h3 => callsIn_wide.2 (AnyM.slices_Sort_string Lsorts blk off cap ss W h1 h2 h3), fun p cap W => callsIn_wide.2 (AnyM.slices_Sort_string_none Lsorts p cap W)⟩
theorem keysS_fn (mb : Option Nat) (W : World) : Calls Tryz.prog 64 #[.map mb] W fun e w' => e = .returned (.func (.func 95) #[] #[ptr W.heap.size]) ∧ w' = W.alloc (.cells #[.map mb] 85) :=
  callsIn_wide.1 (AnyZ.keys_in Lkeyss Fence.wide 5 trivial rfl mb W)
/-- the names for which there is something, rising -/
structure T.NamesOf (g : ByteArray → Option Value) (l : List ByteArray) : Prop where
  up : l.Pairwise (fun a b => T.blt a b = true)
  mem : ∀ s, s ∈ l ↔ (g s).isSome = true
def T.ofL (l : List UInt8) : ByteArray := ⟨l.toArray⟩
theorem T.ofL_list (l : List UInt8) : (T.ofL l).data.toList = l := rfl
theorem T.litS_ofL (l : List UInt8) : litS (T.ofL l) = Lit.string l := rfl
theorem T.strKeys_facts {w : World} {b n : Nat} {D : DataW Value} (hown : w.ownsMap Tryz.prog 9 asIs b n D) : (strKeys D).Nodup ∧ (∀ x, x ∈ strKeys D ↔ has D (.string x) = true) ∧ (strKeys D).length = Maps.size D := by
  obtain ⟨es, hD, hp, _⟩ := hown.entries keyS
  obtain ⟨es', hD', hko⟩ := hown.keysOf
  obtain rfl : es = es' := by rw [hD] at hD'; simpa using hD'
  subst hD
  have hk : ∀ p ∈ es, ∃ x, p.1 = .string x := fun p hp => by
    obtain ⟨v, hv⟩ := hko p hp
    obtain ⟨x, _, hx, _⟩ := Maps.keyOf_str Tryz.underlying9 hv
    exact ⟨x, hx⟩
  refine ⟨?_, fun x => ?_, by show (es.map fun p => strOf p.1).length = es.length; simp⟩
  · show (es.map fun p => strOf p.1).Nodup
    refine List.pairwise_map.2 (hp.imp_of_mem fun {p q} hp' hq' hne e => hne ?_)
    obtain ⟨a, ha⟩ := hk p hp'
    obtain ⟨b, hb⟩ := hk q hq'
    rw [ha, hb] at e ⊢
    exact congrArg _ e
  · rw [has_eq, List.any_eq_true]
    show x ∈ es.map (fun p => strOf p.1) ↔ _
    rw [List.mem_map]
    constructor
    · rintro ⟨p, hp', rfl⟩
      obtain ⟨a, ha⟩ := hk p hp'
      exact ⟨p, hp', by rw [ha]; simp [Lit.sameKey, strOf]⟩
    · rintro ⟨p, hp', hs⟩
      obtain ⟨a, ha⟩ := hk p hp'
      rw [ha] at hs
      exact ⟨p, hp', by rw [ha]; simpa [Lit.sameKey, strOf] using hs⟩
theorem T.namesOf {g : ByteArray → Option Value} {D : DataW Value} (hD2 : ∀ x z, D.atKey (litS x) z = orZ z (g x)) {ss : List (List UInt8)} (hS : ss.Perm (strKeys D)) (hf : (strKeys D).Nodup ∧ ∀ x, x ∈ strKeys D ↔ has D (.string x) = true) : T.NamesOf g ((ss.mergeSort (fun x y => decide (x ≤ y))).map T.ofL) := by
  have hnd : (ss.mergeSort (fun x y => decide (x ≤ y))).Nodup := ((List.mergeSort_perm _ _).trans hS).nodup_iff.2 hf.1
  have hst : (ss.mergeSort (fun x y => decide (x ≤ y))).Pairwise (fun x y => decide (x ≤ y) = true) := List.pairwise_mergeSort (fun a b c h1 h2 => by simp only [decide_eq_true_eq] at *; exact List.le_trans h1 h2) (fun a b => by simp only [Bool.or_eq_true, decide_eq_true_eq]; exact List.le_total a b) _
  refine ⟨?_, fun s => ?_⟩
  · rw [List.pairwise_map]
    refine List.Pairwise.imp (fun {a b} h => ?_) (hst.and hnd)
    unfold T.blt
    rw [T.ofL_list, T.ofL_list]
    refine decide_eq_true ?_
    have h1 : a ≤ b := by simpa using h.1
    rcases List.le_iff_lt_or_eq.1 h1 with h2 | h2
    · exact h2
    · exact absurd h2 h.2
  · rw [List.mem_map]
    have hh := has_orZ (hD2 s)
    constructor
    · rintro ⟨l, hl, rfl⟩
      have h1 := (hf.2 l).1 (((List.mergeSort_perm _ _).trans hS).mem_iff.1 hl)
      rw [← T.litS_ofL, hh] at h1
      exact h1
    · intro h
      refine ⟨s.data.toList, ((List.mergeSort_perm _ _).trans hS).mem_iff.2 ((hf.2 _).2 ?_), T.ba_ext rfl⟩
      rw [← hh] at h
      exact h
set_option maxHeartbeats 1000000 in
theorem sortedS_any {w : World} {uv : Option Nat} {m : Nat} {g : ByteArray → Option Value} (hm : Mo 9 litS w uv g m) (hb : m ≤ 8000000000000) :
    Calls Tryz.prog 63 #[.func (.func 95) #[] #[ptr w.heap.size]] (w.alloc (.cells #[.map uv] 85)) fun e w' => ∃ a c l, e = .returned (.slice a (List.length l) c) ∧ T.NamesOf g l ∧ l.length ≤ m ∧ Rw (fun i => w.heap.size ≤ i ∧ i < w'.heap.size) w' 1 a l.length (l.map Value.string) ∧ Fr (fun _ => False) (w.alloc (.cells #[.map uv] 85)) w' := by
  cases uv with
  | none =>
    refine (callsIn_wide (n := 5)).1 ?_
    have hseq : SeqGives Fence.wide 2 Tryz.prog 95 #[ptr w.heap.size] encStr (fun ss : List (List UInt8) => ss = []) 0 (w.alloc (.cells #[.map none] 85)) :=
      AnyZ.keys_gives_nil (ρ := Lkeyss_ren) { Lkeyss with } Fence.wide _ trivial rfl w.heap.size _ (by simp) (by simp)
    have cS := AnyZ.sorted_in Lsorteds Fence.wide 5 trivial trivial trivial trivial rfl (by omega) (sortsS _) (enters_of Tryz.func94 (by kernel_rfl) rfl) 95 #[ptr w.heap.size] trivial (enters_of Tryz.func95 (by kernel_rfl) rfl) _ 0 (Nat.zero_le _) (by omega) _ hseq
    change CallsIn _ _ Tryz.prog 63 _ _ _ at cS
    refine cS.mono ?_
    rintro e w' ⟨v, ss, rfl, rfl, hrow, hnil, hB⟩
    obtain rfl : v = .slice none 0 0 := hnil.2 rfl
    exact ⟨none, 0, [], rfl, ⟨List.Pairwise.nil, fun s => by rw [hm.1 s]; simp⟩, Nat.zero_le _, Rw.nil _ _ _ _, Fr.of_below hB⟩
  | some b =>
    obtain ⟨D, hown, hD1, hD2⟩ := (show Mp 9 litS w b g m from hm)
    have hbl := hown.lt
    refine (callsIn_wide (n := 5)).1 ?_
    have hmx : Maps.size D ≤ maxLen := by unfold maxLen; omega
    have hseq : SeqGives Fence.wide 2 Tryz.prog 95 #[ptr w.heap.size] encStr (fun ss => ss.Perm (strKeys D)) (Maps.size D) (w.alloc (.cells #[.map (some b)] 85)) := by
      refine AnyZ.keys_gives (ρ := Lkeyss_ren) (R := asIs) { Lkeyss with } Fence.wide _ trivial rfl (by omega) w.heap.size b m D _ (by simp) (by simp) ?_
      obtain ⟨es, clock, hb, r⟩ := hown
      exact ⟨es, clock, (Below.heap_alloc _ _ b hbl).trans hb, r⟩
    have cS := AnyZ.sorted_in Lsorteds Fence.wide 5 trivial trivial trivial trivial rfl (by omega) (sortsS _) (enters_of Tryz.func94 (by kernel_rfl) rfl) 95 #[ptr w.heap.size] trivial (enters_of Tryz.func95 (by kernel_rfl) rfl) _ _ hmx (by omega) _ hseq
    change CallsIn _ _ Tryz.prog 63 _ _ _ at cS
    refine cS.mono ?_
    rintro e w' ⟨v, ss, rfl, hS, hrow, hnil, hB⟩
    have hfk := T.strKeys_facts hown
    have hN := T.namesOf hD2 hS ⟨hfk.1, hfk.2.1⟩
    have hlen : ((ss.mergeSort (fun x y => decide (x ≤ y))).map T.ofL).length = ss.length := by rw [List.length_map, List.length_mergeSort]
    have hle : ss.length ≤ m := by rw [hS.length_eq, hfk.2.2]; omega
    have hf := Fr.of_below hB
    have hrw : (ss.mergeSort (fun x y => decide (x ≤ y))).map encStr = ((ss.mergeSort (fun x y => decide (x ≤ y))).map T.ofL).map Value.string := by rw [List.map_map]; rfl
    rw [hrw] at hrow
    generalize (ss.mergeSort (fun x y => decide (x ≤ y))).map T.ofL = L at hN hlen hrow
    rcases hrow.2 with ⟨rfl, h0⟩ | ⟨g', cap, cur, rfl, hg', hcur, _, _, _, htk⟩
    · have h0' : L = [] := List.eq_nil_of_length_eq_zero (by omega)
      subst h0'
      exact ⟨none, 0, [], rfl, hN, Nat.zero_le _, Rw.nil _ _ _ _, hf⟩
    · refine ⟨_, cap, L, by rw [hlen], hN, by omega, ⟨by simp, .inr ⟨g', 0, rfl, ⟨by rw [alloc_size] at hg'; omega, lt_of_row hcur⟩, fun j u hu => ?_⟩⟩, hf⟩
      rw [Nat.zero_add, cell_of_row w' g' j _ _ _ hcur]
      have h1 : (cur.toList.take (ss.length * 1))[j]? = some u := by
        rw [htk]
        exact hu
      rw [List.getElem?_take] at h1
      split at h1
      · simpa using h1
      · cases h1
end Go.Proofs.YtmgnldangjfohaaGreat

namespace Go.Proofs.YtmgnldangjfohaaGreat
set_option linter.unusedVariables false
set_option linter.unusedSimpArgs false
open Go.RowKit
theorem equalIn_self {P : Program} {t e : TypeId} {k : Nat} (ht : P.underlying t = some (.pointer e)) (hs : ∀ w, (Go.sizeOf e).run P w = .ok k w) (hk : k ≠ 0) (d : Nat) (w : World) (a : Addr) : (Op.equalIn (d + 1) t (.pointer (some a)) (.pointer (some a))).run P w = .ok true w := by
  simp [Op.equalIn, run_underlying ht, hs, hk, sameAddr]
theorem neq_self {P : Program} {t e : TypeId} {k : Nat} (ht : P.underlying t = some (.pointer e)) (hs : ∀ w, (Go.sizeOf e).run P w = .ok k w) (hk : k ≠ 0) (w : World) (a : Addr) : (binOp .neq t (.pointer (some a)) (.pointer (some a))).run P w = .ok (.bool false) w := by
  have h2 : (Op.equal t (.pointer (some a)) (.pointer (some a))).run P w = .ok true w := equalIn_self ht hs hk 9999 w a
  simp only [binOp]
  simp [h2]
theorem ptr_self (w : World) (p : Nat) : (binOp .neq 24 (ptr p) (ptr p)).run Tryz.prog w = .ok (.bool false) w :=
  neq_self Tryz.underlying24 (k := 3) (fun w => by kernel_rfl) (by decide) w ⟨p, 0, none⟩
end Go.Proofs.YtmgnldangjfohaaGreat

/-
  slices.Sorted(maps.Keys(m)), at maps of numbers: the numbers, rising.
-/
import Derived.Test.YtffjekhlloippaaYKeys
import Derived.Test.YtffjekhlloippaaYMem
import Derived.Test.YtffjekhlloippaaRowRd
import Derived.Deep.RegionHeld3
namespace Go.Proofs.Ytffjekhlloippaa
open Go.RowKit Go.Maps Go.Sort Go.Shelf
set_option linter.unusedVariables false
set_option linter.unusedSimpArgs false
set_option maxRecDepth 100000
namespace Y
def Rise (l : List Int) : Prop := l.Pairwise (· < ·)
theorem rise_ext : ∀ {l m : List Int}, Rise l → Rise m → (∀ k, k ∈ l ↔ k ∈ m) → l = m
  | [], [], _, _, _ => rfl
  | [], y :: r, _, _, h => by have := (h y).2 (by simp); cases this
  | x :: r, [], _, _, h => by have := (h x).1 (by simp); cases this
  | x :: r, y :: s, hl, hm, h => by
    unfold Rise at hl hm
    rw [List.pairwise_cons] at hl hm
    have e : x = y := by
      rcases List.mem_cons.1 ((h x).1 (by simp)) with e | h1
      · exact e
      · rcases List.mem_cons.1 ((h y).2 (by simp)) with e | h2
        · exact e.symm
        · have a := hl.1 y h2
          have b := hm.1 x h1
          omega
    subst e
    rw [rise_ext hl.2 hm.2 (fun k => ⟨fun hk => ?_, fun hk => ?_⟩)]
    · rcases List.mem_cons.1 ((h k).1 (by simp [hk])) with rfl | h1
      · exact absurd (hl.1 k hk) (by omega)
      · exact h1
    · rcases List.mem_cons.1 ((h k).2 (by simp [hk])) with rfl | h1
      · exact absurd (hm.1 k hk) (by omega)
      · exact h1
end Y
theorem sortsI (m : Nat) : AnyZI.SortsIn Try.prog Lsortedi_ren Fence.wide m :=
  ⟨fun blk off cap ss W h1 h2 h3 => callsIn_wide.2 (AnyM.slices_Sort_int Lsorti blk off cap ss W h1 h2 h3), fun p cap W => callsIn_wide.2 (AnyM.slices_Sort_int_none Lsorti p cap W)⟩
theorem keysI_fn (mb : Option Nat) (W : World) : Calls Try.prog 37 #[.map mb] W fun e w' => e = .returned (.func (.func 40) #[] #[ptrY W.heap.size]) ∧ w' = W.alloc (.cells #[.map mb] 52) :=
  callsIn_wide.1 (AnyZI.keys_in Lkeysi Fence.wide 5 trivial rfl mb W)
theorem Y.sortI_eq {l ss : List Int} (hl : Y.Rise l) (hp : ss.Perm l) : ss.mergeSort (fun x y => decide (x ≤ y)) = l := by
  have h1 : (ss.mergeSort (fun x y => decide (x ≤ y))).Perm l := (List.mergeSort_perm _ _).trans hp
  have h2 : (ss.mergeSort (fun x y => decide (x ≤ y))).Pairwise (fun x y => decide (x ≤ y) = true) := List.pairwise_mergeSort (fun a b c h k => by simp at *; omega) (fun a b => by simp; omega) _
  have h3 : l.Pairwise (fun x y : Int => x ≠ y) := List.Pairwise.imp (fun h => by omega) hl
  have h4 := (h1.pairwise_iff (R := fun x y : Int => x ≠ y) (fun h e => h e.symm)).2 h3
  refine Y.rise_ext ?_ hl (fun p => h1.mem_iff)
  exact List.Pairwise.imp (fun {x y} h => by have h5 := h.1; simp at h5; have := h.2; omega) (h2.and h4)
set_option maxHeartbeats 1000000 in
theorem sortedI_fn {w : World} {b m : Nat} {g : Int → Option Value} (hm : Mp 2 litI w b g m) (hb : m ≤ 10000000000000) {l : List Int} (hl : Y.Rise l) (hg : ∀ x, x ∈ l ↔ (g x).isSome = true) :
    Calls Try.prog 36 #[.func (.func 40) #[] #[ptrY w.heap.size]] (w.alloc (.cells #[.map (some b)] 52)) fun e w' => ∃ a c, e = .returned (.slice a l.length c) ∧ Rw (fun i => w.heap.size ≤ i ∧ i < w'.heap.size) w' 1 a l.length (l.map (Value.int .i64)) ∧ Fr (fun _ => False) (w.alloc (.cells #[.map (some b)] 52)) w' := by
  obtain ⟨D, hown, hD1, hD2⟩ := hm
  have hbl := hown.lt
  have hnd : l.Nodup := List.Pairwise.imp (fun h => by omega) hl
  have hperm : l.Perm (intKeys D) := CollectedI.perm (left := fun _ => false) ⟨hnd, fun x => by
    have := has_orZ (hD2 x)
    have e : (litI x) = Lit.int .i64 x := rfl
    rw [← e, this, hg x]; simp⟩ hown keyI Try.underlying2 (fun _ => rfl)
  refine (callsIn_wide (n := 5)).1 ?_
  have hmx : Maps.size D ≤ maxLen := by unfold maxLen; omega
  have hseq : SeqGives Fence.wide 2 Try.prog 40 #[ptrY w.heap.size] encZ (fun ss => ss.Perm (intKeys D)) (Maps.size D) (w.alloc (.cells #[.map (some b)] 52)) := by
    refine AnyZI.keys_gives (ρ := Lkeysi_ren) (R := asIs) { Lkeysi with } Fence.wide _ trivial rfl (by omega) w.heap.size b m D _ (by simp) (by simp) ?_
    obtain ⟨es, clock, hb, r⟩ := hown
    exact ⟨es, clock, (Below.heap_alloc _ _ b hbl).trans hb, r⟩
  have cS := AnyZI.sorted_in Lsortedi Fence.wide 5 trivial trivial trivial trivial rfl (by omega) (sortsI _) (enters_of Try.func39 (by kernel_rfl) rfl) 40 #[ptrY w.heap.size] trivial (enters_of Try.func40 (by kernel_rfl) rfl) _ _ hmx (by omega) _ hseq
  change CallsIn _ _ Try.prog 36 _ _ _ at cS
  refine cS.mono ?_
  rintro e w' ⟨v, ss, rfl, hS, hrow, hnil, hB⟩
  have hsort := Y.sortI_eq hl (hS.trans hperm.symm)
  have hlen : ss.length = l.length := by rw [← hsort, List.length_mergeSort]
  rw [hsort, hlen] at hrow
  have hf := Fr.of_below hB
  rcases hrow.2 with ⟨rfl, h0⟩ | ⟨g', cap, cur, rfl, hg', hcur, _, _, _, htk⟩
  · have h0' : l = [] := List.eq_nil_of_length_eq_zero h0
    subst h0'
    exact ⟨none, 0, rfl, Rw.nil _ _ _ _, hf⟩
  · refine ⟨_, cap, rfl, ⟨by simp, .inr ⟨g', 0, rfl, ⟨by rw [World.size_alloc] at hg'; omega, lt_of_row hcur⟩, fun j u hu => ?_⟩⟩, hf⟩
    rw [Nat.zero_add, cell_of_row w' g' j _ _ _ hcur]
    have h1 : (cur.toList.take (l.length * 1))[j]? = some u := by
      rw [htk]
      exact hu
    rw [List.getElem?_take] at h1
    split at h1
    · simpa using h1
    · cases h1
end Go.Proofs.Ytffjekhlloippaa

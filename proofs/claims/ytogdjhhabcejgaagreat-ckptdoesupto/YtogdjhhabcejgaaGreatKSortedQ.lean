/-
  The contract of Names: the names of the files, rising.
-/
import Derived.Test.YtogdjhhabcejgaaGreatMg20
namespace Go.Proofs.YtogdjhhabcejgaaGreat
open Go.RowKit Go.Maps Go.Sort Go.Shelf
set_option linter.unusedVariables false

theorem sortsIn (m : Nat) : AnyZ.SortsIn Tryz.prog Lsorted_ren Fence.wide m :=
  ⟨fun blk off cap ss W h1 h2 h3 => callsIn_wide.2 (AnyM.slices_Sort_string Lsort blk off cap ss W h1 h2 h3), fun p cap W => callsIn_wide.2 (AnyM.slices_Sort_string_none Lsort p cap W)⟩
theorem keysFn (mb : Option Nat) (W : World) : Calls Tryz.prog 29 #[.map mb] W fun e w' => e = .returned (.func (.func 53) #[] #[.pointer (some ⟨W.heap.size, 0, none⟩)]) ∧ w' = W.alloc (.cells #[.map mb] 42) :=
  callsIn_wide.1 (AnyZ.keys_in Lkeys Fence.wide 5 trivial rfl mb W)
set_option maxHeartbeats 1000000 in
theorem sortedFn (w : World) (b nn : Nat) (D0 : DataW Nat) (hown : w.ownsMap Tryz.prog 9 fileElem b nn D0) (hmax : Maps.size D0 ≤ 1024) :
    Calls Tryz.prog 28 #[.func (.func 53) #[] #[.pointer (some ⟨w.heap.size, 0, none⟩)]] (w.alloc (.cells #[.map (some b)] 42)) fun e w' => ∃ (v : Value) (ss : List (List UInt8)), e = .returned v ∧ ss.Perm (strKeys D0) ∧
      w'.ownsRow (w.alloc (.cells #[.map (some b)] 42)).heap.size 9 1 v ss.length ((ss.mergeSort (fun x y => decide (x ≤ y))).map encStr) ∧ (v = .slice none 0 0 ↔ ss = []) ∧ Below (w.alloc (.cells #[.map (some b)] 42)).heap.size (w.alloc (.cells #[.map (some b)] 42)) w' := by
  refine (callsIn_wide (n := 5)).1 ?_
  have hbl := hown.lt
  have hm : Maps.size D0 ≤ maxLen := by unfold maxLen; omega
  have hseq : SeqGives Fence.wide 2 Tryz.prog 53 #[.pointer (some ⟨w.heap.size, 0, none⟩)] encStr (fun ss => ss.Perm (strKeys D0)) (Maps.size D0) (w.alloc (.cells #[.map (some b)] 42)) := by
    refine AnyZ.keys_gives (ρ := Lkeys_ren) (R := fileElem) { Lkeys with } Fence.wide _ trivial rfl (by omega) w.heap.size b nn D0 _ (by simp) (by simp) ?_
    obtain ⟨es, clock, hb, r⟩ := hown
    exact ⟨es, clock, (Below.heap_alloc _ _ b hbl).trans hb, r⟩
  exact AnyZ.sorted_in Lsorted Fence.wide 5 trivial trivial trivial trivial rfl (by omega) (sortsIn _) (enters_of Tryz.func52 (by kernel_rfl) rfl) 53 #[.pointer (some ⟨w.heap.size, 0, none⟩)] trivial (enters_of Tryz.func53 (by kernel_rfl) rfl) _ _ hm (by omega) _ hseq

theorem K.bb_le : ∀ {a b : List UInt8}, bytesBefore a b = true → ¬ b < a
  | [], [], h => by simp [bytesBefore] at h
  | [], _ :: _, _ => by simp
  | _ :: _, [], h => by simp [bytesBefore] at h
  | x :: r, y :: t, h => by
    simp only [bytesBefore, Bool.or_eq_true, decide_eq_true_eq, Bool.and_eq_true, beq_iff_eq] at h
    rw [List.cons_lt_cons_iff]
    rintro (h1 | ⟨h1, h2⟩)
    · rcases h with h | ⟨rfl, h⟩
      · exact absurd (UInt8.lt_trans h h1) (UInt8.lt_irrefl _)
      · exact absurd h1 (UInt8.lt_irrefl _)
    · rcases h with h | ⟨_, h⟩
      · subst h1; exact absurd h (UInt8.lt_irrefl _)
      · exact K.bb_le h h2
theorem sorted_names {l : List (K.Nm × Nat)} (hu : K.Up l) {ss : List K.Nm} (hp : ss.Perm (strKeys (K.toD l))) : ss.mergeSort (fun x y => decide (x ≤ y)) = l.map (·.1) := by
  rw [K.toD_keys] at hp
  rw [mergeSort_of_perm hp]
  refine List.mergeSort_of_pairwise ?_
  rw [List.pairwise_map]
  exact List.Pairwise.imp (fun {p q} h => decide_eq_true (K.bb_le h)) hu
/-- the names of a disk -/
def K.names (d : K.DK) : List K.Nm := d.fs.map (·.1)
/-- what Names answers: a function over a row of names, all of it new -/
def Nr (w : World) (d : K.DK) (e : Ending) (w' : World) : Prop :=
  ∃ B a cap, e = .returned (.func (.func 30) #[] #[.pointer (some ⟨B, 0, none⟩)]) ∧ w'.cell? ⟨B, 0, none⟩ = some (.slice a (K.names d).length cap) ∧ Ns w' a (K.names d) ∧ (∀ k, Nk B a (K.names d) k → w.heap.size ≤ k ∧ k < w'.heap.size) ∧ Fr (fun _ => False) w w'
set_option maxHeartbeats 1600000 in
set_option maxRecDepth 20000 in
theorem names_any {S : Nat → Prop} {w : World} {p : Nat} {d : K.DK} (h : Dk S w p d) :
    Calls Tryz.prog 12 #[.pointer (some ⟨p, 0, none⟩)] w fun e w' => Nr w d e w' := by
  obtain ⟨c, mb, l, hS, ho, hc, hd⟩ := h.tn
  have hp := lt_of_row hd.at_
  have k1 := hd.k.2.1
  have hnm : K.names d = (K.mp FM.g l).map (·.1) := by unfold K.names; rw [← hd.fs]; simp [K.mp]
  have hlen := ho.files
  have HSO := hid (fun W (hf : Fr (fun _ => False) w W) => sortedFn W mb _ _ (hd.mp.kept hf (fun h => h)) (by rw [K.toD_size, K.length_mp, hd.len]; exact hlen))
  have hu := (hd.up ho.up).mp FM.g
  have HU := hid hu
  have HNM := hid hnm
  have hm := fun W hf => made_any W p mb (cell_fr (w := w) (w' := W) (S := fun _ => False) hf (fun h => h) k1)
  have HM := hid hm
  clear h hS ho hc hd hnm hlen hu hm
  have hso := HSO.out (w.alloc (.cells #[.slice none 0 0] 39)) (Fr.alloc (Fr.refl _ _) _)
  rw [World.size_alloc] at hso
  have HS2 := hid hso
  have hke := keysFn (some mb) (w.alloc (.cells #[.slice none 0 0] 39))
  rw [World.size_alloc] at hke
  have HKE := hid hke
  clear hso hke HSO
  go_enter Tryz.func12, Tryz.ntmps12
  go_wp2_with fail
  refine (HM.out _ (Fr.alloc (Fr.refl _ _) _)).mono ?_
  rintro e w' ⟨rfl, rfl⟩
  go_wp2_with fail
  refine HKE.out.mono ?_
  rintro e w' ⟨rfl, rfl⟩
  go_wp2_with fail
  refine HS2.out.mono ?_
  rintro e w1 ⟨v, ss, rfl, hS, hrow, hnil, hb⟩
  have hsn := sorted_names HU.out hS
  rw [hsn, ← HNM.out] at hrow
  have hlen : ss.length = (K.names d).length := by rw [HNM.out, ← hsn, List.length_mergeSort]
  rw [hlen] at hrow
  have f1 : Fr (fun _ => False) w w1 := (Fr.alloc (Fr.alloc (Fr.refl _ _) _) _).trans (Fr.of_below hb) (fun _ _ h => h)
  have hB : w1.heap[w.heap.size]? = some (.cells #[.slice none 0 0] 39 (0, 0)) :=
    (hb.block _ (by simp; omega)).trans ((Below.heap_alloc _ _ _ (by simp)).trans (Go.heap_alloc_new w _))
  have hsz := hb.size
  simp only [World.size_alloc] at hsz
  have hv : ∃ a cap, v = .slice a (K.names d).length cap ∧ Ns w1 a (K.names d) ∧ (∀ k, K.names d ≠ [] → blk a = some k → w.heap.size < k ∧ k < w1.heap.size) := by
    rcases hrow.2 with ⟨rfl, h0⟩ | ⟨g, cap, cur, rfl, hg, hcur, _, _, _, htk⟩
    · have h0' : K.names d = [] := List.eq_nil_of_length_eq_zero h0
      exact ⟨none, 0, by rw [h0], .inl h0', fun k hk _ => absurd h0' hk⟩
    · simp only [World.size_alloc] at hg
      refine ⟨_, cap, rfl, .inr ⟨g, rfl, fun j x hx => ?_⟩, fun k _ hk => ?_⟩
      · rw [cell_of_row w1 g j _ _ _ hcur]
        have h1 : (cur.toList.take ((K.names d).length * 1))[j]? = some (encStr x) := by rw [htk, List.getElem?_map, hx]; rfl
        rw [List.getElem?_take] at h1
        split at h1
        · simpa using h1
        · cases h1
      · simp [blk] at hk
        subst hk
        exact ⟨by omega, lt_of_row hcur⟩
  obtain ⟨a, cap, rfl, hns, hlt⟩ := hv
  have c0 := cell_of (j := 0) hB rfl
  have z0 := frozen_of_row (j := 0) hB
  have HB := hid hB
  have HNS := hid hns
  have HLT := hid hlt
  have HF1 := hid f1
  have HSZ := hid hsz
  clear hS hrow hnil hb hsn hlen f1 hB hsz hns hlt
  go_wp2
  go_ret
  have fs : Fr (fun k => k = w.heap.size) w1 (w1.setCell ⟨w.heap.size, 0, none⟩ (.slice a (K.names d).length cap)) := Fr.setCell (p := ⟨w.heap.size, 0, none⟩) (S := fun k => k = w.heap.size) (Fr.refl _ _) (fun _ => rfl) _
  refine ⟨w.heap.size, a, cap, rfl, cell_of (j := 0) (setCell_row HB.out _) rfl, ?_, ?_, HF1.out.trans fs (fun i hi e => by omega)⟩
  · rcases HNS.out with h | ⟨b, rfl, hc⟩
    · exact .inl h
    · refine .inr ⟨b, rfl, fun j x hx => cell_fr fs (fun e => ?_) (hc j x hx)⟩
      have := (HLT.out b (fun h => by rw [h] at hx; simp at hx) rfl).1
      omega
  · rintro k (rfl | ⟨h1, h2⟩)
    · rw [setCell_size]; have := HSZ.out; exact ⟨Nat.le_refl _, by omega⟩
    · rw [setCell_size]; have := HLT.out k h1 h2; exact ⟨by omega, this.2⟩

end Go.Proofs.YtogdjhhabcejgaaGreat

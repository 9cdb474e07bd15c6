/-
  Sorting what was gathered, by slots.
-/
import Derived.Test.YtedhmhlhjonloaaASince
import Derived.Test.YtedhmhlhjonloaaASort
namespace Go.Proofs.Ytedhmhlhjonloaa
open Go.RowKit Go.Maps Go.Sort Go.Shelf
set_option linter.unusedVariables false
set_option linter.unusedSimpArgs false

set_option maxHeartbeats 1000000 in
theorem sinceCmp {W : World} {g1 g2 : Nat} {s1 s2 : Int} (c1 : W.cell? ⟨g1, 0, none⟩ = some (.int .i64 s1)) (c2 : W.cell? ⟨g2, 0, none⟩ = some (.int .i64 s2)) :
    Calls Try.prog 56 #[ptrV g1, ptrV g2] W fun e w' => e = .returned (.int .i64 (Lib.compareInt s1 s2)) ∧ ∃ q, w' = W.drewN q := by
  have hcon := fun W => AnyG.cmp_Compare_int Lcmpf s1 s2 W
  change ∀ W, Calls Try.prog 57 _ _ _ at hcon
  generalize Lib.compareInt s1 s2 = r at hcon ⊢
  have HC := hid hcon
  clear hcon
  unfold ptrV
  go_enter Try.func56, Try.ntmps56
  go_wp2_with fail
  go_quiet (first | (go_at_call 57; exact Calls.quiet_of_same (HC.out _)))
  go_wp2
  go_ret
  exact ⟨rfl, _, rfl⟩
theorem sortWorld_fr {α : Type} [Inhabited α] (enc : α → Value) (w : World) (blk off m : Nat) (dk : Array α) (os : Array Obj) : Fr (fun k => k = blk) w (sortWorld enc w blk off m dk os) := by
  refine ⟨rfl, rfl, rfl, ?_, fun k hk hn => ?_⟩
  · simp [sortWorld, grow, putRow, mapBlock, Sort.ahead]
  · have hk2 : k < (putRow enc (Sort.ahead w m) blk off dk).heap.size := by simpa [putRow, mapBlock, Sort.ahead] using hk
    show ((putRow enc (Sort.ahead w m) blk off dk).heap ++ os)[k]? = w.heap[k]?
    rw [Array.getElem?_append_left hk2]
    simp only [putRow, mapBlock, Sort.ahead]
    rw [Array.getElem?_modify, if_neg (fun e => hn e.symm)]
/-- a sorted list of what has no key twice -/
theorem A.sorted_up {m got : List (Int × Nat)} (hu : A.Up m) (hp : got.Perm m) : got.mergeSort (fun x y => decide (x.1 ≤ y.1)) = m := by
  have h1 : (got.mergeSort (fun x y => decide (x.1 ≤ y.1))).Perm m := (List.mergeSort_perm _ _).trans hp
  have h2 : (got.mergeSort (fun x y => decide (x.1 ≤ y.1))).Pairwise (fun x y => decide (x.1 ≤ y.1) = true) := List.pairwise_mergeSort (fun a b c h k => by simp at *; omega) (fun a b => by simp; omega) _
  have h3 : m.Pairwise (fun x y : Int × Nat => x.1 ≠ y.1) := List.Pairwise.imp (fun h => by omega) hu
  have h4 : (got.mergeSort (fun x y => decide (x.1 ≤ y.1))).Pairwise (fun x y : Int × Nat => x.1 ≠ y.1) := (h1.pairwise_iff (fun h e => h e.symm)).2 h3
  refine A.up_ext ?_ hu (fun p => h1.mem_iff)
  exact List.Pairwise.imp (fun {x y} h => by have h5 := h.1; simp at h5; have := h.2; omega) (h2.and h4)
/-- what they are sorted by -/
def cfS {m : List (Int × Nat)} (x y : { q : Int × Nat // q ∈ m }) : Int := Lib.compareInt x.1.1 y.1.1
theorem ltS {m : List (Int × Nat)} (x y : { q : Int × Nat // q ∈ m }) : ltOf cfS x y = decide (x.1.1 < y.1.1) := by
  unfold ltOf cfS Lib.compareInt
  by_cases h1 : x.1.1 < y.1.1
  · simp [h1]
  · by_cases h2 : y.1.1 < x.1.1 <;> simp [h1, h2]
theorem swoS {m : List (Int × Nat)} [Inhabited { q : Int × Nat // q ∈ m }] : SWO (ltOf (cfS (m := m))) where
  irrefl x := by rw [ltS]; simp
  trans x y z h1 h2 := by rw [ltS] at *; simp at *; omega
  ntrans x y z h1 h2 := by rw [ltS] at *; simp at *; omega
theorem totS {m : List (Int × Nat)} (hu : A.Up m) (x y : { q : Int × Nat // q ∈ m }) (h1 : ltOf cfS x y = false) (h2 : ltOf cfS y x = false) : x = y := by
  rw [ltS] at *
  simp at *
  exact Subtype.ext (hu.inj x.2 y.2 (by omega))
theorem sorts_any {w : World} {m got : List (Int × Nat)} (hu : A.Up m) (hp : got.Perm m) (hgood : ∀ q ∈ m, w.cell? ⟨q.2, 0, none⟩ = some (.int .i64 q.1)) (ra : Option Addr) (rc : Nat) (hrow : Ro w 93 1 ra got.length rc (got.map (fun q => ptrV q.2))) (hnew : ∀ q ∈ m, blk ra ≠ some q.2) (hln : got.length ≤ 310000000000) :
    SortsP w ra got.length rc m := by
  unfold SortsP
  by_cases h0 : got = []
  · subst h0
    have hm : m = [] := List.Perm.eq_nil hp.symm
    subst hm
    have hS := AnyF.slices_SortFunc_none (P := Try.prog) (ρ := Lsortf_ren) { Lsortf with } ra rc (.func (.func 56) #[] #[]) w
    change Calls Try.prog 55 _ _ _ at hS
    refine hS.mono ?_
    rintro e w' ⟨rfl, rfl⟩
    exact ⟨rfl, Rw.nil _ _ _ _, Fr.refl _ _⟩
  · obtain ⟨q0, hq0⟩ := List.exists_mem_of_ne_nil _ h0
    have hmem : ∀ q ∈ got, q ∈ m := fun q hq => hp.mem_iff.1 hq
    haveI : Inhabited { q : Int × Nat // q ∈ m } := ⟨⟨q0, hmem q0 hq0⟩⟩
    obtain ⟨g, fo, rfl⟩ := hrow.some_of (List.length_pos_iff.2 h0)
    have eg : ∀ args w, (callFunc 56 args).run Try.prog w = .ok (.enter 56 args) w := enters_of Try.func56 (by kernel_rfl) rfl
    have hd : (got.attachWith (· ∈ m) hmem).toArray.size = got.length := by simp
    have hH : Holds (fun q : { q : Int × Nat // q ∈ m } => ptrV q.1.2) w g fo (got.attachWith (· ∈ m) hmem).toArray := fun j hj => by
      rw [hd] at hj
      refine ⟨hrow.cell (j := j) ?_, hrow.frozen _⟩
      rw [List.getElem?_map, List.getElem?_eq_getElem hj]
      simp [hj]
    have hcmp : CmpReads Try.prog 56 #[] (fun q : { q : Int × Nat // q ∈ m } => ptrV q.1.2) cfS g fo (got.attachWith (· ∈ m) hmem).toArray.size w := fun mm os dk hdk x y => by
      have hf := sortWorld_fr (fun q : { q : Int × Nat // q ∈ m } => ptrV q.1.2) w g fo mm dk os
      exact sinceCmp (cellFr hf (fun e => hnew _ x.2 (by rw [← e]; rfl)) (hgood _ x.2)) (cellFr hf (fun e => hnew _ y.2 (by rw [← e]; rfl)) (hgood _ y.2))
    have hS := Any.slices_SortFunc_total Lsortf (fun q : { q : Int × Nat // q ∈ m } => ptrV q.1.2) (fun _ => rfl) cfS swoS 56 #[] g fo rc (got.attachWith (· ∈ m) hmem).toArray w eg hcmp.lays hH (hrow.lt g rfl) (by rw [hd]; omega) (totS hu)
    change Calls Try.prog 55 _ _ _ at hS
    rw [hd] at hS
    refine hS.mono ?_
    rintro e w' ⟨rfl, n, os, rfl⟩
    have hsz : ((got.attachWith (· ∈ m) hmem).toArray.toList.mergeSort (fun x y => !(ltOf cfS) y x)).toArray.size = (got.attachWith (· ∈ m) hmem).toArray.size := by simp
    have hval : ((got.attachWith (· ∈ m) hmem).toArray.toList.mergeSort (fun x y => !(ltOf cfS) y x)).map Subtype.val = m := by
      rw [List.map_mergeSort (s := fun x y : Int × Nat => decide (x.1 ≤ y.1)) (fun a _ b _ => by rw [ltS]; by_cases h : b.1.1 < a.1.1 <;> simp [h] <;> omega)]
      have e : (got.attachWith (· ∈ m) hmem).toArray.toList.map Subtype.val = got := by
        simp
        first | exact List.attach_map_val got | exact List.attach_map_subtype_val got | simp
      rw [e]
      exact A.sorted_up hu hp
    have hSW : SW (fun q : { q : Int × Nat // q ∈ m } => ptrV q.1.2) w g fo ((got.attachWith (· ∈ m) hmem).toArray.toList.mergeSort (fun x y => !(ltOf cfS) y x)).toArray (sortWorld (fun q : { q : Int × Nat // q ∈ m } => ptrV q.1.2) w g fo n ((got.attachWith (· ∈ m) hmem).toArray.toList.mergeSort (fun x y => !(ltOf cfS) y x)).toArray os) := ⟨n, os, rfl⟩
    have hh := hSW.holds (hrow.lt g rfl) hH hsz
    refine ⟨rfl, ⟨by simp, .inr ⟨g, fo, rfl, rfl, fun j u hu => ?_⟩⟩, (sortWorld_fr _ _ _ _ _ _ _).mono (fun i _ e => by rw [e]; rfl)⟩
    have hjl : j < m.length := by
      have := (List.getElem?_eq_some_iff.1 hu).1
      simpa using this
    have hj : j < ((got.attachWith (· ∈ m) hmem).toArray.toList.mergeSort (fun x y => !(ltOf cfS) y x)).toArray.size := by rw [hsz, hd, hp.length_eq]; exact hjl
    rw [(hh j hj).1]
    generalize (got.attachWith (· ∈ m) hmem).toArray.toList.mergeSort (fun x y => !(ltOf cfS) y x) = D at hval hj
    have hjD : j < D.length := by simpa using hj
    have h6 : (D.map Subtype.val)[j]? = m[j]? := by rw [hval]
    rw [List.getElem?_map, List.getElem?_eq_getElem hjD, List.getElem?_eq_getElem hjl] at h6
    rw [List.getElem?_map, List.getElem?_eq_getElem hjl] at hu
    simp only [Option.map_some, Option.some.injEq] at h6 hu
    rw [← hu, ← h6]
    simp [hjD]

/-- since, whole -/
theorem acSince_all {I : Nat → Prop} {w : World} {p mb : Nat} {a : A.Ac} {l : List (Int × SM)} (h : Am I w p mb l a) (k : Int) (hl : l.length ≤ 310000000000) (hmb : mb < w.heap.size) :
    Calls Try.prog 45 #[ptrV p, .int .i64 k] w fun e w' => ∃ ra rc, e = .returned (.slice ra (A.from_ k l).length rc) ∧ Rw (fun g => w.heap.size ≤ g ∧ g < w'.heap.size) w' 1 ra (A.from_ k l).length ((A.from_ k l).map (fun q => ptrV q.2.g)) ∧ Fr (fun _ => False) w w' := by
  refine acSince_any h k hl hmb (fun W hf got ra rc hp hro hnw => ?_)
  have hg : ∀ q ∈ A.from_ k (A.mp SM.g l), q.2 < w.heap.size ∧ w.cell? ⟨q.2, 0, none⟩ = some (.int .i64 q.1) := fun q hq => by
    obtain ⟨r, hr, rfl⟩ := A.mem_mp.1 (List.mem_filter.1 hq).1
    obtain ⟨h1, h2, cs, h3, h4⟩ := h.sl r hr
    obtain ⟨_, _, _, _, _, _, _, h5, _⟩ := h4.parts
    rw [h1] at h5
    exact ⟨lt_of_row h3, cellA h3 h5⟩
  refine sorts_any ((h.up.mp SM.g).from_ k) hp (fun q hq => cellFr hf (fun h => h) (hg q hq).2) ra rc hro (fun q hq e => ?_) ?_
  · have := hnw _ e
    have := (hg q hq).1
    omega
  · have h1 := hp.length_eq
    have h2 : (A.from_ k (A.mp SM.g l)).length ≤ (A.mp SM.g l).length := List.length_filter_le _ _
    rw [A.length_mp] at h2
    omega
end Go.Proofs.Ytedhmhlhjonloaa

/-
  The document's tree in memory; New.
  The document's tree: parts of a row of nodes; one put there.
  The document's tree: put.
-/
import Derived.Test.YtilbdpnioajkoaaGreatMg26
import Derived.Test.YtilbdpnioajkoaaGreatUFindQ
import Derived.Test.YtilbdpnioajkoaaGreatMg12
import Derived.Test.YtilbdpnioajkoaaGreatMg20
import Derived.Deep.MidRow
namespace Go.Proofs.YtilbdpnioajkoaaGreat
open Go.RowKit Go.Maps
set_option linter.unusedVariables false
set_option linter.unusedSimpArgs false
set_option maxRecDepth 100000
attribute [local go_sem] Oper.semAt_some
namespace U
/-- whose a block is -/
inductive Col where
  | tree
  | nodes
  | was
  | hist (j : Nat)
  | attr
/-- a state that was: its row, its nodes -/
abbrev Hs := (Option Addr × Nat) × List T.Tn
def hv (h : Hs) : Value := .slice h.1.1 h.2.length h.1.2
def pl (zs : List T.Tn) : T.Tr := zs.map Prod.fst
theorem pl_len (zs : List T.Tn) : (pl zs).length = zs.length := by simp [pl]
theorem pl_get {zs : List T.Tn} {k : Nat} {p : Int × T.Nd} (h : (pl zs)[k]? = some p) : ∃ z, zs[k]? = some z ∧ z.1 = p := by
  unfold pl at h
  rw [List.getElem?_map] at h
  cases hz : zs[k]? with
  | none => rw [hz] at h; cases h
  | some z => rw [hz] at h; exact ⟨z, rfl, by cases h; rfl⟩
/-- a row of nodes in memory, its attributes in blocks of I -/
structure Nz (I : Nat → Prop) (w : World) (a : Option Addr) (c : Nat) (zs : List T.Tn) : Prop where
  row : Ro w 63 4 a zs.length c (T.flatN zs)
  el : ∀ z ∈ zs, Rw I w 2 z.2.1 z.1.2.ats.length (T.flatA z.1.2.ats)
theorem Nz.kept {I S : Nat → Prop} {w w' : World} {a : Option Addr} {c : Nat} {zs : List T.Tn} (h : Nz I w a c zs) (hf : Fr S w w') (h1 : ∀ i, I i → ¬ S i) (h2 : ∀ i, blk a = some i → ¬ S i) : Nz I w' a c zs :=
  ⟨h.row.kept hf h2, fun z hz => (h.el z hz).kept hf h1⟩
theorem Nz.mono {I J : Nat → Prop} {w : World} {a : Option Addr} {c : Nat} {zs : List T.Tn} (h : Nz I w a c zs) (hJ : ∀ i, I i → J i) : Nz J w a c zs :=
  ⟨h.row, fun z hz => (h.el z hz).mono hJ⟩
theorem Nz.nr {I : Nat → Prop} {w : World} {a : Option Addr} {c : Nat} {zs : List T.Tn} (h : Nz I w a c zs) : T.Nr (fun i => I i ∨ blk a = some i) w a zs :=
  ⟨Rw.of_ro h.row (fun g hg => .inr hg), fun z hz => (h.el z hz).mono (fun _ hi => .inl hi)⟩
theorem Nz.np {I : Nat → Prop} {w : World} {a : Option Addr} {c : Nat} {zs : List T.Tn} (h : Nz I w a c zs) {k : Nat} {p : Int × T.Nd} (hp : (pl zs)[k]? = some p) : ∃ g o, a = some ⟨g, o, none⟩ ∧ w.cell? ⟨g, o + k * 4, none⟩ = some (.int .i64 p.1) ∧ w.cell? ⟨g, o + k * 4 + 1, none⟩ = some (.int .i64 p.2.par) := by
  obtain ⟨z, hz, rfl⟩ := pl_get hp
  obtain ⟨g, o, rfl, _, a0, a1, _⟩ := T.flatN_cells h.nr.1 hz
  exact ⟨g, o, rfl, a0, a1⟩
/-- THE DOCUMENT'S TREE IN MEMORY: block r; its nodes' row; the row of what it was. -/
structure Dt (c : Nat → Option Col) (w : World) (r : Nat) (ra : Option Addr) (rc : Nat) (zs : List T.Tn) (ha : Option Addr) (hc : Nat) (hs : List Hs) : Prop where
  box : w.heap[r]? = some (.cells #[.slice ra zs.length rc, .slice ha hs.length hc] 86 (0, 0))
  now : Nz (fun i => c i = some .attr) w ra rc zs
  was : Ro w 41 1 ha hs.length hc (hs.map hv)
  old : ∀ j h, hs[j]? = some h → Nz (fun i => c i = some .attr) w h.1.1 h.1.2 h.2 ∧ ∀ g, blk h.1.1 = some g → c g = some (.hist j)
  cr : c r = some .tree
  cn : ∀ g, blk ra = some g → c g = some .nodes
  ch : ∀ g, blk ha = some g → c g = some .was
  lo : ∀ i, c i ≠ none → i < w.heap.size
section
variable {c c' : Nat → Option Col} {w w' : World} {r : Nat} {ra : Option Addr} {rc : Nat} {zs : List T.Tn} {ha : Option Addr} {hc : Nat} {hs : List Hs}
theorem Dt.kept {S : Nat → Prop} (h : Dt c w r ra rc zs ha hc hs) (hf : Fr S w w') (hS : ∀ i, c i ≠ none → ¬ S i) : Dt c w' r ra rc zs ha hc hs where
  box := hf.cells h.box (hS _ (by rw [h.cr]; simp))
  now := h.now.kept hf (fun i hi => hS i (by rw [hi]; simp)) (fun i hi => hS i (by rw [h.cn i hi]; simp))
  was := h.was.kept hf (fun i hi => hS i (by rw [h.ch i hi]; simp))
  old := fun j x hx => ⟨(h.old j x hx).1.kept hf (fun i hi => hS i (by rw [hi]; simp)) (fun i hi => hS i (by rw [(h.old j x hx).2 i hi]; simp)), (h.old j x hx).2⟩
  cr := h.cr
  cn := h.cn
  ch := h.ch
  lo := fun i hi => Nat.lt_of_lt_of_le (h.lo i hi) hf.size
theorem Dt.ext (h : Dt c w r ra rc zs ha hc hs) (hc' : ∀ i col, c i = some col → c' i = some col) (hl : ∀ i, c' i ≠ none → i < w.heap.size) : Dt c' w r ra rc zs ha hc hs where
  box := h.box
  now := h.now.mono (fun i hi => hc' _ _ hi)
  was := h.was
  old := fun j x hx => ⟨(h.old j x hx).1.mono (fun i hi => hc' _ _ hi), fun g hg => hc' _ _ ((h.old j x hx).2 g hg)⟩
  cr := hc' _ _ h.cr
  cn := fun g hg => hc' _ _ (h.cn g hg)
  ch := fun g hg => hc' _ _ (h.ch g hg)
  lo := hl
/-- c' is c, with new blocks from n on -/
def More (c c' : Nat → Option Col) (n : Nat) : Prop := ∀ i, i < n → c' i = c i
/-- find -/
theorem Dt.find (h : Dt c w r ra rc zs ha hc hs) (hu : A.Up (pl zs)) (hl : zs.length ≤ 8000000000000) (n : Int) :
    Calls Tryz.prog 53 #[ptr r, .int .i64 n] w fun e w' => e = .returned (.tuple #[.int .i64 (A.low n (pl zs) : Nat), .bool (A.get n (pl zs)).isSome]) ∧ Fr (fun _ => False) w w' :=
  ufind_any (hv := .slice ha hs.length hc) (t := pl zs) (by rw [pl_len]; exact h.box) (fun W hW k p hp => by
    obtain ⟨g, o, e, h1, _⟩ := (h.now.kept hW (fun _ _ h => h) (fun _ _ h => h)).np hp
    exact ⟨g, o, e, h1⟩) hu (by rw [pl_len]; exact hl) n
end
/-- what the root and the trash are at first -/
def zero : List T.Tn := [((1, T.zn), (none, 0)), ((2, T.zn), (none, 0))]
theorem pl_zero : pl zero = T.zero := rfl
end U
theorem unew_any (w : World) : Calls Tryz.prog 7 #[] w fun e w' => ∃ r ra rc c, e = .returned (ptr r) ∧ U.Dt c w' r ra rc U.zero none 0 [] ∧ (∀ i, c i ≠ none → w.heap.size ≤ i) ∧ Fr (fun _ => False) w w' := by
  go_enter Tryz.func7, Tryz.ntmps7
  go_wp2_with fail
  obtain ⟨W1, hW1⟩ : ∃ W, w.alloc (.cells #[.int .i64 1, .int .i64 0, .string ⟨#[]⟩, .slice none 0 0, .int .i64 2, .int .i64 0, .string ⟨#[]⟩, .slice none 0 0] 63) = W := ⟨_, rfl⟩
  rw [hW1]
  have z1 : W1.heap.size = w.heap.size + 1 := by rw [← hW1, alloc_size]
  have f1 : Fr (fun _ => False) w W1 := by rw [← hW1]; exact Fr.alloc (Fr.refl _ _) _
  have b1 : W1.heap[w.heap.size]? = some (.cells #[.int .i64 1, .int .i64 0, .string ⟨#[]⟩, .slice none 0 0, .int .i64 2, .int .i64 0, .string ⟨#[]⟩, .slice none 0 0] 63 (0, 0)) := by rw [← hW1]; exact Go.heap_alloc_new w _
  have f2 : Fr (fun _ => False) W1 (W1.alloc (.cells #[.slice (some ⟨w.heap.size, 0, none⟩) 2 2, .slice none 0 0] 86)) := Fr.alloc (Fr.refl _ _) _
  have b2 := Go.heap_alloc_new W1 (.cells #[.slice (some ⟨w.heap.size, 0, none⟩) 2 2, .slice none 0 0] 86)
  have z2 : (W1.alloc (.cells #[.slice (some ⟨w.heap.size, 0, none⟩) 2 2, .slice none 0 0] 86)).heap.size = w.heap.size + 2 := by rw [alloc_size, z1]
  rw [z1] at b2
  go_ret
  refine ⟨w.heap.size + 1, some ⟨w.heap.size, 0, none⟩, 2, fun i => if i = w.heap.size then some .nodes else if i = w.heap.size + 1 then some .tree else none, rfl, ?_, fun i hi => ?_, f1.trans f2 (fun _ _ h => h)⟩
  · refine ⟨b2, ⟨⟨rfl, .inr ⟨w.heap.size, 0, _, by simp, f2.cells b1 (fun h => h), Nat.le_refl _, by decide, rfl, rfl⟩⟩, fun z hz => ?_⟩, Ro.nil _ _ _, fun j x hx => by simp at hx, ?_, fun g hg => ?_, by simp [blk], fun i hi => ?_⟩
    · have : z.1.2.ats = [] := by
        unfold U.zero at hz
        simp at hz
        rcases hz with rfl | rfl <;> rfl
      rw [this]
      exact Rw.nil _ _ _ _
    · simp only [if_neg (show ¬ w.heap.size + 1 = w.heap.size by omega), if_pos]
    · simp [blk] at hg
      simp [hg]
    · rw [z2]
      by_cases e : i = w.heap.size
      · omega
      · by_cases e2 : i = w.heap.size + 1
        · omega
        · simp only [if_neg e, if_neg e2] at hi
          exact absurd rfl hi
  · by_cases e : i = w.heap.size
    · omega
    · by_cases e2 : i = w.heap.size + 1
      · omega
      · simp only [if_neg e, if_neg e2] at hi
        exact absurd rfl hi
end Go.Proofs.YtilbdpnioajkoaaGreat

namespace Go.Proofs.YtilbdpnioajkoaaGreat
open Go.RowKit Go.Maps
set_option linter.unusedVariables false
set_option linter.unusedSimpArgs false
set_option maxRecDepth 100000
namespace U
/-- where a later part begins -/
def cutN (a : Option Addr) (c l : Nat) : Option Addr := if c = l then a else a.map (·.add (l * 4))
theorem blk_cutN (a : Option Addr) (c l : Nat) : blk (cutN a c l) = blk a := by
  unfold cutN
  split
  · rfl
  · cases a with
    | none => rfl
    | some x => simp only [Option.map_some, blk, Addr.add]; split <;> rfl
theorem run_cutN_lo (w : World) (a : Option Addr) (n c l : Nat) (hl : l ≤ n) (x : Int) (hx : x = (l : Int)) :
    (Instr.slice 41 (.slice a n c) (some (.int .i64 x)) none none).run Tryz.prog w = .ok (.slice (cutN a c l) (n - l) (c - l)) w := by
  subst hx
  obtain ⟨i0, z, hi, hz0, hz1, hz2, hz3⟩ := T.info_n
  have h1 : (Instr.sliceBound (.int .i64 (l : Int)) n .sliceB).run Tryz.prog w = .ok l w := by
    have : (0 : Int) ≤ (l : Int) ∧ (l : Int) ≤ (n : Int) := by omega
    simp [Instr.sliceBound, asIntOf, this]
  simp [Instr.slice, Instr.sliceBounds, h1, run_underlying Tryz.underlying41, sizeOf, typeInfo, hi, hz1, cutN]
theorem run_cutN_hi (w : World) (a : Option Addr) (n c h : Nat) (hh : h ≤ c) (x : Int) (hx : x = (h : Int)) :
    (Instr.slice 41 (.slice a n c) none (some (.int .i64 x)) none).run Tryz.prog w = .ok (.slice a h c) w := by
  subst hx
  obtain ⟨i0, z, hi, hz0, hz1, hz2, hz3⟩ := T.info_n
  have h1 : (Instr.sliceBound (.int .i64 (h : Int)) c .sliceAcap).run Tryz.prog w = .ok h w := by
    have : (0 : Int) ≤ (h : Int) ∧ (h : Int) ≤ (c : Int) := by omega
    simp [Instr.sliceBound, asIntOf, this]
  simp [Instr.slice, Instr.sliceBounds, h1, run_underlying Tryz.underlying41, sizeOf, typeInfo, hi]
  cases a <;> simp [Addr.add]
theorem flatN_cons (z : T.Tn) (r : List T.Tn) : T.flatN (z :: r) = T.cellsN z ++ T.flatN r := rfl
theorem drop_rw {I : Nat → Prop} {w : World} {a : Option Addr} {zs : List T.Tn} (h : Rw I w 4 a zs.length (T.flatN zs)) {c : Nat} (hc : zs.length ≤ c) (k : Nat) : Rw I w 4 (cutN a c k) (zs.drop k).length (T.flatN (zs.drop k)) := by
  refine ⟨T.flatN_len _, ?_⟩
  rcases Nat.lt_or_ge k zs.length with h1 | h1
  · rcases h.2 with h0 | ⟨g, o, rfl, hI, hcl⟩
    · omega
    · refine .inr ⟨g, o + k * 4, ?_, hI, fun j u hu => ?_⟩
      · unfold cutN; rw [if_neg (by omega)]; simp [Addr.add_lit]
      · rw [Nat.add_assoc]
        refine hcl _ u ?_
        have e : T.flatN zs = T.flatN (zs.take k) ++ T.flatN (zs.drop k) := by rw [← T.flatN_append, List.take_append_drop]
        rw [e, List.getElem?_append_right (by rw [T.flatN_len, List.length_take]; have : min k zs.length = k := by omega
                                              rw [this]; omega), T.flatN_len, List.length_take, show min k zs.length = k by omega, Nat.add_sub_cancel_left]
        exact hu
  · exact .inl (by rw [List.length_drop]; omega)
theorem take_rw {I : Nat → Prop} {w : World} {a : Option Addr} {zs : List T.Tn} (h : Rw I w 4 a zs.length (T.flatN zs)) (k : Nat) : Rw I w 4 a (zs.take k).length (T.flatN (zs.take k)) := by
  refine ⟨T.flatN_len _, ?_⟩
  rcases h.2 with h0 | ⟨g, o, ha, hI, hcl⟩
  · exact .inl (by rw [List.length_take]; omega)
  · refine .inr ⟨g, o, ha, hI, fun j u hu => hcl j u ?_⟩
    have e : T.flatN zs = T.flatN (zs.take k) ++ T.flatN (zs.drop k) := by rw [← T.flatN_append, List.take_append_drop]
    rw [e, List.getElem?_append_left (List.getElem?_eq_some_iff.1 hu).1]
    exact hu
theorem flatN_set : ∀ (zs : List T.Tn) (k : Nat) (x : T.Tn), k < zs.length → T.flatN (zs.set k x) = ((((T.flatN zs).set (k * 4) (.int .i64 x.1.1)).set (k * 4 + 1) (.int .i64 x.1.2.par)).set (k * 4 + 2) (.string x.1.2.nm)).set (k * 4 + 3) (.slice x.2.1 x.1.2.ats.length x.2.2)
  | [], k, x, h => by simp at h
  | z :: r, 0, x, h => by
    rw [List.set_cons_zero, flatN_cons, flatN_cons]
    simp [T.cellsN]
  | z :: r, k + 1, x, h => by
    rw [List.set_cons_succ, flatN_cons, flatN_cons, flatN_set r k x (by simpa using h)]
    have e : ∀ (l : List Value) (j : Nat) (v : Value), (T.cellsN z ++ l).set ((k + 1) * 4 + j) v = T.cellsN z ++ l.set (k * 4 + j) v := fun l j v => by
      rw [List.set_append_right _ _ (by simp [T.cellsN]; omega)]
      congr 2
      simp [T.cellsN]
      omega
    have e0 := fun (l : List Value) (v : Value) => e l 0 v
    simp only [Nat.add_zero] at e0
    rw [e0, e, e, e]
/-- one put in its place, in that of one with its number -/
def put (x : T.Tn) (zs : List T.Tn) : List T.Tn := zs.take (A.low x.1.1 (pl zs)) ++ x :: zs.drop (A.low x.1.1 (pl zs) + (if (A.get x.1.1 (pl zs)).isSome then 1 else 0))
theorem pl_put {x : T.Tn} {zs : List T.Tn} (hu : A.Up (pl zs)) : pl (put x zs) = A.put x.1.1 x.1.2 (pl zs) := by
  rw [A.put_low hu]
  unfold put pl
  rw [List.map_append, List.map_cons, List.map_take, List.map_drop]
theorem mem_put {x z : T.Tn} {zs : List T.Tn} (h : z ∈ put x zs) : z = x ∨ z ∈ zs := by
  unfold put at h
  rcases List.mem_append.1 h with h | h
  · exact .inr (List.mem_of_mem_take h)
  · rcases List.mem_cons.1 h with h | h
    · exact .inl h
    · exact .inr (List.mem_of_mem_drop h)
theorem put_is {x : T.Tn} {zs : List T.Tn} (hu : A.Up (pl zs)) (h : (A.get x.1.1 (pl zs)).isSome = true) : A.low x.1.1 (pl zs) < zs.length ∧ put x zs = zs.set (A.low x.1.1 (pl zs)) x := by
  obtain ⟨u, hu2⟩ := Option.isSome_iff_exists.1 h
  have hlt : A.low x.1.1 (pl zs) < zs.length := by
    have := (List.getElem?_eq_some_iff.1 ((A.low_get hu).1 hu2)).1
    rwa [pl_len] at this
  refine ⟨hlt, ?_⟩
  unfold put
  rw [if_pos h, List.set_eq_take_append_cons_drop, if_pos hlt]
theorem put_new {x : T.Tn} {zs : List T.Tn} (h : (A.get x.1.1 (pl zs)).isSome = false) : put x zs = zs.take (A.low x.1.1 (pl zs)) ++ x :: zs.drop (A.low x.1.1 (pl zs)) := by
  unfold put
  rw [h]
  rfl
theorem put_len {x : T.Tn} {zs : List T.Tn} : (put x zs).length ≤ zs.length + 1 := by
  unfold put
  rw [List.length_append, List.length_cons, List.length_take, List.length_drop]
  split <;> omega
/-- a node is stored in its place -/
theorem store_node {w : World} {g fo c n : Nat} {zs : List T.Tn} (h : Ro w 63 4 (some ⟨g, fo, none⟩) n c (T.flatN zs)) (hn : zs.length = n) {lo : Nat} (hlo : lo < n) (x : T.Tn) :
    (Instr.storeAt 63 (.pointer (some ⟨g, fo + lo * 4, none⟩)) (T.aggN x)).run Tryz.prog w = .ok () (w.setCells g (fo + lo * 4) (T.cellsN x)) ∧ Ro (w.setCells g (fo + lo * 4) (T.cellsN x)) 63 4 (some ⟨g, fo, none⟩) n c (T.flatN (zs.set lo x)) ∧ Fr (fun i => i = g) w (w.setCells g (fo + lo * 4) (T.cellsN x)) := by
  have h1 : (Tryz.prog.info? 63).map (·.size) = some 4 := by kernel_rfl
  refine ⟨?_, ?_, Fr.setCells _ _ _ _⟩
  · have hth : w.there g (fo + lo * 4) 4 := by
      rcases h.2 with ⟨hv, _⟩ | ⟨g', o, cur, hv, hg, hnc, _, hsz, _⟩
      · cases hv
      · simp only [Option.some.injEq, Addr.mk.injEq, and_true] at hv
        obtain ⟨rfl, rfl⟩ := hv
        exact there_off hg (by rw [hsz, Nat.add_mul]; omega)
    exact run_storeAt_mid (P := Tryz.prog) w g (fo + lo * 4) 63 #[.int .i64 x.1.1, .int .i64 x.1.2.par, .string x.1.2.nm, .slice x.2.1 x.1.2.ats.length x.2.2] hth h1 (by simp [Value.oneCell'])
  · rw [flatN_set zs lo x (by rw [hn]; exact hlo)]
    exact (((h.set (j := lo * 4) rfl).set (j := lo * 4 + 1) rfl).set (j := lo * 4 + 2) rfl).set (j := lo * 4 + 3) rfl
/-- with a new row -/
def addc (c : Nat → Option Col) (n : Nat) (a : Option Addr) (col : Col) : Nat → Option Col := fun i => if i < n then c i else if blk a = some i then some col else none
theorem addc_lo {c : Nat → Option Col} {n : Nat} {a : Option Addr} {col : Col} {i : Nat} (h : i < n) : addc c n a col i = c i := if_pos h
theorem addc_more (c : Nat → Option Col) (n : Nat) (a : Option Addr) (col : Col) : More c (addc c n a col) n := fun i h => if_pos h
theorem addc_new {c : Nat → Option Col} {n : Nat} {a : Option Addr} {col : Col} {i : Nat} (h : n ≤ i) (ha : blk a = some i) : addc c n a col i = some col := by
  unfold addc
  rw [if_neg (by omega), if_pos ha]
theorem addc_some {c : Nat → Option Col} {n : Nat} {a : Option Addr} {col : Col} {i : Nat} (h : addc c n a col i ≠ none) : (i < n ∧ c i ≠ none) ∨ (n ≤ i ∧ blk a = some i) := by
  unfold addc at h
  by_cases e : i < n
  · rw [if_pos e] at h; exact .inl ⟨e, h⟩
  · rw [if_neg e] at h
    by_cases e2 : blk a = some i
    · exact .inr ⟨by omega, e2⟩
    · rw [if_neg e2] at h; exact absurd rfl h
theorem Dt.swap {c : Nat → Option Col} {w w' : World} {r : Nat} {ra : Option Addr} {rc : Nat} {zs : List T.Tn} {ha : Option Addr} {hc : Nat} {hs : List Hs} (h : Dt c w r ra rc zs ha hc hs) {a : Option Addr} {cp : Nat} {zs' : List T.Tn} (hf : Fr (fun i => i = r) w w')
    (hbox : w'.heap[r]? = some (.cells #[.slice a zs'.length cp, .slice ha hs.length hc] 86 (0, 0))) (hrow : Ro w' 63 4 a zs'.length cp (T.flatN zs')) (hnew : ∀ k, blk a = some k → w.heap.size ≤ k)
    (hel : ∀ z ∈ zs', Rw (fun i => c i = some .attr) w 2 z.2.1 z.1.2.ats.length (T.flatA z.1.2.ats)) : Dt (addc c w.heap.size a .nodes) w' r a cp zs' ha hc hs := by
  have hlt : ∀ {i : Nat} {col : Col}, c i = some col → i < w.heap.size := fun {i col} e => h.lo i (by rw [e]; simp)
  have hk : ∀ {i : Nat} {col : Col}, c i = some col → addc c w.heap.size a .nodes i = some col := fun e => by rw [addc_lo (hlt e), e]
  have hr : ∀ {i : Nat} {col : Col}, c i = some col → col ≠ .tree → ¬ i = r := fun e hne er => by rw [er, h.cr] at e; exact hne (Option.some.inj e).symm
  have hat : ∀ {b : Option Addr} {n : Nat} {l : List Value}, Rw (fun i => c i = some .attr) w 2 b n l → Rw (fun i => addc c w.heap.size a .nodes i = some .attr) w' 2 b n l := fun hb => (hb.kept hf (fun i hi => hr hi (by simp))).mono (fun i hi => hk hi)
  refine ⟨hbox, ⟨hrow, fun z hz => hat (hel z hz)⟩, h.was.kept hf (fun j hj => hr (h.ch j hj) (by simp)), fun j x hx => ?_, hk h.cr, fun g hg => addc_new (hnew g hg) hg, fun g hg => hk (h.ch g hg), fun i hi => ?_⟩
  · obtain ⟨h1, h2⟩ := h.old j x hx
    exact ⟨⟨h1.row.kept hf (fun i hi => hr (h2 i hi) (by simp)), fun z hz => hat (h1.el z hz)⟩, fun g hg => hk (h2 g hg)⟩
  · rcases addc_some hi with ⟨h1, _⟩ | ⟨_, h2⟩
    · exact Nat.lt_of_lt_of_le h1 hf.size
    · exact hrow.lt i h2
theorem Dt.stored {c : Nat → Option Col} {w w' : World} {r g o : Nat} {rc : Nat} {zs : List T.Tn} {ha : Option Addr} {hc : Nat} {hs : List Hs} (h : Dt c w r (some ⟨g, o, none⟩) rc zs ha hc hs) {lo : Nat} {x : T.Tn} (hf : Fr (fun i => i = g) w w')
    (hrow : Ro w' 63 4 (some ⟨g, o, none⟩) zs.length rc (T.flatN (zs.set lo x))) (hx : Rw (fun i => c i = some .attr) w 2 x.2.1 x.1.2.ats.length (T.flatA x.1.2.ats)) : Dt c w' r (some ⟨g, o, none⟩) rc (zs.set lo x) ha hc hs := by
  have hg : c g = some .nodes := h.cn g rfl
  have hne : ∀ {i : Nat} {col : Col}, c i = some col → col ≠ .nodes → ¬ i = g := fun e hn er => by rw [er, hg] at e; exact hn (Option.some.inj e).symm
  refine ⟨by rw [List.length_set]; exact hf.cells h.box (hne h.cr (by simp)), ⟨by rw [List.length_set]; exact hrow, fun z hz => ?_⟩, h.was.kept hf (fun j hj => hne (h.ch j hj) (by simp)), fun j y hy => ?_, h.cr, h.cn, h.ch, fun i hi => Nat.lt_of_lt_of_le (h.lo i hi) hf.size⟩
  · rcases List.mem_or_eq_of_mem_set hz with hz | rfl
    · exact (h.now.el z hz).kept hf (fun i hi => hne hi (by simp))
    · exact hx.kept hf (fun i hi => hne hi (by simp))
  · obtain ⟨h1, h2⟩ := h.old j y hy
    exact ⟨h1.kept hf (fun i hi => hne hi (by simp)) (fun i hi => hne (h2 i hi) (by simp)), h2⟩
end U
end Go.Proofs.YtilbdpnioajkoaaGreat

namespace Go.Proofs.YtilbdpnioajkoaaGreat
open Go.RowKit Go.Maps
set_option linter.unusedVariables false
set_option linter.unusedSimpArgs false
set_option maxRecDepth 100000
attribute [local go_sem] Oper.semAt_some
set_option maxHeartbeats 4000000 in
theorem uput_any {c : Nat → Option U.Col} {w : World} {r : Nat} {ra : Option Addr} {rc : Nat} {zs : List T.Tn} {ha : Option Addr} {hc : Nat} {hs : List U.Hs} (h : U.Dt c w r ra rc zs ha hc hs) (hu : A.Up (U.pl zs)) (hl : zs.length ≤ 3800000000000) (x : T.Tn) (hx : Rw (fun i => c i = some .attr) w 2 x.2.1 x.1.2.ats.length (T.flatA x.1.2.ats)) :
    Calls Tryz.prog 51 #[ptr r, T.aggN x] w fun e w' => e = .returned (.tuple #[]) ∧ ∃ c' ra' rc', U.Dt c' w' r ra' rc' (U.put x zs) ha hc hs ∧ U.More c c' w.heap.size ∧ Fr (fun i => c i = some .tree ∨ c i = some .nodes) w w' := by
  have f0 : Fr (fun _ => False) w (w.alloc (.cells #[.int .i64 x.1.1, .int .i64 x.1.2.par, .string x.1.2.nm, .slice x.2.1 x.1.2.ats.length x.2.2] 63)) := Fr.alloc (Fr.refl _ _) _
  have b0 := Go.heap_alloc_new w (.cells #[.int .i64 x.1.1, .int .i64 x.1.2.par, .string x.1.2.nm, .slice x.2.1 x.1.2.ats.length x.2.2] 63)
  have KF := hid ((h.kept f0 (fun _ _ h => h)).find hu (by omega) x.1.1)
  have H := hid h
  have HX := hid hx
  have HU := hid hu
  have B0 := hid b0
  have F0 := hid f0
  clear h hx hu f0 b0
  go_enter Tryz.func51, Tryz.ntmps51
  go_wp2_with fail
  refine KF.out.mono ?_
  rintro e w1 ⟨rfl, hf1⟩
  have F1 := hid (F0.out.trans hf1 (fun _ _ h => h))
  have H1 := hid (H.out.kept F1.out (fun _ _ h => h))
  have b1 := hf1.cells B0.out (fun h => h)
  have B1 := hid b1
  obtain ⟨len, hlen⟩ : ∃ n, zs.length = n := ⟨_, rfl⟩
  have HL := hid hlen
  have d0 : w1.cell? ⟨r, 0, none⟩ = some (.slice ra len rc) := by rw [← hlen]; exact cellA (j := 0) H1.out.box rfl
  rw [hlen] at hl
  clear hlen b1 hf1 KF
  dsimp only
  cases hg : (A.get x.1.1 (U.pl zs)).isSome with
  | true =>
    obtain ⟨hlt, hput⟩ := U.put_is HU.out hg
    rw [HL.out] at hlt
    obtain ⟨lo, hlo⟩ : ∃ k, A.low x.1.1 (U.pl zs) = k := ⟨_, rfl⟩
    rw [hlo] at hlt hput ⊢
    have HP := hid hput
    have HLT := hid hlt
    have i0 : (0 : Int) ≤ (lo : Int) := by omega
    have i1 : (lo : Int) < (len : Int) := by omega
    obtain ⟨g, o, rfl⟩ := H1.out.now.row.some_of (by rw [HL.out]; omega)
    have hcg : c g = some .nodes := H1.out.cn g rfl
    have hgr : ¬ r = g := fun e => by have := H1.out.cr; rw [e, hcg] at this; cases this
    have hgw : ¬ w.heap.size = g := fun e => by have := H.out.lo g (by rw [hcg]; simp); omega
    have HC := hid (show ∀ W, Fr (fun i => i = g) w1 W → W.cell? ⟨r, 0, none⟩ = some (.slice (some ⟨g, o, none⟩) len rc) from fun W hf => cellFr hf hgr d0)
    have LX := hid (show ∀ W, Fr (fun i => i = g) w1 W → (Instr.loadAt 63 (ptr w.heap.size)).run Tryz.prog W = .ok (T.aggN x) W from fun W hf => load_whole (cs := #[.int .i64 x.1.1, .int .i64 x.1.2.par, .string x.1.2.nm, .slice x.2.1 x.1.2.ats.length x.2.2]) (hf.cells B1.out hgw) Tryz.underlying63 rfl (by kernel_rfl))
    have RO := hid (show ∀ W, Fr (fun _ => False) w1 W → Ro W 63 4 (some ⟨g, o, none⟩) len rc (T.flatN zs) from fun W hf => by have := H1.out.now.row; rw [HL.out] at this; exact this.kept hf (fun _ _ h => h))
    have HCG := hid hcg
    clear hg hput hlo hcg hgr hgw hlt d0
    go_wp2_with fail
    have hmx : Tryz.prog.follows .mixedOrders = true := by kernel_rfl
    refine wp_region_held (S := fun V => Fr (fun i => i = g) w1 V) hmx ?_
    have hS := (Fr.drew (Fr.refl (fun i => i = g) w1))
    simp only [List.size_toArray, List.length_cons, List.length_nil, Nat.reduceAdd, Array.replicate_succ, Array.replicate_zero, List.push_toArray, List.nil_append, List.cons_append]
    refine wpAnyH_take (i := 0) (v := ?_) rfl (by kernel_rfl) (by kernel_rfl) (by kernel_rfl) (fun _ _ _ h => h) (Or.inl ⟨by kernel_rfl, ?_⟩) hS ?_
    rotate_left 1
    · (intro w' hS'; clear hS'; go_simp; try with_reducible rfl)
    simp only [List.getElem_toArray, List.getElem_cons_zero, List.getElem_cons_succ, Act.put, List.setIfInBounds_toArray, List.set_cons_zero, List.set_cons_succ]
    refine wpAnyH_take (i := 1) (v := ?_) rfl (by kernel_rfl) (by kernel_rfl) (by kernel_rfl) (fun _ _ _ h => h) (Or.inl ⟨by kernel_rfl, ?_⟩) hS ?_
    rotate_left 1
    · (intro w' hS'; clear hS'; go_simp; try with_reducible rfl)
    simp only [List.getElem_toArray, List.getElem_cons_zero, List.getElem_cons_succ, Act.put, List.setIfInBounds_toArray, List.set_cons_zero, List.set_cons_succ]
    refine wpAnyH_take (i := 2) (v := ?_) rfl (by kernel_rfl) (by kernel_rfl) (by kernel_rfl) (fun _ _ _ h => h) (Or.inl ⟨by kernel_rfl, ?_⟩) hS ?_
    rotate_left 1
    · (intro w' hS'; clear hS'; go_simp; try with_reducible rfl)
    simp only [List.getElem_toArray, List.getElem_cons_zero, List.getElem_cons_succ, Act.put, List.setIfInBounds_toArray, List.set_cons_zero, List.set_cons_succ]
    refine wpAnyH_take (i := 3) (v := ?_) rfl (by kernel_rfl) (by kernel_rfl) (by kernel_rfl) (fun _ _ _ h => h) (Or.inl ⟨by kernel_rfl, ?_⟩) hS ?_
    rotate_left 1
    · (intro w' hS'; have h1 := HC.out w' hS'; clear hS'; go_simp; try with_reducible rfl)
    simp only [List.getElem_toArray, List.getElem_cons_zero, List.getElem_cons_succ, Act.put, List.setIfInBounds_toArray, List.set_cons_zero, List.set_cons_succ]
    refine wpAnyH_take (i := 4) (v := ?_) rfl (by kernel_rfl) (by kernel_rfl) (by kernel_rfl) (fun _ _ _ h => h) (Or.inl ⟨by kernel_rfl, ?_⟩) hS ?_
    rotate_left 1
    · (intro w' hS'; clear hS'; go_simp; try with_reducible rfl)
    simp only [List.getElem_toArray, List.getElem_cons_zero, List.getElem_cons_succ, Act.put, List.setIfInBounds_toArray, List.set_cons_zero, List.set_cons_succ]
    refine wpAnyH_take (i := 5) rfl (by kernel_rfl) (by kernel_rfl) (by kernel_rfl) (fun _ _ _ h => h) (tyload (by kernel_rfl) (by exact ⟨_, rfl, rfl⟩) (fun w' hS' => LX.out w' hS')) hS ?_
    simp only [List.getElem_toArray, List.getElem_cons_zero, List.getElem_cons_succ, Act.put, List.setIfInBounds_toArray, List.set_cons_zero, List.set_cons_succ]
    refine wpAnyH_take (i := 6) (v := ?_) rfl (by kernel_rfl) (by kernel_rfl) (by kernel_rfl) (fun _ _ _ h => h) (Or.inl ⟨by kernel_rfl, ?_⟩) hS ?_
    rotate_left 1
    · (intro w' hS'; clear hS'; go_simp; try with_reducible rfl)
    simp only [List.getElem_toArray, List.getElem_cons_zero, List.getElem_cons_succ, Act.put, List.setIfInBounds_toArray, List.set_cons_zero, List.set_cons_succ]
    refine wpAnyH_ready (rs := [7]) (by kernel_rfl) (by simp) ?_
    refine AllReadyH.cons rfl (fun K1 hK1 => ?_) (AllReadyH.nil)
    have hd : Fr (fun _ => False) w1 w1.drew := Fr.drew (Fr.refl _ _)
    have HF8 := hid (U.store_node (RO.out _ hd) HL.out HLT.out x)
    clear hd
    refine tstep_store (by kernel_rfl) HF8.out.1 (by exact ⟨_, _, rfl, rfl, rfl⟩) ?_
    refine hK1.out _ _ (hS.trans HF8.out.2.2 (fun _ _ h => h)) (fun hS => ?_)
    clear hK1 K1
    simp only [List.getElem_toArray, List.getElem_cons_zero, List.getElem_cons_succ, Act.put, List.setIfInBounds_toArray, List.set_cons_zero, List.set_cons_succ]
    refine wpAnyH_done (by kernel_rfl) ?_ _
    go_wp2_with fail
    refine bodyPost_ret (results_none rfl _ _ _) rfl ?_
    have f8 : Fr (fun i => i = g) w1 (w1.drew.setCells g (o + lo * 4) (T.cellsN x)) := (Fr.drew (Fr.refl (fun i => i = g) w1)).trans HF8.out.2.2 (fun _ _ h => h)
    refine ⟨rfl, c, some ⟨g, o, none⟩, rc, ?_, fun _ _ => rfl, ?_⟩
    · rw [HP.out]
      exact H1.out.stored f8 (by rw [HL.out]; exact HF8.out.2.1) (HX.out.kept F1.out (fun _ _ h => h))
    · exact (F1.out.mono (fun _ _ h => h.elim)).trans f8 (fun i hi e => .inr (by rw [e]; exact HCG.out))
  | false =>
    obtain ⟨lo, hlo⟩ : ∃ k, A.low x.1.1 (U.pl zs) = k := ⟨_, rfl⟩
    have hll := A.low_le x.1.1 (U.pl zs)
    have hput := U.put_new hg
    rw [U.pl_len, HL.out, hlo] at hll
    rw [hlo] at hput ⊢
    have HP := hid hput
    have i0 : (0 : Int) ≤ (lo : Int) := by omega
    have i1 : (lo : Int) ≤ (len : Int) := by omega
    have hnr := H1.out.now.nr
    obtain ⟨a1, p1, w2, hr1, ho1, hn1, hf2⟩ := U.nodes_append w1 (Ro.nil w1 63 4) (sc := rc) (U.take_rw hnr.1 lo) (by rw [List.length_take, HL.out]; omega)
    rw [List.length_take, HL.out, Nat.min_eq_left hll, Nat.zero_add] at hr1 ho1
    rw [List.nil_append] at ho1
    have f2 : Fr (fun _ => False) w1 w2 := hf2.mono (fun i _ e => by simp [blk] at e)
    have n1 : ∀ k, blk a1 = some k → w1.heap.size ≤ k := fun k hk => (hn1 k hk).elim (fun h => by simp [blk] at h) id
    have b2 := f2.cells B1.out (fun h => h)
    have e0 : w2.cell? ⟨w.heap.size, 0, none⟩ = some (.int .i64 x.1.1) := cellA (j := 0) b2 rfl
    have e1 : w2.cell? ⟨w.heap.size, 1, none⟩ = some (.int .i64 x.1.2.par) := cellA (j := 1) b2 rfl
    have e2 : w2.cell? ⟨w.heap.size, 2, none⟩ = some (.string x.1.2.nm) := cellA (j := 2) b2 rfl
    have e3 : w2.cell? ⟨w.heap.size, 3, none⟩ = some (.slice x.2.1 x.1.2.ats.length x.2.2) := cellA (j := 3) b2 rfl
    obtain ⟨a2, p2, w3, hr2, ho2, hf3, hn2⟩ := T.node_append w2 a1 p1 lo (T.flatN (zs.take lo)) ho1 (by omega) x
    have f3 : Fr (fun _ => False) w1 w3 := f2.trans hf3 (fun i hi e => by have := n1 i e; omega)
    have n2 : ∀ k, blk a2 = some k → w1.heap.size ≤ k := fun k hk => (hn2 k hk).elim (fun h => n1 k h) (fun h => Nat.le_trans f2.size h)
    have g0 : w3.cell? ⟨r, 0, none⟩ = some (.slice ra len rc) := cellFr f3 (fun h => h) d0
    obtain ⟨a3, p3, w4, hr3, ho3, hn3, hf4⟩ := U.nodes_append w3 ho2 (sc := rc - lo) (U.drop_rw (hnr.1.kept f3 (fun _ _ h => h)) (c := rc) H1.out.now.row.le.1 lo) (by rw [List.length_drop, HL.out]; omega)
    rw [List.length_drop, HL.out] at hr3 ho3
    have f4 : Fr (fun _ => False) w1 w4 := f3.trans hf4 (fun i hi e => by have := n2 i e; omega)
    have n3 : ∀ k, blk a3 = some k → w1.heap.size ≤ k := fun k hk => (hn3 k hk).elim (fun h => n2 k h) (fun h => Nat.le_trans f3.size h)
    have H4 := H1.out.kept f4 (fun _ _ h => h)
    have z4 := frozen_of_row (j := 0) H4.box
    have g4 : w4.cell? ⟨r, 0, none⟩ = some (.slice ra len rc) := by rw [← HL.out]; exact cellA (j := 0) H4.box rfl
    have cu := fun W => U.run_cutN_lo W ra len rc lo hll (lo : Int) rfl
    have ch := fun W => U.run_cutN_hi W ra len rc lo (by have := H1.out.now.row.le.1; rw [HL.out] at this; omega) (lo : Int) rfl
    have FA := hid (F1.out.trans f4 (fun _ _ h => h))
    have NA := hid (show ∀ k, blk a3 = some k → w.heap.size ≤ k from fun k hk => Nat.le_trans F1.out.size (n3 k hk))
    have HO := hid ho3
    have H4h := hid H4
    have R1 := hid hr1
    have R2 := hid hr2
    have R3 := hid hr3
    clear hg hput hlo hnr hr1 ho1 hn1 hf2 f2 n1 b2 hr2 ho2 hf3 hn2 f3 n2 hr3 ho3 hn3 hf4 f4 n3 H4
    go_wp2_with (first
      | (at_builtin; refine wpList_append_eq _ _ rfl _ _ _ rfl _ _ _ rfl rfl (by exact R1.out) ?_)
      | (at_builtin; refine wpList_append_eq _ _ rfl _ _ _ rfl _ _ _ rfl rfl (by exact R2.out) ?_)
      | (at_builtin; refine wpList_append_eq _ _ rfl _ _ _ rfl _ _ _ rfl rfl (by exact R3.out) ?_))
    go_end0
    have fs : Fr (fun i => i = r) w (w4.setCell ⟨r, 0, none⟩ (.slice a3 (lo + 1 + (len - lo)) p3)) := Fr.setCell (p := ⟨r, 0, none⟩) (S := fun i => i = r) (FA.out.mono (fun _ _ h => h.elim)) (fun _ => rfl) _
    have fs4 : Fr (fun i => i = r) w4 (w4.setCell ⟨r, 0, none⟩ (.slice a3 (lo + 1 + (len - lo)) p3)) := Fr.setCell (p := ⟨r, 0, none⟩) (Fr.refl (fun i => i = r) _) (fun _ => rfl) _
    have hzl : (U.put x zs).length = lo + 1 + (len - lo) := by
      rw [HP.out, List.length_append, List.length_cons, List.length_take, List.length_drop, HL.out]
      omega
    have hzf : T.flatN (U.put x zs) = T.flatN (zs.take lo) ++ T.cellsN x ++ T.flatN (zs.drop lo) := by
      rw [HP.out, T.flatN_append, U.flatN_cons, List.append_assoc]
    have hrr : r < w.heap.size := lt_of_row H.out.box
    refine ⟨rfl, U.addc c w.heap.size a3 .nodes, a3, p3, ?_, U.addc_more _ _ _ _, fs.mono (fun i hi e => .inl (by rw [e]; exact H.out.cr))⟩
    refine H.out.swap fs (by rw [hzl]; exact setCell_row (j := 0) H4h.out.box _) (by rw [hzl, hzf]; exact HO.out.kept fs4 (fun j hj e => by have := NA.out j hj; omega)) NA.out (fun z hz => ?_)
    rcases U.mem_put hz with rfl | hz
    · exact HX.out
    · exact H.out.now.el z hz
end Go.Proofs.YtilbdpnioajkoaaGreat

/-
  A site's state as cells; what of operations counts, in plain words; rows of operations.
-/
import Derived.Test.YtedgiffnfhkonaaSOps3
import Derived.Test.YtedgiffnfhkonaaSJoin
import Derived.Test.YtedgiffnfhkonaaRowRd
namespace Go.Proofs.Ytedgiffnfhkonaa
open Go.RowKit
set_option linter.unusedVariables false
set_option linter.unusedSimpArgs false
set_option maxRecDepth 100000
/-- where a state's slices stand -/
def X.sl (j : Nat) : Bool := (j == 45) || (j == 46) || (decide (56 ≤ j) && decide (j < 64)) || (j == 152) || (j == 153)
def X.cell (g : Nat → Int) (b : Bool) (v : Nat → Value) (j : Nat) : Value := if j = 2 then .bool b else if X.sl j = true then v j else .int .i64 (g j)
/-- A STATE'S CELLS: its numbers, is it booted, its slices. -/
def X.cs (g : Nat → Int) (b : Bool) (v : Nat → Value) : Array Value := ((List.range 154).map (X.cell g b v)).toArray
theorem X.cs_size (g : Nat → Int) (b : Bool) (v : Nat → Value) : (X.cs g b v).size = 154 := by simp [X.cs]
theorem X.cs_at (g : Nat → Int) (b : Bool) (v : Nat → Value) {j : Nat} (h : j < 154) : (X.cs g b v)[j]? = some (X.cell g b v j) := by
  unfold X.cs
  rw [List.getElem?_toArray, List.getElem?_map, List.getElem?_range h]
  rfl
theorem X.cs_num (g : Nat → Int) (b : Bool) (v : Nat → Value) {j : Nat} (h : j < 154) (h2 : j ≠ 2) (h3 : X.sl j = false) : (X.cs g b v)[j]? = some (.int .i64 (g j)) := by
  rw [X.cs_at g b v h, X.cell, if_neg h2, if_neg (by simp [h3])]
/-- an epoch's cells -/
def X.ep (g : Nat → Int) : Array Value := ((List.range 25).map (fun j => Value.int .i64 (g (3 + j)))).toArray
theorem X.ep_size (g : Nat → Int) : (X.ep g).size = 25 := by simp [X.ep]
theorem X.ep_at (g : Nat → Int) {j : Nat} (h : j < 25) : (X.ep g)[j]? = some (.int .i64 (g (3 + j))) := by
  unfold X.ep
  rw [List.getElem?_toArray, List.getElem?_map, List.getElem?_range h]
  rfl
/-- a state in a box: its numbers -/
def X.Sc (W : World) (b : Nat) (g : Nat → Int) : Prop := ∀ j, j < 154 → j ≠ 2 → X.sl j = false → W.cell? ⟨b, j, none⟩ = some (.int .i64 (g j))
theorem X.Sc.of {W : World} {k : Nat} {g : Nat → Int} {b : Bool} {v : Nat → Value} {t : TypeId} {m : Nat × Nat} (h : W.heap[k]? = some (.cells (X.cs g b v) t m)) : X.Sc W k g := fun j h1 h2 h3 => cell_at h (X.cs_num g b v h1 h2 h3)
theorem X.Sc.kept {M : Nat → Prop} {W V : World} {b : Nat} {g : Nat → Int} (h : X.Sc W b g) (hf : Fr M W V) (hM : ¬ M b) : X.Sc V b g := fun j h1 h2 h3 => cellFr hf hM (h j h1 h2 h3)
/-- a state's epoch, whole -/
theorem X.Sc.epoch {W : World} {b : Nat} {g : Nat → Int} (h : X.Sc W b g) : (Instr.loadAt 26 (.pointer (some ⟨b, 3, none⟩))).run Try.prog W = .ok (.agg (X.ep g)) W := by
  have := run_loadAt_mid (P := Try.prog) W b 3 26 (X.ep g).toList _ (fun j v hv => by
    have hj : j < 25 := by have := (List.getElem?_eq_some_iff.1 hv).1; simpa [X.ep_size] using this
    have h1 := X.ep_at g hj
    rw [← Array.getElem?_toList, hv] at h1
    cases h1
    refine h (3 + j) (by omega) (by omega) ?_
    unfold X.sl
    simp
    omega) Try.underlying26 rfl (by rw [Array.length_toList, X.ep_size]; kernel_rfl)
  simpa using this
/-- is it a site? -/
def X.site (n : Int) : Bool := decide (0 ≤ n ∧ n < 8)
/-- the number from which on a site has no operations -/
def X.endOf (g : Nat → Int) (o : Nat) : Int := if g (4 + o) = 3 then min 1099511627776 (g (12 + o)) else 1099511627776
theorem X.endOf_le (g : Nat → Int) (o : Nat) : X.endOf g o ≤ 1099511627776 := by unfold X.endOf; split <;> omega
/-- does an operation count, behind others? -/
def X.good (e o nx la : Int) (x : S.Op) : Prop := nx < e ∧ S.chk x = 0 ∧ x.s = o ∧ la < x.t
instance (e o nx la : Int) (x : S.Op) : Decidable (X.good e o nx la x) := by unfold X.good; infer_instance
/-- WHAT OF OPERATIONS COUNTS, from a number on -/
def X.run (e o : Int) : Int → Int → List S.Op → List S.Op
  | _, _, [] => []
  | nx, la, x :: l => if X.good e o nx la x then x :: X.run e o (nx + 1) x.t l else []
/-- k of them have been gone through, all of which count -/
structure X.At (e o nx la : Int) (l : List S.Op) (k : Nat) (lk : Int) : Prop where
  le : k ≤ l.length
  eq : X.run e o nx la l = l.take k ++ X.run e o (nx + k) lk (l.drop k)
  few : k = 0 ∨ nx + k ≤ e
theorem X.At.zero (e o nx la : Int) (l : List S.Op) : X.At e o nx la l 0 la := ⟨Nat.zero_le _, by simp, .inl rfl⟩
theorem X.drop_of {l : List S.Op} {k : Nat} {x : S.Op} (h : l[k]? = some x) : l.drop k = x :: l.drop (k + 1) := by
  rw [← (List.getElem?_eq_some_iff.1 h).2, ← List.drop_eq_getElem_cons (List.getElem?_eq_some_iff.1 h).1]
theorem X.At.next {e o nx la : Int} {l : List S.Op} {k : Nat} {lk : Int} (h : X.At e o nx la l k lk) {x : S.Op} (hx : l[k]? = some x) (hg : X.good e o (nx + k) lk x) : X.At e o nx la l (k + 1) x.t := by
  refine ⟨(List.getElem?_eq_some_iff.1 hx).1, ?_, .inr ?_⟩
  · rw [h.eq, X.drop_of hx, X.run, if_pos hg, List.take_add_one, hx]
    simp only [Option.toList, List.append_assoc, List.cons_append, List.nil_append]
    rw [show nx + (k : Int) + 1 = nx + ((k + 1 : Nat) : Int) by omega]
  · have := hg.1; omega
theorem X.At.stop {e o nx la : Int} {l : List S.Op} {k : Nat} {lk : Int} (h : X.At e o nx la l k lk) {x : S.Op} (hx : l[k]? = some x) (hg : ¬ X.good e o (nx + k) lk x) : X.run e o nx la l = l.take k := by
  rw [h.eq, X.drop_of hx, X.run, if_neg hg, List.append_nil]
theorem X.At.done {e o nx la : Int} {l : List S.Op} {lk : Int} {k : Nat} (h : X.At e o nx la l k lk) (hk : l.length ≤ k) : X.run e o nx la l = l := by
  rw [h.eq, List.drop_of_length_le hk, List.take_of_length_le hk, X.run, List.append_nil]
theorem X.run_take (e o : Int) : ∀ (l : List S.Op) (nx la : Int), X.run e o nx la l = l.take (X.run e o nx la l).length
  | [], _, _ => rfl
  | x :: l, nx, la => by
    rw [X.run]
    split
    · rw [List.length_cons, List.take_succ_cons, ← X.run_take e o l]
    · rfl
theorem X.run_le (e o : Int) (nx la : Int) (l : List S.Op) : (X.run e o nx la l).length ≤ l.length := by
  have h := congrArg List.length (X.run_take e o l nx la)
  rw [List.length_take] at h
  omega
/-- may a site's operations from a number on be taken? -/
def X.may (g : Nat → Int) (o q : Int) : Bool := X.site o && (!(o == g 0) && (!(g (4 + o.toNat) == 0) && (!decide (q < 0) && !decide (g (29 + o.toNat) < q))))
/-- how many of them are known already -/
def X.skip (g : Nat → Int) (o q : Int) (n : Nat) : Nat := (min (g (29 + o.toNat) - q) (n : Int)).toNat
/-- WHAT COUNTS OF A SITE'S OPERATIONS -/
def X.cnt (g : Nat → Int) (o q : Int) (l : List S.Op) : List S.Op :=
  if X.may g o q = true then X.run (X.endOf g o.toNat) o (g (29 + o.toNat)) (max (g (37 + o.toNat)) (g 47)) (l.drop (X.skip g o q l.length)) else []
/-- operations as cells -/
def X.flat (l : List S.Op) : List Value := (l.map (fun o => o.cs.toList)).flatten
theorem X.flat_len : ∀ l : List S.Op, (X.flat l).length = l.length * 8
  | [] => rfl
  | x :: r => by
    have := X.flat_len r
    unfold X.flat at this ⊢
    simp only [List.map_cons, List.flatten_cons, List.length_append, List.length_cons, this]
    simp
    omega
theorem X.flat_append (x y : List S.Op) : X.flat (x ++ y) = X.flat x ++ X.flat y := by simp [X.flat]
theorem X.flat_one (x : S.Op) : X.flat [x] = x.cs.toList := by simp [X.flat]
theorem X.flat_get {l : List S.Op} {k : Nat} {x : S.Op} (h : l[k]? = some x) {j : Nat} (hj : j < 8) : (X.flat l)[k * 8 + j]? = x.cs[j]? := by
  have e : l = l.take k ++ x :: l.drop (k + 1) := by
    rw [← (List.getElem?_eq_some_iff.1 h).2, ← List.drop_eq_getElem_cons (List.getElem?_eq_some_iff.1 h).1, List.take_append_drop]
  have hk := (List.getElem?_eq_some_iff.1 h).1
  rw [e, X.flat_append, List.getElem?_append_right (by rw [X.flat_len, List.length_take]; omega), X.flat_len, List.length_take, show min k l.length = k by omega, Nat.add_sub_cancel_left]
  rw [show x :: l.drop (k + 1) = [x] ++ l.drop (k + 1) from rfl, X.flat_append, X.flat_one, List.getElem?_append_left (by simpa using hj), Array.getElem?_toList]
theorem X.flat_ones (l : List S.Op) : ∀ u ∈ X.flat l, u.oneCell' = true := by
  intro u hu
  unfold X.flat at hu
  obtain ⟨r, hr, hu⟩ := List.mem_flatten.1 hu
  obtain ⟨x, hx, rfl⟩ := List.mem_map.1 hr
  simp at hu
  rcases hu with rfl | rfl | rfl | rfl | rfl | rfl | rfl | rfl <;> rfl
/-- A LIST OF OPERATIONS IN MEMORY, in blocks of I -/
def X.Ops (I : Nat → Prop) (w : World) (a : Option Addr) (os : List S.Op) : Prop := Rw I w 8 a os.length (X.flat os)
theorem X.Ops.kept {I M : Nat → Prop} {w w' : World} {a : Option Addr} {os : List S.Op} (h : X.Ops I w a os) (hf : Fr M w w') (hS : ∀ i, I i → ¬ M i) : X.Ops I w' a os := Rw.kept h hf hS
theorem X.Ops.fr {I : Nat → Prop} {w w' : World} {a : Option Addr} {os : List S.Op} (h : X.Ops I w a os) (hf : Fr (fun _ => False) w w') : X.Ops I w' a os := Rw.kept h hf (fun _ _ h => h)
theorem X.Ops.mono {I J : Nat → Prop} {w : World} {a : Option Addr} {os : List S.Op} (h : X.Ops I w a os) (hJ : ∀ i, I i → J i) : X.Ops J w a os := Rw.mono h hJ
theorem X.Ops.nil (I : Nat → Prop) (w : World) (a : Option Addr) : X.Ops I w a [] := Rw.nil I w 8 a
/-- one of them -/
theorem X.Ops.cell {I : Nat → Prop} {w : World} {a : Option Addr} {os : List S.Op} (h : X.Ops I w a os) {k : Nat} {o : S.Op} (ho : os[k]? = some o) : ∃ g q, a = some ⟨g, q, none⟩ ∧ I g ∧ ∀ j u, o.cs[j]? = some u → w.cell? ⟨g, q + k * 8 + j, none⟩ = some u := by
  rcases h.2 with h0 | ⟨g, q, h1, hI, h2⟩
  · have := (List.getElem?_eq_some_iff.1 ho).1
    omega
  · refine ⟨g, q, h1, hI, fun j u hu => ?_⟩
    have hj : j < 8 := by have := (Array.getElem?_eq_some_iff.1 hu).1; simpa using this
    have := h2 (k * 8 + j) u (by rw [X.flat_get ho hj]; exact hu)
    rw [← Nat.add_assoc] at this
    exact this
/-- one of them, whole -/
theorem X.load {w : World} {g q k : Nat} {o : S.Op} (h : ∀ j u, o.cs[j]? = some u → w.cell? ⟨g, q + k * 8 + j, none⟩ = some u) : (Instr.loadAt 43 (.pointer (some ⟨g, q + k * 8, none⟩))).run Try.prog w = .ok (.agg o.cs) w := by
  have := run_loadAt_mid (P := Try.prog) w g (q + k * 8) 43 o.cs.toList _ (fun j v hv => h j v (by rw [← Array.getElem?_toList]; exact hv)) Try.underlying43 rfl (by kernel_rfl)
  simpa using this
/-- where a later part of a list begins -/
def X.cut (a : Option Addr) (c l : Nat) : Option Addr := if c = l then a else a.map (·.add (l * 8))
theorem X.infoO : (Try.prog.info? 43).map (fun i => (i.size, i.bytes)) = some (8, 88) := by kernel_rfl
theorem X.infoO2 : ((Try.prog.info? 43).bind (fun i => i.zero)).map (fun z => z.cells.size) = some 8 := by kernel_rfl
theorem X.info_o : ∃ i z, Try.prog.info? 43 = some i ∧ i.zero = some z ∧ i.size = 8 ∧ i.bytes = 88 ∧ z.cells.size = 8 := by
  have h1 := X.infoO
  have h2 := X.infoO2
  cases hi : Try.prog.info? 43 with
  | none => rw [hi] at h1; cases h1
  | some i =>
    rw [hi] at h1 h2
    simp only [Option.map_some, Option.some.injEq, Prod.mk.injEq, Option.bind_some] at h1 h2
    cases hz : i.zero with
    | none => rw [hz] at h2; cases h2
    | some z =>
      rw [hz] at h2
      simp only [Option.map_some, Option.some.injEq] at h2
      exact ⟨i, z, rfl, hz, h1.1, h1.2, h2⟩
theorem X.sliceAt {lo hi mx : Option Value} {u v : Value} {w : World} (h : (Instr.slice 28 u lo hi mx).run Try.prog w = .ok v w) : (Instr.sliceAt 28 u lo hi mx).run Try.prog w = .ok v w := by
  simp [Instr.sliceAt, run_underlying Try.underlying28, h]
theorem X.run_lo (w : World) (a : Option Addr) (n c l : Nat) (hl : l ≤ n) (x : Int) (hx : x = (l : Int)) :
    (Instr.sliceAt 28 (.slice a n c) (some (.int .i64 x)) none none).run Try.prog w = .ok (.slice (X.cut a c l) (n - l) (c - l)) w := by
  subst hx
  obtain ⟨i0, z, hi, hz0, hz1, hz2, hz3⟩ := X.info_o
  have h1 : (Instr.sliceBound (.int .i64 (l : Int)) n .sliceB).run Try.prog w = .ok l w := by
    have : (0 : Int) ≤ (l : Int) ∧ (l : Int) ≤ (n : Int) := by omega
    simp [Instr.sliceBound, asIntOf, this]
  exact X.sliceAt (by simp [Instr.slice, Instr.sliceBounds, h1, run_underlying Try.underlying28, sizeOf, typeInfo, hi, hz1, X.cut])
theorem X.run_hi (w : World) (a : Option Addr) (n c h : Nat) (hh : h ≤ c) (x : Int) (hx : x = (h : Int)) :
    (Instr.sliceAt 28 (.slice a n c) none (some (.int .i64 x)) none).run Try.prog w = .ok (.slice a h c) w := by
  subst hx
  obtain ⟨i0, z, hi, hz0, hz1, hz2, hz3⟩ := X.info_o
  have h1 : (Instr.sliceBound (.int .i64 (h : Int)) c .sliceAcap).run Try.prog w = .ok h w := by
    have : (0 : Int) ≤ (h : Int) ∧ (h : Int) ≤ (c : Int) := by omega
    simp [Instr.sliceBound, asIntOf, this]
  refine X.sliceAt ?_
  simp [Instr.slice, Instr.sliceBounds, h1, run_underlying Try.underlying28, sizeOf, typeInfo, hi]
  cases a <;> simp [Addr.add]
theorem X.Ops.drop {I : Nat → Prop} {w : World} {a : Option Addr} {xs : List S.Op} (h : X.Ops I w a xs) {c : Nat} (hc : xs.length ≤ c) (k : Nat) (hk : k ≤ xs.length) : X.Ops I w (X.cut a c k) (xs.drop k) := by
  refine ⟨X.flat_len _, ?_⟩
  rcases Nat.lt_or_ge k xs.length with h1 | h1
  · rcases h.2 with h0 | ⟨g, o, rfl, hI, hcl⟩
    · omega
    · refine .inr ⟨g, o + k * 8, ?_, hI, fun j u hu => ?_⟩
      · unfold X.cut; rw [if_neg (by omega)]; simp [Addr.add_lit]
      · rw [Nat.add_assoc]
        refine hcl _ u ?_
        have e : X.flat xs = X.flat (xs.take k) ++ X.flat (xs.drop k) := by rw [← X.flat_append, List.take_append_drop]
        rw [e, List.getElem?_append_right (by rw [X.flat_len, List.length_take]; have : min k xs.length = k := by omega
                                              rw [this]; omega), X.flat_len, List.length_take, show min k xs.length = k by omega, Nat.add_sub_cancel_left]
        exact hu
  · exact .inl (by rw [List.length_drop]; omega)
theorem X.Ops.take {I : Nat → Prop} {w : World} {a : Option Addr} {xs : List S.Op} (h : X.Ops I w a xs) (k : Nat) : X.Ops I w a (xs.take k) := by
  refine ⟨X.flat_len _, ?_⟩
  rcases h.2 with h0 | ⟨g, o, ha, hI, hcl⟩
  · exact .inl (by rw [List.length_take]; omega)
  · refine .inr ⟨g, o, ha, hI, fun j u hu => hcl j u ?_⟩
    have e : X.flat xs = X.flat (xs.take k) ++ X.flat (xs.drop k) := by rw [← X.flat_append, List.take_append_drop]
    rw [e, List.getElem?_append_left (List.getElem?_eq_some_iff.1 hu).1]
    exact hu
/-- one more operation, behind the others -/
theorem X.append (w : World) (ra : Option Addr) (rc n : Nat) (xs : List Value) (hrow : Ro w 43 8 ra n rc xs) (hb : n ≤ 2000000000000) (o : S.Op) :
    ∃ ra' rc' w', (Builtin.append_ #[28, 28] 28 #[.slice ra n rc, .slice (some ⟨w.heap.size, 0, none⟩) 1 1]).run Try.prog (w.alloc (.cells o.cs 43)) = .ok (.slice ra' (n + 1) rc') w' ∧
      Ro w' 43 8 ra' (n + 1) rc' (xs ++ o.cs.toList) ∧ Fr (fun k => blk ra = some k) w w' ∧ (∀ k, blk ra' = some k → blk ra = some k ∨ w.heap.size ≤ k) := by
  obtain ⟨i0, z0, hi, hz0, hz1, hz2, hz3⟩ := X.info_o
  have f0 : Fr (fun _ => False) w (w.alloc (.cells o.cs 43)) := Fr.alloc (Fr.refl _ _) _
  have hn := Go.heap_alloc_new w (.cells o.cs 43)
  obtain ⟨a', c', w', hr, h2, h3, h4⟩ := run_append_o (P := Try.prog) (w.alloc (.cells o.cs 43)) 28 28 43 i0 z0 8 88 Try.underlying28 hi hz0 hz1 hz2 hz3 (by omega) ra n rc xs (hrow.kept f0 (fun _ _ h => h)) ⟨w.heap.size, 0, none⟩ 1 1 o.cs.toList rfl (fun j u hu => by
    rw [Addr.add_lit, Nat.zero_add]
    exact cell_at hn (by rw [← Array.getElem?_toList]; exact hu)) (fun u hu => by simp at hu; rcases hu with rfl | rfl | rfl | rfl | rfl | rfl | rfl | rfl <;> rfl) (by omega) (by omega) (by omega)
  refine ⟨a', c', w', hr, h2, (f0.mono (fun _ _ h => h.elim)).trans (Fr.of_grown h3) (fun i hi e => e), fun k hk => ?_⟩
  rcases h4 with ⟨rfl, _⟩ | ⟨rfl, _⟩
  · exact .inl hk
  · simp [blk] at hk; exact .inr (by omega)
end Go.Proofs.Ytedgiffnfhkonaa

/-
  When two entries are the same, part by part; and what SameEntry's walk is told. (gen/gen_asame.py)
-/
import Derived.Test.YtcmpkbgkhbcekaaDoorAEq
namespace Go.Proofs.YtcmpkbgkhbcekaaDoor
open Go.RowKit
set_option linter.unusedVariables false
set_option linter.unusedSimpArgs false

/-- the parts of an entry, as they are held against each other -/
structure A.Pa where
  f : Nat → Int
  g : Nat → ByteArray
  ops : List (List Value)
  dt : List UInt8
def A.Pa.op (x : A.Pa) : A.Op8 := ⟨x.f 3, x.f 4, x.f 5, x.f 6, x.f 7, x.g 8, x.g 9, x.g 10⟩
def A.Pa.ep (x : A.Pa) : List Value := A.ints 25 (fun j => x.f (j + 14))
def A.Pa.ve (x : A.Pa) : List Value := A.ints 8 (fun j => x.f (j + 40))
def A.Pa.En (x : A.Pa) : A.En := ⟨A.cells x.f x.g, x.ops, x.dt⟩
theorem A.cell_int {f : Nat → Int} {g : Nat → ByteArray} {j : Nat} (h : A.tyAt j = 0) : A.cell f g j = .int .i64 (f j) := by simp [A.cell, h]
theorem A.cell_str {f : Nat → Int} {g : Nat → ByteArray} {j : Nat} (h : A.tyAt j = 1) : A.cell f g j = .string (g j) := by simp [A.cell, h]
theorem A.Pa.eq_iff {x y : A.Pa} : x.En = y.En ↔ (x.f 0 = y.f 0 ∧ x.f 1 = y.f 1 ∧ x.f 2 = y.f 2 ∧ x.op.cs = y.op.cs ∧ x.f 11 = y.f 11 ∧ x.f 12 = y.f 12 ∧ x.ops = y.ops ∧ x.ep = y.ep ∧ x.f 39 = y.f 39 ∧ x.ve = y.ve ∧ x.f 48 = y.f 48 ∧ (x.f 49 = y.f 49 ∧ x.f 50 = y.f 50 ∧ x.f 51 = y.f 51 ∧ x.dt = y.dt) ∧ x.f 53 = y.f 53 ∧ x.f 54 = y.f 54 ∧ x.f 55 = y.f 55) := by
  constructor
  · intro h
    simp only [A.Pa.En, A.En.mk.injEq] at h
    obtain ⟨h1, h2, h3⟩ := h
    rw [A.cells_eq] at h1
    have hi : ∀ j, j < 56 → A.tyAt j = 0 → x.f j = y.f j := fun j hj ht => by
      have := h1 j hj
      rw [A.cell_int ht, A.cell_int ht] at this
      simpa using this
    have hs : ∀ j, j < 56 → A.tyAt j = 1 → x.g j = y.g j := fun j hj ht => by
      have := h1 j hj
      rw [A.cell_str ht, A.cell_str ht] at this
      simpa using this
    have hop : x.op = y.op := by
      unfold A.Pa.op
      rw [hi 3 (by omega) rfl, hi 4 (by omega) rfl, hi 5 (by omega) rfl, hi 6 (by omega) rfl, hi 7 (by omega) rfl, hs 8 (by omega) rfl, hs 9 (by omega) rfl, hs 10 (by omega) rfl]
    refine ⟨hi 0 (by omega) rfl, hi 1 (by omega) rfl, hi 2 (by omega) rfl, by rw [hop], hi 11 (by omega) rfl, hi 12 (by omega) rfl, h2, ?_, hi 39 (by omega) rfl, ?_, hi 48 (by omega) rfl, ⟨hi 49 (by omega) rfl, hi 50 (by omega) rfl, hi 51 (by omega) rfl, h3⟩, hi 53 (by omega) rfl, hi 54 (by omega) rfl, hi 55 (by omega) rfl⟩
    · unfold A.Pa.ep; rw [A.ints_iff]; intro j hj; exact hi _ (by omega) (by unfold A.tyAt; rw [if_neg (by omega), if_neg (by omega)])
    · unfold A.Pa.ve; rw [A.ints_iff]; intro j hj; exact hi _ (by omega) (by unfold A.tyAt; rw [if_neg (by omega), if_neg (by omega)])
  · rintro ⟨h0, h1, h2, ho, h11, h12, hs, he, h39, hv, h48, ⟨h49, h50, h51, hd⟩, h53, h54, h55⟩
    simp only [A.Pa.op, A.Op8.cs, List.cons.injEq, Value.int.injEq, Value.string.injEq, true_and, and_true] at ho
    unfold A.Pa.ep at he
    unfold A.Pa.ve at hv
    rw [A.ints_iff] at he hv
    simp only [A.Pa.En, A.En.mk.injEq]
    refine ⟨A.cells_eq.2 (fun j hj => ?_), hs, hd⟩
    have key : ∀ j, j < 56 → (A.tyAt j = 0 → x.f j = y.f j) ∧ (A.tyAt j = 1 → x.g j = y.g j) := by
      intro j hj
      by_cases r1 : 14 ≤ j ∧ j < 39
      · exact ⟨fun _ => by have := he (j - 14) (by omega); rwa [show j - 14 + 14 = j by omega] at this, fun h => by unfold A.tyAt at h; rw [if_neg (by omega), if_neg (by omega)] at h; cases h⟩
      · by_cases r2 : 40 ≤ j ∧ j < 48
        · exact ⟨fun _ => by have := hv (j - 40) (by omega); rwa [show j - 40 + 40 = j by omega] at this, fun h => by unfold A.tyAt at h; rw [if_neg (by omega), if_neg (by omega)] at h; cases h⟩
        · have hc : j = 0 ∨ j = 1 ∨ j = 2 ∨ j = 3 ∨ j = 4 ∨ j = 5 ∨ j = 6 ∨ j = 7 ∨ j = 8 ∨ j = 9 ∨ j = 10 ∨ j = 11 ∨ j = 12 ∨ j = 13 ∨ j = 39 ∨ j = 48 ∨ j = 49 ∨ j = 50 ∨ j = 51 ∨ j = 52 ∨ j = 53 ∨ j = 54 ∨ j = 55 := by omega
          rcases hc with rfl | rfl | rfl | rfl | rfl | rfl | rfl | rfl | rfl | rfl | rfl | rfl | rfl | rfl | rfl | rfl | rfl | rfl | rfl | rfl | rfl | rfl | rfl <;> simp_all [A.tyAt]
    unfold A.cell
    split
    · rename_i ht; rw [(key j hj).1 ht]
    · split
      · rename_i ht; rw [(key j hj).2 ht]
      · rfl
/-- WHAT THE WALK OF SameEntry IS TOLD: W is the world behind the two boxes. -/
structure SE (w W : World) (x y : A.Pa) (vO vO' vE vE' vV vV' : Value) (rO rE rV : Bool) (a1 a2 b1 b2 : Option Addr) (c1 c2 d1 d2 : Nat) : Prop where
  fw : Fr (fun _ => False) w W
  lo : ∀ V : World, Fr (fun _ => False) W V → (Instr.loadAt 26 (.pointer (some ⟨w.heap.size, 3, none⟩))).run Tryd.prog V = .ok vO V ∧ (Instr.loadAt 26 (.pointer (some ⟨w.heap.size + 1, 3, none⟩))).run Tryd.prog V = .ok vO' V
  le : ∀ V : World, Fr (fun _ => False) W V → (Instr.loadAt 32 (.pointer (some ⟨w.heap.size, 14, none⟩))).run Tryd.prog V = .ok vE V ∧ (Instr.loadAt 32 (.pointer (some ⟨w.heap.size + 1, 14, none⟩))).run Tryd.prog V = .ok vE' V
  lv : ∀ V : World, Fr (fun _ => False) W V → (Instr.loadAt 30 (.pointer (some ⟨w.heap.size, 40, none⟩))).run Tryd.prog V = .ok vV V ∧ (Instr.loadAt 30 (.pointer (some ⟨w.heap.size + 1, 40, none⟩))).run Tryd.prog V = .ok vV' V
  lp : ∀ V : World, Fr (fun _ => False) W V → (Instr.loadAt 35 (.pointer (some ⟨w.heap.size, 49, none⟩))).run Tryd.prog V = .ok (.agg #[.int .i64 (x.f 49), .int .i64 (x.f 50), .int .i64 (x.f 51), .slice a2 x.dt.length c2]) V ∧ (Instr.loadAt 35 (.pointer (some ⟨w.heap.size + 1, 49, none⟩))).run Tryd.prog V = .ok (.agg #[.int .i64 (y.f 49), .int .i64 (y.f 50), .int .i64 (y.f 51), .slice b2 y.dt.length d2]) V
  eo : ∀ V : World, (binOp .eql 26 vO vO').run Tryd.prog V = .ok (.bool rO) V
  ee : ∀ V : World, (binOp .eql 32 vE vE').run Tryd.prog V = .ok (.bool rE) V
  ev : ∀ V : World, (binOp .eql 30 vV vV').run Tryd.prog V = .ok (.bool rV) V
  go : ∀ p q V, (eqGuard .eql 26 p q vO vO').run Tryd.prog V = .ok () V
  ge : ∀ p q V, (eqGuard .eql 32 p q vE vE').run Tryd.prog V = .ok () V
  gv : ∀ p q V, (eqGuard .eql 30 p q vV vV').run Tryd.prog V = .ok () V
  io : rO = true ↔ x.op.cs = y.op.cs
  ie : rE = true ↔ x.ep = y.ep
  iv : rV = true ↔ x.ve = y.ve
  ci : ∀ V : World, Fr (fun _ => False) W V → (∀ j, j < 56 → A.tyAt j = 0 → V.cell? ⟨w.heap.size, j, none⟩ = some (.int .i64 (x.f j))) ∧ (∀ j, j < 56 → A.tyAt j = 0 → V.cell? ⟨w.heap.size + 1, j, none⟩ = some (.int .i64 (y.f j)))
  cs : ∀ V : World, Fr (fun _ => False) W V → V.cell? ⟨w.heap.size, 13, none⟩ = some (.slice a1 x.ops.length c1) ∧ V.cell? ⟨w.heap.size + 1, 13, none⟩ = some (.slice b1 y.ops.length d1)
  ko : ∀ V : World, Fr (fun _ => False) W V → Calls Tryd.prog 32 #[.slice a1 x.ops.length c1, .slice b1 y.ops.length d1] V fun e w' => ∃ r : Bool, e = .returned (.bool r) ∧ (r = true ↔ x.ops = y.ops) ∧ ∃ q, w' = V.drewN q
  kp : ∀ V : World, Fr (fun _ => False) W V → Calls Tryd.prog 33 #[.agg #[.int .i64 (x.f 49), .int .i64 (x.f 50), .int .i64 (x.f 51), .slice a2 x.dt.length c2], .agg #[.int .i64 (y.f 49), .int .i64 (y.f 50), .int .i64 (y.f 51), .slice b2 y.dt.length d2]] V fun e w' => ∃ r : Bool, e = .returned (.bool r) ∧ (r = true ↔ x.f 49 = y.f 49 ∧ x.f 50 = y.f 50 ∧ x.f 51 = y.f 51 ∧ x.dt = y.dt) ∧ Fr (fun _ => False) V w'
theorem eql_all {t : TypeId} {xs ys : Array Value} {p : Prop} (h : ∀ W : World, ∃ r : Bool, (Op.equalIn 10000 t (.agg xs) (.agg ys)).run Tryd.prog W = .ok r W ∧ (r = true ↔ p)) (w : World) : ∃ r : Bool, (∀ V, (binOp .eql t (.agg xs) (.agg ys)).run Tryd.prog V = .ok (.bool r) V) ∧ (r = true ↔ p) := by
  obtain ⟨r, h1, h2⟩ := h w
  refine ⟨r, fun V => ?_, h2⟩
  obtain ⟨r', h1', h2'⟩ := h V
  rw [run_eql_struct, h1', show r' = r by rw [Bool.eq_iff_iff, h2, h2']]
  rfl
theorem SE.mk' {I J : Nat → Prop} {w : World} {ca cb : Array Value} {x y : A.Pa} {a1 a2 b1 b2 : Option Addr} {c1 c2 d1 d2 : Nat} (hca : ca = (((A.cells x.f x.g).set 13 (.slice a1 x.ops.length c1)).set 52 (.slice a2 x.dt.length c2)).toArray) (hcb : cb = (((A.cells y.f y.g).set 13 (.slice b1 y.ops.length d1)).set 52 (.slice b2 y.dt.length d2)).toArray)
    (xo : Rw I w 8 a1 x.ops.length x.ops.flatten) (xd : Rw I w 1 a2 x.dt.length (x.dt.map B)) (yo : Rw J w 8 b1 y.ops.length y.ops.flatten) (yd : Rw J w 1 b2 y.dt.length (y.dt.map B))
    (hx : ∀ o ∈ x.ops, ∃ p : A.Op8, o = p.cs) (hy : ∀ o ∈ y.ops, ∃ p : A.Op8, o = p.cs) (hlx : x.ops.length ≤ 1599289640401) :
    ca.size = 56 ∧ cb.size = 56 ∧ ∃ vO vO' vE vE' vV vV' rO rE rV, SE w ((w.alloc (.cells ca 37)).alloc (.cells cb 37)) x y vO vO' vE vE' vV vV' rO rE rV a1 a2 b1 b2 c1 c2 d1 d2 := by
  obtain ⟨W, hW⟩ : ∃ W, (w.alloc (.cells ca 37)).alloc (.cells cb 37) = W := ⟨_, rfl⟩
  have fW : Fr (fun _ => False) w W := by rw [← hW]; exact Fr.alloc (Fr.alloc (Fr.refl _ _) _) _
  have hA : W.heap[w.heap.size]? = some (.cells ca 37 (0, 0)) := by rw [← hW]; exact (Below.heap_alloc _ _ _ (by simp)).trans (Go.heap_alloc_new w _)
  have hB : W.heap[w.heap.size + 1]? = some (.cells cb 37 (0, 0)) := by
    have h1 := Go.heap_alloc_new (w.alloc (.cells ca 37)) (.cells cb 37)
    rw [World.size_alloc] at h1
    rw [← hW]; exact h1
  refine ⟨by rw [hca]; simp [A.cells], by rw [hcb]; simp [A.cells], ?_⟩
  rw [hW]
  have LA := fun (V : World) (hf : Fr (fun _ => False) W V) => Le.of (w := V) (b := w.heap.size) (f := x.f) (g := x.g) (a1 := a1) (a2 := a2) (n1 := x.ops.length) (c1 := c1) (n2 := x.dt.length) (c2 := c2) (by rw [← hca]; exact hf.cells hA (fun h => h))
  have LB := fun (V : World) (hf : Fr (fun _ => False) W V) => Le.of (w := V) (b := w.heap.size + 1) (f := y.f) (g := y.g) (a1 := b1) (a2 := b2) (n1 := y.ops.length) (c1 := d1) (n2 := y.dt.length) (c2 := d2) (by rw [← hcb]; exact hf.cells hB (fun h => h))
  obtain ⟨rO, eO, iO⟩ := eql_all (eqv_Op x.op y.op) w
  obtain ⟨rE, eE, iE⟩ := eql_all (eqv_Ep (fun j => x.f (j + 14)) (fun j => y.f (j + 14))) w
  obtain ⟨rV, eV, iV⟩ := eql_all (eqv_Ve (fun j => x.f (j + 40)) (fun j => y.f (j + 40))) w
  exact ⟨_, _, _, _, _, _, rO, rE, rV, ⟨fW, fun V hf => ⟨(LA V hf).o, (LB V hf).o⟩, fun V hf => ⟨(LA V hf).e, (LB V hf).e⟩, fun V hf => ⟨(LA V hf).v, (LB V hf).v⟩, fun V hf => ⟨(LA V hf).p, (LB V hf).p⟩, eO, eE, eV,
    fun p q V => guard_of (by kernel_rfl) p q _ _ V, fun p q V => guard_of (by kernel_rfl) p q _ _ V, fun p q V => guard_of (by kernel_rfl) p q _ _ V, iO, iE, iV, fun V hf => ⟨(LA V hf).i, (LB V hf).i⟩, fun V hf => ⟨(LA V hf).s, (LB V hf).s⟩,
    fun V hf => sameOps_any (xo.kept (fW.trans hf (fun _ _ h => h)) (fun _ _ h => h)) (yo.kept (fW.trans hf (fun _ _ h => h)) (fun _ _ h => h)) hx hy hlx,
    fun V hf => samePart_any (xd.kept (fW.trans hf (fun _ _ h => h)) (fun _ _ h => h)) (yd.kept (fW.trans hf (fun _ _ h => h)) (fun _ _ h => h)) _ _ _ _ _ _⟩⟩
end Go.Proofs.YtcmpkbgkhbcekaaDoor

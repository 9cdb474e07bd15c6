/-
  Stamps: which may be, their order, nodes' numbers: the code's and the document's.
-/
import Derived.Test.YtedgiffnfhkonaaMem
import Derived.LoopN
import Derived.WalkSpells
import Derived.Deep.RegionHeld3
namespace Go.Proofs.Ytedgiffnfhkonaa
open Go.RowKit
set_option linter.unusedVariables false
set_option linter.unusedSimpArgs false

/-- a stamp may be -/
def S.ok (t s : Int) : Bool := decide (1 ≤ t ∧ t ≤ 1099511627776 ∧ 0 ≤ s ∧ s < 8)
/-- the order of two numbers -/
def S.c1 (a b : Int) : Int := if a < b then -1 else if b < a then 1 else 0
/-- the order of two stamps -/
def S.cmp (a b c d : Int) : Int := if S.c1 a c = 0 then S.c1 b d else S.c1 a c

/-- two stamps that were handed in, each in its box -/
abbrev S.Two (w : World) (a1 a2 b1 b2 : Int) : World → Prop := fun V => V.cell? ⟨w.heap.size, 0, none⟩ = some (.int .i64 a1) ∧ V.cell? ⟨w.heap.size, 1, none⟩ = some (.int .i64 a2) ∧ V.cell? ⟨w.heap.size + 1, 0, none⟩ = some (.int .i64 b1) ∧ V.cell? ⟨w.heap.size + 1, 1, none⟩ = some (.int .i64 b2)
theorem S.two_any (w : World) (a1 a2 b1 b2 : Int) (t u : TypeId) (V : World) (hf : Fr (fun _ => False) ((w.alloc (.cells #[.int .i64 a1, .int .i64 a2] t)).alloc (.cells #[.int .i64 b1, .int .i64 b2] u)) V) : S.Two w a1 a2 b1 b2 V := by
  have ba : ((w.alloc (.cells #[.int .i64 a1, .int .i64 a2] t)).alloc (.cells #[.int .i64 b1, .int .i64 b2] u)).heap[w.heap.size]? = some (.cells #[.int .i64 a1, .int .i64 a2] t (0, 0)) := (Below.heap_alloc _ _ _ (by simp)).trans (Go.heap_alloc_new w _)
  have bb : ((w.alloc (.cells #[.int .i64 a1, .int .i64 a2] t)).alloc (.cells #[.int .i64 b1, .int .i64 b2] u)).heap[w.heap.size + 1]? = some (.cells #[.int .i64 b1, .int .i64 b2] u (0, 0)) := by
    have h1 := Go.heap_alloc_new (w.alloc (.cells #[.int .i64 a1, .int .i64 a2] t)) (.cells #[.int .i64 b1, .int .i64 b2] u)
    rw [World.size_alloc] at h1
    exact h1
  exact ⟨cellA (hf.cells ba (fun h => h)) rfl, cellA (hf.cells ba (fun h => h)) rfl, cellA (hf.cells bb (fun h => h)) rfl, cellA (hf.cells bb (fun h => h)) rfl⟩
theorem S.cmp_ref (a1 a2 b1 b2 : Int) : S.cmp a1 a2 b1 b2 = if a1 < b1 ∨ a1 = b1 ∧ a2 < b2 then -1 else if a1 = b1 ∧ a2 = b2 then 0 else 1 := by
  simp only [S.cmp, S.c1]
  repeat' split
  all_goals omega
set_option maxHeartbeats 800000 in
theorem scheck_any (t s : Int) (w : World) : Calls Try.prog 22 #[.agg #[.int .i64 t, .int .i64 s]] w fun e w' => e = .returned (.bool (S.ok t s)) ∧ Fr (fun _ => False) w w' := by
  by_cases h1 : 1 ≤ t <;> by_cases h2 : t ≤ 1099511627776 <;> by_cases h3 : 0 ≤ s <;> by_cases h4 : s < 8 <;>
  · first
    | (exfalso; omega)
    | (simp only [S.ok, h1, h2, h3, h4, and_true, and_false, true_and, false_and, decide_true, decide_false]
       go_enter Try.func22, Try.ntmps22
       go_wp2
       all_goals (go_ret; exact ⟨rfl, Fr.alloc (Fr.refl _ _) _⟩))
set_option maxHeartbeats 800000 in
theorem rscheck_any (t s : Int) (w : World) : Calls Try.prog 17 #[.agg #[.int .i64 t, .int .i64 s]] w fun e w' => e = .returned (.bool (S.ok t s)) ∧ Fr (fun _ => False) w w' := by
  by_cases h1 : 1 ≤ t <;> by_cases h2 : t ≤ 1099511627776 <;> by_cases h3 : 0 ≤ s <;> by_cases h4 : s < 8 <;>
  · first
    | (exfalso; omega)
    | (simp only [S.ok, h1, h2, h3, h4, and_true, and_false, true_and, false_and, decide_true, decide_false]
       go_enter Try.func17, Try.ntmps17
       go_wp2
       all_goals (go_ret; exact ⟨rfl, Fr.alloc (Fr.refl _ _) _⟩))
end Go.Proofs.Ytedgiffnfhkonaa

/-
  Ballots, and slots: Check, isSlot, inOrder, Compare, and the document's.
-/
import Derived.Test.YtedhmhlhjonloaaMem
import Derived.LoopN
namespace Go.Proofs.Ytedhmhlhjonloaa
open Go.RowKit
set_option linter.unusedVariables false
set_option linter.unusedSimpArgs false

/-- a ballot: its round, its replica -/
abbrev A.Bl := Int × Int
def A.okB (b : A.Bl) : Bool := decide (1 ≤ b.1 ∧ b.1 ≤ 1099511627776 ∧ 0 ≤ b.2 ∧ b.2 < 5)
def A.okS (s : Int) : Bool := decide (0 ≤ s ∧ s ≤ 1099511627776)
/-- a is no greater than b -/
def A.le (a b : A.Bl) : Bool := decide (a.1 < b.1 ∨ a.1 = b.1 ∧ a.2 ≤ b.2)
def A.cmp (a b : A.Bl) : Int := if A.le b a = false then -1 else if A.le a b = false then 1 else 0
abbrev A.bv (b : A.Bl) : Value := .agg #[.int .i64 b.1, .int .i64 b.2]

set_option maxHeartbeats 800000 in
theorem check_any (r p : Int) (w : World) : Calls Try.prog 33 #[.agg #[.int .i64 r, .int .i64 p]] w fun e w' => e = .returned (.bool (A.okB (r, p))) ∧ Fr (fun _ => False) w w' := by
  by_cases h1 : 1 ≤ r <;> by_cases h2 : r ≤ 1099511627776 <;> by_cases h3 : 0 ≤ p <;> by_cases h4 : p < 5 <;>
  · first
    | (exfalso; omega)
    | (simp only [A.okB, h1, h2, h3, h4, and_true, and_false, true_and, false_and, decide_true, decide_false]
       go_enter Try.func33, Try.ntmps33
       go_wp2
       all_goals (go_ret; exact ⟨rfl, Fr.alloc (Fr.refl _ _) _⟩))
set_option maxHeartbeats 800000 in
theorem rcheck_any (r p : Int) (w : World) : Calls Try.prog 23 #[.agg #[.int .i64 r, .int .i64 p]] w fun e w' => e = .returned (.bool (A.okB (r, p))) ∧ Fr (fun _ => False) w w' := by
  by_cases h1 : 1 ≤ r <;> by_cases h2 : r ≤ 1099511627776 <;> by_cases h3 : 0 ≤ p <;> by_cases h4 : p < 5 <;>
  · first
    | (exfalso; omega)
    | (simp only [A.okB, h1, h2, h3, h4, and_true, and_false, true_and, false_and, decide_true, decide_false]
       go_enter Try.func23, Try.ntmps23
       go_wp2
       all_goals (go_ret; exact ⟨rfl, Fr.alloc (Fr.refl _ _) _⟩))
set_option maxHeartbeats 800000 in
theorem isSlot_any (s : Int) (w : World) : Calls Try.prog 38 #[.int .i64 s] w fun e w' => e = .returned (.bool (A.okS s)) ∧ w = w' := by
  by_cases h1 : 0 ≤ s <;> by_cases h2 : s ≤ 1099511627776 <;>
  · first
    | (exfalso; omega)
    | (simp only [A.okS, h1, h2, and_true, and_false, true_and, false_and, decide_true, decide_false]
       go_enter Try.func38, Try.ntmps38
       go_wp2
       all_goals (go_ret; exact ⟨rfl, rfl⟩))
set_option maxHeartbeats 800000 in
theorem rslot_any (s : Int) (w : World) : Calls Try.prog 24 #[.int .i64 s] w fun e w' => e = .returned (.bool (A.okS s)) ∧ w = w' := by
  by_cases h1 : 0 ≤ s <;> by_cases h2 : s ≤ 1099511627776 <;>
  · first
    | (exfalso; omega)
    | (simp only [A.okS, h1, h2, and_true, and_false, true_and, false_and, decide_true, decide_false]
       go_enter Try.func24, Try.ntmps24
       go_wp2
       all_goals (go_ret; exact ⟨rfl, rfl⟩))
set_option maxHeartbeats 1600000 in
theorem inOrder_no (a1 a2 b1 b2 : Int) (w : World) (g c : Nat) (h0 : w.cell? ⟨g, 0, none⟩ = some (.int .i64 a1)) (h1 : w.cell? ⟨g, 1, none⟩ = some (.int .i64 a2)) (h2 : w.cell? ⟨g, 2, none⟩ = some (.int .i64 b1)) (h3 : w.cell? ⟨g, 3, none⟩ = some (.int .i64 b2)) (k : b1 < a1 ∨ a1 = b1 ∧ b2 < a2) :
    Calls Try.prog 54 #[.slice (some ⟨g, 0, none⟩) 2 c] w fun e w' => e = .returned (.bool false) ∧ Fr (fun _ => False) w w' := by
  have hg : g < w.heap.size := World.block_lt_of_cell? w _ h0
  rcases k with k1 | ⟨rfl, k2⟩ <;>
  · go_enter Try.func54, Try.ntmps54
    go_wp2
    refine wp_loop_rounds 2 ?_
    rw [rounds_succ]
    go_wp2
    go_region
    all_goals (go_wp2; go_ret; exact ⟨rfl, Fr.drew (Fr.alloc (Fr.alloc (Fr.refl _ _) _) _)⟩)
set_option maxHeartbeats 1600000 in
theorem inOrder_yes (a1 a2 b1 b2 : Int) (w : World) (g c : Nat) (h0 : w.cell? ⟨g, 0, none⟩ = some (.int .i64 a1)) (h1 : w.cell? ⟨g, 1, none⟩ = some (.int .i64 a2)) (h2 : w.cell? ⟨g, 2, none⟩ = some (.int .i64 b1)) (h3 : w.cell? ⟨g, 3, none⟩ = some (.int .i64 b2)) (k : a1 < b1 ∨ a1 = b1 ∧ a2 ≤ b2) :
    Calls Try.prog 54 #[.slice (some ⟨g, 0, none⟩) 2 c] w fun e w' => e = .returned (.bool true) ∧ Fr (fun _ => False) w w' := by
  have hg : g < w.heap.size := World.block_lt_of_cell? w _ h0
  rcases k with k1 | ⟨rfl, k2⟩
  · have k2 : a1 ≠ b1 := by omega
    go_enter Try.func54, Try.ntmps54
    go_wp2
    refine wp_loop_rounds 2 ?_
    rw [rounds_succ]
    go_wp2
    go_region
    all_goals (go_wp2; rw [rounds_succ]; go_wp2; go_ret; exact ⟨rfl, Fr.drew (Fr.alloc (Fr.alloc (Fr.refl _ _) _) _)⟩)
  · go_enter Try.func54, Try.ntmps54
    go_wp2
    refine wp_loop_rounds 2 ?_
    rw [rounds_succ]
    go_wp2
    go_region
    all_goals (go_wp2; rw [rounds_succ]; go_wp2; go_ret; exact ⟨rfl, Fr.drew (Fr.alloc (Fr.alloc (Fr.refl _ _) _) _)⟩)
/-- inOrder of two ballots, as a call with two lays them -/
theorem inOrder_any (a1 a2 b1 b2 : Int) (w : World) (g c : Nat) (t : TypeId) (m : Nat × Nat) (h : w.heap[g]? = some (.cells #[.int .i64 a1, .int .i64 a2, .int .i64 b1, .int .i64 b2] t m)) :
    Calls Try.prog 54 #[.slice (some ⟨g, 0, none⟩) 2 c] w fun e w' => e = .returned (.bool (A.le (a1, a2) (b1, b2))) ∧ Fr (fun _ => False) w w' := by
  by_cases k : a1 < b1 ∨ a1 = b1 ∧ a2 ≤ b2
  · rw [show A.le (a1, a2) (b1, b2) = true by simp only [A.le, decide_eq_true_eq]; exact k]
    exact inOrder_yes a1 a2 b1 b2 w g c (cellA (j := 0) h rfl) (cellA (j := 1) h rfl) (cellA (j := 2) h rfl) (cellA (j := 3) h rfl) k
  · rw [show A.le (a1, a2) (b1, b2) = false by simp only [A.le, decide_eq_false_iff_not]; exact k]
    exact inOrder_no a1 a2 b1 b2 w g c (cellA (j := 0) h rfl) (cellA (j := 1) h rfl) (cellA (j := 2) h rfl) (cellA (j := 3) h rfl) (by omega)
theorem cmp_ref (a1 a2 b1 b2 : Int) : A.cmp (a1, a2) (b1, b2) = if a1 < b1 ∨ a1 = b1 ∧ a2 < b2 then -1 else if a1 = b1 ∧ a2 = b2 then 0 else 1 := by
  simp only [A.cmp, A.le, decide_eq_false_iff_not]
  split <;> split <;> (try split) <;> omega
set_option maxHeartbeats 1600000 in
theorem rcompare_any (a1 a2 b1 b2 : Int) (w : World) : Calls Try.prog 22 #[.agg #[.int .i64 a1, .int .i64 a2], .agg #[.int .i64 b1, .int .i64 b2]] w fun e w' => e = .returned (.int .i64 (A.cmp (a1, a2) (b1, b2))) ∧ Fr (fun _ => False) w w' := by
  rw [cmp_ref]
  by_cases k1 : a1 < b1
  · rw [if_pos (by omega)]
    go_enter Try.func22, Try.ntmps22
    go_wp2
    go_ret
    exact ⟨rfl, Fr.alloc (Fr.alloc (Fr.refl _ _) _) _⟩
  by_cases k2 : a1 = b1
  · subst k2
    by_cases k3 : a2 < b2
    · rw [if_pos (by omega)]
      go_enter Try.func22, Try.ntmps22
      go_wp2
      go_ret
      exact ⟨rfl, Fr.alloc (Fr.alloc (Fr.refl _ _) _) _⟩
    · by_cases k4 : a2 = b2
      · subst k4
        rw [if_neg (by omega), if_pos (by omega)]
        go_enter Try.func22, Try.ntmps22
        go_wp2
        go_ret
        exact ⟨rfl, Fr.alloc (Fr.alloc (Fr.refl _ _) _) _⟩
      · rw [if_neg (by omega), if_neg (by omega)]
        go_enter Try.func22, Try.ntmps22
        go_wp2
        go_ret
        exact ⟨rfl, Fr.alloc (Fr.alloc (Fr.refl _ _) _) _⟩
  · rw [if_neg (by omega), if_neg (by omega)]
    go_enter Try.func22, Try.ntmps22
    go_wp2
    go_ret
    exact ⟨rfl, Fr.alloc (Fr.alloc (Fr.refl _ _) _) _⟩
end Go.Proofs.Ytedhmhlhjonloaa

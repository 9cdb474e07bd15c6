/-
  Ballots, and slots: Check, isSlot, inOrder, Compare, and the document's.
-/
import Derived.Test.YtcmpkbgkhbcekaaDoorMem
import Derived.LoopN
namespace Go.Proofs.YtcmpkbgkhbcekaaDoor
open Go.RowKit
set_option linter.unusedVariables false
set_option linter.unusedSimpArgs false

/-- a ballot: its round, its replica -/
abbrev A.Bl := Int × Int
def A.okB (b : A.Bl) : Bool := decide (1 ≤ b.1 ∧ b.1 ≤ 1099511627776 ∧ 0 ≤ b.2 ∧ b.2 < 5)
def A.okS (s : Int) : Bool := decide (0 ≤ s ∧ s ≤ 1099511627776)
/-- a is no greater than b -/
def A.le (a b : A.Bl) : Bool := decide (a.1 < b.1 ∨ a.1 = b.1 ∧ a.2 ≤ b.2)
def A.cmp (a b : A.Bl) : Int := if A.le b a = false then -1 else if A.le a b = false then 1 else 0
abbrev A.bv (b : A.Bl) : Value := .agg #[.int .i64 b.1, .int .i64 b.2]

theorem cmp_ref (a1 a2 b1 b2 : Int) : A.cmp (a1, a2) (b1, b2) = if a1 < b1 ∨ a1 = b1 ∧ a2 < b2 then -1 else if a1 = b1 ∧ a2 = b2 then 0 else 1 := by
  simp only [A.cmp, A.le, decide_eq_false_iff_not]
  split <;> split <;> (try split) <;> omega
end Go.Proofs.YtcmpkbgkhbcekaaDoor

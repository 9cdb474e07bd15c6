/-
  The document's From. (gen/gen_rfrom.py)
-/
import Derived.Test.YtedhmhlhjonloaaAFrom2
namespace Go.Proofs.Ytedhmhlhjonloaa
open Go.RowKit Go.Maps
set_option linter.unusedVariables false
set_option linter.unusedSimpArgs false

/-- what the document's From answers -/
def Fg (w : World) (R : Int × A.Ac) (r : Ending) (w' : World) : Prop := ∃ v, r = .returned (.tuple #[v, .int .i64 R.1]) ∧ ((R.1 ≠ 0 ∧ v = .pointer none) ∨ (R.1 = 0 ∧ ∃ q J, v = ptrV q ∧ w.heap.size ≤ q ∧ (∀ k, J k → w.heap.size ≤ k) ∧ Rg J w' q R.2)) ∧ Fr (fun _ => False) w w'
theorem A.le_total (a b : A.Bl) (h : A.le a b = false) : A.le b a = true := by
  unfold A.le at *
  simp at h ⊢
  omega
theorem A.cmp_gt {a b : A.Bl} : 0 < A.cmp a b ↔ A.le a b = false := by
  unfold A.cmp
  constructor
  · intro h
    split at h
    · omega
    · split at h
      · assumption
      · omega
  · intro h
    rw [if_neg (by rw [A.le_total a b h]; simp), if_pos h]
    omega
end Go.Proofs.Ytedhmhlhjonloaa

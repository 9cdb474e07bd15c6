/-
  Vectors held against each other.
-/
import Derived.Test.YtedgiffnfhkonaaSFold
import Derived.ChangeKeysEq
namespace Go.Proofs.Ytedgiffnfhkonaa
open Go.RowKit
set_option linter.unusedVariables false
set_option linter.unusedSimpArgs false

/-- are they the same? -/
def S.eqv (f g : Nat → Int) : Bool := (List.range 8).all (fun i => f i == g i)
theorem S.eqv_iff {f g : Nat → Int} : S.eqv f g = true ↔ ∀ k, k < 8 → f k = g k := by simp [S.eqv]
theorem S.eqv_self (f : Nat → Int) : S.eqv f f = true := S.eqv_iff.2 (fun _ _ => rfl)
theorem V8.of {f g : Nat → Int} (h : ∀ k, k < 8 → f k = g k) : V8 f = V8 g := by
  simp [V8, h 0, h 1, h 2, h 3, h 4, h 5, h 6, h 7]
theorem seqItems (d : Nat) (e : TypeId) (he : Try.prog.plainKey e = true) (hu : Try.prog.underlying e = some (.int .i64)) (xs ys : Array Value) (f g : Nat → Int) (W : World) : ∀ is : List Nat, (∀ i ∈ is, xs[i * 1]? = some (.int .i64 (f i)) ∧ ys[i * 1]? = some (.int .i64 (g i))) →
    (Op.eqItems (d + 1) e 1 xs ys is).run Try.prog W = .ok (is.all (fun i => f i == g i)) W
  | [], _ => by simp [Op.eqItems]
  | i :: is, h => by
    obtain ⟨h1, h2⟩ := h i (by simp)
    have p1 := run_part_plain (P := Try.prog) (w := W) he h1
    have p2 := run_part_plain (P := Try.prog) (w := W) he h2
    have p3 : (Op.equalIn (d + 1) e (.int .i64 (f i)) (.int .i64 (g i))).run Try.prog W = .ok (f i == g i) W := by
      simp [Op.equalIn, run_underlying hu, Sem.run_bind]
    simp only [Op.eqItems, Sem.run_bind, p1, p2, p3, Result.andThen_ok]
    by_cases hfg : f i = g i
    · simp [hfg, seqItems d e he hu xs ys f g W is (fun j hj => h j (by simp [hj]))]
    · simp [hfg]
theorem eqlV (f g : Nat → Int) (W : World) : (binOp .eql 24 (.agg (V8 f)) (.agg (V8 g))).run Try.prog W = .ok (.bool (S.eqv f g)) W := by
  obtain ⟨i, hi⟩ : ∃ i, Try.prog.info? 2 = some i := Option.isSome_iff_exists.1 (by kernel_rfl)
  have hc : Try.prog.cellsOf 2 = 1 := by kernel_rfl
  have h : (Op.equalIn 10000 24 (.agg (V8 f)) (.agg (V8 g))).run Try.prog W = .ok (S.eqv f g) W := by
    rw [run_equalIn_array (P := Try.prog) W 9999 _ _ Try.underlying24 hi, hc]
    exact seqItems 9998 2 (by kernel_rfl) Try.underlying2 _ _ f g W _ (fun j hj => by
      have hj : j < 8 := by simpa using hj
      rw [Nat.mul_one]
      exact ⟨V8.at f hj, V8.at g hj⟩)
  rw [run_eql_struct, h]
  rfl
theorem guardV (x y : Operand) (f g : Nat → Int) (W : World) : (eqGuard .eql 24 x y (.agg (V8 f)) (.agg (V8 g))).run Try.prog W = .ok () W := guard_of (by kernel_rfl) x y _ _ W
end Go.Proofs.Ytedgiffnfhkonaa

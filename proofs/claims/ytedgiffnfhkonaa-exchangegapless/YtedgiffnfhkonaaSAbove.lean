/-
  The code's Join, Meet and Above.
-/
import Derived.Test.YtedgiffnfhkonaaSJoin
import Derived.Test.YtedgiffnfhkonaaSEq
import Derived.OrdersHeld
namespace Go.Proofs.Ytedgiffnfhkonaa
open Go.RowKit
set_option linter.unusedVariables false
set_option linter.unusedSimpArgs false

theorem jyload {ops : Array Oper} {S : World → Prop} {o : Oper} {a : Act} {ty : TypeId} {u v : Value} (hw : Region.wanted o (yielded ops a.tmps) = true) (h0 : ∃ x, o.op = .load ty x ∧ a.eval x = u) (hl : ∀ w, S w → (Instr.loadAt ty u).run Try.prog w = .ok v w) : YieldsIf Try.prog ops S o v a :=
  .inl ⟨hw, fun w hw' => by
    obtain ⟨x, ho, hx⟩ := h0
    simp [execOp, ho, hx, hl w hw', Result.andThen]⟩
theorem syeql {ops : Array Oper} {S : World → Prop} {o : Oper} {a : Act} {t : TypeId} {u v r : Value} (hw : Region.wanted o (yielded ops a.tmps) = true) (h0 : ∃ x y ty, o.op = .binOp .eql t x y ty ∧ a.eval x = u ∧ a.eval y = v ∧ ∀ w, (eqGuard .eql t x y u v).run Try.prog w = .ok () w) (hr : ∀ w, S w → (binOp .eql t u v).run Try.prog w = .ok r w) : YieldsIf Try.prog ops S o r a :=
  .inl ⟨hw, fun w hw' => by
    obtain ⟨x, y, ty, ho, hx, hy, hg⟩ := h0
    simp [execOp, ho, hx, hy, hg, hr w hw', Result.andThen]⟩
/-- two vectors -/
def S.pair (f g : Nat → Int) : Nat → Nat → Int := fun i => if i = 0 then f else g
theorem Ri.two {W : World} {b : Nat} {f g : Nat → Int} {t : TypeId} {m : Nat × Nat} (h : W.heap[b]? = some (.cells #[.int .i64 (f 0), .int .i64 (f 1), .int .i64 (f 2), .int .i64 (f 3), .int .i64 (f 4), .int .i64 (f 5), .int .i64 (f 6), .int .i64 (f 7), .int .i64 (g 0), .int .i64 (g 1), .int .i64 (g 2), .int .i64 (g 3), .int .i64 (g 4), .int .i64 (g 5), .int .i64 (g 6), .int .i64 (g 7)] t m)) : Ri W 8 (some ⟨b, 0, none⟩) 2 (S.pair f g) := by
  refine .inr ⟨b, 0, rfl, fun i j hi hj => ?_⟩
  match i, hi, j, hj with
  | 0, _, 0, _ | 0, _, 1, _ | 0, _, 2, _ | 0, _, 3, _ | 0, _, 4, _ | 0, _, 5, _ | 0, _, 6, _ | 0, _, 7, _ => exact cellA h rfl
  | 1, _, 0, _ | 1, _, 1, _ | 1, _, 2, _ | 1, _, 3, _ | 1, _, 4, _ | 1, _, 5, _ | 1, _, 6, _ | 1, _, 7, _ => exact cellA h rfl
theorem S.abv_max (f g : Nat → Int) : S.eqv (fun j => S.fold max (S.pair f g) j 2) f = S.abv f g 8 := by
  rw [Bool.eq_iff_iff, S.eqv_iff, S.abv_iff]
  constructor
  · intro h k hk
    have h1 : max (f k) (g k) = f k := h k hk
    omega
  · intro h k hk
    have h1 := h k hk
    show max (f k) (g k) = f k
    omega
end Go.Proofs.Ytedgiffnfhkonaa

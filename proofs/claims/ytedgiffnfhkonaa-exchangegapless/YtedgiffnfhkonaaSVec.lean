/-
  Vectors: which may be, their sums; the document's Above.
-/
import Derived.Test.YtedgiffnfhkonaaSLive
namespace Go.Proofs.Ytedgiffnfhkonaa
open Go.RowKit
set_option linter.unusedVariables false
set_option linter.unusedSimpArgs false

/-- a vector as cells -/
abbrev V8 (f : Nat → Int) : Array Value := #[.int .i64 (f 0), .int .i64 (f 1), .int .i64 (f 2), .int .i64 (f 3), .int .i64 (f 4), .int .i64 (f 5), .int .i64 (f 6), .int .i64 (f 7)]
theorem V8.at (f : Nat → Int) {k : Nat} (hk : k < 8) : (V8 f)[k]? = some (.int .i64 (f k)) := by
  match k, hk with
  | 0, _ | 1, _ | 2, _ | 3, _ | 4, _ | 5, _ | 6, _ | 7, _ => rfl
theorem info64 : (Try.prog.info? 2).map (fun i => (i.zero, i.size, i.bytes)) = some (some (.int .i64 0), 1, 8) := by kernel_rfl
theorem run_index8 (f : Nat → Int) {k : Nat} (hk : k < 8) (W : World) : (Instr.index 24 (.agg (V8 f)) (.int .i64 (k : Int))).run Try.prog W = .ok (.int .i64 (f k)) W := by
  have h1 := V8.at f hk
  generalize V8 f = cs at h1 ⊢
  obtain ⟨i0, hi, hz0, hz1, hz2⟩ := info_parts info64
  simp [Instr.index, asIntOf, run_underlying Try.underlying24, sizeOf, typeInfo, hk, hi, hz1, part, Try.isAgg2, h1]
theorem wpList_index_v {ops : Array Oper} {rest : List Oper} {o : Oper} {a : Act} {w : World} {Q : Exit → Act → World → Prop} {ty : TypeId} {u i v : Value} (hl : (Instr.index ty u i).run Try.prog w = .ok v w) (h0 : ∃ x y, o.op = .index ty x y ∧ a.eval x = u ∧ a.eval y = i) (hw : Region.wanted o (yielded ops a.tmps) = true)
    (h : wpList Try.prog ops Q rest (a.put o.dst v) w) : wpList Try.prog ops Q (o :: rest) a w :=
  wpList_step fun K hK => by
    obtain ⟨x, y, ho, hx, hy⟩ := h0
    rw [if_pos hw]
    unfold Oper.wp execOp
    simp only [ho, hx, hy, hl, Sem.run_bind, Result.andThen_ok]
    exact hK _ _ h
/-- its sum -/
def S.tot (f : Nat → Int) : Nat → Int
  | 0 => 0
  | k + 1 => wrap64 (S.tot f k + f k)
def S.cnt (n : Int) : Bool := decide (0 ≤ n ∧ n ≤ 1099511627776)
/-- a vector may be -/
def S.okv (f : Nat → Int) : Nat → Bool
  | 0 => true
  | k + 1 => S.okv f k && S.cnt (f k)
theorem S.okv_no {f : Nat → Int} {k : Nat} (h : S.cnt (f k) = false) : ∀ n, k < n → S.okv f n = false
  | 0, hn => by omega
  | n + 1, hn => by
    simp only [S.okv]
    by_cases e : k = n
    · subst e; simp [h]
    · simp [S.okv_no h n (by omega)]
/-- is one above another? -/
def S.abv (f g : Nat → Int) : Nat → Bool
  | 0 => true
  | k + 1 => S.abv f g k && decide (g k ≤ f k)
theorem S.abv_no {f g : Nat → Int} {k : Nat} (h : f k < g k) : ∀ n, k < n → S.abv f g n = false
  | 0, hn => by omega
  | n + 1, hn => by
    simp only [S.abv]
    by_cases e : k = n
    · subst e; simp; intro _; exact h
    · simp [S.abv_no h n (by omega)]
theorem S.abv_iff {f g : Nat → Int} : ∀ {n : Nat}, S.abv f g n = true ↔ ∀ k, k < n → g k ≤ f k
  | 0 => by simp [S.abv]
  | n + 1 => by
    simp only [S.abv, Bool.and_eq_true, decide_eq_true_eq, S.abv_iff (n := n)]
    constructor
    · rintro ⟨h1, h2⟩ k hk
      by_cases e : k = n
      · subst e; exact h2
      · exact h1 k (by omega)
    · intro h
      exact ⟨fun k hk => h k (by omega), h n (by omega)⟩
end Go.Proofs.Ytedgiffnfhkonaa

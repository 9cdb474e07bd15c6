/-
  isSite, site, endOf.
-/
import Derived.Test.YtedgiffnfhkonaaXPlain
namespace Go.Proofs.Ytedgiffnfhkonaa
open Go.RowKit
set_option linter.unusedVariables false
set_option linter.unusedSimpArgs false
set_option maxRecDepth 100000
theorem X.site_iff {n : Int} : X.site n = true ↔ 0 ≤ n ∧ n < 8 := by simp [X.site]
theorem xissite_any (w : World) (n : Int) : Calls Try.prog 14 #[.int .i64 n] w fun e w' => e = .returned (.bool (X.site n)) ∧ w = w' := by
  by_cases h1 : 0 ≤ n
  · by_cases h2 : n < 8
    · rw [X.site_iff.2 ⟨h1, h2⟩]
      go_enter Try.func14, Try.ntmps14
      go_wp2
      go_ret
      exact ⟨by simp [h1, h2], rfl⟩
    · rw [show X.site n = false from by unfold X.site; simp [h2]]
      go_enter Try.func14, Try.ntmps14
      go_wp2
      go_ret
      exact ⟨by simp [h1, h2], rfl⟩
  · rw [show X.site n = false from by unfold X.site; simp [h1]]
    go_enter Try.func14, Try.ntmps14
    go_wp2
    go_ret
    exact ⟨by simp [h1], rfl⟩
theorem xrsite_any (w : World) (n : Int) : Calls Try.prog 12 #[.int .i64 n] w fun e w' => e = .returned (.bool (X.site n)) ∧ w = w' := by
  by_cases h1 : 0 ≤ n
  · by_cases h2 : n < 8
    · rw [X.site_iff.2 ⟨h1, h2⟩]
      go_enter Try.func12, Try.ntmps12
      go_wp2
      go_ret
      exact ⟨by simp [h1, h2], rfl⟩
    · rw [show X.site n = false from by unfold X.site; simp [h2]]
      go_enter Try.func12, Try.ntmps12
      go_wp2
      go_ret
      exact ⟨by simp [h1, h2], rfl⟩
  · rw [show X.site n = false from by unfold X.site; simp [h1]]
    go_enter Try.func12, Try.ntmps12
    go_wp2
    go_ret
    exact ⟨by simp [h1], rfl⟩
set_option maxHeartbeats 1600000 in
theorem xendof_any (w : World) (g : Nat → Int) (o : Nat) (ho : o < 8) : Calls Try.prog 15 #[.agg (X.ep g), .int .i64 o] w fun e w' => e = .returned (.int .i64 (X.endOf g o)) ∧ Fr (fun _ => False) w w' := by
  have c1 : (w.alloc (.cells (X.ep g) 26)).cell? ⟨w.heap.size, 1 + o, none⟩ = some (.int .i64 (g (4 + o))) := by
    have := cell_at (Go.heap_alloc_new w (.cells (X.ep g) 26)) (X.ep_at g (j := 1 + o) (by omega))
    rw [show 3 + (1 + o) = 4 + o by omega] at this
    exact this
  have c2 : (w.alloc (.cells (X.ep g) 26)).cell? ⟨w.heap.size, 9 + o, none⟩ = some (.int .i64 (g (12 + o))) := by
    have := cell_at (Go.heap_alloc_new w (.cells (X.ep g) 26)) (X.ep_at g (j := 9 + o) (by omega))
    rw [show 3 + (9 + o) = 12 + o by omega] at this
    exact this
  have F0 := hid (show Fr (fun _ => False) w (w.alloc (.cells (X.ep g) 26)) from Fr.alloc (Fr.refl _ _) _)
  have i0 : (0 : Int) ≤ (o : Int) := by omega
  have i1 : (o : Int) < 8 := by omega
  generalize hX : X.ep g = EX at F0 c1 c2 ⊢
  clear hX
  unfold X.endOf
  generalize g (4 + o) = st at c1 ⊢
  generalize g (12 + o) = se at c2 ⊢
  by_cases h3 : st = 3
  · subst h3
    rw [if_pos rfl]
    go_enter Try.func15, Try.ntmps15
    go_wp2
    all_goals (go_ret; exact ⟨ret_int (by omega), F0.out⟩)
  · rw [if_neg h3]
    have h3' : (st == 3) = false := by simp [h3]
    go_enter Try.func15, Try.ntmps15
    go_wp2
    all_goals (go_ret; exact ⟨ret_int (by omega), F0.out⟩)
theorem X.run_min (w : World) (x y : Int) (ts : Array TypeId) (ty : TypeId) : (Builtin.min_ ts ty #[.int .i64 x, .int .i64 y]).run Try.prog w = .ok (.int .i64 (min x y)) w := by
  by_cases h : y < x
  · rw [show min x y = y by omega]
    simp [Builtin.min_, Builtin.min2, h]
  · rw [show min x y = x by omega]
    simp [Builtin.min_, Builtin.min2, h]
theorem X.run_max (w : World) (x y : Int) (ts : Array TypeId) (ty : TypeId) : (Builtin.max_ ts ty #[.int .i64 x, .int .i64 y]).run Try.prog w = .ok (.int .i64 (max x y)) w := by
  by_cases h : x < y
  · rw [show max x y = y by omega]
    simp [Builtin.max_, Builtin.max2, h]
  · rw [show max x y = x by omega]
    simp [Builtin.max_, Builtin.max2, h]
theorem wpList_min_v (w : World) {ops : Array Oper} {rest : List Oper} {o : Oper} {a : Act} {Q : Exit → Act → World → Prop} (hgd : o.guard = none) (s x : Operand) (ts : Array TypeId)
    (ho : o.op = .call { callee := .builtin .min, args := #[s, x], argTypes := ts }) (m n r : Int) (hs : a.eval s = .int .i64 m) (hx : a.eval x = .int .i64 n) (hr : min m n = r)
    (h : wpList Try.prog ops Q rest (a.put o.dst (.int .i64 r)) w) : wpList Try.prog ops Q (o :: rest) a w := by
  subst hr
  refine wpList_plain hgd fun K hK => ?_
  unfold Oper.wp execOp
  simp only [ho, resolve, invoke, builtin, Sem.run_bind, Sem.run_pure, Result.andThen_ok, List.map_toArray, List.map_cons, List.map_nil, hs, hx, X.run_min]
  exact hK _ _ h
end Go.Proofs.Ytedgiffnfhkonaa

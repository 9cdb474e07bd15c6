/-
  A map of rows' parts gone through: 'for s, v := range m', at maps by numbers whose elements stand as they are.
-/
import Derived.Test.YtffjekhlloippaaTMap
import Derived.Test.YtffjekhlloippaaOList
namespace Go.Proofs.Ytffjekhlloippaa
open Go.RowKit Go.Maps
set_option linter.unusedVariables false
set_option linter.unusedSimpArgs false
set_option maxRecDepth 100000
/-- the iterator stands, where neither it nor the map is written -/
theorem rangesY_kept {S : Nat → Prop} {w w' : World} {b r n cnt : Nat} {D : DataW Value} {left : Lit → Bool} (h : w.ranges Try.prog 2 asIs b r n D left cnt) (hf : Fr S w w') (hb : ¬ S b) (hr : ¬ S r) : w'.ranges Try.prog 2 asIs b r n D left cnt := by
  obtain ⟨es, clock, since, seen, c0, h1, h2, h3, h4, h5, h6⟩ := h
  exact ⟨es, clock, since, seen, c0, hf.cells h1 hb, h2, h3, h4, hf.cells h5 hr, h6⟩
/-- THE STEP. -/
theorem wpList_next_y (w : World) {ops : Array Oper} {rest : List Oper} {o : Oper} {a : Act} {Q : Exit → Act → World → Prop} (hg : o.guard = none) (it : Operand) (hop : o.op = Op.next it false)
    (b r n : Nat) (D : DataW Value) (g : Int → Option Value) (hD : ∀ x z, D.atKey (litI x) z = orZ z (g x)) (left : Lit → Bool) (cnt : Nat) (hit : a.eval it = .pointer (some ⟨r, 0, none⟩)) (h : w.ranges Try.prog 2 asIs b r n D left cnt)
    (hDone : cnt = 0 → (∀ kl, left kl = false) → wpList Try.prog ops Q rest (a.put o.dst (.tuple #[.bool false])) w)
    (hMore : ∀ (x : Int) (v : Value) (w' : World) (cnt' : Nat), left (.int .i64 x) = true → g x = some v → w'.ranges Try.prog 2 asIs b r n D (fun z => left z && !z.sameKey (.int .i64 x)) cnt' → cnt' < cnt →
      w.grownBy w' (some r) → w'.heap.size = w.heap.size → (Instr.entry (.pointer (some ⟨r, 0, none⟩))).run Try.prog w' = .ok (.tuple #[.int .i64 x, v]) w' → wpList Try.prog ops Q rest (a.put o.dst (.tuple #[.bool true, .int .i64 x, v])) w') :
    wpList Try.prog ops Q (o :: rest) a w := by
  refine wpList_next_ranges w hg it hop 2 keyI asIs (Value.int .i64) (fun c : Value => c) (fun key kl hkey => by obtain ⟨x, e, _⟩ := Maps.keyOf_int_inv Try.underlying2 hkey; exact ⟨x, e⟩)
    (fun v y hv => ⟨v, rfl⟩) b r n D left cnt hit h hDone (fun x c kl y w' cnt' hkey hlk hv hat hrg hlt hgr hsz hen => ?_)
  obtain ⟨x', e, rfl, _⟩ := Maps.keyOf_int_inv Try.underlying2 hkey
  cases e
  simp only [asIs, Option.some.injEq] at hv
  subst hv
  have hgx : g x = some c := by
    have h1 := hat .nil
    have h2 := hD x .nil
    rw [show litI x = Lit.int .i64 x from rfl, h1] at h2
    cases hg : g x with
    | none => rw [hg] at h2; simp [orZ] at h2
    | some v => rw [hg] at h2; simp [orZ] at h2; rw [h2]
  exact hMore x c w' cnt' hlk hgx hrg hlt hgr hsz hen
end Go.Proofs.Ytffjekhlloippaa

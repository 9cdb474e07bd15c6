/-
  The code's Join and Meet.
-/
import Derived.Test.YtedgiffnfhkonaaSFold
import Derived.Deep.QuietTactic
namespace Go.Proofs.Ytedgiffnfhkonaa
open Go.RowKit
set_option linter.unusedVariables false
set_option linter.unusedSimpArgs false

/-- one of them, whole -/
theorem Ri.load {w W : World} {b o n : Nat} {z : Nat → Nat → Int} (hc : ∀ i j, i < n → j < 8 → w.cell? ⟨b, o + i * 8 + j, none⟩ = some (.int .i64 (z i j))) (hf : Fr (fun _ => False) w W) {i : Nat} (hi : i < n) :
    (Instr.loadAt 24 (.pointer (some ⟨b, o + i * 8, none⟩))).run Try.prog W = .ok (.agg (V8 (z i))) W := by
  have := run_loadAt_mid (P := Try.prog) W b (o + i * 8) 24 (V8 (z i)).toList _ (fun j v hv => by
    have hj : j < 8 := by have := (List.getElem?_eq_some_iff.1 hv).1; simpa using this
    have h1 := V8.at (z i) hj
    rw [← Array.getElem?_toList, hv] at h1
    cases h1
    exact cellFr hf (fun h => h) (hc i j hi hj)) Try.underlying24 rfl (by kernel_rfl)
  simpa using this
theorem infoVc : (Try.prog.info? 24).map (fun i => (i.zero, i.size, i.bytes)) = some (some (.agg (V8 (fun _ => 0))), 8, 64) := by kernel_rfl
def cutV (a : Option Addr) (c l : Nat) : Option Addr := if c = l then a else a.map (·.add (l * 8))
theorem wpList_slice_v {ops : Array Oper} {rest : List Oper} {o : Oper} {a : Act} {w : World} {Q : Exit → Act → World → Prop} {ty : TypeId} {u v : Value} {lo hi mx : Option Value} (hl : (Instr.sliceAt ty u lo hi mx).run Try.prog w = .ok v w) (h0 : ∃ x l h m, o.op = .slice ty x l h m ∧ a.eval x = u ∧ l.map a.eval = lo ∧ h.map a.eval = hi ∧ m.map a.eval = mx) (hw : Region.wanted o (yielded ops a.tmps) = true)
    (h : wpList Try.prog ops Q rest (a.put o.dst v) w) : wpList Try.prog ops Q (o :: rest) a w :=
  wpList_step fun K hK => by
    obtain ⟨x, l, hh, m, ho, hx, h1, h2, h3⟩ := h0
    rw [if_pos hw]
    unfold Oper.wp execOp
    simp only [ho, hx, h1, h2, h3, hl, Sem.run_bind, Result.andThen_ok]
    exact hK _ _ h
end Go.Proofs.Ytedgiffnfhkonaa

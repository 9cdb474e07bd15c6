/-
  Stamp's laws begin with answers that the document fixes: live. StampNodes, StampRises: their walks.
-/
import Derived.Test.YtedgiffnfhkonaaSNode
namespace Go.Proofs.Ytedgiffnfhkonaa
open Go.RowKit
set_option linter.unusedVariables false
set_option linter.unusedSimpArgs false

theorem S.box2 {w V : World} {a b : Value} {t : TypeId} {m : Nat × Nat} (hf : Fr (fun _ => False) (w.alloc (.cells #[a, b] t m)) V) : V.cell? ⟨w.heap.size, 0, none⟩ = some a ∧ V.cell? ⟨w.heap.size, 1, none⟩ = some b :=
  ⟨cellA (j := 0) (hf.cells (Go.heap_alloc_new w _) (fun h => h)) rfl, cellA (j := 1) (hf.cells (Go.heap_alloc_new w _) (fun h => h)) rfl⟩
end Go.Proofs.Ytedgiffnfhkonaa

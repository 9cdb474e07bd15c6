/-
  Stamp's laws begin with answers that the document fixes: live. StampNodes, StampRises: their walks.
-/
import Derived.Test.YtfbpaboakdpceabSNode
namespace Go.Proofs.Ytfbpaboakdpceab
open Go.RowKit
set_option linter.unusedVariables false
set_option linter.unusedSimpArgs false

theorem S.box2 {w V : World} {a b : Value} {t : TypeId} {m : Nat × Nat} (hf : Fr (fun _ => False) (w.alloc (.cells #[a, b] t m)) V) : V.cell? ⟨w.heap.size, 0, none⟩ = some a ∧ V.cell? ⟨w.heap.size, 1, none⟩ = some b :=
  ⟨cellA (j := 0) (hf.cells (Go.heap_alloc_new w _) (fun h => h)) rfl, cellA (j := 1) (hf.cells (Go.heap_alloc_new w _) (fun h => h)) rfl⟩
set_option maxHeartbeats 800000 in
theorem slive_any (w : World) : Calls Try.prog 6 #[] w fun e w' => e = .returned (.bool true) ∧ Fr (fun _ => False) w w' := by
  have KO := hid (sof_any 24 (by omega) (by omega))
  have KN := hid (snode_any 1 0)
  have KC := hid (scheck_any 1 0)
  rw [show S.ofT 24 = 1 by decide, show S.ofS 24 = 0 by decide, show S.made 24 = true by decide] at KO
  rw [show S.node 1 0 = 24 by decide] at KN
  rw [show S.ok 1 0 = true by decide] at KC
  go_enter Try.func6, Try.ntmps6
  go_wp2_with (first
    | (go_at_call 11; refine (KO.out _).mono ?_; rintro e w1 ⟨rfl, hf⟩; have F1 := hid hf; clear hf)
    | (go_at_call 12; refine (KN.out _).mono ?_; rintro e w2 ⟨rfl, hf⟩; obtain ⟨d0, d1⟩ := S.box2 hf; have F2 := hid ((Fr.alloc F1.out _).trans hf (fun _ _ h => h)); clear hf)
    | (go_at_call 13; refine (KC.out _).mono ?_; rintro e w3 ⟨rfl, hf⟩; have F3 := hid (F2.out.trans hf (fun _ _ h => h)); clear hf))
  go_ret
  exact ⟨rfl, F3.out⟩
end Go.Proofs.Ytfbpaboakdpceab

/-
  Stamp's laws begin with answers that the document fixes: live. StampNodes, StampRises: their walks.
-/
import Derived.Test.YtfbpaboakdpceaaSNode
namespace Go.Proofs.Ytfbpaboakdpceaa
open Go.RowKit
set_option linter.unusedVariables false
set_option linter.unusedSimpArgs false

theorem S.box2 {w V : World} {a b : Value} {t : TypeId} {m : Nat × Nat} (hf : Fr (fun _ => False) (w.alloc (.cells #[a, b] t m)) V) : V.cell? ⟨w.heap.size, 0, none⟩ = some a ∧ V.cell? ⟨w.heap.size, 1, none⟩ = some b :=
  ⟨cellA (j := 0) (hf.cells (Go.heap_alloc_new w _) (fun h => h)) rfl, cellA (j := 1) (hf.cells (Go.heap_alloc_new w _) (fun h => h)) rfl⟩
set_option maxHeartbeats 800000 in
theorem slive_any (w : World) : Calls Try.prog 9 #[] w fun e w' => e = .returned (.bool true) ∧ Fr (fun _ => False) w w' := by
  have KO := hid (sof_any 24 (by omega) (by omega))
  have KN := hid (snode_any 1 0)
  have KC := hid (scheck_any 1 0)
  rw [show S.ofT 24 = 1 by decide, show S.ofS 24 = 0 by decide, show S.made 24 = true by decide] at KO
  rw [show S.node 1 0 = 24 by decide] at KN
  rw [show S.ok 1 0 = true by decide] at KC
  go_enter Try.func9, Try.ntmps9
  go_wp2_with (first
    | (go_at_call 16; refine (KO.out _).mono ?_; rintro e w1 ⟨rfl, hf⟩; have F1 := hid hf; clear hf)
    | (go_at_call 18; refine (KN.out _).mono ?_; rintro e w2 ⟨rfl, hf⟩; obtain ⟨d0, d1⟩ := S.box2 hf; have F2 := hid ((Fr.alloc F1.out _).trans hf (fun _ _ h => h)); clear hf)
    | (go_at_call 12; refine (KC.out _).mono ?_; rintro e w3 ⟨rfl, hf⟩; have F3 := hid (F2.out.trans hf (fun _ _ h => h)); clear hf))
  go_ret
  exact ⟨rfl, F3.out⟩
set_option maxHeartbeats 1600000 in
theorem stampNodes_walk (t s n : Int) (h0 : -9223372036854775808 ≤ n) (h1 : n ≤ 9223372036854775807) (w : World) : Calls Try.prog 4 #[.agg #[.int .i64 t, .int .i64 s], .int .i64 n] w fun e w' => e = .returned (.bool true) ∧ Fr (fun _ => False) w w' := by
  have KO := hid (sof_any n h0 h1)
  have KR := hid (rsof_any n h0 h1)
  have KN := hid (snode_any t s)
  have KM := hid (rsnode_any t s)
  have KL := hid slive_any
  generalize S.ofT n = x at KO KR
  generalize S.ofS n = y at KO KR
  generalize S.made n = z at KO KR
  generalize S.node t s = u at KN KM
  clear h0 h1
  have BT := hid (show (w.alloc (.cells #[.int .i64 t, .int .i64 s] 23)).heap[w.heap.size]? = some (.cells #[.int .i64 t, .int .i64 s] 23 (0, 0)) from Go.heap_alloc_new w _)
  go_enter Try.func4, Try.ntmps4
  go_wp2_with (first
    | (go_at_call 16; refine (KO.out _).mono ?_; rintro e w1 ⟨rfl, hf⟩; have F1 := hid ((Fr.alloc (Fr.refl _ _) _).trans hf (fun _ _ h => h)); have B1 := hid (hf.cells BT.out (fun h => h)); clear hf)
    | (go_at_call 17; refine (KR.out _).mono ?_; rintro e w2 ⟨rfl, hf⟩; have F2 := hid ((Fr.alloc F1.out _).trans hf (fun _ _ h => h)); have B2 := hid (hf.cells (Below.heap_alloc _ _ _ (lt_of_row B1.out) |>.trans B1.out) (fun h => h)); obtain ⟨c0, c1⟩ := S.box2 hf; clear hf)
    | fail)
  obtain ⟨W, hW⟩ : ∃ W, w2.alloc (.cells #[.int .i64 x, .int .i64 y] 23) = W := ⟨_, rfl⟩
  have F0 := hid (show Fr (fun _ => False) w W by rw [← hW]; exact Fr.alloc F2.out _)
  have HC : Hid (∀ V, Fr (fun _ => False) W V → (V.cell? ⟨w.heap.size, 0, none⟩ = some (.int .i64 t) ∧ V.cell? ⟨w.heap.size, 1, none⟩ = some (.int .i64 s) ∧ V.cell? ⟨w1.heap.size, 0, none⟩ = some (.int .i64 x) ∧ V.cell? ⟨w1.heap.size, 1, none⟩ = some (.int .i64 y) ∧ V.cell? ⟨w2.heap.size, 0, none⟩ = some (.int .i64 x) ∧ V.cell? ⟨w2.heap.size, 1, none⟩ = some (.int .i64 y))) := hid (fun V hf => by
    have f2 : Fr (fun _ => False) w2 V := (show Fr (fun _ => False) w2 W by rw [← hW]; exact Fr.alloc (Fr.refl _ _) _).trans hf (fun _ _ h => h)
    have b := f2.cells B2.out (fun h => h)
    have e := S.box2 (hW ▸ hf)
    exact ⟨cellA (j := 0) b rfl, cellA (j := 1) b rfl, cellFr f2 (fun h => h) c0, cellFr f2 (fun h => h) c1, e.1, e.2⟩)
  rw [hW]
  have HW := hid hW
  clear hW c0 c1
  obtain ⟨c0, c1, c2, c3, c4, c5⟩ := HC.out W (Fr.refl _ _)
  go_region_held3 (fun V => V.cell? ⟨w.heap.size, 0, none⟩ = some (.int .i64 t) ∧ V.cell? ⟨w.heap.size, 1, none⟩ = some (.int .i64 s) ∧ V.cell? ⟨w1.heap.size, 0, none⟩ = some (.int .i64 x) ∧ V.cell? ⟨w1.heap.size, 1, none⟩ = some (.int .i64 y) ∧ V.cell? ⟨w2.heap.size, 0, none⟩ = some (.int .i64 x) ∧ V.cell? ⟨w2.heap.size, 1, none⟩ = some (.int .i64 y)) (first | exact ⟨c0, c1, c2, c3, c4, c5⟩ | go_keep | exact HC.out _ F5.out | exact HC.out _ F4.out | exact HC.out _ F3.out)
    (first
      | (go_at_call 9; refine (KL.out _).mono ?_; rintro e w3 ⟨rfl, f1⟩; have F3 : Hid (Fr (fun _ => False) W w3) := hid (by first | exact f1 | exact (Fr.drew (Fr.refl _ _)).trans f1 (fun _ _ h => h) | exact (Fr.drewN _ _).trans f1 (fun _ _ h => h)); clear f1)
      | (go_at_call 18; refine (KN.out w3).mono ?_; rintro e w4 ⟨rfl, f2⟩; have F4 : Hid (Fr (fun _ => False) W w4) := hid (F3.out.trans f2 (fun _ _ h => h)); clear f2)
      | (go_at_call 19; refine (KM.out w4).mono ?_; rintro e w5 ⟨rfl, f3⟩; have F5 : Hid (Fr (fun _ => False) W w5) := hid (F4.out.trans f3 (fun _ _ h => h)); clear f3))
  go_wp2
  go_ret
  exact ⟨ret_bool (by simp), F0.out.trans F5.out (fun _ _ h => h)⟩
end Go.Proofs.Ytfbpaboakdpceaa

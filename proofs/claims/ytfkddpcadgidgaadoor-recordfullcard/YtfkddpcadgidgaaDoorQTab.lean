/-
  The table of an entry's fields; which row a Kind has.
-/
import Derived.Test.YtfkddpcadgidgaaDoorQWithin
namespace Go.Proofs.YtfkddpcadgidgaaDoor
open Go.RowKit
set_option linter.unusedVariables false

def M.eTab : List Int := [0, 0, 0, 0, 15, 13, 9, 0, 11, 14, 10, 0, 4, 0, 0, 0, 14, 5, 19, 2, 12, 0, 0, 0, 16, 18, 0, 0, 16, 0, 0, 0, 16, 6, 0, 0]
/-- the table, in memory -/
def Tb (w : World) : Prop := ∀ i x, M.eTab[i]? = some x → w.cell? ⟨0, i, none⟩ = some (.int .i64 x)
theorem Tb.kept {S : Nat → Prop} {w w' : World} (h : Tb w) (hf : Fr S w w') (hS : ¬ S 0) : Tb w' := fun i x hx => by
  have h1 := h i x hx
  rw [World.cell?_of_block (w := w) (w' := w') (hf.block _ (World.block_lt_of_cell? w _ h1) hS)]
  exact h1
/-- a Kind's row -/
def M.eRow (k : Nat) (j : Nat) : Int := M.eTab.getD (k * 4 + j) 0
theorem Tb.at {w : World} (h : Tb w) {k : Nat} (hk : k ≤ 8) {j : Nat} (hj : j < 4) : w.cell? ⟨0, k * 4 + j, none⟩ = some (.int .i64 (M.eRow k j)) := by
  refine h _ _ ?_
  have hl : k * 4 + j < M.eTab.length := by have : M.eTab.length = 36 := rfl; omega
  unfold M.eRow
  simp [List.getD, hl]
set_option maxRecDepth 20000 in
set_option maxHeartbeats 800000 in
theorem entryRow_ok (w : World) (T : Tb w) (k : Nat) (hk : k ≤ 8) :
    Calls Tryd.prog 73 #[.int .i64 (k : Nat)] w fun e w' => e = .returned (.tuple #[.agg #[.int .i64 (M.eRow k 0), .int .i64 (M.eRow k 1), .int .i64 (M.eRow k 2), .int .i64 (M.eRow k 3)], .bool true]) ∧ Fr (fun _ => False) w w' := by
  have t0 := T.at hk (j := 0) (by omega)
  have t1 := T.at hk (j := 1) (by omega)
  have t2 := T.at hk (j := 2) (by omega)
  have t3 := T.at hk (j := 3) (by omega)
  rw [Nat.add_zero] at t0
  have f1 : Fr (fun _ => False) w ((w.alloc (.cells #[.int .i64 0, .int .i64 0, .int .i64 0, .int .i64 0] 130)).alloc (.cells #[.int .i64 (k : Nat)] 3)) := Fr.alloc (Fr.alloc (Fr.refl _ _) _) _
  have KW := hid (within1_int 0 8 (k : Int) (w.alloc (.cells #[.int .i64 0, .int .i64 0, .int .i64 0, .int .i64 0] 130)) (w.heap.size + 1) (by simp))
  rw [show (decide ((0 : Int) ≤ (k : Int)) && decide ((k : Int) ≤ 8)) = true by simp; omega] at KW
  have cf : ∀ j v, w.cell? ⟨0, j, none⟩ = some v → ((w.alloc (.cells #[.int .i64 0, .int .i64 0, .int .i64 0, .int .i64 0] 130)).alloc (.cells #[.int .i64 (k : Nat)] 3)).cell? ⟨0, j, none⟩ = some v := fun j v h => by
    rw [World.cell?_of_block (w := w) (f1.block _ (World.block_lt_of_cell? w _ h) (fun h => h))]; exact h
  replace t0 := cf _ _ t0
  replace t1 := cf _ _ t1
  replace t2 := cf _ _ t2
  replace t3 := cf _ _ t3
  have F1 := hid f1
  have hk2 : (k : Int) ≤ 8 := by omega
  generalize M.eRow k 0 = r0 at *
  generalize M.eRow k 1 = r1 at *
  generalize M.eRow k 2 = r2 at *
  generalize M.eRow k 3 = r3 at *
  clear T cf f1
  go_enter Tryd.func73, Tryd.ntmps73
  go_wp2_with (first | (go_at_call 63; refine KW.out.mono ?_; rintro e w1 ⟨rfl, rfl⟩))
  refine bodyPost_ret (v := .tuple #[.agg #[.int .i64 r0, .int .i64 r1, .int .i64 r2, .int .i64 r3], .bool true]) (by simp [results, Tryd.results73, go_sem]) rfl ⟨rfl, ?_⟩
  exact Fr.alloc (Fr.alloc (Fr.refl _ _) _) _

end Go.Proofs.YtfkddpcadgidgaaDoor

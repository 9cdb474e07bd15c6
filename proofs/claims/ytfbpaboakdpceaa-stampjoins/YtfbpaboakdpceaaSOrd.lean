/-
  Stamps: which may be, their order, nodes' numbers: the code's and the document's.
-/
import Derived.Test.YtfbpaboakdpceaaMem
import Derived.LoopN
import Derived.WalkSpells
import Derived.Deep.RegionHeld3
namespace Go.Proofs.Ytfbpaboakdpceaa
open Go.RowKit
set_option linter.unusedVariables false
set_option linter.unusedSimpArgs false

/-- a stamp may be -/
def S.ok (t s : Int) : Bool := decide (1 ≤ t ∧ t ≤ 1099511627776 ∧ 0 ≤ s ∧ s < 8)
/-- the order of two numbers -/
def S.c1 (a b : Int) : Int := if a < b then -1 else if b < a then 1 else 0
/-- the order of two stamps -/
def S.cmp (a b c d : Int) : Int := if S.c1 a c = 0 then S.c1 b d else S.c1 a c

theorem cmp64_any (x y : Int) (w : World) : Calls Try.prog 33 #[.int .i64 x, .int .i64 y] w fun e w' => e = .returned (.int .i64 (S.c1 x y)) ∧ w = w' := by
  unfold S.c1
  by_cases h1 : x < y
  · rw [if_pos h1]
    go_enter Try.func33, Try.ntmps33
    go_wp2
    go_ret
    exact ⟨rfl, rfl⟩
  · rw [if_neg h1]
    by_cases h2 : y < x
    · rw [if_pos h2]
      go_enter Try.func33, Try.ntmps33
      go_wp2
      go_ret
      exact ⟨rfl, rfl⟩
    · rw [if_neg h2]
      go_enter Try.func33, Try.ntmps33
      go_wp2
      go_ret
      exact ⟨rfl, rfl⟩
theorem cmpInt_any (x y : Int) (w : World) : Calls Try.prog 34 #[.int .i64 x, .int .i64 y] w fun e w' => e = .returned (.int .i64 (S.c1 x y)) ∧ w = w' := by
  unfold S.c1
  by_cases h1 : x < y
  · rw [if_pos h1]
    go_enter Try.func34, Try.ntmps34
    go_wp2
    go_ret
    exact ⟨rfl, rfl⟩
  · rw [if_neg h1]
    by_cases h2 : y < x
    · rw [if_pos h2]
      go_enter Try.func34, Try.ntmps34
      go_wp2
      go_ret
      exact ⟨rfl, rfl⟩
    · rw [if_neg h2]
      go_enter Try.func34, Try.ntmps34
      go_wp2
      go_ret
      exact ⟨rfl, rfl⟩
/-- cmp.Or of two numbers, as a call with two lays them -/
theorem cmpOr_any (x y : Int) (w : World) (g c : Nat) (h0 : w.cell? ⟨g, 0, none⟩ = some (.int .i64 x)) (h1 : w.cell? ⟨g, 1, none⟩ = some (.int .i64 y)) :
    Calls Try.prog 32 #[.slice (some ⟨g, 0, none⟩) 2 c] w fun e w' => e = .returned (.int .i64 (if x = 0 then y else x)) ∧ Fr (fun _ => False) w w' := by
  have hg : g < w.heap.size := World.block_lt_of_cell? w _ h0
  by_cases k1 : x = 0
  · subst k1
    rw [if_pos rfl]
    by_cases k2 : y = 0
    · subst k2
      go_enter Try.func32, Try.ntmps32
      go_wp2
      refine wp_loop_rounds 3 ?_
      rw [rounds_succ]
      go_wp2
      rw [rounds_succ]
      go_wp2
      rw [rounds_succ]
      go_wp2
      go_ret
      exact ⟨rfl, Fr.refl _ _⟩
    · go_enter Try.func32, Try.ntmps32
      go_wp2
      refine wp_loop_rounds 3 ?_
      rw [rounds_succ]
      go_wp2
      rw [rounds_succ]
      go_wp2
      go_ret
      exact ⟨rfl, Fr.refl _ _⟩
  · rw [if_neg k1]
    go_enter Try.func32, Try.ntmps32
    go_wp2
    refine wp_loop_rounds 3 ?_
    rw [rounds_succ]
    go_wp2
    go_ret
    exact ⟨rfl, Fr.refl _ _⟩
theorem cmpOr_at (x y : Int) (w : World) (g c : Nat) (t : TypeId) (m : Nat × Nat) (h : w.heap[g]? = some (.cells #[.int .i64 x, .int .i64 y] t m)) :
    Calls Try.prog 32 #[.slice (some ⟨g, 0, none⟩) 2 c] w fun e w' => e = .returned (.int .i64 (if x = 0 then y else x)) ∧ Fr (fun _ => False) w w' :=
  cmpOr_any x y w g c (cellA (j := 0) h rfl) (cellA (j := 1) h rfl)
/-- two stamps that were handed in, each in its box -/
abbrev S.Two (w : World) (a1 a2 b1 b2 : Int) : World → Prop := fun V => V.cell? ⟨w.heap.size, 0, none⟩ = some (.int .i64 a1) ∧ V.cell? ⟨w.heap.size, 1, none⟩ = some (.int .i64 a2) ∧ V.cell? ⟨w.heap.size + 1, 0, none⟩ = some (.int .i64 b1) ∧ V.cell? ⟨w.heap.size + 1, 1, none⟩ = some (.int .i64 b2)
theorem S.two_any (w : World) (a1 a2 b1 b2 : Int) (t u : TypeId) (V : World) (hf : Fr (fun _ => False) ((w.alloc (.cells #[.int .i64 a1, .int .i64 a2] t)).alloc (.cells #[.int .i64 b1, .int .i64 b2] u)) V) : S.Two w a1 a2 b1 b2 V := by
  have ba : ((w.alloc (.cells #[.int .i64 a1, .int .i64 a2] t)).alloc (.cells #[.int .i64 b1, .int .i64 b2] u)).heap[w.heap.size]? = some (.cells #[.int .i64 a1, .int .i64 a2] t (0, 0)) := (Below.heap_alloc _ _ _ (by simp)).trans (Go.heap_alloc_new w _)
  have bb : ((w.alloc (.cells #[.int .i64 a1, .int .i64 a2] t)).alloc (.cells #[.int .i64 b1, .int .i64 b2] u)).heap[w.heap.size + 1]? = some (.cells #[.int .i64 b1, .int .i64 b2] u (0, 0)) := by
    have h1 := Go.heap_alloc_new (w.alloc (.cells #[.int .i64 a1, .int .i64 a2] t)) (.cells #[.int .i64 b1, .int .i64 b2] u)
    rw [World.size_alloc] at h1
    exact h1
  exact ⟨cellA (hf.cells ba (fun h => h)) rfl, cellA (hf.cells ba (fun h => h)) rfl, cellA (hf.cells bb (fun h => h)) rfl, cellA (hf.cells bb (fun h => h)) rfl⟩
set_option maxHeartbeats 1600000 in
theorem scompare_any (a1 a2 b1 b2 : Int) (w : World) : Calls Try.prog 10 #[.agg #[.int .i64 a1, .int .i64 a2], .agg #[.int .i64 b1, .int .i64 b2]] w fun e w' => e = .returned (.int .i64 (S.cmp a1 a2 b1 b2)) ∧ Fr (fun _ => False) w w' := by
  have K1 := hid (cmp64_any a1 b1)
  have K2 := hid (cmpInt_any a2 b2)
  obtain ⟨W, hW⟩ : ∃ W, (w.alloc (.cells #[.int .i64 a1, .int .i64 a2] 23)).alloc (.cells #[.int .i64 b1, .int .i64 b2] 23) = W := ⟨_, rfl⟩
  have HC := hid (fun (V : World) (hf : Fr (fun _ => False) W V) => show S.Two w a1 a2 b1 b2 V from S.two_any w a1 a2 b1 b2 _ _ V (hW ▸ hf))
  have F0 := hid (show Fr (fun _ => False) w W by rw [← hW]; exact Fr.alloc (Fr.alloc (Fr.refl _ _) _) _)
  have HW := hid hW
  clear hW
  unfold S.cmp
  generalize S.c1 a1 b1 = x1 at K1 ⊢
  generalize S.c1 a2 b2 = x2 at K2 ⊢
  have KO := hid (fun (W : World) (g c : Nat) (t : TypeId) (m : Nat × Nat) h => cmpOr_at x1 x2 W g c t m h)
  generalize (if x1 = 0 then x2 else x1) = x3 at KO ⊢
  go_enter Try.func10, Try.ntmps10
  go_wp2_with fail
  rw [HW.out]
  obtain ⟨c0, c1, c2, c3⟩ := HC.out W (Fr.refl _ _)
  go_region_held3 (fun V => V.cell? ⟨w.heap.size, 0, none⟩ = some (.int .i64 a1) ∧ V.cell? ⟨w.heap.size, 1, none⟩ = some (.int .i64 a2) ∧ V.cell? ⟨w.heap.size + 1, 0, none⟩ = some (.int .i64 b1) ∧ V.cell? ⟨w.heap.size + 1, 1, none⟩ = some (.int .i64 b2)) (first | exact ⟨c0, c1, c2, c3⟩ | go_keep | exact HC.out _ F1.out)
    (first
      | (go_at_call 33; refine (K1.out _).mono ?_; rintro e wx ⟨rfl, rfl⟩)
      | (go_at_call 34; refine (K2.out _).mono ?_; rintro e wx ⟨rfl, rfl⟩)
      | (go_at_call 32; refine (KO.out _ W.heap.size _ _ _ (by exact Go.heap_alloc_new W _)).mono ?_; rintro e w1 ⟨rfl, hf1⟩; have F1 : Hid (Fr (fun _ => False) W w1) := hid ((Fr.drew (Fr.alloc (Fr.refl _ _) _)).trans hf1 (fun _ _ h => h)); clear hf1))
  go_wp2
  go_ret
  exact ⟨rfl, F0.out.trans F1.out (fun _ _ h => h)⟩
theorem S.cmp_ref (a1 a2 b1 b2 : Int) : S.cmp a1 a2 b1 b2 = if a1 < b1 ∨ a1 = b1 ∧ a2 < b2 then -1 else if a1 = b1 ∧ a2 = b2 then 0 else 1 := by
  simp only [S.cmp, S.c1]
  repeat' split
  all_goals omega
set_option maxHeartbeats 1600000 in
theorem rscompare_any (a1 a2 b1 b2 : Int) (w : World) : Calls Try.prog 11 #[.agg #[.int .i64 a1, .int .i64 a2], .agg #[.int .i64 b1, .int .i64 b2]] w fun e w' => e = .returned (.int .i64 (S.cmp a1 a2 b1 b2)) ∧ Fr (fun _ => False) w w' := by
  rw [S.cmp_ref]
  by_cases k2 : a1 = b1
  · subst k2
    by_cases k4 : a2 = b2
    · subst k4
      rw [if_neg (by omega), if_pos (by omega)]
      go_enter Try.func11, Try.ntmps11
      go_wp2
      go_ret
      exact ⟨rfl, Fr.alloc (Fr.alloc (Fr.refl _ _) _) _⟩
    · by_cases k3 : a2 < b2
      · rw [if_pos (by omega)]
        go_enter Try.func11, Try.ntmps11
        go_wp2
        go_ret
        exact ⟨rfl, Fr.alloc (Fr.alloc (Fr.refl _ _) _) _⟩
      · rw [if_neg (by omega), if_neg (by omega)]
        go_enter Try.func11, Try.ntmps11
        go_wp2
        go_ret
        exact ⟨rfl, Fr.alloc (Fr.alloc (Fr.refl _ _) _) _⟩
  · by_cases k1 : a1 < b1
    · rw [if_pos (by omega)]
      go_enter Try.func11, Try.ntmps11
      go_wp2
      go_ret
      exact ⟨rfl, Fr.alloc (Fr.alloc (Fr.refl _ _) _) _⟩
    · rw [if_neg (by omega), if_neg (by omega)]
      go_enter Try.func11, Try.ntmps11
      go_wp2
      go_ret
      exact ⟨rfl, Fr.alloc (Fr.alloc (Fr.refl _ _) _) _⟩
set_option maxHeartbeats 800000 in
theorem scheck_any (t s : Int) (w : World) : Calls Try.prog 12 #[.agg #[.int .i64 t, .int .i64 s]] w fun e w' => e = .returned (.bool (S.ok t s)) ∧ Fr (fun _ => False) w w' := by
  by_cases h1 : 1 ≤ t <;> by_cases h2 : t ≤ 1099511627776 <;> by_cases h3 : 0 ≤ s <;> by_cases h4 : s < 8 <;>
  · first
    | (exfalso; omega)
    | (simp only [S.ok, h1, h2, h3, h4, and_true, and_false, true_and, false_and, decide_true, decide_false]
       go_enter Try.func12, Try.ntmps12
       go_wp2
       all_goals (go_ret; exact ⟨rfl, Fr.alloc (Fr.refl _ _) _⟩))
set_option maxHeartbeats 800000 in
theorem rscheck_any (t s : Int) (w : World) : Calls Try.prog 13 #[.agg #[.int .i64 t, .int .i64 s]] w fun e w' => e = .returned (.bool (S.ok t s)) ∧ Fr (fun _ => False) w w' := by
  by_cases h1 : 1 ≤ t <;> by_cases h2 : t ≤ 1099511627776 <;> by_cases h3 : 0 ≤ s <;> by_cases h4 : s < 8 <;>
  · first
    | (exfalso; omega)
    | (simp only [S.ok, h1, h2, h3, h4, and_true, and_false, true_and, false_and, decide_true, decide_false]
       go_enter Try.func13, Try.ntmps13
       go_wp2
       all_goals (go_ret; exact ⟨rfl, Fr.alloc (Fr.refl _ _) _⟩))
end Go.Proofs.Ytfbpaboakdpceaa

/-
  Nodes' numbers, and what each law calls first (live).
-/
import Derived.Test.YtedgiffnfhkonaaSOrd
import Derived.Test.YtedgiffnfhkonaaAgg
namespace Go.Proofs.Ytedgiffnfhkonaa
open Go.RowKit
set_option linter.unusedVariables false
set_option linter.unusedSimpArgs false

/-- the number of a stamp's node -/
def S.node (t s : Int) : Int := if S.ok t s = true then 16 + t * 8 + s else 0
/-- is a number a stamp's? -/
def S.made (n : Int) : Bool := decide (24 ≤ n ∧ n ≤ 8796093022231)
def S.ofT (n : Int) : Int := if S.made n = true then (n - 16) / 8 else 0
def S.ofS (n : Int) : Int := if S.made n = true then (n - 16) % 8 else 0

theorem S.ok_iff {t s : Int} : S.ok t s = true ↔ 1 ≤ t ∧ t ≤ 1099511627776 ∧ 0 ≤ s ∧ s < 8 := by simp [S.ok]
set_option maxHeartbeats 800000 in
theorem snode_any (t s : Int) (w : World) : Calls Try.prog 29 #[.agg #[.int .i64 t, .int .i64 s]] w fun e w' => e = .returned (.int .i64 (S.node t s)) ∧ Fr (fun _ => False) w w' := by
  have K := hid (scheck_any t s)
  have BW := hid (show (w.alloc (.cells #[.int .i64 t, .int .i64 s] 41)).heap[w.heap.size]? = some (.cells #[.int .i64 t, .int .i64 s] 41 (0, 0)) from Go.heap_alloc_new w _)
  cases B0 : S.ok t s with
  | false =>
    rw [B0] at K
    have E : S.node t s = 0 := by simp [S.node, B0]
    rw [E]
    clear E B0
    go_enter Try.func29, Try.ntmps29
    go_wp2_with (first | (go_at_call 22; refine (K.out _).mono ?_; rintro e w1 ⟨rfl, hf⟩; have F1 := hid hf; clear hf))
    go_ret
    exact ⟨rfl, (Fr.alloc (Fr.refl _ _) _).trans F1.out (fun _ _ h => h)⟩
  | true =>
    rw [B0] at K
    have E : S.node t s = 16 + t * 8 + s := by simp [S.node, B0]
    rw [E]
    have h := S.ok_iff.1 B0
    have h1 : (t * 8 + 9223372036854775808) % 18446744073709551616 - 9223372036854775808 = t * 8 := by omega
    clear E B0
    obtain ⟨h1, h2, h3, h4⟩ := h
    go_enter Try.func29, Try.ntmps29
    go_wp2_with (first | (go_at_call 22; refine (K.out _).mono ?_; rintro e w1 ⟨rfl, hf⟩; have b := hf.cells BW.out (fun h => h); have d0 : w1.cell? ⟨w.heap.size, 0, none⟩ = some (.int .i64 t) := cellA (j := 0) b rfl; have d1 : w1.cell? ⟨w.heap.size, 1, none⟩ = some (.int .i64 s) := cellA (j := 1) b rfl; have F1 := hid hf; clear hf b))
    go_ret
    exact ⟨ret_int (by first | omega | (simp only [IntKind.wrap]; omega)), (Fr.alloc (Fr.refl _ _) _).trans F1.out (fun _ _ h => h)⟩
set_option maxHeartbeats 800000 in
theorem rsnode_any (t s : Int) (w : World) : Calls Try.prog 18 #[.agg #[.int .i64 t, .int .i64 s]] w fun e w' => e = .returned (.int .i64 (S.node t s)) ∧ Fr (fun _ => False) w w' := by
  have K := hid (rscheck_any t s)
  have BW := hid (show (w.alloc (.cells #[.int .i64 t, .int .i64 s] 41)).heap[w.heap.size]? = some (.cells #[.int .i64 t, .int .i64 s] 41 (0, 0)) from Go.heap_alloc_new w _)
  cases B0 : S.ok t s with
  | false =>
    rw [B0] at K
    have E : S.node t s = 0 := by simp [S.node, B0]
    rw [E]
    clear E B0
    go_enter Try.func18, Try.ntmps18
    go_wp2_with (first | (go_at_call 17; refine (K.out _).mono ?_; rintro e w1 ⟨rfl, hf⟩; have F1 := hid hf; clear hf))
    go_ret
    exact ⟨rfl, (Fr.alloc (Fr.refl _ _) _).trans F1.out (fun _ _ h => h)⟩
  | true =>
    rw [B0] at K
    have E : S.node t s = 16 + t * 8 + s := by simp [S.node, B0]
    rw [E]
    have h := S.ok_iff.1 B0
    have h1 : (t * 8 + 9223372036854775808) % 18446744073709551616 - 9223372036854775808 = t * 8 := by omega
    clear E B0
    obtain ⟨h1, h2, h3, h4⟩ := h
    go_enter Try.func18, Try.ntmps18
    go_wp2_with (first | (go_at_call 17; refine (K.out _).mono ?_; rintro e w1 ⟨rfl, hf⟩; have b := hf.cells BW.out (fun h => h); have d0 : w1.cell? ⟨w.heap.size, 0, none⟩ = some (.int .i64 t) := cellA (j := 0) b rfl; have d1 : w1.cell? ⟨w.heap.size, 1, none⟩ = some (.int .i64 s) := cellA (j := 1) b rfl; have F1 := hid hf; clear hf b))
    go_ret
    exact ⟨ret_int (by first | omega | (simp only [IntKind.wrap]; omega)), (Fr.alloc (Fr.refl _ _) _).trans F1.out (fun _ _ h => h)⟩
theorem S.two0 (w : World) (o1 o2 : Obj) : ((w.alloc o1).alloc o2).heap[w.heap.size]? = some o1 := (Below.heap_alloc _ _ _ (by simp)).trans (Go.heap_alloc_new w _)
theorem S.two1 (w : World) (o1 o2 : Obj) : ((w.alloc o1).alloc o2).heap[w.heap.size + 1]? = some o2 := by
  have h1 := Go.heap_alloc_new (w.alloc o1) o2
  rw [World.size_alloc] at h1
  exact h1
theorem S.tdiv8 (m : Int) : m.tdiv 8 = if 0 ≤ m then m / 8 else -((-m) / 8) := by
  split
  · exact Int.tdiv_eq_ediv_of_nonneg (by assumption)
  · have h := Int.tdiv_eq_ediv_of_nonneg (a := -m) (b := 8) (by omega)
    rw [Int.neg_tdiv] at h
    omega
theorem S.tmod8 (m : Int) : m.tmod 8 = m - 8 * m.tdiv 8 := by
  have := Int.tmod_add_mul_tdiv m 8
  omega
theorem S.of_ok (n : Int) (h0 : -9223372036854775808 ≤ n) (h1 : n ≤ 9223372036854775807) : S.ok (wrap64 ((wrap64 (n - 16)).tdiv 8)) ((wrap64 (n - 16)).tmod 8) = S.made n := by
  rw [S.tmod8, S.tdiv8]
  unfold S.ok S.made wrap64
  apply decide_eq_decide.2
  split <;> omega
theorem S.of_ok2 (n : Int) (h0 : 16 ≤ n) : S.ok ((n - 16) / 8) ((n - 16) % 8) = S.made n := by
  unfold S.ok S.made
  apply decide_eq_decide.2
  omega
theorem S.of_yes {n : Int} (h : S.made n = true) : wrap64 ((wrap64 (n - 16)).tdiv 8) = (n - 16) / 8 ∧ (wrap64 (n - 16)).tmod 8 = (n - 16) % 8 := by
  rw [S.tmod8, S.tdiv8]
  simp only [S.made, decide_eq_true_eq] at h
  unfold wrap64
  split <;> constructor <;> omega
set_option maxHeartbeats 800000 in
theorem sof_any (n : Int) (h0 : -9223372036854775808 ≤ n) (h1 : n ≤ 9223372036854775807) (w : World) : Calls Try.prog 35 #[.int .i64 n] w fun e w' => e = .returned (.tuple #[.agg #[.int .i64 (S.ofT n), .int .i64 (S.ofS n)], .bool (S.made n)]) ∧ Fr (fun _ => False) w w' := by
  have K := hid (scheck_any (wrap64 ((wrap64 (n - 16)).tdiv 8)) ((wrap64 (n - 16)).tmod 8))
  rw [S.of_ok n h0 h1] at K
  have HB0 := hid (S.two0 w)
  have HB1 := hid (S.two1 w)
  cases B : S.made n with
  | false =>
    rw [B] at K
    have E1 : S.ofT n = 0 := by simp [S.ofT, B]
    have E2 : S.ofS n = 0 := by simp [S.ofS, B]
    rw [E1, E2]
    clear E1 E2 B
    go_enter Try.func35, Try.ntmps35
    go_wp2_with (first
      | (go_at_call 22; refine (K.out _).mono ?_; rintro e w1 ⟨rfl, hf⟩; have b := hf.cells (HB0.out _ _) (fun h => h); obtain ⟨V, st, hbV, fV⟩ := box_whole (V := w1) (b := w.heap.size) (c := #[.int .i64 0, .int .i64 0]) b rfl (by kernel_rfl) (by kernel_rfl); have lr := loadVar_whole (ty := 41) hbV Try.underlying41 rfl (by kernel_rfl); have ST := hid st; have LR := hid lr; have F1 := hid (((Fr.alloc (Fr.alloc (Fr.refl (fun _ => False) w) _) _).trans hf (fun _ _ h => h)).trans fV (fun i hi e => by omega)); clear hf b st lr hbV fV)
      | (refine wpList_store_v ST.out (by exact ⟨_, _, rfl, rfl, rfl⟩) (by kernel_rfl) ?_))
    exact bodyPost_ret (v := .tuple #[.agg #[.int .i64 0, .int .i64 0], .bool false]) (results_cell2 Try.results35 _ _ _ _ _ _ (by rfl) LR.out (by rfl)) rfl ⟨rfl, F1.out⟩
  | true =>
    rw [B] at K
    have E1 : S.ofT n = wrap64 ((wrap64 (n - 16)).tdiv 8) := by simp [S.ofT, B, (S.of_yes B).1]
    have E2 : S.ofS n = (wrap64 (n - 16)).tmod 8 := by simp [S.ofS, B, (S.of_yes B).2]
    rw [E1, E2]
    clear E1 E2 B
    go_enter Try.func35, Try.ntmps35
    go_wp2_with (first
      | (go_at_call 22; refine (K.out _).mono ?_; rintro e w1 ⟨rfl, hf⟩; have b := hf.cells (HB0.out _ _) (fun h => h); obtain ⟨V, st, hbV, fV⟩ := box_whole (V := w1) (b := w.heap.size) (c := #[.int .i64 (wrap64 ((wrap64 (n - 16)).tdiv 8)), .int .i64 ((wrap64 (n - 16)).tmod 8)]) b rfl (by kernel_rfl) (by kernel_rfl); have lr := loadVar_whole (ty := 41) hbV Try.underlying41 rfl (by kernel_rfl); have ST := hid st; have LR := hid lr; have b2 := hf.cells (HB1.out _ _) (fun h => h); have u0 : w1.cell? ⟨w.heap.size + 1, 0, none⟩ = some (.int .i64 (wrap64 ((wrap64 (n - 16)).tdiv 8))) := cellA (j := 0) b2 rfl; have u1 : w1.cell? ⟨w.heap.size + 1, 1, none⟩ = some (.int .i64 ((wrap64 (n - 16)).tmod 8)) := cellA (j := 1) b2 rfl; clear b2; have F1 := hid (((Fr.alloc (Fr.alloc (Fr.refl (fun _ => False) w) _) _).trans hf (fun _ _ h => h)).trans fV (fun i hi e => by omega)); clear hf b st lr hbV fV)
      | (refine wpList_store_v ST.out (by exact ⟨_, _, rfl, rfl, rfl⟩) (by kernel_rfl) ?_))
    exact bodyPost_ret (v := .tuple #[.agg #[.int .i64 (wrap64 ((wrap64 (n - 16)).tdiv 8)), .int .i64 ((wrap64 (n - 16)).tmod 8)], .bool true]) (results_cell2 Try.results35 _ _ _ _ _ _ (by rfl) LR.out (by rfl)) rfl ⟨rfl, F1.out⟩
set_option maxHeartbeats 800000 in
theorem rsof_any (n : Int) (h0 : -9223372036854775808 ≤ n) (h1 : n ≤ 9223372036854775807) (w : World) : Calls Try.prog 28 #[.int .i64 n] w fun e w' => e = .returned (.tuple #[.agg #[.int .i64 (S.ofT n), .int .i64 (S.ofS n)], .bool (S.made n)]) ∧ Fr (fun _ => False) w w' := by
  have K := hid (rscheck_any ((n - 16) / 8) ((n - 16) % 8))
  have HB0 := hid (S.two0 w)
  have HB1 := hid (S.two1 w)
  by_cases hlo : n < 16
  · have E0 : S.made n = false := by simp only [S.made, decide_eq_false_iff_not]; omega
    have E1 : S.ofT n = 0 := by simp [S.ofT, E0]
    have E2 : S.ofS n = 0 := by simp [S.ofS, E0]
    rw [E0, E1, E2]
    clear E0 E1 E2 K
    obtain ⟨V, st, hbV, fV⟩ := box_whole (V := w.alloc (.cells #[.int .i64 0, .int .i64 0] 41)) (b := w.heap.size) (c := #[.int .i64 0, .int .i64 0]) (Go.heap_alloc_new w _) rfl (by kernel_rfl) (by kernel_rfl)
    have lr := loadVar_whole (ty := 41) hbV Try.underlying41 rfl (by kernel_rfl)
    have ST := hid st
    have LR := hid lr
    have F1 := hid ((Fr.alloc (Fr.refl (fun _ => False) w) _).trans fV (fun i hi e => by omega))
    clear st lr hbV fV
    go_enter Try.func28, Try.ntmps28
    go_wp2_with (first
      | (refine wpList_store_v ST.out (by exact ⟨_, _, rfl, rfl, rfl⟩) (by kernel_rfl) ?_))
    exact bodyPost_ret (v := .tuple #[.agg #[.int .i64 0, .int .i64 0], .bool false]) (results_cell2 Try.results28 _ _ _ _ _ _ (by rfl) LR.out (by rfl)) rfl ⟨rfl, F1.out⟩
  rw [S.of_ok2 n (by omega)] at K
  cases B : S.made n with
  | false =>
    rw [B] at K
    have E1 : S.ofT n = 0 := by simp [S.ofT, B]
    have E2 : S.ofS n = 0 := by simp [S.ofS, B]
    rw [E1, E2]
    clear E1 E2 B
    go_enter Try.func28, Try.ntmps28
    go_wp2_with (first
      | (go_at_call 17; refine (K.out _).mono ?_; rintro e w1 ⟨rfl, hf⟩; have b := hf.cells (HB0.out _ _) (fun h => h); obtain ⟨V, st, hbV, fV⟩ := box_whole (V := w1) (b := w.heap.size) (c := #[.int .i64 0, .int .i64 0]) b rfl (by kernel_rfl) (by kernel_rfl); have lr := loadVar_whole (ty := 41) hbV Try.underlying41 rfl (by kernel_rfl); have ST := hid st; have LR := hid lr; have F1 := hid (((Fr.alloc (Fr.alloc (Fr.refl (fun _ => False) w) _) _).trans hf (fun _ _ h => h)).trans fV (fun i hi e => by omega)); clear hf b st lr hbV fV)
      | (refine wpList_store_v ST.out (by exact ⟨_, _, rfl, rfl, rfl⟩) (by kernel_rfl) ?_))
    exact bodyPost_ret (v := .tuple #[.agg #[.int .i64 0, .int .i64 0], .bool false]) (results_cell2 Try.results28 _ _ _ _ _ _ (by rfl) LR.out (by rfl)) rfl ⟨rfl, F1.out⟩
  | true =>
    rw [B] at K
    have E1 : S.ofT n = (n - 16) / 8 := by simp [S.ofT, B]
    have E2 : S.ofS n = (n - 16) % 8 := by simp [S.ofS, B]
    rw [E1, E2]
    clear E1 E2 B
    go_enter Try.func28, Try.ntmps28
    go_wp2_with (first
      | (go_at_call 17; refine (K.out _).mono ?_; rintro e w1 ⟨rfl, hf⟩; have b := hf.cells (HB0.out _ _) (fun h => h); obtain ⟨V, st, hbV, fV⟩ := box_whole (V := w1) (b := w.heap.size) (c := #[.int .i64 ((n - 16) / 8), .int .i64 ((n - 16) % 8)]) b rfl (by kernel_rfl) (by kernel_rfl); have lr := loadVar_whole (ty := 41) hbV Try.underlying41 rfl (by kernel_rfl); have ST := hid st; have LR := hid lr; have b2 := hf.cells (HB1.out _ _) (fun h => h); have u0 : w1.cell? ⟨w.heap.size + 1, 0, none⟩ = some (.int .i64 ((n - 16) / 8)) := cellA (j := 0) b2 rfl; have u1 : w1.cell? ⟨w.heap.size + 1, 1, none⟩ = some (.int .i64 ((n - 16) % 8)) := cellA (j := 1) b2 rfl; clear b2; have F1 := hid (((Fr.alloc (Fr.alloc (Fr.refl (fun _ => False) w) _) _).trans hf (fun _ _ h => h)).trans fV (fun i hi e => by omega)); clear hf b st lr hbV fV)
      | (refine wpList_store_v ST.out (by exact ⟨_, _, rfl, rfl, rfl⟩) (by kernel_rfl) ?_))
    exact bodyPost_ret (v := .tuple #[.agg #[.int .i64 ((n - 16) / 8), .int .i64 ((n - 16) % 8)], .bool true]) (results_cell2 Try.results28 _ _ _ _ _ _ (by rfl) LR.out (by rfl)) rfl ⟨rfl, F1.out⟩
end Go.Proofs.Ytedgiffnfhkonaa

/-
  Vectors: which may be, their sums; the document's Above.
-/
import Derived.Test.YtfbpaboakdpceaaSLive
namespace Go.Proofs.Ytfbpaboakdpceaa
open Go.RowKit
set_option linter.unusedVariables false
set_option linter.unusedSimpArgs false

/-- a vector as cells -/
abbrev V8 (f : Nat → Int) : Array Value := #[.int .i64 (f 0), .int .i64 (f 1), .int .i64 (f 2), .int .i64 (f 3), .int .i64 (f 4), .int .i64 (f 5), .int .i64 (f 6), .int .i64 (f 7)]
theorem V8.at (f : Nat → Int) {k : Nat} (hk : k < 8) : (V8 f)[k]? = some (.int .i64 (f k)) := by
  match k, hk with
  | 0, _ | 1, _ | 2, _ | 3, _ | 4, _ | 5, _ | 6, _ | 7, _ => rfl
theorem info64 : (Try.prog.info? 2).map (fun i => (i.zero, i.size, i.bytes)) = some (some (.int .i64 0), 1, 8) := by kernel_rfl
theorem run_index8 (f : Nat → Int) {k : Nat} (hk : k < 8) (W : World) : (Instr.index 42 (.agg (V8 f)) (.int .i64 (k : Int))).run Try.prog W = .ok (.int .i64 (f k)) W := by
  have h1 := V8.at f hk
  generalize V8 f = cs at h1 ⊢
  obtain ⟨i0, hi, hz0, hz1, hz2⟩ := info_parts info64
  simp [Instr.index, asIntOf, run_underlying Try.underlying42, sizeOf, typeInfo, hk, hi, hz1, part, Try.isAgg2, h1]
theorem wpList_index_v {ops : Array Oper} {rest : List Oper} {o : Oper} {a : Act} {w : World} {Q : Exit → Act → World → Prop} {ty : TypeId} {u i v : Value} (hl : (Instr.index ty u i).run Try.prog w = .ok v w) (h0 : ∃ x y, o.op = .index ty x y ∧ a.eval x = u ∧ a.eval y = i) (hw : Region.wanted o (yielded ops a.tmps) = true)
    (h : wpList Try.prog ops Q rest (a.put o.dst v) w) : wpList Try.prog ops Q (o :: rest) a w :=
  wpList_step fun K hK => by
    obtain ⟨x, y, ho, hx, hy⟩ := h0
    rw [if_pos hw]
    unfold Oper.wp execOp
    simp only [ho, hx, hy, hl, Sem.run_bind, Result.andThen_ok]
    exact hK _ _ h
/-- its sum -/
def S.tot (f : Nat → Int) : Nat → Int
  | 0 => 0
  | k + 1 => wrap64 (S.tot f k + f k)
def S.cnt (n : Int) : Bool := decide (0 ≤ n ∧ n ≤ 1099511627776)
/-- a vector may be -/
def S.okv (f : Nat → Int) : Nat → Bool
  | 0 => true
  | k + 1 => S.okv f k && S.cnt (f k)
theorem S.okv_no {f : Nat → Int} {k : Nat} (h : S.cnt (f k) = false) : ∀ n, k < n → S.okv f n = false
  | 0, hn => by omega
  | n + 1, hn => by
    simp only [S.okv]
    by_cases e : k = n
    · subst e; simp [h]
    · simp [S.okv_no h n (by omega)]
set_option maxHeartbeats 1600000 in
theorem stotal_any (f : Nat → Int) (w : World) : Calls Try.prog 30 #[.agg (V8 f)] w fun e w' => e = .returned (.int .i64 (S.tot f 8)) ∧ Fr (fun _ => False) w w' := by
  go_enter Try.func30, Try.ntmps30
  go_wp2
  go_loopw [3, 7] (fun s i wr => ∃ (k : Nat), k ≤ 8 ∧ i = .int .i64 k ∧ s = .int .i64 (S.tot f k) ∧ Hid (Fr (fun _ => False) w wr)) (fun _ i _ => 8 - (intOf i).toNat)
  case atStart => exact ⟨0, by omega, rfl, rfl, hid (Fr.alloc (Fr.refl _ _) _)⟩
  case round =>
    obtain ⟨k, hk, rfl, rfl, HF⟩ := hrel
    by_cases hlt : k < 8
    · have hx : wrap64 (S.tot f k + f k) = S.tot f (k + 1) := rfl
      have HX := hid hx
      generalize S.tot f k = t at HX
      clear hx
      have i1 : (k : Int) < 8 := by omega
      go_wp2_with (first
        | (refine wpList_index_v (run_index8 f hlt _) (by exact ⟨_, _, rfl, rfl, rfl⟩) (by kernel_rfl) ?_))
      go_roundw
      case rel => exact ⟨k + 1, by omega, by first | go_num | trivial, by rw [HX.out], HF⟩
      case measure => simp [intOf]; omega
    · obtain rfl : k = 8 := by omega
      go_wp2
      go_ret
      exact ⟨rfl, HF.out⟩
set_option maxHeartbeats 1600000 in
theorem scheckv_any (f : Nat → Int) (w : World) : Calls Try.prog 22 #[.agg (V8 f)] w fun e w' => e = .returned (.bool (S.okv f 8)) ∧ Fr (fun _ => False) w w' := by
  go_enter Try.func22, Try.ntmps22
  go_wp2
  go_loopw [6] (fun i wr => ∃ (k : Nat), k ≤ 8 ∧ i = .int .i64 k ∧ Hid (S.okv f k = true) ∧ Hid (Fr (fun _ => False) w wr)) (fun i _ => 8 - (intOf i).toNat)
  case atStart => exact ⟨0, by omega, rfl, hid rfl, hid (Fr.alloc (Fr.refl _ _) _)⟩
  case round =>
    obtain ⟨k, hk, rfl, HO, HF⟩ := hrel
    by_cases hlt : k < 8
    · have i1 : (k : Int) < 8 := by omega
      have RI := hid (fun W => run_index8 f hlt W)
      by_cases h1 : f k < 0
      · have HN := hid (S.okv_no (f := f) (k := k) (by simp only [S.cnt, decide_eq_false_iff_not]; omega) 8 hlt)
        generalize f k = x at RI h1
        go_wp2_with (first
          | (refine wpList_index_v (RI.out _) (by exact ⟨_, _, rfl, rfl, rfl⟩) (by kernel_rfl) ?_))
        go_ret
        exact ⟨ret_bool HN.out.symm, HF.out⟩
      · by_cases h2 : 1099511627776 < f k
        · have HN := hid (S.okv_no (f := f) (k := k) (by simp only [S.cnt, decide_eq_false_iff_not]; omega) 8 hlt)
          generalize f k = x at RI h1 h2
          go_wp2_with (first
            | (refine wpList_index_v (RI.out _) (by exact ⟨_, _, rfl, rfl, rfl⟩) (by kernel_rfl) ?_))
          go_ret
          exact ⟨ret_bool HN.out.symm, HF.out⟩
        · have HN := hid (show S.okv f (k + 1) = true by simp only [S.okv, HO.out, S.cnt, Bool.true_and, decide_eq_true_eq]; omega)
          generalize f k = x at RI h1 h2
          go_wp2_with (first
            | (refine wpList_index_v (RI.out _) (by exact ⟨_, _, rfl, rfl, rfl⟩) (by kernel_rfl) ?_))
          go_roundw
          case rel => exact ⟨k + 1, by omega, by first | go_num | trivial, HN, HF⟩
          case measure => simp [intOf]; omega
    · obtain rfl : k = 8 := by omega
      go_wp2
      go_ret
      exact ⟨ret_bool HO.out.symm, HF.out⟩
theorem rcount_any (n : Int) (w : World) : Calls Try.prog 42 #[.int .i64 n] w fun e w' => e = .returned (.bool (S.cnt n)) ∧ w = w' := by
  by_cases h1 : 0 ≤ n <;> by_cases h2 : n ≤ 1099511627776 <;>
  · first
    | (exfalso; omega)
    | (simp only [S.cnt, h1, h2, and_true, and_false, true_and, false_and, decide_true, decide_false]
       go_enter Try.func42, Try.ntmps42
       go_wp2
       all_goals (go_ret; exact ⟨rfl, rfl⟩))
set_option maxHeartbeats 1600000 in
theorem rstotal_any (f : Nat → Int) (w : World) : Calls Try.prog 31 #[.agg (V8 f)] w fun e w' => e = .returned (.int .i64 (S.tot f 8)) ∧ Fr (fun _ => False) w w' := by
  have BW := hid (show (w.alloc (.cells (V8 f) 42)).heap[w.heap.size]? = some (.cells (V8 f) 42 (0, 0)) from Go.heap_alloc_new w _)
  go_enter Try.func31, Try.ntmps31
  go_wp2
  go_loopw [3, 4] (fun s i wr => ∃ (k : Nat), k ≤ 8 ∧ i = .int .i64 k ∧ s = .int .i64 (S.tot f k) ∧ Hid (Fr (fun _ => False) (w.alloc (.cells (V8 f) 42)) wr)) (fun _ i _ => 8 - (intOf i).toNat)
  case atStart => exact ⟨0, by omega, rfl, rfl, hid (Fr.refl _ _)⟩
  case round =>
    obtain ⟨k, hk, rfl, rfl, HF⟩ := hrel
    by_cases hlt : k < 8
    · have hx : wrap64 (S.tot f k + f k) = S.tot f (k + 1) := rfl
      have HX := hid hx
      have c0 : wr.cell? ⟨w.heap.size, k, none⟩ = some (.int .i64 (f k)) := cellA (HF.out.cells BW.out (fun h => h)) (V8.at f hlt)
      generalize S.tot f k = t at HX
      generalize f k = x at HX c0
      clear hx
      have i0 : (0 : Int) ≤ (k : Int) := by omega
      have i1 : (k : Int) < 8 := by omega
      go_wp2
      go_roundw
      case rel => exact ⟨k + 1, by omega, by first | go_num | trivial, by rw [HX.out], HF⟩
      case measure => simp [intOf]; omega
    · obtain rfl : k = 8 := by omega
      go_wp2
      go_ret
      exact ⟨rfl, (Fr.alloc (Fr.refl _ _) _).trans HF.out (fun _ _ h => h)⟩
set_option maxHeartbeats 1600000 in
theorem rscheckv_any (f : Nat → Int) (w : World) : Calls Try.prog 23 #[.agg (V8 f)] w fun e w' => e = .returned (.bool (S.okv f 8)) ∧ Fr (fun _ => False) w w' := by
  have BW := hid (show (w.alloc (.cells (V8 f) 42)).heap[w.heap.size]? = some (.cells (V8 f) 42 (0, 0)) from Go.heap_alloc_new w _)
  go_enter Try.func23, Try.ntmps23
  go_wp2
  go_loopw [3] (fun i wr => ∃ (k : Nat), k ≤ 8 ∧ i = .int .i64 k ∧ Hid (S.okv f k = true) ∧ Hid (Fr (fun _ => False) (w.alloc (.cells (V8 f) 42)) wr)) (fun i _ => 8 - (intOf i).toNat)
  case atStart => exact ⟨0, by omega, rfl, hid rfl, hid (Fr.refl _ _)⟩
  case round =>
    obtain ⟨k, hk, rfl, HO, HF⟩ := hrel
    by_cases hlt : k < 8
    · have i0 : (0 : Int) ≤ (k : Int) := by omega
      have i1 : (k : Int) < 8 := by omega
      have c0 : wr.cell? ⟨w.heap.size, k, none⟩ = some (.int .i64 (f k)) := cellA (HF.out.cells BW.out (fun h => h)) (V8.at f hlt)
      have KC := hid (rcount_any (f k))
      cases hc : S.cnt (f k) with
      | false =>
        have HN := hid (S.okv_no hc 8 hlt)
        rw [hc] at KC
        clear hc
        generalize f k = x at c0 KC
        go_wp2_with (first | (go_at_call 42; refine (KC.out _).mono ?_; rintro e wx ⟨rfl, rfl⟩))
        go_ret
        exact ⟨ret_bool HN.out.symm, (Fr.alloc (Fr.refl _ _) _).trans HF.out (fun _ _ h => h)⟩
      | true =>
        have HN := hid (show S.okv f (k + 1) = true by simp only [S.okv, HO.out, hc, Bool.true_and])
        rw [hc] at KC
        clear hc
        generalize f k = x at c0 KC
        go_wp2_with (first | (go_at_call 42; refine (KC.out _).mono ?_; rintro e wx ⟨rfl, rfl⟩))
        go_roundw
        case rel => exact ⟨k + 1, by omega, by first | go_num | trivial, HN, HF⟩
        case measure => simp [intOf]; omega
    · obtain rfl : k = 8 := by omega
      go_wp2
      go_ret
      exact ⟨ret_bool HO.out.symm, (Fr.alloc (Fr.refl _ _) _).trans HF.out (fun _ _ h => h)⟩
/-- is one above another? -/
def S.abv (f g : Nat → Int) : Nat → Bool
  | 0 => true
  | k + 1 => S.abv f g k && decide (g k ≤ f k)
theorem S.abv_no {f g : Nat → Int} {k : Nat} (h : f k < g k) : ∀ n, k < n → S.abv f g n = false
  | 0, hn => by omega
  | n + 1, hn => by
    simp only [S.abv]
    by_cases e : k = n
    · subst e; simp; intro _; exact h
    · simp [S.abv_no h n (by omega)]
theorem S.abv_iff {f g : Nat → Int} : ∀ {n : Nat}, S.abv f g n = true ↔ ∀ k, k < n → g k ≤ f k
  | 0 => by simp [S.abv]
  | n + 1 => by
    simp only [S.abv, Bool.and_eq_true, decide_eq_true_eq, S.abv_iff (n := n)]
    constructor
    · rintro ⟨h1, h2⟩ k hk
      by_cases e : k = n
      · subst e; exact h2
      · exact h1 k (by omega)
    · intro h
      exact ⟨fun k hk => h k (by omega), h n (by omega)⟩
set_option maxHeartbeats 1600000 in
theorem rsabove_any (f g : Nat → Int) (w : World) : Calls Try.prog 29 #[.agg (V8 f), .agg (V8 g)] w fun e w' => e = .returned (.bool (S.abv f g 8)) ∧ Fr (fun _ => False) w w' := by
  have BW := hid (show ((w.alloc (.cells (V8 f) 42)).alloc (.cells (V8 g) 42)).heap[w.heap.size]? = some (.cells (V8 f) 42 (0, 0)) from S.two0 w _ _)
  have BV := hid (show ((w.alloc (.cells (V8 f) 42)).alloc (.cells (V8 g) 42)).heap[w.heap.size + 1]? = some (.cells (V8 g) 42 (0, 0)) from S.two1 w _ _)
  go_enter Try.func29, Try.ntmps29
  go_wp2
  go_loopw [5] (fun i wr => ∃ (k : Nat), k ≤ 8 ∧ i = .int .i64 k ∧ Hid (S.abv f g k = true) ∧ Hid (Fr (fun _ => False) ((w.alloc (.cells (V8 f) 42)).alloc (.cells (V8 g) 42)) wr)) (fun i _ => 8 - (intOf i).toNat)
  case atStart => exact ⟨0, by omega, rfl, hid rfl, hid (Fr.refl _ _)⟩
  case round =>
    obtain ⟨k, hk, rfl, HO, HF⟩ := hrel
    by_cases hlt : k < 8
    · have i0 : (0 : Int) ≤ (k : Int) := by omega
      have i1 : (k : Int) < 8 := by omega
      have c0 : wr.cell? ⟨w.heap.size, k, none⟩ = some (.int .i64 (f k)) := cellA (HF.out.cells BW.out (fun h => h)) (V8.at f hlt)
      have c1 : wr.cell? ⟨w.heap.size + 1, k, none⟩ = some (.int .i64 (g k)) := cellA (HF.out.cells BV.out (fun h => h)) (V8.at g hlt)
      by_cases hc : f k < g k
      · have HN := hid (S.abv_no hc 8 hlt)
        generalize f k = x at c0 hc
        generalize g k = y at c1 hc
        go_wp2
        all_goals (try go_region)
        all_goals go_wp2
        all_goals (go_ret; exact ⟨ret_bool HN.out.symm, (Fr.alloc (Fr.alloc (Fr.refl _ _) _) _).trans (by first | exact HF.out | exact Fr.drew HF.out) (fun _ _ h => h)⟩)
      · have HN := hid (show S.abv f g (k + 1) = true by simp only [S.abv, HO.out, Bool.true_and, decide_eq_true_eq]; omega)
        generalize f k = x at c0 hc
        generalize g k = y at c1 hc
        go_wp2
        all_goals (try go_region)
        all_goals go_wp2
        all_goals go_roundw
        case rel => exact ⟨k + 1, by omega, by first | go_num | trivial, HN, hid (by first | exact HF.out | exact Fr.drew HF.out)⟩
        case measure => simp [intOf]; omega
    · obtain rfl : k = 8 := by omega
      go_wp2
      go_ret
      exact ⟨ret_bool HO.out.symm, (Fr.alloc (Fr.alloc (Fr.refl _ _) _) _).trans HF.out (fun _ _ h => h)⟩
end Go.Proofs.Ytfbpaboakdpceaa

/-
  The document's CheckOp.
-/
import Derived.Test.YtfkddpcadgidgaaDoorQFw4
import Derived.Test.YtfkddpcadgidgaaDoorRefInt
namespace Go.Proofs.YtfkddpcadgidgaaDoor
open Go.RowKit
set_option linter.unusedVariables false
set_option linter.unusedSimpArgs false

theorem rCount_any (n : Int) (w : World) : Calls Tryd.prog 47 #[.int .i64 n] w fun e w' => e = .returned (.bool (M.within 0 1099511627776 [n])) ∧ w = w' := by
  by_cases h1 : 0 ≤ n
  · by_cases h2 : n ≤ 1099511627776
    · go_enter Tryd.func47, Tryd.ntmps47
      go_wp2
      go_ret
      exact ⟨ret_bool (by simp [M.within]; omega), rfl⟩
    · go_enter Tryd.func47, Tryd.ntmps47
      go_wp2
      go_ret
      exact ⟨ret_bool (by simp [M.within]; omega), rfl⟩
  · go_enter Tryd.func47, Tryd.ntmps47
    go_wp2
    go_ret
    exact ⟨ret_bool (by simp [M.within]; omega), rfl⟩
theorem rSite_any (n : Int) (w : World) : Calls Tryd.prog 48 #[.int .i64 n] w fun e w' => e = .returned (.bool (M.within 0 7 [n])) ∧ w = w' := by
  by_cases h1 : 0 ≤ n
  · by_cases h2 : n < 8
    · go_enter Tryd.func48, Tryd.ntmps48
      go_wp2
      go_ret
      exact ⟨ret_bool (by simp [M.within]; omega), rfl⟩
    · go_enter Tryd.func48, Tryd.ntmps48
      go_wp2
      go_ret
      exact ⟨ret_bool (by simp [M.within]; omega), rfl⟩
  · go_enter Tryd.func48, Tryd.ntmps48
    go_wp2
    go_ret
    exact ⟨ret_bool (by simp [M.within]; omega), rfl⟩
theorem rNode_any (n : Int) (w : World) : Calls Tryd.prog 70 #[.int .i64 n] w fun e w' => e = .returned (.bool (M.within 0 1125899906842624 [n])) ∧ w = w' := by
  by_cases h1 : 0 ≤ n
  · by_cases h2 : n ≤ 1125899906842624
    · go_enter Tryd.func70, Tryd.ntmps70
      go_wp2
      go_ret
      exact ⟨ret_bool (by simp [M.within]; omega), rfl⟩
    · go_enter Tryd.func70, Tryd.ntmps70
      go_wp2
      go_ret
      exact ⟨ret_bool (by simp [M.within]; omega), rfl⟩
  · go_enter Tryd.func70, Tryd.ntmps70
    go_wp2
    go_ret
    exact ⟨ret_bool (by simp [M.within]; omega), rfl⟩
set_option maxHeartbeats 800000 in
theorem rStamp_any (t s : Int) (w : World) : Calls Tryd.prog 69 #[.agg #[.int .i64 t, .int .i64 s]] w fun e w' => e = .returned (.bool (M.within 0 1099511627776 [t] && M.within 0 7 [s])) ∧ Fr (fun _ => False) w w' := by
  cases B0 : M.within 0 1099511627776 [t] with
  | false =>
    go_enter Tryd.func69, Tryd.ntmps69
    go_wp2_with (first | (go_at_call 47; refine (rCount_any _ _).mono ?_; rw [B0]; rintro e wx ⟨rfl, rfl⟩))
    go_ret
    exact ⟨rfl, Fr.alloc (Fr.refl _ _) _⟩
  | true =>
    cases B1 : M.within 0 7 [s] with
    | false =>
      go_enter Tryd.func69, Tryd.ntmps69
      go_wp2_with (first | (go_at_call 47; refine (rCount_any _ _).mono ?_; rw [B0]; rintro e wx ⟨rfl, rfl⟩) | (go_at_call 48; refine (rSite_any _ _).mono ?_; rw [B1]; rintro e wx ⟨rfl, rfl⟩))
      go_ret
      exact ⟨rfl, Fr.alloc (Fr.refl _ _) _⟩
    | true =>
      go_enter Tryd.func69, Tryd.ntmps69
      go_wp2_with (first | (go_at_call 47; refine (rCount_any _ _).mono ?_; rw [B0]; rintro e wx ⟨rfl, rfl⟩) | (go_at_call 48; refine (rSite_any _ _).mono ?_; rw [B1]; rintro e wx ⟨rfl, rfl⟩))
      go_ret
      exact ⟨rfl, Fr.alloc (Fr.refl _ _) _⟩
theorem M.mayOp_eq (o : M.Op) : M.mayOp o = ((M.within 0 1099511627776 [o.t] && M.within 0 7 [o.s]) && decide (1 ≤ o.k) && decide (o.k ≤ 3) && M.within 0 1125899906842624 [o.n] && M.within 0 1125899906842624 [o.p] && decide (o.a.size ≤ 255) && decide (o.b.size ≤ 255) && decide (o.c.size ≤ 255)) := by
  simp [M.mayOp, M.within, M.texts, Bool.and_assoc]
set_option maxRecDepth 20000 in
set_option maxHeartbeats 3200000 in
theorem rMayOp_any (o : M.Op) (w : World) : Calls Tryd.prog 40 #[.agg o.cs] w fun e w' => e = .returned (.bool (M.mayOp o)) ∧ Fr (fun _ => False) w w' := by
  have FW := hid (show Fr (fun _ => False) w (w.alloc (.cells o.cs 25)) from Fr.alloc (Fr.refl _ _) _)
  have BW := hid (show (w.alloc (.cells o.cs 25)).heap[w.heap.size]? = some (.cells o.cs 25 (0, 0)) from Go.heap_alloc_new w _)
  rw [M.mayOp_eq]
  unfold M.Op.cs at *
  cases B0 : (M.within 0 1099511627776 [o.t] && M.within 0 7 [o.s]) with
  | false =>
    simp only [Bool.true_and, Bool.and_true, Bool.false_and, Bool.and_false]
    go_enter Tryd.func40, Tryd.ntmps40
    go_wp2_with (first
      | (go_at_call 69; refine (rStamp_any _ _ _).mono ?_; rw [B0]; rintro e wx ⟨rfl, fx⟩; have b := fx.cells BW.out (fun h => h); have d2 := cell_at (j := 2) b rfl; have d3 := cell_at (j := 3) b rfl; have d4 := cell_at (j := 4) b rfl; have d5 := cell_at (j := 5) b rfl; have d6 := cell_at (j := 6) b rfl; have d7 := cell_at (j := 7) b rfl; have FX := hid fx; clear b fx)
      | (go_at_call 70; refine (rNode_any o.n _).mono ?_; rw [B3]; rintro e wy ⟨rfl, rfl⟩)
      | (go_at_call 70; refine (rNode_any o.p _).mono ?_; rw [B4]; rintro e wy ⟨rfl, rfl⟩))
    go_ret
    exact ⟨rfl, FW.out.trans FX.out (fun _ _ h => h)⟩
  | true =>
    by_cases K1 : 1 ≤ o.k
    case neg =>
      rw [decide_eq_false K1]
      simp only [Bool.true_and, Bool.and_true, Bool.false_and, Bool.and_false]
      go_enter Tryd.func40, Tryd.ntmps40
      go_wp2_with (first
        | (go_at_call 69; refine (rStamp_any _ _ _).mono ?_; rw [B0]; rintro e wx ⟨rfl, fx⟩; have b := fx.cells BW.out (fun h => h); have d2 := cell_at (j := 2) b rfl; have d3 := cell_at (j := 3) b rfl; have d4 := cell_at (j := 4) b rfl; have d5 := cell_at (j := 5) b rfl; have d6 := cell_at (j := 6) b rfl; have d7 := cell_at (j := 7) b rfl; have FX := hid fx; clear b fx)
        | (go_at_call 70; refine (rNode_any o.n _).mono ?_; rw [B3]; rintro e wy ⟨rfl, rfl⟩)
        | (go_at_call 70; refine (rNode_any o.p _).mono ?_; rw [B4]; rintro e wy ⟨rfl, rfl⟩))
      go_ret
      exact ⟨rfl, FW.out.trans FX.out (fun _ _ h => h)⟩
    case pos =>
      by_cases K2 : o.k ≤ 3
      case neg =>
        rw [decide_eq_true K1, decide_eq_false K2]
        simp only [Bool.true_and, Bool.and_true, Bool.false_and, Bool.and_false]
        go_enter Tryd.func40, Tryd.ntmps40
        go_wp2_with (first
          | (go_at_call 69; refine (rStamp_any _ _ _).mono ?_; rw [B0]; rintro e wx ⟨rfl, fx⟩; have b := fx.cells BW.out (fun h => h); have d2 := cell_at (j := 2) b rfl; have d3 := cell_at (j := 3) b rfl; have d4 := cell_at (j := 4) b rfl; have d5 := cell_at (j := 5) b rfl; have d6 := cell_at (j := 6) b rfl; have d7 := cell_at (j := 7) b rfl; have FX := hid fx; clear b fx)
          | (go_at_call 70; refine (rNode_any o.n _).mono ?_; rw [B3]; rintro e wy ⟨rfl, rfl⟩)
          | (go_at_call 70; refine (rNode_any o.p _).mono ?_; rw [B4]; rintro e wy ⟨rfl, rfl⟩))
        go_ret
        exact ⟨rfl, FW.out.trans FX.out (fun _ _ h => h)⟩
      case pos =>
        cases B3 : M.within 0 1125899906842624 [o.n] with
        | false =>
          rw [decide_eq_true K1, decide_eq_true K2]
          simp only [Bool.true_and, Bool.and_true, Bool.false_and, Bool.and_false]
          go_enter Tryd.func40, Tryd.ntmps40
          go_wp2_with (first
            | (go_at_call 69; refine (rStamp_any _ _ _).mono ?_; rw [B0]; rintro e wx ⟨rfl, fx⟩; have b := fx.cells BW.out (fun h => h); have d2 := cell_at (j := 2) b rfl; have d3 := cell_at (j := 3) b rfl; have d4 := cell_at (j := 4) b rfl; have d5 := cell_at (j := 5) b rfl; have d6 := cell_at (j := 6) b rfl; have d7 := cell_at (j := 7) b rfl; have FX := hid fx; clear b fx)
            | (go_at_call 70; refine (rNode_any o.n _).mono ?_; rw [B3]; rintro e wy ⟨rfl, rfl⟩)
            | (go_at_call 70; refine (rNode_any o.p _).mono ?_; rw [B4]; rintro e wy ⟨rfl, rfl⟩))
          go_ret
          exact ⟨rfl, FW.out.trans FX.out (fun _ _ h => h)⟩
        | true =>
          cases B4 : M.within 0 1125899906842624 [o.p] with
          | false =>
            rw [decide_eq_true K1, decide_eq_true K2]
            simp only [Bool.true_and, Bool.and_true, Bool.false_and, Bool.and_false]
            go_enter Tryd.func40, Tryd.ntmps40
            go_wp2_with (first
              | (go_at_call 69; refine (rStamp_any _ _ _).mono ?_; rw [B0]; rintro e wx ⟨rfl, fx⟩; have b := fx.cells BW.out (fun h => h); have d2 := cell_at (j := 2) b rfl; have d3 := cell_at (j := 3) b rfl; have d4 := cell_at (j := 4) b rfl; have d5 := cell_at (j := 5) b rfl; have d6 := cell_at (j := 6) b rfl; have d7 := cell_at (j := 7) b rfl; have FX := hid fx; clear b fx)
              | (go_at_call 70; refine (rNode_any o.n _).mono ?_; rw [B3]; rintro e wy ⟨rfl, rfl⟩)
              | (go_at_call 70; refine (rNode_any o.p _).mono ?_; rw [B4]; rintro e wy ⟨rfl, rfl⟩))
            go_ret
            exact ⟨rfl, FW.out.trans FX.out (fun _ _ h => h)⟩
          | true =>
            by_cases A1 : o.a.size ≤ 255
            case neg =>
              rw [decide_eq_true K1, decide_eq_true K2, decide_eq_false A1]
              simp only [Bool.true_and, Bool.and_true, Bool.false_and, Bool.and_false]
              go_enter Tryd.func40, Tryd.ntmps40
              go_wp2_with (first
                | (go_at_call 69; refine (rStamp_any _ _ _).mono ?_; rw [B0]; rintro e wx ⟨rfl, fx⟩; have b := fx.cells BW.out (fun h => h); have d2 := cell_at (j := 2) b rfl; have d3 := cell_at (j := 3) b rfl; have d4 := cell_at (j := 4) b rfl; have d5 := cell_at (j := 5) b rfl; have d6 := cell_at (j := 6) b rfl; have d7 := cell_at (j := 7) b rfl; have FX := hid fx; clear b fx)
                | (go_at_call 70; refine (rNode_any o.n _).mono ?_; rw [B3]; rintro e wy ⟨rfl, rfl⟩)
                | (go_at_call 70; refine (rNode_any o.p _).mono ?_; rw [B4]; rintro e wy ⟨rfl, rfl⟩))
              go_ret
              exact ⟨rfl, FW.out.trans FX.out (fun _ _ h => h)⟩
            case pos =>
              by_cases A2 : o.b.size ≤ 255
              case neg =>
                rw [decide_eq_true K1, decide_eq_true K2, decide_eq_true A1, decide_eq_false A2]
                simp only [Bool.true_and, Bool.and_true, Bool.false_and, Bool.and_false]
                go_enter Tryd.func40, Tryd.ntmps40
                go_wp2_with (first
                  | (go_at_call 69; refine (rStamp_any _ _ _).mono ?_; rw [B0]; rintro e wx ⟨rfl, fx⟩; have b := fx.cells BW.out (fun h => h); have d2 := cell_at (j := 2) b rfl; have d3 := cell_at (j := 3) b rfl; have d4 := cell_at (j := 4) b rfl; have d5 := cell_at (j := 5) b rfl; have d6 := cell_at (j := 6) b rfl; have d7 := cell_at (j := 7) b rfl; have FX := hid fx; clear b fx)
                  | (go_at_call 70; refine (rNode_any o.n _).mono ?_; rw [B3]; rintro e wy ⟨rfl, rfl⟩)
                  | (go_at_call 70; refine (rNode_any o.p _).mono ?_; rw [B4]; rintro e wy ⟨rfl, rfl⟩))
                go_ret
                exact ⟨rfl, FW.out.trans FX.out (fun _ _ h => h)⟩
              case pos =>
                by_cases A3 : o.c.size ≤ 255
                case neg =>
                  rw [decide_eq_true K1, decide_eq_true K2, decide_eq_true A1, decide_eq_true A2, decide_eq_false A3]
                  simp only [Bool.true_and, Bool.and_true, Bool.false_and, Bool.and_false]
                  go_enter Tryd.func40, Tryd.ntmps40
                  go_wp2_with (first
                    | (go_at_call 69; refine (rStamp_any _ _ _).mono ?_; rw [B0]; rintro e wx ⟨rfl, fx⟩; have b := fx.cells BW.out (fun h => h); have d2 := cell_at (j := 2) b rfl; have d3 := cell_at (j := 3) b rfl; have d4 := cell_at (j := 4) b rfl; have d5 := cell_at (j := 5) b rfl; have d6 := cell_at (j := 6) b rfl; have d7 := cell_at (j := 7) b rfl; have FX := hid fx; clear b fx)
                    | (go_at_call 70; refine (rNode_any o.n _).mono ?_; rw [B3]; rintro e wy ⟨rfl, rfl⟩)
                    | (go_at_call 70; refine (rNode_any o.p _).mono ?_; rw [B4]; rintro e wy ⟨rfl, rfl⟩))
                  go_ret
                  exact ⟨ret_bool (by simp; omega), FW.out.trans FX.out (fun _ _ h => h)⟩
                case pos =>
                  rw [decide_eq_true K1, decide_eq_true K2, decide_eq_true A1, decide_eq_true A2, decide_eq_true A3]
                  go_enter Tryd.func40, Tryd.ntmps40
                  go_wp2_with (first
                    | (go_at_call 69; refine (rStamp_any _ _ _).mono ?_; rw [B0]; rintro e wx ⟨rfl, fx⟩; have b := fx.cells BW.out (fun h => h); have d2 := cell_at (j := 2) b rfl; have d3 := cell_at (j := 3) b rfl; have d4 := cell_at (j := 4) b rfl; have d5 := cell_at (j := 5) b rfl; have d6 := cell_at (j := 6) b rfl; have d7 := cell_at (j := 7) b rfl; have FX := hid fx; clear b fx)
                    | (go_at_call 70; refine (rNode_any o.n _).mono ?_; rw [B3]; rintro e wy ⟨rfl, rfl⟩)
                    | (go_at_call 70; refine (rNode_any o.p _).mono ?_; rw [B4]; rintro e wy ⟨rfl, rfl⟩))
                  go_ret
                  exact ⟨ret_bool (by simp; omega), FW.out.trans FX.out (fun _ _ h => h)⟩
theorem rErrno_any (b : Bool) (w : World) : Calls Tryd.prog 39 #[.bool b] w fun e w' => e = .returned (.int .i64 (if b then 0 else 40)) ∧ w = w' := by
  cases b
  · go_enter Tryd.func39, Tryd.ntmps39
    go_wp2
    go_ret
    exact ⟨rfl, rfl⟩
  · go_enter Tryd.func39, Tryd.ntmps39
    go_wp2
    go_ret
    exact ⟨rfl, rfl⟩
set_option maxRecDepth 20000 in
set_option maxHeartbeats 1600000 in
theorem rCheckOp_any (o : M.Op) (w : World) : Calls Tryd.prog 17 #[.agg o.cs] w fun e w' => e = .returned (.int .i64 (if M.mayOp o then 0 else 40)) ∧ Fr (fun _ => False) w w' := by
  have fW : Fr (fun _ => False) w (w.alloc (.cells o.cs 25)) := Fr.alloc (Fr.refl _ _) _
  have k := rMayOp_any o (w.alloc (.cells o.cs 25))
  have FW := hid fW
  clear fW
  unfold M.Op.cs at *
  generalize M.mayOp o = b at *
  have K := hid k
  clear k
  cases b
  all_goals
    go_enter Tryd.func17, Tryd.ntmps17
    go_wp2_with (first | (go_at_call 40; refine K.out.mono ?_; rintro e w1 ⟨rfl, f1⟩; have F1 := hid f1; clear f1) | (go_at_call 39; refine (rErrno_any _ _).mono ?_; rintro e wx ⟨rfl, rfl⟩))
    go_ret
    exact ⟨rfl, FW.out.trans F1.out (fun _ _ h => h)⟩

end Go.Proofs.YtfkddpcadgidgaaDoor

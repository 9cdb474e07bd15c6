/-
  the document's Take.
-/
import Derived.Test.YtedgiffnfhkonaaXTake
namespace Go.Proofs.Ytedgiffnfhkonaa
open Go.RowKit
set_option linter.unusedVariables false
set_option linter.unusedSimpArgs false
set_option maxRecDepth 100000
theorem X.run_big {e o nx la : Int} (h : e ≤ nx) : ∀ l : List S.Op, X.run e o nx la l = []
  | [] => rfl
  | x :: l => by rw [X.run, if_neg (fun hg => by have := hg.1; omega)]
theorem X.cnt_no {g : Nat → Int} {k : Nat} {q : Int} (l : List S.Op) (h : X.may g (k : Int) q = false ∨ 1099511627776 < g (29 + k)) : X.cnt g k q l = [] := by
  unfold X.cnt
  split
  · rename_i hm
    rcases h with h | h
    · rw [h] at hm; cases hm
    · exact X.run_big (by have := X.endOf_le g ((k : Int)).toNat; rw [Int.toNat_natCast] at this ⊢; omega) _
  · rfl
set_option maxHeartbeats 3200000 in
theorem rtake_out (w : World) (g : Nat → Int) (b : Bool) (v : Nat → Value) (o q : Int) (a : Option Addr) (n c : Nat) (hs : X.site o = false) :
    Calls Try.prog 8 #[.agg (X.cs g b v), .int .i64 o, .int .i64 q, .slice a n c] w fun e w' => e = .returned (.slice none 0 0) ∧ Fr (fun _ => False) w w' := by
  have F0 := hid (show Fr (fun _ => False) w (w.alloc (.cells (X.cs g b v) 34)) from Fr.alloc (Fr.refl _ _) _)
  generalize X.cs g b v = CX at F0 ⊢
  have KS := hid (fun W => xrsite_any W o)
  rw [hs] at KS
  go_enter Try.func8, Try.ntmps8
  go_wp2_with (first
    | (go_at_call 12; refine (KS.out _).mono ?_; rintro e w1 ⟨rfl, rfl⟩))
  go_ret
  exact ⟨rfl, F0.out⟩
set_option maxHeartbeats 3200000 in
theorem rtake_no (w : World) (g : Nat → Int) (b : Bool) (v : Nat → Value) (k : Nat) (hk : k < 8) (q : Int) (a : Option Addr) (n c : Nat) (hm : X.may g (k : Int) q = false ∨ 1099511627776 < g (29 + k)) :
    Calls Try.prog 8 #[.agg (X.cs g b v), .int .i64 k, .int .i64 q, .slice a n c] w fun e w' => e = .returned (.slice none 0 0) ∧ Fr (fun _ => False) w w' := by
  have F0 := hid (show Fr (fun _ => False) w (w.alloc (.cells (X.cs g b v) 34)) from Fr.alloc (Fr.refl _ _) _)
  have BX := hid (X.boxed w g b v)
  generalize X.cs g b v = CX at F0 BX ⊢
  have KS := hid (fun W => xrsite_any W (k : Int))
  rw [X.site_iff.2 ⟨by omega, by omega⟩] at KS
  have hnot : ¬ ((k : Int) ≠ g 0 ∧ g (4 + k) ≠ 0 ∧ 0 ≤ q ∧ q ≤ g (29 + k)) ∨ 1099511627776 < g (29 + k) := by
    rcases hm with hm | hm
    · exact .inl (fun h => by rw [(X.may_iff hk).2 h] at hm; cases hm)
    · exact .inr hm
  clear hm
  have c0 := BX.out 0 (by omega) (by omega) (X.sl_no (by omega))
  have c4 := BX.out (4 + k) (by omega) (by omega) (X.sl_no (by omega))
  have c29 := BX.out (29 + k) (by omega) (by omega) (X.sl_no (by omega))
  generalize g 0 = g0 at c0 hnot
  generalize g (4 + k) = g4 at c4 hnot
  generalize g (29 + k) = g29 at c29 hnot
  have i0 : (0 : Int) ≤ (k : Int) := by omega
  have i1 : (k : Int) < 8 := by omega
  by_cases h1 : (k : Int) = g0
  · obtain rfl : g0 = (k : Int) := h1.symm
    clear hnot
    go_enter Try.func8, Try.ntmps8
    go_wp2_with (first
      | (go_at_call 12; refine (KS.out _).mono ?_; rintro e w1 ⟨rfl, rfl⟩))
    go_ret
    exact ⟨rfl, F0.out⟩
  · have h1' : ((k : Int) == g0) = false := by simp [h1]
    by_cases h2 : g4 = 0
    · have h2' : (g4 == 0) = true := by simp [h2]
      subst h2
      clear hnot
      go_enter Try.func8, Try.ntmps8
      go_wp2_with (first
        | (go_at_call 12; refine (KS.out _).mono ?_; rintro e w1 ⟨rfl, rfl⟩))
      go_ret
      exact ⟨rfl, F0.out⟩
    · have h2' : (g4 == 0) = false := by simp [h2]
      by_cases h3 : q < 0
      · clear hnot
        go_enter Try.func8, Try.ntmps8
        go_wp2_with (first
          | (go_at_call 12; refine (KS.out _).mono ?_; rintro e w1 ⟨rfl, rfl⟩))
        go_ret
        exact ⟨rfl, F0.out⟩
      · by_cases h4 : g29 < q
        · clear hnot
          go_enter Try.func8, Try.ntmps8
          go_wp2_with (first
            | (go_at_call 12; refine (KS.out _).mono ?_; rintro e w1 ⟨rfl, rfl⟩))
          go_ret
          exact ⟨rfl, F0.out⟩
        · have h5 : 1099511627776 < g29 := by rcases hnot with h | h <;> omega
          clear hnot
          go_enter Try.func8, Try.ntmps8
          go_wp2_with (first
            | (go_at_call 12; refine (KS.out _).mono ?_; rintro e w1 ⟨rfl, rfl⟩))
          go_ret
          exact ⟨rfl, F0.out⟩
end Go.Proofs.Ytedgiffnfhkonaa

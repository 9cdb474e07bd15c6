/-
  A proposer that no call made, and the simplest one: who has promised, who has accepted.
-/
import Derived.Test.YtcmpkbgkhbcekaaDoorAEnt
import Derived.BigQuiet
import Derived.LoopN
import Derived.Deep.RegionHeld3
namespace Go.Proofs.YtcmpkbgkhbcekaaDoor
open Go.RowKit
set_option linter.unusedVariables false
set_option linter.unusedSimpArgs false

set_option maxHeartbeats 800000 in
theorem jmaj1 (w : World) : Calls Tryd.prog 30 #[.int .i64 1] w fun e w' => e = .returned (.int .i64 1) ∧ w = w' := by
  go_enter Tryd.func30, Tryd.ntmps30
  go_wp2
  go_ret
  exact ⟨rfl, rfl⟩
set_option maxHeartbeats 800000 in
theorem jmade_nil (w : World) : Calls Tryd.prog 22 #[.pointer none] w fun e w' => e = .returned (.bool false) ∧ w = w' := by
  go_enter Tryd.func22, Tryd.ntmps22
  go_wp2
  go_ret
  exact ⟨rfl, rfl⟩
set_option maxHeartbeats 800000 in
theorem jmade_zero {w : World} {p : Nat} (c : w.cell? ⟨p, 3, none⟩ = some (.int .i64 0)) : Calls Tryd.prog 22 #[.pointer (some ⟨p, 0, none⟩)] w fun e w' => e = .returned (.bool false) ∧ w = w' := by
  go_enter Tryd.func22, Tryd.ntmps22
  go_wp2
  go_ret
  exact ⟨rfl, rfl⟩
set_option maxHeartbeats 800000 in
theorem jmade_one {w : World} {p : Nat} (c : w.cell? ⟨p, 3, none⟩ = some (.int .i64 1)) : Calls Tryd.prog 22 #[.pointer (some ⟨p, 0, none⟩)] w fun e w' => e = .returned (.bool true) ∧ w = w' := by
  go_enter Tryd.func22, Tryd.ntmps22
  go_wp2
  go_ret
  exact ⟨rfl, rfl⟩
set_option maxHeartbeats 800000 in
theorem jreplica {w : World} {p : Nat} (c : w.cell? ⟨p, 3, none⟩ = some (.int .i64 1)) : Calls Tryd.prog 27 #[.pointer (some ⟨p, 0, none⟩), .int .i64 0] w fun e w' => e = .returned (.bool true) ∧ w = w' := by
  go_enter Tryd.func27, Tryd.ntmps27
  go_wp2
  go_ret
  exact ⟨rfl, rfl⟩
set_option maxHeartbeats 1600000 in
set_option maxRecDepth 20000 in
theorem jones (x : Int) (hx : x = 0 ∨ x = 1) (w : World) : Calls Tryd.prog 47 #[.int .u8 x] w fun e w' => e = .returned (.int .i64 x) ∧ w = w' := by
  rcases hx with rfl | rfl <;>
  · go_enter Tryd.func47, Tryd.ntmps47
    go_wp2
    go_ret
    exact ⟨by kernel_rfl, rfl⟩
set_option maxHeartbeats 1600000 in
theorem jcount (x : Int) (hx : x = 0 ∨ x = 1) {w : World} {g o : Nat} (c : w.cell? ⟨g, o, none⟩ = some (.int .u8 x)) : Calls Tryd.prog 29 #[.pointer (some ⟨g, o, none⟩)] w fun e w' => e = .returned (.int .i64 x) ∧ w = w' := by
  have K := hid (fun W => jones x hx W)
  rcases hx with rfl | rfl <;>
  · go_enter Tryd.func29, Tryd.ntmps29
    go_wp2
    refine wp_loop_rounds 2 ?_
    rw [rounds_succ]
    go_wp2_with (first | (go_at_call 47; refine (K.out _).mono ?_; rintro e w1 ⟨rfl, rfl⟩))
    rw [rounds_succ]
    go_wp2
    go_ret
    exact ⟨rfl, rfl⟩
set_option maxHeartbeats 1600000 in
theorem jhas (x : Int) (hx : x = 0 ∨ x = 1) {w : World} {g o : Nat} (c : w.cell? ⟨g, o, none⟩ = some (.int .u8 x)) : Calls Tryd.prog 28 #[.pointer (some ⟨g, o, none⟩), .int .i64 0] w fun e w' => e = .returned (.bool (decide (x = 1))) ∧ w = w' := by
  rcases hx with rfl | rfl <;>
  · go_enter Tryd.func28, Tryd.ntmps28
    go_wp2
    go_ret
    exact ⟨rfl, rfl⟩
set_option maxHeartbeats 1600000 in
theorem jadd {w : World} {g o : Nat} {cs : Array Value} {t : TypeId} (hb : w.heap[g]? = some (.cells cs t (0, 0))) (hv : cs[o]? = some (.int .u8 0)) : Calls Tryd.prog 19 #[.pointer (some ⟨g, o, none⟩), .int .i64 0] w fun e w' => e = .returned (.tuple #[]) ∧ w'.heap[g]? = some (.cells (cs.setIfInBounds o (.int .u8 1)) t (0, 0)) ∧ Fr (fun k => k = g) w w' := by
  have c : w.cell? ⟨g, o, none⟩ = some (.int .u8 0) := cellA hb hv
  have z := frozen_of_row (j := o) hb
  have HB := hid hb
  clear hb hv
  go_enter Tryd.func19, Tryd.ntmps19
  go_region
  all_goals
    go_end0
    exact ⟨rfl, setCell_row HB.out _, Fr.drew (Fr.setCell (p := ⟨g, o, none⟩) (S := fun k => k = g) (Fr.refl _ _) (fun _ => rfl) _)⟩
set_option maxHeartbeats 1600000 in
theorem jmajority (x : Int) (hx : x = 0 ∨ x = 1) {w : World} {g o : Nat} (c : w.cell? ⟨g, o, none⟩ = some (.int .u8 x)) : Calls Tryd.prog 34 #[.pointer (some ⟨g, o, none⟩), .int .i64 1] w fun e w' => e = .returned (.bool (decide (x = 1))) ∧ w = w' := by
  have K := hid (jcount x hx c)
  rcases hx with rfl | rfl <;>
  · go_enter Tryd.func34, Tryd.ntmps34
    go_wp2_with (first
      | (go_at_call 29; refine K.out.mono ?_; rintro e w1 ⟨rfl, rfl⟩)
      | (go_at_call 30; refine (jmaj1 _).mono ?_; rintro e w1 ⟨rfl, rfl⟩))
    go_ret
    exact ⟨rfl, rfl⟩
end Go.Proofs.YtcmpkbgkhbcekaaDoor

/-
  TreeNames: its walk.
-/
import Derived.Test.YtldldmgpjhokgaaTBegun
import Derived.Test.YtldldmgpjhokgaaTName2
namespace Go.Proofs.Ytldldmgpjhokgaa
open Go.RowKit
set_option linter.unusedVariables false
set_option linter.unusedSimpArgs false

set_option maxHeartbeats 1600000 in
theorem treeNames_walk (s : ByteArray) (w : World) : Calls Try.prog 3 #[.string s] w fun e w' => e = .returned (.bool true) ∧ Fr (fun _ => False) w w' := by
  have KB := hid tbegun_any
  have K1 := hid (tname_any s)
  have K2 := hid (rtname_any s)
  generalize T.nam s = r at K1 K2
  go_enter Try.func3, Try.ntmps3
  go_wp2_with (first
    | (go_at_call 4; refine (KB.out _).mono ?_; rintro e w1 ⟨rfl, fx⟩; have F1 := hid fx; clear fx)
    | (go_at_call 5; refine (K1.out _).mono ?_; rintro e wx ⟨rfl, rfl⟩)
    | (go_at_call 6; refine (K2.out _).mono ?_; rintro e wx ⟨rfl, rfl⟩))
  go_ret
  exact ⟨ret_bool (by simp), F1.out⟩
end Go.Proofs.Ytldldmgpjhokgaa

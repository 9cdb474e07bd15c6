/-
  The contracts of a disk that no call made: nil, or a zero value.
-/
import Derived.Test.YtgplkjfkafnpoaaGreatDoorKNames
namespace Go.Proofs.YtgplkjfkafnpoaaGreatDoor
open Go.RowKit Go.Maps
set_option linter.unusedVariables false

def NoD (w : World) (v : Value) : Prop := v = .pointer none ∨ ∃ p, v = .pointer (some ⟨p, 0, none⟩) ∧ w.cell? ⟨p, 2, none⟩ = some (.map none)
theorem NoD.kept {w w' : World} {v : Value} (h : NoD w v) (hf : Fr (fun _ => False) w w') : NoD w' v := by
  rcases h with h | ⟨p, rfl, hc⟩
  · exact .inl h
  · exact .inr ⟨p, rfl, cell_fr hf (fun h => h) hc⟩

theorem noMade (w : World) (v : Value) (h : NoD w v) : Calls Tryz.prog 74 #[v] w fun e w' => e = .returned (.bool false) ∧ w = w' := by
  have q : (binOp .neq 81 (.map none) (.map none)).run Tryz.prog w = .ok (.bool false) w := run_neq_map_nil w _ _ _ none Tryz.underlying81
  rcases h with rfl | ⟨p, rfl, hc⟩
  all_goals
    go_enter Tryz.func74, Tryz.ntmps74
    go_wp2
    go_ret
    exact ⟨rfl, rfl⟩
theorem noReady (w : World) (v : Value) (h : NoD w v) (a : Option Addr) (len c : Nat) : Calls Tryz.prog 79 #[v, .slice a len c] w fun e w' => e = .returned (.int .i64 2) ∧ w = w' := by
  have K := hid (noMade w v h)
  clear h
  go_enter Tryz.func79, Tryz.ntmps79
  go_wp2_with (first | (go_at_call 74; refine K.out.mono ?_; rintro e w' ⟨rfl, rfl⟩))
  go_ret
  exact ⟨rfl, rfl⟩
theorem noDown (w : World) (v : Value) (h : NoD w v)  : Calls Tryz.prog 88 #[v] w fun e w' => e = .returned (.bool false) ∧ w = w' := by
  have K := hid (noMade w v h)
  clear h
  go_enter Tryz.func88, Tryz.ntmps88
  go_wp2_with (first | (go_at_call 74; refine K.out.mono ?_; rintro e w' ⟨rfl, rfl⟩))
  go_ret
  exact ⟨rfl, rfl⟩
theorem noSetFuse (w : World) (v : Value) (h : NoD w v) (k keep : Int) : Calls Tryz.prog 32 #[v, .int .i64 k, .int .i64 keep] w fun e w' => e = .returned (.int .i64 2) ∧ w = w' := by
  have K := hid (noMade w v h)
  clear h
  go_enter Tryz.func32, Tryz.ntmps32
  go_wp2_with (first | (go_at_call 74; refine K.out.mono ?_; rintro e w' ⟨rfl, rfl⟩))
  go_ret
  exact ⟨rfl, rfl⟩
theorem noCrash (w : World) (v : Value) (h : NoD w v) (keep : Int) : Calls Tryz.prog 29 #[v, .int .i64 keep] w fun e w' => e = .returned (.int .i64 2) ∧ w = w' := by
  have K := hid (noMade w v h)
  clear h
  go_enter Tryz.func29, Tryz.ntmps29
  go_wp2_with (first | (go_at_call 74; refine K.out.mono ?_; rintro e w' ⟨rfl, rfl⟩))
  go_ret
  exact ⟨rfl, rfl⟩
theorem noRestart (w : World) (v : Value) (h : NoD w v)  : Calls Tryz.prog 30 #[v] w fun e w' => e = .returned (.int .i64 2) ∧ w = w' := by
  have K := hid (noMade w v h)
  clear h
  go_enter Tryz.func30, Tryz.ntmps30
  go_wp2_with (first | (go_at_call 74; refine K.out.mono ?_; rintro e w' ⟨rfl, rfl⟩))
  go_ret
  exact ⟨rfl, rfl⟩
theorem noFind (w : World) (v : Value) (h : NoD w v) (s : ByteArray) : Calls Tryz.prog 90 #[v, .string s] w fun e w' => e = .returned (.tuple #[.pointer none, .int .i64 2]) ∧ Fr (fun _ => False) w w' := by
  have K := hid (fun (W : World) (hf : Fr (fun _ => False) w W) a len c => noReady W v (h.kept hf) a len c)
  clear h
  go_enter Tryz.func90, Tryz.ntmps90
  go_wp2_with (first | (go_at_call 79; refine (K.out _ (Fr.alloc (Fr.refl _ _) _) _ _ _).mono ?_; rintro e w1 ⟨rfl, hw1⟩; have F1 := hid (show Fr (fun _ => False) w w1 from hw1 ▸ Fr.alloc (Fr.refl _ _) _); clear hw1))
  go_ret2
  exact ⟨rfl, F1.out⟩
theorem noAppend (w : World) (v : Value) (h : NoD w v) (s : ByteArray) (a : Option Addr) (len c : Nat) : Calls Tryz.prog 36 #[v, .string s, .slice a len c] w fun e w' => e = .returned (.int .i64 2) ∧ Fr (fun _ => False) w w' := by
  have K := hid (fun (W : World) (hf : Fr (fun _ => False) w W) a len c => noReady W v (h.kept hf) a len c)
  clear h
  go_enter Tryz.func36, Tryz.ntmps36
  go_wp2_with (first | (go_at_call 79; refine (K.out _ (Fr.alloc (Fr.refl _ _) _) _ _ _).mono ?_; rintro e w1 ⟨rfl, hw1⟩; have F1 := hid (show Fr (fun _ => False) w w1 from hw1 ▸ Fr.alloc (Fr.refl _ _) _); clear hw1))
  go_ret
  exact ⟨rfl, F1.out⟩
theorem noRename (w : World) (v : Value) (h : NoD w v) (s t : ByteArray) : Calls Tryz.prog 145 #[v, .string s, .string t] w fun e w' => e = .returned (.int .i64 2) ∧ Fr (fun _ => False) w w' := by
  have K := hid (fun (W : World) (hf : Fr (fun _ => False) w W) a len c => noReady W v (h.kept hf) a len c)
  clear h
  go_enter Tryz.func145, Tryz.ntmps145
  go_wp2_with (first | (go_at_call 79; refine (K.out _ (Fr.alloc (Fr.refl _ _) _) _ _ _).mono ?_; rintro e w1 ⟨rfl, hw1⟩; have F1 := hid (show Fr (fun _ => False) w w1 from hw1 ▸ Fr.alloc (Fr.refl _ _) _); clear hw1))
  go_ret
  exact ⟨rfl, F1.out⟩
theorem noSync (w : World) (v : Value) (h : NoD w v) (s : ByteArray) : Calls Tryz.prog 96 #[v, .string s] w fun e w' => e = .returned (.int .i64 2) ∧ Fr (fun _ => False) w w' := by
  have K := hid (noFind w v h s)
  clear h
  go_enter Tryz.func96, Tryz.ntmps96
  go_wp2_with (first | (go_at_call 90; refine K.out.mono ?_; rintro e w1 ⟨rfl, hf1⟩; have F1 := hid hf1; clear hf1))
  go_ret
  exact ⟨rfl, F1.out⟩
theorem noRemove (w : World) (v : Value) (h : NoD w v) (s : ByteArray) : Calls Tryz.prog 72 #[v, .string s] w fun e w' => e = .returned (.int .i64 2) ∧ Fr (fun _ => False) w w' := by
  have K := hid (noFind w v h s)
  clear h
  go_enter Tryz.func72, Tryz.ntmps72
  go_wp2_with (first | (go_at_call 90; refine K.out.mono ?_; rintro e w1 ⟨rfl, hf1⟩; have F1 := hid hf1; clear hf1))
  go_ret
  exact ⟨rfl, F1.out⟩
theorem noRead (w : World) (v : Value) (h : NoD w v) (s : ByteArray) : Calls Tryz.prog 89 #[v, .string s] w fun e w' => e = .returned (.tuple #[.slice none 0 0, .int .i64 2]) ∧ Fr (fun _ => False) w w' := by
  have K := hid (noFind w v h s)
  clear h
  go_enter Tryz.func89, Tryz.ntmps89
  go_wp2_with (first | (go_at_call 90; refine K.out.mono ?_; rintro e w1 ⟨rfl, hf1⟩; have F1 := hid hf1; clear hf1))
  go_ret2
  exact ⟨rfl, F1.out⟩
theorem noSize (w : World) (v : Value) (h : NoD w v) (s : ByteArray) : Calls Tryz.prog 47 #[v, .string s] w fun e w' => e = .returned (.tuple #[.int .i64 0, .int .i64 0, .int .i64 2]) ∧ Fr (fun _ => False) w w' := by
  have K := hid (noFind w v h s)
  clear h
  go_enter Tryz.func47, Tryz.ntmps47
  go_wp2_with (first | (go_at_call 90; refine K.out.mono ?_; rintro e w1 ⟨rfl, hf1⟩; have F1 := hid hf1; clear hf1))
  go_ret3
  exact ⟨rfl, F1.out⟩
theorem noNames (w : World) (v : Value) (h : NoD w v) : Calls Tryz.prog 35 #[v] w fun e w' => ∃ B, e = .returned (.func (.func 78) #[] #[.pointer (some ⟨B, 0, none⟩)]) ∧ w'.cell? ⟨B, 0, none⟩ = some (.slice none 0 0) ∧ Fr (fun _ => False) w w' := by
  have K := hid (fun (W : World) (hf : Fr (fun _ => False) w W) => noMade W v (h.kept hf))
  clear h
  go_enter Tryz.func35, Tryz.ntmps35
  go_wp2_with (first | (go_at_call 74; refine (K.out _ (Fr.alloc (Fr.refl _ _) _)).mono ?_; rintro e w' ⟨rfl, rfl⟩))
  go_ret
  exact ⟨_, rfl, cell_of (Go.heap_alloc_new w _) rfl, Fr.alloc (Fr.refl _ _) _⟩
end Go.Proofs.YtgplkjfkafnpoaaGreatDoor

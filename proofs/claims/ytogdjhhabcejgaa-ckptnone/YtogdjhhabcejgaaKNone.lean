/-
  The contracts of a disk that no call made: nil, or a zero value.
-/
import Derived.Test.YtogdjhhabcejgaaKNames
namespace Go.Proofs.Ytogdjhhabcejgaa
open Go.RowKit Go.Maps
set_option linter.unusedVariables false

def NoD (w : World) (v : Value) : Prop := v = .pointer none ∨ ∃ p, v = .pointer (some ⟨p, 0, none⟩) ∧ w.cell? ⟨p, 2, none⟩ = some (.map none)
theorem NoD.kept {w w' : World} {v : Value} (h : NoD w v) (hf : Fr (fun _ => False) w w') : NoD w' v := by
  rcases h with h | ⟨p, rfl, hc⟩
  · exact .inl h
  · exact .inr ⟨p, rfl, cell_fr hf (fun h => h) hc⟩

theorem noMade (w : World) (v : Value) (h : NoD w v) : Calls Try.prog 43 #[v] w fun e w' => e = .returned (.bool false) ∧ w = w' := by
  have q : (binOp .neq 47 (.map none) (.map none)).run Try.prog w = .ok (.bool false) w := run_neq_map_nil w _ _ _ none Try.underlying47
  rcases h with rfl | ⟨p, rfl, hc⟩
  all_goals
    go_enter Try.func43, Try.ntmps43
    go_wp2
    go_ret
    exact ⟨rfl, rfl⟩
theorem noReady (w : World) (v : Value) (h : NoD w v) (a : Option Addr) (len c : Nat) : Calls Try.prog 64 #[v, .slice a len c] w fun e w' => e = .returned (.int .i64 2) ∧ w = w' := by
  have K := hid (noMade w v h)
  clear h
  go_enter Try.func64, Try.ntmps64
  go_wp2_with (first | (go_at_call 43; refine K.out.mono ?_; rintro e w' ⟨rfl, rfl⟩))
  go_ret
  exact ⟨rfl, rfl⟩
theorem noUsed (w : World) (v : Value) (h : NoD w v)  : Calls Try.prog 18 #[v] w fun e w' => e = .returned (.int .i64 0) ∧ w = w' := by
  have K := hid (noMade w v h)
  clear h
  go_enter Try.func18, Try.ntmps18
  go_wp2_with (first | (go_at_call 43; refine K.out.mono ?_; rintro e w' ⟨rfl, rfl⟩))
  go_ret
  exact ⟨rfl, rfl⟩
theorem noDown (w : World) (v : Value) (h : NoD w v)  : Calls Try.prog 19 #[v] w fun e w' => e = .returned (.bool false) ∧ w = w' := by
  have K := hid (noMade w v h)
  clear h
  go_enter Try.func19, Try.ntmps19
  go_wp2_with (first | (go_at_call 43; refine K.out.mono ?_; rintro e w' ⟨rfl, rfl⟩))
  go_ret
  exact ⟨rfl, rfl⟩
theorem noSetFuse (w : World) (v : Value) (h : NoD w v) (k keep : Int) : Calls Try.prog 17 #[v, .int .i64 k, .int .i64 keep] w fun e w' => e = .returned (.int .i64 2) ∧ w = w' := by
  have K := hid (noMade w v h)
  clear h
  go_enter Try.func17, Try.ntmps17
  go_wp2_with (first | (go_at_call 43; refine K.out.mono ?_; rintro e w' ⟨rfl, rfl⟩))
  go_ret
  exact ⟨rfl, rfl⟩
theorem noRestart (w : World) (v : Value) (h : NoD w v)  : Calls Try.prog 42 #[v] w fun e w' => e = .returned (.int .i64 2) ∧ w = w' := by
  have K := hid (noMade w v h)
  clear h
  go_enter Try.func42, Try.ntmps42
  go_wp2_with (first | (go_at_call 43; refine K.out.mono ?_; rintro e w' ⟨rfl, rfl⟩))
  go_ret
  exact ⟨rfl, rfl⟩
theorem noFind (w : World) (v : Value) (h : NoD w v) (s : ByteArray) : Calls Try.prog 67 #[v, .string s] w fun e w' => e = .returned (.tuple #[.pointer none, .int .i64 2]) ∧ Fr (fun _ => False) w w' := by
  have K := hid (fun (W : World) (hf : Fr (fun _ => False) w W) a len c => noReady W v (h.kept hf) a len c)
  clear h
  go_enter Try.func67, Try.ntmps67
  go_wp2_with (first | (go_at_call 64; refine (K.out _ (Fr.alloc (Fr.refl _ _) _) _ _ _).mono ?_; rintro e w1 ⟨rfl, hw1⟩; have F1 := hid (show Fr (fun _ => False) w w1 from hw1 ▸ Fr.alloc (Fr.refl _ _) _); clear hw1))
  go_ret2
  exact ⟨rfl, F1.out⟩
theorem noAppend (w : World) (v : Value) (h : NoD w v) (s : ByteArray) (a : Option Addr) (len c : Nat) : Calls Try.prog 38 #[v, .string s, .slice a len c] w fun e w' => e = .returned (.int .i64 2) ∧ Fr (fun _ => False) w w' := by
  have K := hid (fun (W : World) (hf : Fr (fun _ => False) w W) a len c => noReady W v (h.kept hf) a len c)
  clear h
  go_enter Try.func38, Try.ntmps38
  go_wp2_with (first | (go_at_call 64; refine (K.out _ (Fr.alloc (Fr.refl _ _) _) _ _ _).mono ?_; rintro e w1 ⟨rfl, hw1⟩; have F1 := hid (show Fr (fun _ => False) w w1 from hw1 ▸ Fr.alloc (Fr.refl _ _) _); clear hw1))
  go_ret
  exact ⟨rfl, F1.out⟩
theorem noRename (w : World) (v : Value) (h : NoD w v) (s t : ByteArray) : Calls Try.prog 40 #[v, .string s, .string t] w fun e w' => e = .returned (.int .i64 2) ∧ Fr (fun _ => False) w w' := by
  have K := hid (fun (W : World) (hf : Fr (fun _ => False) w W) a len c => noReady W v (h.kept hf) a len c)
  clear h
  go_enter Try.func40, Try.ntmps40
  go_wp2_with (first | (go_at_call 64; refine (K.out _ (Fr.alloc (Fr.refl _ _) _) _ _ _).mono ?_; rintro e w1 ⟨rfl, hw1⟩; have F1 := hid (show Fr (fun _ => False) w w1 from hw1 ▸ Fr.alloc (Fr.refl _ _) _); clear hw1))
  go_ret
  exact ⟨rfl, F1.out⟩
theorem noSync (w : World) (v : Value) (h : NoD w v) (s : ByteArray) : Calls Try.prog 39 #[v, .string s] w fun e w' => e = .returned (.int .i64 2) ∧ Fr (fun _ => False) w w' := by
  have K := hid (noFind w v h s)
  clear h
  go_enter Try.func39, Try.ntmps39
  go_wp2_with (first | (go_at_call 67; refine K.out.mono ?_; rintro e w1 ⟨rfl, hf1⟩; have F1 := hid hf1; clear hf1))
  go_ret
  exact ⟨rfl, F1.out⟩
theorem noRemove (w : World) (v : Value) (h : NoD w v) (s : ByteArray) : Calls Try.prog 63 #[v, .string s] w fun e w' => e = .returned (.int .i64 2) ∧ Fr (fun _ => False) w w' := by
  have K := hid (noFind w v h s)
  clear h
  go_enter Try.func63, Try.ntmps63
  go_wp2_with (first | (go_at_call 67; refine K.out.mono ?_; rintro e w1 ⟨rfl, hf1⟩; have F1 := hid hf1; clear hf1))
  go_ret
  exact ⟨rfl, F1.out⟩
theorem noRead (w : World) (v : Value) (h : NoD w v) (s : ByteArray) : Calls Try.prog 47 #[v, .string s] w fun e w' => e = .returned (.tuple #[.slice none 0 0, .int .i64 2]) ∧ Fr (fun _ => False) w w' := by
  have K := hid (noFind w v h s)
  clear h
  go_enter Try.func47, Try.ntmps47
  go_wp2_with (first | (go_at_call 67; refine K.out.mono ?_; rintro e w1 ⟨rfl, hf1⟩; have F1 := hid hf1; clear hf1))
  go_ret2
  exact ⟨rfl, F1.out⟩
theorem noNames (w : World) (v : Value) (h : NoD w v) : Calls Try.prog 20 #[v] w fun e w' => ∃ B, e = .returned (.func (.func 46) #[] #[.pointer (some ⟨B, 0, none⟩)]) ∧ w'.cell? ⟨B, 0, none⟩ = some (.slice none 0 0) ∧ Fr (fun _ => False) w w' := by
  have K := hid (fun (W : World) (hf : Fr (fun _ => False) w W) => noMade W v (h.kept hf))
  clear h
  go_enter Try.func20, Try.ntmps20
  go_wp2_with (first | (go_at_call 43; refine (K.out _ (Fr.alloc (Fr.refl _ _) _)).mono ?_; rintro e w' ⟨rfl, rfl⟩))
  go_ret
  exact ⟨_, rfl, cell_of (Go.heap_alloc_new w _) rfl, Fr.alloc (Fr.refl _ _) _⟩
theorem noClone_at (w : World) (q : Option Addr) (h : NoD w (.pointer q)) : Calls Try.prog 41 #[.pointer q] w fun e w' => e = .returned (.pointer none) ∧ Fr (fun _ => False) w w' := by
  have K := hid (fun (W : World) (hf : Fr (fun _ => False) w W) => noMade W (.pointer q) (h.kept hf))
  clear h
  go_enter Try.func41, Try.ntmps41
  go_wp2_with (first | (go_at_call 43; refine (K.out _ (Fr.alloc (Fr.refl _ _) _)).mono ?_; rintro e w' ⟨rfl, rfl⟩))
  go_ret
  exact ⟨rfl, Fr.alloc (Fr.refl _ _) _⟩
theorem noClone (w : World) (v : Value) (h : NoD w v) : Calls Try.prog 41 #[v] w fun e w' => e = .returned (.pointer none) ∧ Fr (fun _ => False) w w' := by
  have h' := h
  rcases h with rfl | ⟨p, rfl, _⟩
  · exact noClone_at w none h'
  · exact noClone_at w _ h'

end Go.Proofs.Ytogdjhhabcejgaa

/-
  Acceptor's laws begin with answers that the document fixes: live. Ballots.
-/
import Derived.Test.YtedhmhlhjonloaaACollect
namespace Go.Proofs.Ytedhmhlhjonloaa
open Go.RowKit Go.Maps
set_option linter.unusedVariables false
set_option linter.unusedSimpArgs false

/-- the zero entry -/
def A.zfx : List Value := [.int .i64 0, .int .i64 0, .int .i64 0, .int .i64 0, .int .i64 0, .int .i64 0, .int .i64 0, .int .i64 0, .string ⟨#[]⟩, .string ⟨#[]⟩, .string ⟨#[]⟩, .int .i64 0, .int .i64 0, .slice none 0 0, .int .i64 0, .int .i64 0, .int .i64 0, .int .i64 0, .int .i64 0, .int .i64 0, .int .i64 0, .int .i64 0, .int .i64 0, .int .i64 0, .int .i64 0, .int .i64 0, .int .i64 0, .int .i64 0, .int .i64 0, .int .i64 0, .int .i64 0, .int .i64 0, .int .i64 0, .int .i64 0, .int .i64 0, .int .i64 0, .int .i64 0, .int .i64 0, .int .i64 0, .int .i64 0, .int .i64 0, .int .i64 0, .int .i64 0, .int .i64 0, .int .i64 0, .int .i64 0, .int .i64 0, .int .i64 0, .int .i64 0, .int .i64 0, .int .i64 0, .int .i64 0, .slice none 0 0, .int .i64 0, .int .i64 0, .int .i64 0]
def A.zen : A.En := ⟨A.zfx, [], []⟩
def A.vB (t : Nat) (v : Value) : Bool := match t, v with
  | 0, .int .i64 _ => true
  | 1, .string _ => true
  | 2, .slice none 0 0 => true
  | _, _ => false
theorem A.vB_ok {t : Nat} {v : Value} (h : A.vB t v = true) : A.vOk t v := by
  unfold A.vB at h
  split at h
  · exact ⟨_, rfl⟩
  · exact ⟨_, rfl⟩
  · rfl
  · cases h
theorem A.ty_of {fx : List Value} (h : (fx.zipIdx.all (fun p => A.vB (A.tyAt p.2) p.1)) = true) : ∀ (j : Nat) v, fx[j]? = some v → A.vOk (A.tyAt j) v := fun j v hv => by
  rw [List.all_eq_true] at h
  exact A.vB_ok (h (v, j) (List.mem_zipIdx_iff_getElem?.2 hv))
theorem A.zen_ok : A.zen.Ok := ⟨rfl, A.ty_of (by decide), by simp [A.zen], by simp [A.zen], by simp [A.zen]⟩
theorem A.zen_re (I : Nat → Prop) (w : World) : Re I w A.zfx A.zen := ⟨A.zen_ok, none, 0, none, 0, rfl, Rw.nil _ _ _ _, Rw.nil _ _ _ _⟩
theorem live_plain : A.prepare A.new (2, 0) 0 = (0, [], ⟨(2, 0), 0, []⟩) ∧ A.accept ⟨(2, 0), 0, []⟩ (1, 0) 0 A.zen = (70, ⟨(2, 0), 0, []⟩) ∧ A.accept ⟨(2, 0), 0, []⟩ (2, 0) 3 A.zen = (0, ⟨(2, 0), 0, [(3, ⟨3, (2, 0), A.zen⟩)]⟩) := by
  refine ⟨rfl, rfl, rfl⟩
set_option maxHeartbeats 3200000 in
set_option maxRecDepth 20000 in
theorem live_any (w : World) : Calls Try.prog 10 #[] w fun e w' => e = .returned (.bool true) ∧ Fr (fun _ => False) w w' := by
  have KN := hid (acNew_any w)
  have KP := hid (fun (I : Nat → Prop) (W : World) (p mb : Nat) (h : At_ I W p mb A.new) => acPrepare_any h 2 0 0 (by show (0 : Nat) ≤ _; omega))
  have KA := hid (fun (I : Nat → Prop) (W : World) (p mb : Nat) (h : At_ I W p mb ⟨(2, 0), 0, []⟩) (b s : Int) => acAccept_any (J := fun _ => False) h b 0 s (A.zen_re _ W) (by show (0 : Nat) < _; omega) (fun h => h))
  rw [live_plain.1] at KP
  unfold ptrV at KP
  unfold A.zfx at KA
  have KL := hid (fun (I : Nat → Prop) (W : World) (p mb : Nat) (h : At_ I W p mb ⟨(2, 0), 0, [(3, ⟨3, (2, 0), A.zen⟩)]⟩) => acLen_any h)
  have KC := hid (fun (W : World) => check_any 1 0 W)
  have e1 := live_plain.2.1
  have e2 := live_plain.2.2
  have KA1 := hid (fun (I : Nat → Prop) (W : World) (p mb : Nat) (h : At_ I W p mb ⟨(2, 0), 0, []⟩) => KA.out I W p mb h 1 0)
  have KA2 := hid (fun (I : Nat → Prop) (W : World) (p mb : Nat) (h : At_ I W p mb ⟨(2, 0), 0, []⟩) => KA.out I W p mb h 2 3)
  rw [e1] at KA1
  rw [e2] at KA2
  clear KA e1 e2
  go_enter Try.func10, Try.ntmps10
  go_wp2_with (first
    | (go_at_call 9; refine KN.out.mono ?_; rintro e w1 ⟨p, mb, rfl, hp, hm, hat, hf⟩; have HAT := hid hat; have F1 := hid hf; have HP := hid (And.intro hp hm); clear hat hf hp hm)
    | (go_at_call 25; refine (KP.out _ _ _ _ HAT.out).mono ?_; rintro e w2 ⟨ra, rc, xs, rfl, hxs, hsx, hat2, hf2⟩; have HAT2 := hid hat2; have F2 := hid hf2; clear hat2 hf2 hsx hxs))
  refine (KA1.out _ _ _ _ HAT2.out).mono ?_
  rintro e w3 ⟨rfl, hat3, hf3⟩
  have HAT3 := hid hat3
  have F3 := hid hf3
  clear hat3 hf3
  go_wp2_with fail
  refine (KA2.out _ _ _ _ HAT3.out).mono ?_
  rintro e w4 ⟨rfl, hat4, hf4⟩
  have HAT4 := hid hat4
  have F4 := hid hf4
  clear hat4 hf4
  go_wp2_with (first
    | (go_at_call 32; refine (KL.out _ _ _ _ HAT4.out).mono ?_; rintro e w5 ⟨rfl, rfl⟩)
    | (go_at_call 33; refine (KC.out _).mono ?_; rintro e w6 ⟨rfl, hf6⟩))
  go_ret
  refine ⟨rfl, ?_⟩
  have hp := HP.out
  have f2 : Fr (fun k => k = p ∨ k = mb) w1 w4 := ((F2.out.mono (fun _ _ h => .inl h)).trans F3.out (fun _ _ h => h)).trans F4.out (fun _ _ h => h)
  exact ((F1.out.trans f2 (fun i hi e => by rcases e with e | e <;> omega)).trans hf6 (fun _ _ h => h))
end Go.Proofs.Ytedhmhlhjonloaa

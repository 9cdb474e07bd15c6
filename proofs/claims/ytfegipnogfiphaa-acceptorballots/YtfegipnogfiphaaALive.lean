/-
  Acceptor's laws begin with answers that the document fixes: live. Ballots.
-/
import Derived.Test.YtfegipnogfiphaaACollect
namespace Go.Proofs.Ytfegipnogfiphaa
open Go.RowKit Go.Maps
set_option linter.unusedVariables false
set_option linter.unusedSimpArgs false

/-- the zero entry -/
def A.zfx : List Value := [.int .i64 0, .int .i64 0, .int .i64 0, .int .i64 0, .int .i64 0, .int .i64 0, .int .i64 0, .int .i64 0, .string ⟨#[]⟩, .string ⟨#[]⟩, .string ⟨#[]⟩, .int .i64 0, .int .i64 0, .slice none 0 0, .int .i64 0, .int .i64 0, .int .i64 0, .int .i64 0, .int .i64 0, .int .i64 0, .int .i64 0, .int .i64 0, .int .i64 0, .int .i64 0, .int .i64 0, .int .i64 0, .int .i64 0, .int .i64 0, .int .i64 0, .int .i64 0, .int .i64 0, .int .i64 0, .int .i64 0, .int .i64 0, .int .i64 0, .int .i64 0, .int .i64 0, .int .i64 0, .int .i64 0, .int .i64 0, .int .i64 0, .int .i64 0, .int .i64 0, .int .i64 0, .int .i64 0, .int .i64 0, .int .i64 0, .int .i64 0, .int .i64 0, .int .i64 0, .int .i64 0, .int .i64 0, .slice none 0 0, .int .i64 0, .int .i64 0, .int .i64 0]
def A.zen : A.En := ⟨A.zfx, [], []⟩
def A.vB (t : Nat) (v : Value) : Bool := match t, v with
  | 0, .int .i64 _ => true
  | 1, .string _ => true
  | 2, .slice none 0 0 => true
  | _, _ => false
theorem A.vB_ok {t : Nat} {v : Value} (h : A.vB t v = true) : A.vOk t v := by
  unfold A.vB at h
  split at h
  · exact ⟨_, rfl⟩
  · exact ⟨_, rfl⟩
  · rfl
  · cases h
theorem A.ty_of {fx : List Value} (h : (fx.zipIdx.all (fun p => A.vB (A.tyAt p.2) p.1)) = true) : ∀ (j : Nat) v, fx[j]? = some v → A.vOk (A.tyAt j) v := fun j v hv => by
  rw [List.all_eq_true] at h
  exact A.vB_ok (h (v, j) (List.mem_zipIdx_iff_getElem?.2 hv))
theorem A.zen_ok : A.zen.Ok := ⟨rfl, A.ty_of (by decide), by simp [A.zen], by simp [A.zen], by simp [A.zen]⟩
theorem A.zen_re (I : Nat → Prop) (w : World) : Re I w A.zfx A.zen := ⟨A.zen_ok, none, 0, none, 0, rfl, Rw.nil _ _ _ _, Rw.nil _ _ _ _⟩
theorem live_plain : A.prepare A.new (2, 0) 0 = (0, [], ⟨(2, 0), 0, []⟩) ∧ A.accept ⟨(2, 0), 0, []⟩ (1, 0) 0 A.zen = (70, ⟨(2, 0), 0, []⟩) ∧ A.accept ⟨(2, 0), 0, []⟩ (2, 0) 3 A.zen = (0, ⟨(2, 0), 0, [(3, ⟨3, (2, 0), A.zen⟩)]⟩) := by
  refine ⟨rfl, rfl, rfl⟩
set_option maxHeartbeats 3200000 in
set_option maxRecDepth 20000 in
theorem live_any (w : World) : Calls Try.prog 10 #[] w fun e w' => e = .returned (.bool true) ∧ Fr (fun _ => False) w w' := by
  have KN := hid (acNew_any w)
  have KP := hid (fun (I : Nat → Prop) (W : World) (p mb : Nat) (h : At_ I W p mb A.new) => acPrepare_any h 2 0 0 (by show (0 : Nat) ≤ _; omega))
  have KA := hid (fun (I : Nat → Prop) (W : World) (p mb : Nat) (h : At_ I W p mb ⟨(2, 0), 0, []⟩) (b s : Int) => acAccept_any (J := fun _ => False) h b 0 s (A.zen_re _ W) (by show (0 : Nat) < _; omega) (fun h => h))
  rw [live_plain.1] at KP
  unfold ptrV at KP
  unfold A.zfx at KA
  have KL := hid (fun (I : Nat → Prop) (W : World) (p mb : Nat) (h : At_ I W p mb ⟨(2, 0), 0, [(3, ⟨3, (2, 0), A.zen⟩)]⟩) => acLen_any h)
  have KC := hid (fun (W : World) => check_any 1 0 W)
  have e1 := live_plain.2.1
  have e2 := live_plain.2.2
  have KA1 := hid (fun (I : Nat → Prop) (W : World) (p mb : Nat) (h : At_ I W p mb ⟨(2, 0), 0, []⟩) => KA.out I W p mb h 1 0)
  have KA2 := hid (fun (I : Nat → Prop) (W : World) (p mb : Nat) (h : At_ I W p mb ⟨(2, 0), 0, []⟩) => KA.out I W p mb h 2 3)
  rw [e1] at KA1
  rw [e2] at KA2
  clear KA e1 e2
  go_enter Try.func10, Try.ntmps10
  go_wp2_with (first
    | (go_at_call 9; refine KN.out.mono ?_; rintro e w1 ⟨p, mb, rfl, hp, hm, hat, hf⟩; have HAT := hid hat; have F1 := hid hf; have HP := hid (And.intro hp hm); clear hat hf hp hm)
    | (go_at_call 27; refine (KP.out _ _ _ _ HAT.out).mono ?_; rintro e w2 ⟨ra, rc, xs, rfl, hxs, hsx, hat2, hf2⟩; have HAT2 := hid hat2; have F2 := hid hf2; clear hat2 hf2 hsx hxs))
  refine (KA1.out _ _ _ _ HAT2.out).mono ?_
  rintro e w3 ⟨rfl, hat3, hf3⟩
  have HAT3 := hid hat3
  have F3 := hid hf3
  clear hat3 hf3
  go_wp2_with fail
  refine (KA2.out _ _ _ _ HAT3.out).mono ?_
  rintro e w4 ⟨rfl, hat4, hf4⟩
  have HAT4 := hid hat4
  have F4 := hid hf4
  clear hat4 hf4
  go_wp2_with (first
    | (go_at_call 34; refine (KL.out _ _ _ _ HAT4.out).mono ?_; rintro e w5 ⟨rfl, rfl⟩)
    | (go_at_call 24; refine (KC.out _).mono ?_; rintro e w6 ⟨rfl, hf6⟩))
  go_ret
  refine ⟨rfl, ?_⟩
  have hp := HP.out
  have f2 : Fr (fun k => k = p ∨ k = mb) w1 w4 := ((F2.out.mono (fun _ _ h => .inl h)).trans F3.out (fun _ _ h => h)).trans F4.out (fun _ _ h => h)
  exact ((F1.out.trans f2 (fun i hi e => by rcases e with e | e <;> omega)).trans hf6 (fun _ _ h => h))
set_option maxHeartbeats 1600000 in
theorem acceptorBallots_walk (a1 a2 b1 b2 : Int) (w : World) : Calls Try.prog 5 #[.agg #[.int .i64 a1, .int .i64 a2], .agg #[.int .i64 b1, .int .i64 b2]] w fun e w' => e = .returned (.bool true) ∧ Fr (fun _ => False) w w' := by
  obtain ⟨W, hW⟩ : ∃ W, (w.alloc (.cells #[.int .i64 a1, .int .i64 a2] 27)).alloc (.cells #[.int .i64 b1, .int .i64 b2] 27) = W := ⟨_, rfl⟩
  have f0 : Fr (fun _ => False) w W := by rw [← hW]; exact Fr.alloc (Fr.alloc (Fr.refl _ _) _) _
  have ba : W.heap[w.heap.size]? = some (.cells #[.int .i64 a1, .int .i64 a2] 27 (0, 0)) := by rw [← hW]; exact (Below.heap_alloc _ _ _ (by simp)).trans (Go.heap_alloc_new w _)
  have bb : W.heap[w.heap.size + 1]? = some (.cells #[.int .i64 b1, .int .i64 b2] 27 (0, 0)) := by
    have h1 := Go.heap_alloc_new (w.alloc (.cells #[.int .i64 a1, .int .i64 a2] 27)) (.cells #[.int .i64 b1, .int .i64 b2] 27)
    rw [World.size_alloc] at h1
    rw [← hW]; exact h1
  have KL := hid (fun (V : World) => live_any V)
  have KC := hid (fun (V : World) => compare_any a1 a2 b1 b2 V)
  have KR := hid (fun (V : World) => rcompare_any a1 a2 b1 b2 V)
  have KK := hid (fun (V : World) => check_any a1 a2 V)
  have KQ := hid (fun (V : World) => rcheck_any a1 a2 V)
  have HC := hid (fun (V : World) (hf : Fr (fun _ => False) W V) => show V.cell? ⟨w.heap.size, 0, none⟩ = some (.int .i64 a1) ∧ V.cell? ⟨w.heap.size, 1, none⟩ = some (.int .i64 a2) ∧ V.cell? ⟨w.heap.size + 1, 0, none⟩ = some (.int .i64 b1) ∧ V.cell? ⟨w.heap.size + 1, 1, none⟩ = some (.int .i64 b2) from ⟨cellA (hf.cells ba (fun h => h)) rfl, cellA (hf.cells ba (fun h => h)) rfl, cellA (hf.cells bb (fun h => h)) rfl, cellA (hf.cells bb (fun h => h)) rfl⟩)
  have HW := hid hW
  have F0 := hid f0
  generalize A.cmp (a1, a2) (b1, b2) = x at KC KR
  generalize A.okB (a1, a2) = y at KK KQ
  clear hW f0 ba bb
  go_enter Try.func5, Try.ntmps5
  go_wp2_with fail
  rw [HW.out]
  obtain ⟨c0, c1, c2, c3⟩ := HC.out W (Fr.refl _ _)
  go_region_held3 (fun V => V.cell? ⟨w.heap.size, 0, none⟩ = some (.int .i64 a1) ∧ V.cell? ⟨w.heap.size, 1, none⟩ = some (.int .i64 a2) ∧ V.cell? ⟨w.heap.size + 1, 0, none⟩ = some (.int .i64 b1) ∧ V.cell? ⟨w.heap.size + 1, 1, none⟩ = some (.int .i64 b2)) (first | exact ⟨c0, c1, c2, c3⟩ | go_keep | exact HC.out _ F5.out | exact HC.out _ F4.out | exact HC.out _ F3.out | exact HC.out _ F2.out | exact HC.out _ F1.out)
    (first
      | (go_at_call 10; refine (KL.out _).mono ?_; rintro e w1 ⟨rfl, f1⟩; have F1 : Hid (Fr (fun _ => False) W w1) := hid (by first | exact f1 | exact (Fr.drew (Fr.refl _ _)).trans f1 (fun _ _ h => h) | exact (Fr.drewN _ _).trans f1 (fun _ _ h => h)); clear f1)
      | (go_at_call 22; refine (KC.out w1).mono ?_; rintro e w2 ⟨rfl, f2⟩; have F2 : Hid (Fr (fun _ => False) W w2) := hid (F1.out.trans f2 (fun _ _ h => h)); clear f2)
      | (go_at_call 23; refine (KR.out w2).mono ?_; rintro e w3 ⟨rfl, f3⟩; have F3 : Hid (Fr (fun _ => False) W w3) := hid (F2.out.trans f3 (fun _ _ h => h)); clear f3)
      | (go_at_call 24; refine (KK.out w3).mono ?_; rintro e w4 ⟨rfl, f4⟩; have F4 : Hid (Fr (fun _ => False) W w4) := hid (F3.out.trans f4 (fun _ _ h => h)); clear f4)
      | (go_at_call 25; refine (KQ.out w4).mono ?_; rintro e w5 ⟨rfl, f5⟩; have F5 : Hid (Fr (fun _ => False) W w5) := hid (F4.out.trans f5 (fun _ _ h => h)); clear f5))
  go_wp2
  go_ret
  exact ⟨rfl, F0.out.trans F5.out (fun _ _ h => h)⟩
end Go.Proofs.Ytfegipnogfiphaa

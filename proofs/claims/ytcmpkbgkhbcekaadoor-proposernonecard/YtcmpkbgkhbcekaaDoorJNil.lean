/-
  What a proposer that no call made answers.
-/
import Derived.Test.YtcmpkbgkhbcekaaDoorJBase
import Derived.Test.YtcmpkbgkhbcekaaDoorAClone
import Derived.Deep.QuietTactic
namespace Go.Proofs.YtcmpkbgkhbcekaaDoor
open Go.RowKit
set_option linter.unusedVariables false
set_option linter.unusedSimpArgs false

/-- the zero of a slotted entry -/
def jS59 : Array Value := #[.int .i64 0, .int .i64 0, .int .i64 0, .int .i64 0, .int .i64 0, .int .i64 0, .int .i64 0, .int .i64 0, .int .i64 0, .int .i64 0, .int .i64 0, .string ⟨#[]⟩, .string ⟨#[]⟩, .string ⟨#[]⟩, .int .i64 0, .int .i64 0, .slice none 0 0, .int .i64 0, .int .i64 0, .int .i64 0, .int .i64 0, .int .i64 0, .int .i64 0, .int .i64 0, .int .i64 0, .int .i64 0, .int .i64 0, .int .i64 0, .int .i64 0, .int .i64 0, .int .i64 0, .int .i64 0, .int .i64 0, .int .i64 0, .int .i64 0, .int .i64 0, .int .i64 0, .int .i64 0, .int .i64 0, .int .i64 0, .int .i64 0, .int .i64 0, .int .i64 0, .int .i64 0, .int .i64 0, .int .i64 0, .int .i64 0, .int .i64 0, .int .i64 0, .int .i64 0, .int .i64 0, .int .i64 0, .int .i64 0, .int .i64 0, .int .i64 0, .slice none 0 0, .int .i64 0, .int .i64 0, .int .i64 0]
/-- NO PROPOSER: nil, or one whose n is 0. -/
def NoP (w : World) (v : Value) : Prop := v = .pointer none ∨ ∃ p, v = .pointer (some ⟨p, 0, none⟩) ∧ w.cell? ⟨p, 3, none⟩ = some (.int .i64 0)
theorem NoP.fr {w w' : World} {v : Value} (h : NoP w v) (hf : Fr (fun _ => False) w w') : NoP w' v := by
  rcases h with h | ⟨p, h, c⟩
  · exact .inl h
  · exact .inr ⟨p, h, cellFr hf (fun h => h) c⟩
theorem nmade {w : World} {v : Value} (h : NoP w v) : Calls Tryd.prog 22 #[v] w fun e w' => e = .returned (.bool false) ∧ w = w' := by
  rcases h with rfl | ⟨p, rfl, c⟩
  · exact jmade_nil w
  · exact jmade_zero c
/-- .. in whatever is drawn besides -/
theorem nmadeF {w : World} {v : Value} (h : NoP w v) : Hid (∀ W, Fr (fun _ => False) w W → Calls Tryd.prog 22 #[v] W fun e w' => e = .returned (.bool false) ∧ W = w') := fun W hf => nmade (h.fr hf)
set_option maxHeartbeats 1600000 in
theorem nready {w : World} {v : Value} (h : NoP w v) : Calls Tryd.prog 11 #[v] w fun e w' => e = .returned (.bool false) ∧ Fr (fun _ => False) w w' := by
  have K := nmadeF h
  have hmx : Tryd.prog.follows .mixedOrders = true := by kernel_rfl
  clear h
  go_enter Tryd.func11, Tryd.ntmps11
  go_wp2
  refine wp_region_held (S := fun V => Fr (fun _ => False) w V) hmx ?_
  have hS : Fr (fun _ => False) w w.drew := Fr.drew (Fr.refl _ _)
  simp only [List.size_toArray, List.length_cons, List.length_nil, Nat.reduceAdd, Array.replicate_succ, Array.replicate_zero, List.push_toArray, List.nil_append, List.cons_append]
  refine wpAnyH_take (i := 0) (v := ?_) rfl (by kernel_rfl) (by kernel_rfl) (by kernel_rfl) (fun _ _ _ h => h) (Or.inl ⟨by kernel_rfl, ?_⟩) hS ?_
  rotate_left 1
  · (intro w' hS'; clear hS'; go_simp; try with_reducible rfl)
  simp only [List.getElem_toArray, List.getElem_cons_zero, List.getElem_cons_succ, Act.put, List.setIfInBounds_toArray, List.set_cons_zero, List.set_cons_succ]
  refine wpAnyH_ready (rs := [1]) (by kernel_rfl) (by simp) ?_
  refine AllReadyH.cons rfl (fun K1 hK1 => ?_) AllReadyH.nil
  go_simp
  refine (K.out _ hS).mono ?_
  rintro e w1 ⟨rfl, rfl⟩
  refine hK1.out _ _ hS (fun hS => ?_)
  clear hK1 K1
  simp only [Act.put, List.setIfInBounds_toArray, List.set_cons_zero, List.set_cons_succ]
  refine wpAnyH_take (i := 2) (v := ?_) rfl (by kernel_rfl) (by kernel_rfl) (by kernel_rfl) (fun _ _ _ h => h) (Or.inl ⟨by kernel_rfl, ?_⟩) hS ?_
  rotate_left 1
  · (intro w' hS'; clear hS'; go_simp; try with_reducible rfl)
  simp only [List.getElem_toArray, List.getElem_cons_zero, List.getElem_cons_succ, Act.put, List.setIfInBounds_toArray, List.set_cons_zero, List.set_cons_succ]
  refine wpAnyH_take (i := 3) (v := undef) rfl (by kernel_rfl) (by kernel_rfl) (by kernel_rfl) (fun _ _ _ h => h) (Or.inr ⟨by kernel_rfl, rfl⟩) hS ?_
  simp only [List.getElem_toArray, List.getElem_cons_zero, List.getElem_cons_succ, Act.put, List.setIfInBounds_toArray, List.set_cons_zero, List.set_cons_succ]
  refine wpAnyH_take (i := 4) (v := undef) rfl (by kernel_rfl) (by kernel_rfl) (by kernel_rfl) (fun _ _ _ h => h) (Or.inr ⟨by kernel_rfl, rfl⟩) hS ?_
  simp only [List.getElem_toArray, List.getElem_cons_zero, List.getElem_cons_succ, Act.put, List.setIfInBounds_toArray, List.set_cons_zero, List.set_cons_succ]
  refine wpAnyH_take (i := 5) (v := undef) rfl (by kernel_rfl) (by kernel_rfl) (by kernel_rfl) (fun _ _ _ h => h) (Or.inr ⟨by kernel_rfl, rfl⟩) hS ?_
  simp only [List.getElem_toArray, List.getElem_cons_zero, List.getElem_cons_succ, Act.put, List.setIfInBounds_toArray, List.set_cons_zero, List.set_cons_succ]
  refine wpAnyH_take (i := 6) (v := undef) rfl (by kernel_rfl) (by kernel_rfl) (by kernel_rfl) (fun _ _ _ h => h) (Or.inr ⟨by kernel_rfl, rfl⟩) hS ?_
  simp only [List.getElem_toArray, List.getElem_cons_zero, List.getElem_cons_succ, Act.put, List.setIfInBounds_toArray, List.set_cons_zero, List.set_cons_succ]
  refine wpAnyH_take (i := 7) (v := undef) rfl (by kernel_rfl) (by kernel_rfl) (by kernel_rfl) (fun _ _ _ h => h) (Or.inr ⟨by kernel_rfl, rfl⟩) hS ?_
  simp only [List.getElem_toArray, List.getElem_cons_zero, List.getElem_cons_succ, Act.put, List.setIfInBounds_toArray, List.set_cons_zero, List.set_cons_succ]
  refine wpAnyH_take (i := 8) (v := undef) rfl (by kernel_rfl) (by kernel_rfl) (by kernel_rfl) (fun _ _ _ h => h) (Or.inr ⟨by kernel_rfl, rfl⟩) hS ?_
  simp only [List.getElem_toArray, List.getElem_cons_zero, List.getElem_cons_succ, Act.put, List.setIfInBounds_toArray, List.set_cons_zero, List.set_cons_succ]
  refine wpAnyH_take (i := 9) (v := undef) rfl (by kernel_rfl) (by kernel_rfl) (by kernel_rfl) (fun _ _ _ h => h) (Or.inr ⟨by kernel_rfl, rfl⟩) hS ?_
  simp only [List.getElem_toArray, List.getElem_cons_zero, List.getElem_cons_succ, Act.put, List.setIfInBounds_toArray, List.set_cons_zero, List.set_cons_succ]
  refine wpAnyH_take (i := 10) (v := undef) rfl (by kernel_rfl) (by kernel_rfl) (by kernel_rfl) (fun _ _ _ h => h) (Or.inr ⟨by kernel_rfl, rfl⟩) hS ?_
  simp only [List.getElem_toArray, List.getElem_cons_zero, List.getElem_cons_succ, Act.put, List.setIfInBounds_toArray, List.set_cons_zero, List.set_cons_succ]
  refine wpAnyH_take (i := 11) (v := ?_) rfl (by kernel_rfl) (by kernel_rfl) (by kernel_rfl) (fun _ _ _ h => h) (Or.inl ⟨by kernel_rfl, ?_⟩) hS ?_
  rotate_left 1
  · (intro w' hS'; clear hS'; go_simp; try with_reducible rfl)
  simp only [List.getElem_toArray, List.getElem_cons_zero, List.getElem_cons_succ, Act.put, List.setIfInBounds_toArray, List.set_cons_zero, List.set_cons_succ]
  refine wpAnyH_take (i := 12) (v := ?_) rfl (by kernel_rfl) (by kernel_rfl) (by kernel_rfl) (fun _ _ _ h => h) (Or.inl ⟨by kernel_rfl, ?_⟩) hS ?_
  rotate_left 1
  · (intro w' hS'; clear hS'; go_simp; try with_reducible rfl)
  simp only [List.getElem_toArray, List.getElem_cons_zero, List.getElem_cons_succ, Act.put, List.setIfInBounds_toArray, List.set_cons_zero, List.set_cons_succ]
  refine wpAnyH_done (by kernel_rfl) ?_ _
  have FS := hid hS
  clear hS K
  go_wp2
  go_ret
  exact ⟨rfl, FS.out⟩
set_option maxHeartbeats 1600000 in
theorem nnext {w : World} {v : Value} (h : NoP w v) : Calls Tryd.prog 14 #[v] w fun e w' => e = .returned (.int .i64 0) ∧ w = w' := by
  have K := hid (nmade h)
  clear h
  go_enter Tryd.func14, Tryd.ntmps14
  go_wp2_with (first | (go_at_call 22; refine K.out.mono ?_; rintro e w1 ⟨rfl, rfl⟩))
  go_ret
  exact ⟨rfl, rfl⟩
set_option maxHeartbeats 1600000 in
theorem nwaiting {w : World} {v : Value} (h : NoP w v) : Calls Tryd.prog 12 #[v] w fun e w' => e = .returned (.slice none 0 0) ∧ w = w' := by
  have K := hid (nmade h)
  clear h
  go_enter Tryd.func12, Tryd.ntmps12
  go_wp2_with (first | (go_at_call 22; refine K.out.mono ?_; rintro e w1 ⟨rfl, rfl⟩))
  go_ret
  exact ⟨rfl, rfl⟩
set_option maxHeartbeats 1600000 in
theorem nat_ {w : World} {v : Value} (h : NoP w v) (s : Int) : Calls Tryd.prog 26 #[v, .int .i64 s] w fun e w' => e = .returned (.pointer none) ∧ w = w' := by
  have K := hid (nmade h)
  clear h
  go_enter Tryd.func26, Tryd.ntmps26
  go_wp2_with (first | (go_at_call 22; refine K.out.mono ?_; rintro e w1 ⟨rfl, rfl⟩))
  go_ret
  exact ⟨rfl, rfl⟩
set_option maxHeartbeats 1600000 in
theorem nmissing {w : World} {v : Value} (h : NoP w v) (s : Int) : Calls Tryd.prog 13 #[v, .int .i64 s] w fun e w' => e = .returned (.slice none 0 0) ∧ w = w' := by
  have K := hid (nat_ h s)
  clear h
  go_enter Tryd.func13, Tryd.ntmps13
  go_wp2_with (first | (go_at_call 26; refine K.out.mono ?_; rintro e w1 ⟨rfl, rfl⟩))
  go_ret
  exact ⟨rfl, rfl⟩
set_option maxHeartbeats 1600000 in
theorem nforget {w : World} {v : Value} (h : NoP w v) (s : Int) : Calls Tryd.prog 16 #[v, .int .i64 s] w fun e w' => e = .returned (.int .i64 2) ∧ w = w' := by
  have K := hid (nmade h)
  clear h
  go_enter Tryd.func16, Tryd.ntmps16
  go_wp2_with (first | (go_at_call 22; refine K.out.mono ?_; rintro e w1 ⟨rfl, rfl⟩))
  go_ret
  exact ⟨rfl, rfl⟩
set_option maxHeartbeats 1600000 in
theorem naccepted {w : World} {v : Value} (h : NoP w v) (r s : Int) : Calls Tryd.prog 7 #[v, .int .i64 r, .int .i64 s] w fun e w' => e = .returned (.tuple #[.bool false, .int .i64 2]) ∧ w = w' := by
  have K := hid (nmade h)
  have K2 := hid (nat_ h s)
  clear h
  go_enter Tryd.func7, Tryd.ntmps7
  go_wp2_with (first
    | (go_at_call 26; refine K2.out.mono ?_; rintro e w1 ⟨rfl, rfl⟩)
    | (go_at_call 22; refine K.out.mono ?_; rintro e w1 ⟨rfl, rfl⟩))
  go_ret2
  exact ⟨rfl, rfl⟩
set_option maxHeartbeats 1600000 in
theorem njudge {w : World} {v : Value} (h : NoP w v) (r : Int) (l : Value) : Calls Tryd.prog 18 #[v, .int .i64 r, l] w fun e w' => e = .returned (.int .i64 2) ∧ w = w' := by
  have K := hid (nmade h)
  clear h
  go_enter Tryd.func18, Tryd.ntmps18
  go_wp2_with (first | (go_at_call 22; refine K.out.mono ?_; rintro e w1 ⟨rfl, rfl⟩))
  go_ret
  exact ⟨rfl, rfl⟩
set_option maxHeartbeats 1600000 in
theorem npromise {w : World} {v : Value} (h : NoP w v) (r : Int) (l : Value) : Calls Tryd.prog 5 #[v, .int .i64 r, l] w fun e w' => e = .returned (.tuple #[.bool false, .int .i64 2]) ∧ w = w' := by
  have K := hid (njudge h r l)
  clear h
  go_enter Tryd.func5, Tryd.ntmps5
  go_wp2_with (first | (go_at_call 18; refine K.out.mono ?_; rintro e w1 ⟨rfl, rfl⟩))
  go_ret2
  exact ⟨rfl, rfl⟩
set_option maxHeartbeats 1600000 in
theorem nballot {w : World} {v : Value} (h : NoP w v) : Calls Tryd.prog 15 #[v] w fun e w' => e = .returned (.agg #[.int .i64 0, .int .i64 0]) ∧ Fr (fun _ => False) w w' := by
  have K := nmadeF h
  clear h
  go_enter Tryd.func15, Tryd.ntmps15
  go_wp2_with (first | (go_at_call 22; refine (K.out _ (Fr.alloc (Fr.refl _ _) _)).mono ?_; rintro e w1 ⟨rfl, rfl⟩))
  exact bodyPost_ret (v := .agg #[.int .i64 0, .int .i64 0]) (results_cell1 Tryd.results15 _ _ _ _ _ (by rfl) (loadVar_whole (Go.heap_alloc_new w _) Tryd.underlying43 rfl (by kernel_rfl))) rfl ⟨rfl, Fr.alloc (Fr.refl _ _) _⟩
set_option maxHeartbeats 3200000 in
set_option maxRecDepth 20000 in
theorem nchosen {w : World} {v : Value} (h : NoP w v) (s : Int) : Calls Tryd.prog 8 #[v, .int .i64 s] w fun e w' => e = .returned (.tuple #[.agg zE56, .bool false]) ∧ Fr (fun _ => False) w w' := by
  obtain ⟨W, hW⟩ : ∃ W, w.alloc (.cells zE56 37) = W := ⟨_, rfl⟩
  have f0 : Fr (fun _ => False) w W := by rw [← hW]; exact Fr.alloc (Fr.refl _ _) _
  have b0 : W.heap[w.heap.size]? = some (.cells zE56 37 (0, 0)) := by rw [← hW]; exact Go.heap_alloc_new w _
  obtain ⟨V, st, lr, fV⟩ := box_back (c := zE56) b0 (Nat.le_refl _) (by kernel_rfl) (by kernel_rfl) Tryd.underlying37 rfl
  have fin : Fr (fun _ => False) w V := f0.trans fV (fun i hi e => by omega)
  have K := hid (nat_ (h.fr f0) s)
  have HW := hid hW
  obtain ⟨va, hva⟩ : ∃ va, Value.agg zE56 = va := ⟨_, rfl⟩
  rw [hva] at st lr ⊢
  have HVA := hid hva
  have ST := hid st
  have LR := hid lr
  have FIN := hid fin
  unfold zE56 at HW
  clear hW f0 b0 st lr fV fin hva h
  go_enter Tryd.func8, Tryd.ntmps8
  go_wp2_with fail
  rw [HW.out]
  refine K.out.mono ?_
  rintro e w2 ⟨rfl, rfl⟩
  go_wp2_with (first
    | (refine wpList_store_v ST.out (by exact ⟨_, _, rfl, rfl, HVA.out⟩) (by kernel_rfl) ?_))
  exact bodyPost_ret (v := .tuple #[va, .bool false]) (results_cell2 Tryd.results8 _ _ _ _ _ _ (by rfl) LR.out (by rfl)) rfl ⟨rfl, FIN.out⟩
set_option maxHeartbeats 3200000 in
set_option maxRecDepth 20000 in
theorem nput {w : World} {v : Value} (h : NoP w v) (ea : Array Value) : Calls Tryd.prog 6 #[v, .agg ea] w fun e w' => e = .returned (.tuple #[.agg jS59, .int .i64 2]) ∧ Fr (fun _ => False) w w' := by
  obtain ⟨W, hW⟩ : ∃ W, (w.alloc (.cells ea 37)).alloc (.cells jS59 55) = W := ⟨_, rfl⟩
  have f0 : Fr (fun _ => False) w W := by rw [← hW]; exact Fr.alloc (Fr.alloc (Fr.refl _ _) _) _
  have b0 : W.heap[w.heap.size + 1]? = some (.cells jS59 55 (0, 0)) := by
    have h1 := Go.heap_alloc_new (w.alloc (.cells ea 37)) (.cells jS59 55)
    rw [World.size_alloc] at h1
    rw [← hW]; exact h1
  obtain ⟨V, st, lr, fV⟩ := box_back (c := jS59) b0 (Nat.le_refl _) (by kernel_rfl) (by kernel_rfl) Tryd.underlying55 rfl
  have fin : Fr (fun _ => False) w V := f0.trans fV (fun i hi e => by omega)
  have K := hid (nmade (h.fr f0))
  have HW := hid hW
  obtain ⟨va, hva⟩ : ∃ va, Value.agg jS59 = va := ⟨_, rfl⟩
  rw [hva] at st lr ⊢
  have HVA := hid hva
  have ST := hid st
  have LR := hid lr
  have FIN := hid fin
  unfold jS59 at HW
  clear hW f0 b0 st lr fV fin hva h
  go_enter Tryd.func6, Tryd.ntmps6
  go_wp2_with fail
  rw [HW.out]
  refine K.out.mono ?_
  rintro e w2 ⟨rfl, rfl⟩
  go_wp2_with (first
    | (refine wpList_store_v ST.out (by exact ⟨_, _, rfl, rfl, HVA.out⟩) (by kernel_rfl) ?_))
  exact bodyPost_ret (v := .tuple #[va, .int .i64 2]) (results_cell2 Tryd.results6 _ _ _ _ _ _ (by rfl) LR.out (by rfl)) rfl ⟨rfl, FIN.out⟩
end Go.Proofs.YtcmpkbgkhbcekaaDoor

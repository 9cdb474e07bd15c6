/-
  An acceptor that no call made.
-/
import Derived.Test.YtfegipnogfiphabALive
namespace Go.Proofs.Ytfegipnogfiphab
open Go.RowKit Go.Maps
set_option linter.unusedVariables false
set_option linter.unusedSimpArgs false
attribute [local go_sem] Oper.semAt_some

/-- nil, or a zero one at p -/
def Nm (w : World) (v : Value) : Prop := v = .pointer none ∨ ∃ p, v = ptrV p ∧ w.heap[p]? = some (.cells #[.int .i64 0, .int .i64 0, .int .i64 0, .map none] 28 (0, 0))
theorem Nm.kept {w w' : World} {v : Value} (h : Nm w v) (hf : Fr (fun _ => False) w w') : Nm w' v := by
  rcases h with h | ⟨p, h1, h2⟩
  · exact .inl h
  · exact .inr ⟨p, h1, hf.cells h2 (fun h => h)⟩
set_option maxHeartbeats 800000 in
theorem noMade {w : World} {v : Value} (h : Nm w v) : Calls Try.prog 22 #[v] w fun e w' => e = .returned (.bool false) ∧ w = w' := by
  rcases h with rfl | ⟨p, rfl, h⟩
  · go_enter Try.func22, Try.ntmps22
    go_wp2
    go_ret
    exact ⟨rfl, rfl⟩
  · have c3 : w.cell? ⟨p, 3, none⟩ = some (.map none) := cellA h rfl
    have q : (binOp .neq 26 (.map none) (.map none)).run Try.prog w = .ok (.bool false) w := run_neq_map_nil w _ _ _ none Try.underlying26
    clear h
    go_enter Try.func22, Try.ntmps22
    go_wp2
    go_ret
    exact ⟨rfl, rfl⟩
set_option maxHeartbeats 800000 in
theorem noJudge {w : World} {v : Value} (h : Nm w v) (b1 b2 s : Int) : Calls Try.prog 20 #[v, .agg #[.int .i64 b1, .int .i64 b2], .int .i64 s] w fun e w' => e = .returned (.int .i64 2) ∧ Fr (fun _ => False) w w' := by
  have KM := hid (noMade (h.kept (Fr.alloc (Fr.refl _ w) (.cells #[.int .i64 b1, .int .i64 b2] 23))))
  clear h
  go_enter Try.func20, Try.ntmps20
  go_wp2_with (first | (go_at_call 22; refine KM.out.mono ?_; rintro e w1 ⟨rfl, rfl⟩))
  go_ret
  exact ⟨rfl, Fr.alloc (Fr.refl _ _) _⟩
set_option maxHeartbeats 800000 in
theorem noPrepare {w : World} {v : Value} (h : Nm w v) (b1 b2 s : Int) : Calls Try.prog 6 #[v, .agg #[.int .i64 b1, .int .i64 b2], .int .i64 s] w fun e w' => e = .returned (.tuple #[.slice none 0 0, .int .i64 2]) ∧ Fr (fun _ => False) w w' := by
  have KM := hid (noJudge (h.kept (Fr.alloc (Fr.refl _ w) (.cells #[.int .i64 b1, .int .i64 b2] 23))) b1 b2 s)
  clear h
  go_enter Try.func6, Try.ntmps6
  go_wp2_with (first | (go_at_call 20; refine KM.out.mono ?_; rintro e w1 ⟨rfl, f1⟩))
  go_ret2
  exact ⟨rfl, (Fr.alloc (Fr.refl _ _) _).trans f1 (fun _ _ h => h)⟩
set_option maxHeartbeats 800000 in
theorem noAccept {w : World} {v : Value} (h : Nm w v) (b1 b2 s : Int) (ec : Array Value) (hec : ec.size = 56) : Calls Try.prog 8 #[v, .agg #[.int .i64 b1, .int .i64 b2], .int .i64 s, .agg ec] w fun e w' => e = .returned (.int .i64 2) ∧ Fr (fun _ => False) w w' := by
  have f0 : Fr (fun _ => False) w ((w.alloc (.cells #[.int .i64 b1, .int .i64 b2] 23)).alloc (.cells ec 48)) := Fr.alloc (Fr.alloc (Fr.refl _ w) _) _
  have KM := hid (noJudge (h.kept f0) b1 b2 s)
  have F0 := hid f0
  clear h f0
  go_enter Try.func8, Try.ntmps8
  go_wp2_with (first | (go_at_call 20; refine KM.out.mono ?_; rintro e w1 ⟨rfl, f1⟩))
  go_ret
  exact ⟨rfl, F0.out.trans f1 (fun _ _ h => h)⟩
set_option maxHeartbeats 800000 in
theorem noForget {w : World} {v : Value} (h : Nm w v) (s : Int) : Calls Try.prog 9 #[v, .int .i64 s] w fun e w' => e = .returned (.int .i64 2) ∧ Fr (fun _ => False) w w' := by
  have KM := hid (fun (W : World) (hf : Fr (fun _ => False) w W) => noMade (h.kept hf))
  clear h
  go_enter Try.func9, Try.ntmps9
  go_wp2_with (first | (go_at_call 22; refine (KM.out _ (by first | exact Fr.refl _ _ | exact Fr.alloc (Fr.refl _ _) _)).mono ?_; rintro e w1 ⟨rfl, rfl⟩))
  go_ret
  exact ⟨rfl, by first | exact Fr.refl _ _ | exact Fr.alloc (Fr.refl _ _) _⟩
set_option maxHeartbeats 800000 in
theorem noFirst {w : World} {v : Value} (h : Nm w v) : Calls Try.prog 11 #[v] w fun e w' => e = .returned (.int .i64 0) ∧ w = w' := by
  have KM := hid (noMade h)
  clear h
  go_enter Try.func11, Try.ntmps11
  go_wp2_with (first | (go_at_call 22; refine KM.out.mono ?_; rintro e w1 ⟨rfl, rfl⟩))
  go_ret
  exact ⟨rfl, rfl⟩
set_option maxHeartbeats 800000 in
theorem noLen {w : World} {v : Value} (h : Nm w v) : Calls Try.prog 12 #[v] w fun e w' => e = .returned (.int .i64 0) ∧ w = w' := by
  have KM := hid (noMade h)
  clear h
  go_enter Try.func12, Try.ntmps12
  go_wp2_with (first | (go_at_call 22; refine KM.out.mono ?_; rintro e w1 ⟨rfl, rfl⟩))
  go_ret
  exact ⟨rfl, rfl⟩
set_option maxHeartbeats 800000 in
theorem noClone {w : World} {v : Value} (h : Nm w v) : Calls Try.prog 13 #[v] w fun e w' => e = .returned (.pointer none) ∧ w = w' := by
  have KM := hid (noMade h)
  clear h
  go_enter Try.func13, Try.ntmps13
  go_wp2_with (first | (go_at_call 22; refine KM.out.mono ?_; rintro e w1 ⟨rfl, rfl⟩))
  go_ret
  exact ⟨rfl, rfl⟩
set_option maxHeartbeats 800000 in
theorem noPromised {w : World} {v : Value} (h : Nm w v) : Calls Try.prog 10 #[v] w fun e w' => e = .returned (A.bv (0, 0)) ∧ Fr (fun _ => False) w w' := by
  have KM := hid (fun (W : World) (hf : Fr (fun _ => False) w W) => noMade (h.kept hf))
  clear h
  go_enter Try.func10, Try.ntmps10
  go_wp2_with (first | (go_at_call 22; refine (KM.out _ (Fr.alloc (Fr.refl _ _) _)).mono ?_; rintro e w2 ⟨rfl, rfl⟩))
  have hn := Go.heap_alloc_new w (.cells #[.int .i64 0, .int .i64 0] 23)
  have lv := run_loadVar_mid (P := Try.prog) _ w.heap.size 0 23 [.int .i64 0, .int .i64 0] _ (rangeAt_of hn 0 _ rfl) Try.underlying23 rfl (by kernel_rfl)
  exact bodyPost_ret (v := A.bv (0, 0)) (results_cell1 Try.results10 _ _ _ _ _ (by rfl) lv) rfl ⟨rfl, Fr.alloc (Fr.refl _ _) _⟩
set_option maxHeartbeats 1600000 in
set_option maxRecDepth 20000 in
theorem noAt {w : World} {v : Value} (h : Nm w v) (s : Int) : Calls Try.prog 7 #[v, .int .i64 s] w fun e w' => e = .returned (.tuple #[.agg zS59, .bool false]) ∧ Fr (fun _ => False) w w' := by
  have KM := hid (fun (W : World) (hf : Fr (fun _ => False) w W) => noMade (h.kept hf))
  obtain ⟨V, st, hbV, fV⟩ := box_whole (V := w.alloc (.cells zS59 50)) (c := zS59) (Go.heap_alloc_new w _) rfl (by kernel_rfl) (by kernel_rfl)
  have lr := loadVar_whole (ty := 50) hbV Try.underlying50 rfl (by kernel_rfl)
  have fW : Fr (fun _ => False) w V := (Fr.alloc (Fr.refl (fun _ => False) w) _).trans fV (fun i hi e => by omega)
  obtain ⟨va, hva⟩ : ∃ va, Value.agg zS59 = va := ⟨_, rfl⟩
  rw [hva] at st lr ⊢
  have ST := hid st
  have LR := hid lr
  have FW := hid fW
  have HVA := hid hva
  obtain ⟨W1, hW1⟩ : ∃ W1, w.alloc (.cells zS59 50) = W1 := ⟨_, rfl⟩
  have K1 := hid (KM.out W1 (by rw [← hW1]; exact Fr.alloc (Fr.refl _ _) _))
  rw [hW1] at ST
  have HW1 := hid hW1
  clear h st lr fW hbV fV hva hW1 KM
  unfold zS59 at HW1
  go_enter Try.func7, Try.ntmps7
  go_wp2_with fail
  rw [HW1.out]
  refine K1.out.mono ?_
  rintro e w2 ⟨rfl, rfl⟩
  go_wp2_with (first
    | (refine wpList_store_v ST.out (by exact ⟨_, _, rfl, rfl, HVA.out⟩) (by kernel_rfl) ?_))
  exact bodyPost_ret (v := .tuple #[va, .bool false]) (results_cell2 Try.results7 _ _ _ _ _ _ (by rfl) LR.out (by rfl)) rfl ⟨rfl, FW.out⟩
set_option maxHeartbeats 800000 in
theorem noAll {w : World} {v : Value} (h : Nm w v) (s : Int) : Calls Try.prog 14 #[v, .int .i64 s] w fun e w' => ∃ B, e = .returned (.func (.func 30) #[] #[ptrV B]) ∧ It (fun k => k = B) w' B none 0 [] ∧ Fr (fun _ => False) w w' := by
  have KM := hid (noMade (h.kept (Fr.alloc (Fr.refl _ w) (.cells #[.slice none 0 0] 84))))
  clear h
  go_enter Try.func14, Try.ntmps14
  go_wp2_with (first | (go_at_call 22; refine KM.out.mono ?_; rintro e w1 ⟨rfl, rfl⟩))
  go_ret
  exact ⟨w.heap.size, rfl, ⟨Go.heap_alloc_new w _, rfl, Rw.nil _ _ _ _, by simp⟩, Fr.alloc (Fr.refl _ _) _⟩
end Go.Proofs.Ytfegipnogfiphab

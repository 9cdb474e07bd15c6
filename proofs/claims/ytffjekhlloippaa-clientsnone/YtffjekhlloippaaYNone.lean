/-
  A table that no call made.
-/
import Derived.Test.YtffjekhlloippaaYPut
import Derived.Test.YtffjekhlloippaaYIter
namespace Go.Proofs.Ytffjekhlloippaa
open Go.RowKit Go.Maps
set_option linter.unusedVariables false
set_option linter.unusedSimpArgs false
set_option maxRecDepth 100000
attribute [local go_sem] Oper.semAt_some
/-- a pointer to no table, or to a zero one -/
def Yn (w : World) (v : Value) : Prop := v = .pointer none ∨ ∃ z, v = ptrY z ∧ w.heap[z]? = some (.cells #[.map none] 54 (0, 0))
theorem Yn.kept {w w' : World} {v : Value} (h : Yn w v) (hf : Fr (fun _ => False) w w') : Yn w' v := by
  rcases h with rfl | ⟨z, rfl, hb⟩
  · exact .inl rfl
  · exact .inr ⟨z, rfl, hf.cells hb (fun h => h)⟩
theorem nymade {w : World} {v : Value} (h : Yn w v) : Calls Try.prog 23 #[v] w fun e w' => e = .returned (.bool false) ∧ w = w' := by
  rcases h with rfl | ⟨z, rfl, hb⟩
  · go_enter Try.func23, Try.ntmps23
    go_wp2
    go_ret
    exact ⟨rfl, rfl⟩
  · have c0 : w.cell? ⟨z, 0, none⟩ = some (.map none) := cellA (j := 0) hb rfl
    have q : (binOp .neq 52 (.map none) (.map none)).run Try.prog w = .ok (.bool false) w := run_neq_map_nil w _ _ _ none Try.underlying52
    clear hb
    go_enter Try.func23, Try.ntmps23
    go_wp2
    go_ret
    exact ⟨rfl, rfl⟩
theorem nyjudge {w : World} {v : Value} (h : Yn w v) (s q : Int) : Calls Try.prog 25 #[v, .int .i64 s, .int .i64 q] w fun e w' => e = .returned (.int .i64 0) ∧ w = w' := by
  have K := hid (nymade h)
  clear h
  go_enter Try.func25, Try.ntmps25
  go_wp2_with (go_at_call 23; refine K.out.mono ?_; rintro e wx ⟨rfl, rfl⟩)
  go_ret
  exact ⟨rfl, rfl⟩
theorem nylast {w : World} {v : Value} (h : Yn w v) (s : Int) : Calls Try.prog 16 #[v, .int .i64 s] w fun e w' => e = .returned (.int .i64 0) ∧ w = w' := by
  have K := hid (nymade h)
  clear h
  go_enter Try.func16, Try.ntmps16
  go_wp2_with (go_at_call 23; refine K.out.mono ?_; rintro e wx ⟨rfl, rfl⟩)
  go_ret
  exact ⟨rfl, rfl⟩
theorem nylen {w : World} {v : Value} (h : Yn w v) : Calls Try.prog 21 #[v] w fun e w' => e = .returned (.int .i64 0) ∧ w = w' := by
  have K := hid (nymade h)
  clear h
  go_enter Try.func21, Try.ntmps21
  go_wp2_with (go_at_call 23; refine K.out.mono ?_; rintro e wx ⟨rfl, rfl⟩)
  go_ret
  exact ⟨rfl, rfl⟩
theorem nyclone {w : World} {v : Value} (h : Yn w v) : Calls Try.prog 11 #[v] w fun e w' => e = .returned (.pointer none) ∧ w = w' := by
  have K := hid (nymade h)
  clear h
  go_enter Try.func11, Try.ntmps11
  go_wp2_with (go_at_call 23; refine K.out.mono ?_; rintro e wx ⟨rfl, rfl⟩)
  go_ret
  exact ⟨rfl, rfl⟩
set_option maxHeartbeats 1600000 in
theorem nyask {w : World} {v : Value} (h : Yn w v) (s q : Int) : Calls Try.prog 13 #[v, .int .i64 s, .int .i64 q] w fun e w' => e = .returned (.tuple #[Y.rpv Y.zR, .int .i64 0]) ∧ Fr (fun _ => False) w w' := by
  have f0 : Fr (fun _ => False) w (w.alloc (.cells #[.int .i64 0, .int .i64 0, .int .i64 0, .int .i64 0] 34)) := Fr.alloc (Fr.refl _ _) _
  have K := hid (nyjudge (h.kept f0) s q)
  have HB := hid (Go.heap_alloc_new w (.cells #[.int .i64 0, .int .i64 0, .int .i64 0, .int .i64 0] 34 (0, 0)))
  have F0 := hid f0
  clear h f0
  go_enter Try.func13, Try.ntmps13
  go_wp2_with (go_at_call 25; refine K.out.mono ?_; rintro e wx ⟨rfl, rfl⟩)
  exact bodyPost_ret (results_cell2 rfl _ _ _ _ _ _ rfl (loadVar_whole (ty := 34) HB.out Try.underlying34 rfl (by kernel_rfl)) rfl) rfl ⟨rfl, F0.out⟩
set_option maxHeartbeats 1600000 in
theorem nyput {w : World} {v : Value} (h : Yn w v) (s q : Int) (r : Y.Rp) : Calls Try.prog 12 #[v, .int .i64 s, .int .i64 q, Y.rpv r] w fun e w' => e = .returned (.int .i64 2) ∧ Fr (fun _ => False) w w' := by
  obtain ⟨r0, r1, r2, r3⟩ := r
  have f0 : Fr (fun _ => False) w (w.alloc (.cells (Y.rcells (r0, r1, r2, r3)) 34)) := Fr.alloc (Fr.refl _ _) _
  have K := hid (nyjudge (h.kept f0) s q)
  have F0 := hid f0
  clear h f0
  go_enter Try.func12, Try.ntmps12
  go_wp2_with (go_at_call 25; refine K.out.mono ?_; rintro e wx ⟨rfl, rfl⟩)
  go_ret
  exact ⟨rfl, F0.out⟩
set_option maxHeartbeats 1600000 in
theorem nyrows {w : World} {v : Value} (h : Yn w v) : Calls Try.prog 22 #[v] w fun e w' => ∃ B ra rc, e = .returned (.func (.func 31) #[] #[ptrY B]) ∧ Yt w' B ra rc [] w.heap.size ∧ Fr (fun _ => False) w w' := by
  have f0 : Fr (fun _ => False) w (w.alloc (.cells #[.slice none 0 0] 26)) := Fr.alloc (Fr.refl _ _) _
  have K := hid (nymade (h.kept f0))
  have HB := hid (Go.heap_alloc_new w (.cells #[.slice none 0 0] 26 (0, 0)))
  have F0 := hid f0
  clear h f0
  go_enter Try.func22, Try.ntmps22
  go_wp2_with (go_at_call 23; refine K.out.mono ?_; rintro e wx ⟨rfl, rfl⟩)
  go_ret
  exact ⟨w.heap.size, none, 0, rfl, ⟨HB.out, Ro.nil _ _ _, Nat.le_refl _, by simp [blk]⟩, F0.out⟩
end Go.Proofs.Ytffjekhlloippaa

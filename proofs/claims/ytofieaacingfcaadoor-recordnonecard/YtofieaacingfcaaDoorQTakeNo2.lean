/-
  Eight numbers, and a configuration, where the reader's error stands. (gen/gen_q5.py)
-/
import Derived.Test.YtofieaacingfcaaDoorQTakeNo
namespace Go.Proofs.YtofieaacingfcaaDoor
open Go.RowKit
set_option linter.unusedVariables false
def M.z8 : Array Value := #[.int .i64 0, .int .i64 0, .int .i64 0, .int .i64 0, .int .i64 0, .int .i64 0, .int .i64 0, .int .i64 0]
set_option maxRecDepth 20000 in
set_option maxHeartbeats 3200000 in
theorem frEight_err {w : World} {g : Nat} {er : Int} (d1 : w.cell? ⟨g, 1, none⟩ = some (.int .i64 er)) (he : er ≠ 0) :
    Calls Tryd.prog 95 #[.pointer (some ⟨g, 0, none⟩)] w fun e w' => e = .returned (.agg M.z8) ∧ Fr (fun _ => False) w w' := by
  obtain ⟨rb, hrb⟩ : ∃ rb, w.heap.size = rb := ⟨_, rfl⟩
  obtain ⟨qb, hqb⟩ : ∃ qb, rb + 1 = qb := ⟨_, rfl⟩
  obtain ⟨W, hW⟩ : ∃ W, (w.alloc (.cells M.z8 27)).alloc (.cells M.z8 27) = W := ⟨_, rfl⟩
  have fW : Fr (fun _ => False) w W := by rw [← hW]; exact Fr.alloc (Fr.alloc (Fr.refl _ _) _) _
  have br : W.heap[rb]? = some (.cells M.z8 27 (0, 0)) := by rw [← hW, ← hrb]; exact (Below.heap_alloc _ _ _ (by simp)).trans (Go.heap_alloc_new w _)
  have bq : W.heap[qb]? = some (.cells M.z8 27 (0, 0)) := by
    have h1 := Go.heap_alloc_new (w.alloc (.cells M.z8 27)) (.cells M.z8 27)
    rw [World.size_alloc, hrb, hqb] at h1
    rw [← hW]; exact h1
  have d2 := cellFr fW (fun h => h) d1
  have KI : Hid (∀ V, Fr (fun _ => False) W V → ∀ o, M.z8[o]? = some (.int .i64 0) → ∀ n, V.heap.size = n → Calls Tryd.prog 92 #[.pointer (some ⟨g, 0, none⟩), .slice (some ⟨n, 0, none⟩) 1 1] (V.alloc (.cells #[.pointer (some ⟨qb, o, none⟩)] 163)) fun e w' => (∃ v, e = .returned v) ∧ Fr (fun _ => False) W w') := hid (fun V hf o ho n hn => by
    have fv := Fr.alloc hf (.cells #[.pointer (some ⟨qb, o, none⟩)] 163)
    refine (frInts_err (cellFr fv (fun h => h) d2) he _ 1 1 [(qb, o)] (Pl.newn V n hn _ _ _ 1 rfl rfl) (by omega) (fun x hx => ?_)).mono ?_
    · simp only [List.mem_cons, List.not_mem_nil, or_false] at hx
      rw [hx]
      exact ⟨_, _, fv.cells bq (fun h => h), ho⟩
    · rintro e w' ⟨h1, h2⟩
      exact ⟨h1, fv.trans h2 (fun _ _ h => h)⟩)
  have ld : ∀ V, Fr (fun _ => False) W V → (Instr.loadAt 27 (.pointer (some ⟨qb, 0, none⟩))).run Tryd.prog V = .ok (.agg M.z8) V := fun V hf => run_loadAt_mid V qb 0 _ M.z8.toList _ (rangeAt_of (hf.cells bq (fun h => h)) 0 M.z8.toList rfl) Tryd.underlying27 rfl (by kernel_rfl)
  have st : ∀ V, Fr (fun _ => False) W V → (Instr.storeAt 27 (.pointer (some ⟨rb, 0, none⟩)) (.agg M.z8)).run Tryd.prog V = .ok () (V.setCells rb 0 M.z8.toList) ∧ (loadVar 27 ⟨rb, 0, none⟩).run Tryd.prog (V.setCells rb 0 M.z8.toList) = .ok (.agg M.z8) (V.setCells rb 0 M.z8.toList) := fun V hf => by
    have th : V.there rb 0 M.z8.size := there_of (hf.cells br (fun h => h)) (by decide)
    exact ⟨run_storeAt_mid (P := Tryd.prog) V _ 0 27 M.z8 th (by kernel_rfl) (by kernel_rfl), run_loadVar_mid (P := Tryd.prog) _ _ 0 27 M.z8.toList _ (World.rangeAt_setCells_same V _ 0 M.z8.toList th) Tryd.underlying27 rfl (by kernel_rfl)⟩
  obtain ⟨va, hva⟩ : ∃ v, Value.agg M.z8 = v := ⟨_, rfl⟩
  rw [hva] at ld st
  have HVA := hid hva
  have LD := hid ld
  have ST := hid st
  have HW := hid hW
  have HRB := hid hrb
  have HQB := hid hqb
  have FW := hid fW
  clear hW hrb hqb fW br bq d1 d2 ld st hva
  unfold M.z8 at HW
  go_enter Tryd.func95, Tryd.ntmps95
  go_wp2_with fail
  rw [HRB.out, HQB.out, HW.out]
  clear HW
  have F0 : Hid (Fr (fun _ => False) W W) := hid (Fr.refl _ _)
  refine wp_loop_rounds 9 ?_
  rw [rounds_succ]
  go_wp2_with fail
  refine (KI.out W F0.out 0 rfl _ rfl).mono ?_
  rintro e V1 ⟨⟨v1, rfl⟩, hf⟩
  have F1 := hid hf
  clear hf
  go_wp2
  rw [rounds_succ]
  go_wp2_with fail
  refine (KI.out V1 F1.out 1 rfl _ rfl).mono ?_
  rintro e V2 ⟨⟨v2, rfl⟩, hf⟩
  have F2 := hid hf
  clear hf
  go_wp2
  rw [rounds_succ]
  go_wp2_with fail
  refine (KI.out V2 F2.out 2 rfl _ rfl).mono ?_
  rintro e V3 ⟨⟨v3, rfl⟩, hf⟩
  have F3 := hid hf
  clear hf
  go_wp2
  rw [rounds_succ]
  go_wp2_with fail
  refine (KI.out V3 F3.out 3 rfl _ rfl).mono ?_
  rintro e V4 ⟨⟨v4, rfl⟩, hf⟩
  have F4 := hid hf
  clear hf
  go_wp2
  rw [rounds_succ]
  go_wp2_with fail
  refine (KI.out V4 F4.out 4 rfl _ rfl).mono ?_
  rintro e V5 ⟨⟨v5, rfl⟩, hf⟩
  have F5 := hid hf
  clear hf
  go_wp2
  rw [rounds_succ]
  go_wp2_with fail
  refine (KI.out V5 F5.out 5 rfl _ rfl).mono ?_
  rintro e V6 ⟨⟨v6, rfl⟩, hf⟩
  have F6 := hid hf
  clear hf
  go_wp2
  rw [rounds_succ]
  go_wp2_with fail
  refine (KI.out V6 F6.out 6 rfl _ rfl).mono ?_
  rintro e V7 ⟨⟨v7, rfl⟩, hf⟩
  have F7 := hid hf
  clear hf
  go_wp2
  rw [rounds_succ]
  go_wp2_with fail
  refine (KI.out V7 F7.out 7 rfl _ rfl).mono ?_
  rintro e V8 ⟨⟨v8, rfl⟩, hf⟩
  have F8 := hid hf
  clear hf
  go_wp2
  have LD8 := hid (LD.out _ F8.out)
  have st8 := ST.out _ F8.out
  have f9 := Fr.setCells V8 rb 0 M.z8.toList
  obtain ⟨V9, hV9⟩ : ∃ V9, V8.setCells rb 0 M.z8.toList = V9 := ⟨_, rfl⟩
  rw [hV9] at st8 f9
  have ST8 := hid st8.1
  have LR8 := hid st8.2
  have F9 := hid f9
  clear st8 f9 hV9
  rw [rounds_succ]
  repeat (first
    | (refine wpList_load_v LD8.out (by exact ⟨_, rfl, rfl⟩) (by kernel_rfl) ?_)
    | (refine wpList_store_v ST8.out (by exact ⟨_, _, rfl, rfl, rfl⟩) (by kernel_rfl) ?_)
    | go_values | go_skip | go_guarded | go_step | go_upon | go_back)
  refine bodyPost_ret (v := va) (results_cell1 Tryd.results95 _ _ _ _ _ (by rfl) LR8.out) rfl ⟨by rw [← HVA.out], ?_⟩
  have h2 := HRB.out
  exact ((FW.out.trans F8.out (fun _ _ h => h)).mono (T := fun k => k = rb) (fun _ _ h => h.elim)).trans F9.out (fun _ _ h => h) |>.mono (fun i hi e => by omega)
set_option maxRecDepth 20000 in
set_option maxHeartbeats 3200000 in
theorem frVector_err {w : World} {g : Nat} {er : Int} (d1 : w.cell? ⟨g, 1, none⟩ = some (.int .i64 er)) (he : er ≠ 0) :
    Calls Tryd.prog 96 #[.pointer (some ⟨g, 0, none⟩)] w fun e w' => e = .returned (.agg M.z8) ∧ Fr (fun _ => False) w w' := by
  obtain ⟨rb, hrb⟩ : ∃ rb, w.heap.size = rb := ⟨_, rfl⟩
  obtain ⟨qb, hqb⟩ : ∃ qb, rb + 1 = qb := ⟨_, rfl⟩
  obtain ⟨W, hW⟩ : ∃ W, (w.alloc (.cells M.z8 29)).alloc (.cells M.z8 29) = W := ⟨_, rfl⟩
  have fW : Fr (fun _ => False) w W := by rw [← hW]; exact Fr.alloc (Fr.alloc (Fr.refl _ _) _) _
  have br : W.heap[rb]? = some (.cells M.z8 29 (0, 0)) := by rw [← hW, ← hrb]; exact (Below.heap_alloc _ _ _ (by simp)).trans (Go.heap_alloc_new w _)
  have bq : W.heap[qb]? = some (.cells M.z8 29 (0, 0)) := by
    have h1 := Go.heap_alloc_new (w.alloc (.cells M.z8 29)) (.cells M.z8 29)
    rw [World.size_alloc, hrb, hqb] at h1
    rw [← hW]; exact h1
  have d2 := cellFr fW (fun h => h) d1
  have KI : Hid (∀ V, Fr (fun _ => False) W V → ∀ o, M.z8[o]? = some (.int .i64 0) → ∀ n, V.heap.size = n → Calls Tryd.prog 91 #[.pointer (some ⟨g, 0, none⟩), .slice (some ⟨n, 0, none⟩) 1 1] (V.alloc (.cells #[.pointer (some ⟨qb, o, none⟩)] 161)) fun e w' => (∃ v, e = .returned v) ∧ Fr (fun _ => False) W w') := hid (fun V hf o ho n hn => by
    have fv := Fr.alloc hf (.cells #[.pointer (some ⟨qb, o, none⟩)] 161)
    refine (frInt64s_err (cellFr fv (fun h => h) d2) he _ 1 1 [(qb, o)] (Pl.newn V n hn _ _ _ 1 rfl rfl) (by omega)).mono ?_
    rintro e w' ⟨h1, rfl⟩
    exact ⟨h1, fv⟩)
  have ld : ∀ V, Fr (fun _ => False) W V → (Instr.loadAt 29 (.pointer (some ⟨qb, 0, none⟩))).run Tryd.prog V = .ok (.agg M.z8) V := fun V hf => run_loadAt_mid V qb 0 _ M.z8.toList _ (rangeAt_of (hf.cells bq (fun h => h)) 0 M.z8.toList rfl) Tryd.underlying29 rfl (by kernel_rfl)
  have st : ∀ V, Fr (fun _ => False) W V → (Instr.storeAt 29 (.pointer (some ⟨rb, 0, none⟩)) (.agg M.z8)).run Tryd.prog V = .ok () (V.setCells rb 0 M.z8.toList) ∧ (loadVar 29 ⟨rb, 0, none⟩).run Tryd.prog (V.setCells rb 0 M.z8.toList) = .ok (.agg M.z8) (V.setCells rb 0 M.z8.toList) := fun V hf => by
    have th : V.there rb 0 M.z8.size := there_of (hf.cells br (fun h => h)) (by decide)
    exact ⟨run_storeAt_mid (P := Tryd.prog) V _ 0 29 M.z8 th (by kernel_rfl) (by kernel_rfl), run_loadVar_mid (P := Tryd.prog) _ _ 0 29 M.z8.toList _ (World.rangeAt_setCells_same V _ 0 M.z8.toList th) Tryd.underlying29 rfl (by kernel_rfl)⟩
  obtain ⟨va, hva⟩ : ∃ v, Value.agg M.z8 = v := ⟨_, rfl⟩
  rw [hva] at ld st
  have HVA := hid hva
  have LD := hid ld
  have ST := hid st
  have HW := hid hW
  have HRB := hid hrb
  have HQB := hid hqb
  have FW := hid fW
  clear hW hrb hqb fW br bq d1 d2 ld st hva
  unfold M.z8 at HW
  go_enter Tryd.func96, Tryd.ntmps96
  go_wp2_with fail
  rw [HRB.out, HQB.out, HW.out]
  clear HW
  have F0 : Hid (Fr (fun _ => False) W W) := hid (Fr.refl _ _)
  refine wp_loop_rounds 9 ?_
  rw [rounds_succ]
  go_wp2_with fail
  refine (KI.out W F0.out 0 rfl _ rfl).mono ?_
  rintro e V1 ⟨⟨v1, rfl⟩, hf⟩
  have F1 := hid hf
  clear hf
  go_wp2
  rw [rounds_succ]
  go_wp2_with fail
  refine (KI.out V1 F1.out 1 rfl _ rfl).mono ?_
  rintro e V2 ⟨⟨v2, rfl⟩, hf⟩
  have F2 := hid hf
  clear hf
  go_wp2
  rw [rounds_succ]
  go_wp2_with fail
  refine (KI.out V2 F2.out 2 rfl _ rfl).mono ?_
  rintro e V3 ⟨⟨v3, rfl⟩, hf⟩
  have F3 := hid hf
  clear hf
  go_wp2
  rw [rounds_succ]
  go_wp2_with fail
  refine (KI.out V3 F3.out 3 rfl _ rfl).mono ?_
  rintro e V4 ⟨⟨v4, rfl⟩, hf⟩
  have F4 := hid hf
  clear hf
  go_wp2
  rw [rounds_succ]
  go_wp2_with fail
  refine (KI.out V4 F4.out 4 rfl _ rfl).mono ?_
  rintro e V5 ⟨⟨v5, rfl⟩, hf⟩
  have F5 := hid hf
  clear hf
  go_wp2
  rw [rounds_succ]
  go_wp2_with fail
  refine (KI.out V5 F5.out 5 rfl _ rfl).mono ?_
  rintro e V6 ⟨⟨v6, rfl⟩, hf⟩
  have F6 := hid hf
  clear hf
  go_wp2
  rw [rounds_succ]
  go_wp2_with fail
  refine (KI.out V6 F6.out 6 rfl _ rfl).mono ?_
  rintro e V7 ⟨⟨v7, rfl⟩, hf⟩
  have F7 := hid hf
  clear hf
  go_wp2
  rw [rounds_succ]
  go_wp2_with fail
  refine (KI.out V7 F7.out 7 rfl _ rfl).mono ?_
  rintro e V8 ⟨⟨v8, rfl⟩, hf⟩
  have F8 := hid hf
  clear hf
  go_wp2
  have LD8 := hid (LD.out _ F8.out)
  have st8 := ST.out _ F8.out
  have f9 := Fr.setCells V8 rb 0 M.z8.toList
  obtain ⟨V9, hV9⟩ : ∃ V9, V8.setCells rb 0 M.z8.toList = V9 := ⟨_, rfl⟩
  rw [hV9] at st8 f9
  have ST8 := hid st8.1
  have LR8 := hid st8.2
  have F9 := hid f9
  clear st8 f9 hV9
  rw [rounds_succ]
  repeat (first
    | (refine wpList_load_v LD8.out (by exact ⟨_, rfl, rfl⟩) (by kernel_rfl) ?_)
    | (refine wpList_store_v ST8.out (by exact ⟨_, _, rfl, rfl, rfl⟩) (by kernel_rfl) ?_)
    | go_values | go_skip | go_guarded | go_step | go_upon | go_back)
  refine bodyPost_ret (v := va) (results_cell1 Tryd.results96 _ _ _ _ _ (by rfl) LR8.out) rfl ⟨by rw [← HVA.out], ?_⟩
  have h2 := HRB.out
  exact ((FW.out.trans F8.out (fun _ _ h => h)).mono (T := fun k => k = rb) (fun _ _ h => h.elim)).trans F9.out (fun _ _ h => h) |>.mono (fun i hi e => by omega)

end Go.Proofs.YtofieaacingfcaaDoor

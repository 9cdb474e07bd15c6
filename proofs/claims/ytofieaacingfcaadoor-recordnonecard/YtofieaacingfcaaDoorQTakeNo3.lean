/-
  A configuration of a reader that nothing made. (gen/gen_q6.py)
-/
import Derived.Test.YtofieaacingfcaaDoorQTakeNo2
namespace Go.Proofs.YtofieaacingfcaaDoor
open Go.RowKit
set_option linter.unusedVariables false
def M.zep : Array Value := #[.int .i64 0, .int .i64 0, .int .i64 0, .int .i64 0, .int .i64 0, .int .i64 0, .int .i64 0, .int .i64 0, .int .i64 0, .int .i64 0, .int .i64 0, .int .i64 0, .int .i64 0, .int .i64 0, .int .i64 0, .int .i64 0, .int .i64 0, .int .i64 0, .int .i64 0, .int .i64 0, .int .i64 0, .int .i64 0, .int .i64 0, .int .i64 0, .int .i64 0]
theorem setCells_same {b : Nat} {cs : Array Value} {t : TypeId} : ∀ (vs : List Value) (V : World) (o : Nat), V.heap[b]? = some (.cells cs t (0, 0)) → (∀ j v, vs[j]? = some v → cs[o + j]? = some v) → (V.setCells b o vs).heap[b]? = some (.cells cs t (0, 0))
  | [], V, o, h, _ => h
  | v :: r, V, o, h, hv => by
    have h1 : (V.setCell ⟨b, o, none⟩ v).heap[b]? = some (.cells cs t (0, 0)) := by rw [setCell_row h, set_same (j := o) (hv 0 v rfl)]
    exact setCells_same r (V.setCell ⟨b, o, none⟩ v) (o + 1) h1 (fun j u hu => by rw [Nat.add_assoc, Nat.add_comm 1 j]; exact hv (j + 1) u (by simpa using hu))
theorem there_off {V : World} {g : Nat} {cs : Array Value} {t : TypeId} (bV : V.heap[g]? = some (.cells cs t (0, 0))) {o n : Nat} (hn : o + n ≤ cs.size) : V.there g o n := fun j hj => by
  have hj : o + j < cs.size := by omega
  refine ⟨?_, frozen_of_row bV⟩
  rw [cell_of_row V _ (o + j) _ _ _ bV]
  simp [hj]
set_option maxRecDepth 20000 in
set_option maxHeartbeats 3200000 in
theorem frEpoch_no {w : World} {g : Nat} {T : TypeId} {rp : Option Addr} (hg : w.heap[g]? = some (.cells #[.pointer rp, .int .i64 0] T (0, 0))) (hn : No w (.pointer rp)) :
    Calls Tryd.prog 63 #[.pointer (some ⟨g, 0, none⟩)] w fun e w' => e = .returned (.agg M.zep) ∧ w'.heap[g]? = some (.cells #[.pointer rp, .int .i64 2] T (0, 0)) ∧ Fr (fun k => k = g) w w' := by
  obtain ⟨rb, hrb⟩ : ∃ rb, w.heap.size = rb := ⟨_, rfl⟩
  obtain ⟨qb, hqb⟩ : ∃ qb, rb + 1 = qb := ⟨_, rfl⟩
  obtain ⟨lb, hlb⟩ : ∃ lb, qb + 1 = lb := ⟨_, rfl⟩
  have hgl := lt_of_row hg
  obtain ⟨W, hW⟩ : ∃ W, ((w.alloc (.cells M.zep 31)).alloc (.cells M.zep 31)).alloc (.cells #[.pointer (some ⟨qb, 0, none⟩)] 161) = W := ⟨_, rfl⟩
  have fW : Fr (fun _ => False) w W := by rw [← hW]; exact Fr.alloc (Fr.alloc (Fr.alloc (Fr.refl _ _) _) _) _
  have br : W.heap[rb]? = some (.cells M.zep 31 (0, 0)) := by rw [← hW, ← hrb]; exact (Below.heap_alloc _ _ _ (by simp; omega)).trans ((Below.heap_alloc _ _ _ (by simp)).trans (Go.heap_alloc_new w _))
  have bq : W.heap[qb]? = some (.cells M.zep 31 (0, 0)) := by
    have h1 := Go.heap_alloc_new (w.alloc (.cells M.zep 31)) (.cells M.zep 31)
    rw [World.size_alloc, hrb, hqb] at h1
    rw [← hW]; exact (Below.heap_alloc _ _ _ (by simp; omega)).trans h1
  have bl : W.heap[lb]? = some (.cells #[.pointer (some ⟨qb, 0, none⟩)] 161 (0, 0)) := by
    have h1 := Go.heap_alloc_new ((w.alloc (.cells M.zep 31)).alloc (.cells M.zep 31)) (.cells #[.pointer (some ⟨qb, 0, none⟩)] 161)
    rw [World.size_alloc, World.size_alloc, hrb, hqb, hlb] at h1
    rw [← hW]; exact h1
  have K1 := hid (frInt1_no (fW.cells hg (fun h => h)) (hn.kept fW) lb 1 qb 0 (cell_at (j := 0) bl rfl) bq rfl (by omega))
  have HW := hid hW
  have HRB := hid hrb
  have HQB := hid hqb
  have HLB := hid hlb
  have FW := hid fW
  have BR := hid br
  have BQ := hid bq
  have HGL := hid hgl
  clear hW hrb hqb hlb fW br bq bl hgl hg hn
  unfold M.zep at HW
  go_enter Tryd.func63, Tryd.ntmps63
  go_wp2_with fail
  rw [HRB.out, HQB.out, HLB.out, HW.out]
  refine K1.out.mono ?_
  rintro e w1 ⟨⟨v1, rfl⟩, hg1, hq1, hf1⟩
  have d1 := cell_at (j := 1) hg1 rfl
  have hgl := HGL.out
  have hrb := HRB.out
  have hqb := HQB.out
  have bq1 : w1.heap[qb]? = some (.cells M.zep 31 (0, 0)) := by rw [hq1]; exact BQ.out
  have br1 : w1.heap[rb]? = some (.cells M.zep 31 (0, 0)) := hf1.cells BR.out (fun e => by omega)
  have KE : Hid (∀ V, Fr (fun _ => False) w1 V → Calls Tryd.prog 95 #[.pointer (some ⟨g, 0, none⟩)] V fun e w' => e = .returned (.agg M.z8) ∧ Fr (fun _ => False) w1 w') := hid (fun V hf => (frEight_err (er := 2) (cellFr hf (fun h => h) d1) (by decide)).mono (fun e w' h => ⟨h.1, hf.trans h.2 (fun _ _ h => h)⟩))
  have KV : Hid (∀ V, Fr (fun _ => False) w1 V → Calls Tryd.prog 96 #[.pointer (some ⟨g, 0, none⟩)] V fun e w' => e = .returned (.agg M.z8) ∧ Fr (fun _ => False) w1 w') := hid (fun V hf => (frVector_err (er := 2) (cellFr hf (fun h => h) d1) (by decide)).mono (fun e w' h => ⟨h.1, hf.trans h.2 (fun _ _ h => h)⟩))
  have s1 : ∀ V, Fr (fun _ => False) w1 V → ∃ V', (Instr.storeAt 27 (.pointer (some ⟨qb, 1, none⟩)) (.agg M.z8)).run Tryd.prog V = .ok () V' ∧ Fr (fun _ => False) w1 V' := fun V hf => by
    have bV := hf.cells bq1 (fun h => h)
    have th : V.there qb 1 M.z8.size := there_off bV (by decide)
    refine ⟨_, run_storeAt_mid (P := Tryd.prog) V _ 1 27 M.z8 th (by kernel_rfl) (by kernel_rfl), hf.trans (Fr.same (Fr.setCells V qb 1 M.z8.toList) ((setCells_same M.z8.toList V 1 bV ?_).trans bV.symm)) (fun _ _ h => h)⟩
    intro j v hv
    have hj : j < 8 := (List.getElem?_eq_some_iff.1 hv).1
    match j, hj with
    | 0, _ | 1, _ | 2, _ | 3, _ | 4, _ | 5, _ | 6, _ | 7, _ => exact hv
  have s2 : ∀ V, Fr (fun _ => False) w1 V → ∃ V', (Instr.storeAt 29 (.pointer (some ⟨qb, 9, none⟩)) (.agg M.z8)).run Tryd.prog V = .ok () V' ∧ Fr (fun _ => False) w1 V' := fun V hf => by
    have bV := hf.cells bq1 (fun h => h)
    have th : V.there qb 9 M.z8.size := there_off bV (by decide)
    refine ⟨_, run_storeAt_mid (P := Tryd.prog) V _ 9 29 M.z8 th (by kernel_rfl) (by kernel_rfl), hf.trans (Fr.same (Fr.setCells V qb 9 M.z8.toList) ((setCells_same M.z8.toList V 9 bV ?_).trans bV.symm)) (fun _ _ h => h)⟩
    intro j v hv
    have hj : j < 8 := (List.getElem?_eq_some_iff.1 hv).1
    match j, hj with
    | 0, _ | 1, _ | 2, _ | 3, _ | 4, _ | 5, _ | 6, _ | 7, _ => exact hv
  have s3 : ∀ V, Fr (fun _ => False) w1 V → ∃ V', (Instr.storeAt 27 (.pointer (some ⟨qb, 17, none⟩)) (.agg M.z8)).run Tryd.prog V = .ok () V' ∧ Fr (fun _ => False) w1 V' := fun V hf => by
    have bV := hf.cells bq1 (fun h => h)
    have th : V.there qb 17 M.z8.size := there_off bV (by decide)
    refine ⟨_, run_storeAt_mid (P := Tryd.prog) V _ 17 27 M.z8 th (by kernel_rfl) (by kernel_rfl), hf.trans (Fr.same (Fr.setCells V qb 17 M.z8.toList) ((setCells_same M.z8.toList V 17 bV ?_).trans bV.symm)) (fun _ _ h => h)⟩
    intro j v hv
    have hj : j < 8 := (List.getElem?_eq_some_iff.1 hv).1
    match j, hj with
    | 0, _ | 1, _ | 2, _ | 3, _ | 4, _ | 5, _ | 6, _ | 7, _ => exact hv
  have ld : ∀ V, Fr (fun _ => False) w1 V → (Instr.loadAt 31 (.pointer (some ⟨qb, 0, none⟩))).run Tryd.prog V = .ok (.agg M.zep) V := fun V hf => run_loadAt_mid V qb 0 _ M.zep.toList _ (rangeAt_of (hf.cells bq1 (fun h => h)) 0 M.zep.toList rfl) Tryd.underlying31 rfl (by kernel_rfl)
  have st : ∀ V, Fr (fun _ => False) w1 V → (Instr.storeAt 31 (.pointer (some ⟨rb, 0, none⟩)) (.agg M.zep)).run Tryd.prog V = .ok () (V.setCells rb 0 M.zep.toList) ∧ (loadVar 31 ⟨rb, 0, none⟩).run Tryd.prog (V.setCells rb 0 M.zep.toList) = .ok (.agg M.zep) (V.setCells rb 0 M.zep.toList) := fun V hf => by
    have th : V.there rb 0 M.zep.size := there_of (hf.cells br1 (fun h => h)) (by decide)
    exact ⟨run_storeAt_mid (P := Tryd.prog) V _ 0 31 M.zep th (by kernel_rfl) (by kernel_rfl), run_loadVar_mid (P := Tryd.prog) _ _ 0 31 M.zep.toList _ (World.rangeAt_setCells_same V _ 0 M.zep.toList th) Tryd.underlying31 rfl (by kernel_rfl)⟩
  obtain ⟨va, hva⟩ : ∃ v, Value.agg M.zep = v := ⟨_, rfl⟩
  obtain ⟨v8, hv8⟩ : ∃ v, Value.agg M.z8 = v := ⟨_, rfl⟩
  rw [hva] at ld st
  rw [hv8] at s1 s2 s3 KE KV
  have HVA := hid hva
  have LD := hid ld
  have ST := hid st
  have S1 := hid s1
  have S2 := hid s2
  have S3 := hid s3
  have F1 := hid hf1
  have HG1 := hid hg1
  clear hg1 hq1 hf1 d1 hgl hrb hqb bq1 br1 ld st s1 s2 s3 hva hv8 K1 HW
  dsimp only
  repeat (first
    | (refine wpList_load_v LD7.out (by exact ⟨_, rfl, rfl⟩) (by kernel_rfl) ?_)
    | (refine wpList_store_v ST7.out (by exact ⟨_, _, rfl, rfl, rfl⟩) (by kernel_rfl) ?_)
    | (refine wpList_store_v T7.out (by exact ⟨_, _, rfl, rfl, rfl⟩) (by kernel_rfl) ?_)
    | (refine wpList_store_v T5.out (by exact ⟨_, _, rfl, rfl, rfl⟩) (by kernel_rfl) ?_)
    | (refine wpList_store_v T3.out (by exact ⟨_, _, rfl, rfl, rfl⟩) (by kernel_rfl) ?_)
    | (go_at_call 95; refine (KE.out _ F5.out).mono ?_; rintro e w6 ⟨rfl, hf6⟩; obtain ⟨w7, t7, f7⟩ := S3.out _ hf6; have T7 := hid t7; have F7 := hid f7; have LD7 := hid (LD.out _ f7); have st7 := ST.out _ f7; have f8 := Fr.setCells w7 rb 0 M.zep.toList; obtain ⟨w8, hw8⟩ : ∃ w8, w7.setCells rb 0 M.zep.toList = w8 := ⟨_, rfl⟩; rw [hw8] at st7 f8; have ST7 := hid st7.1; have LR7 := hid st7.2; have F8 := hid f8; clear hf6 t7 f7 st7 f8 hw8; dsimp only)
    | (go_at_call 96; refine (KV.out _ F3.out).mono ?_; rintro e w4 ⟨rfl, hf4⟩; obtain ⟨w5, t5, f5⟩ := S2.out _ hf4; have T5 := hid t5; have F5 := hid f5; clear hf4 t5 f5; dsimp only)
    | (go_at_call 95; refine (KE.out w1 (Fr.refl _ _)).mono ?_; rintro e w2 ⟨rfl, hf2⟩; obtain ⟨w3, t3, f3⟩ := S1.out _ hf2; have T3 := hid t3; have F3 := hid f3; clear hf2 t3 f3; dsimp only)
    | go_values | go_skip | go_guarded | go_step | go_upon | go_back)
  refine bodyPost_ret (v := va) (results_cell1 Tryd.results63 _ _ _ _ _ (by rfl) LR7.out) rfl ⟨by rw [← HVA.out], ?_, ?_⟩
  · have h1 := HGL.out
    have h2 := HRB.out
    exact F8.out.cells (F7.out.cells HG1.out (fun h => h)) (fun e => by omega)
  · have h2 := HRB.out
    exact (((FW.out.mono (T := fun k => k = g ∨ k = rb) (fun _ _ h => h.elim)).trans F1.out (fun _ _ h => .inl h)).trans (F7.out.mono (T := fun k => k = rb) (fun _ _ h => h.elim)) (fun _ _ h => .inr h)).trans F8.out (fun _ _ h => .inr h) |>.mono (fun i hi e => by omega)

end Go.Proofs.YtofieaacingfcaaDoor

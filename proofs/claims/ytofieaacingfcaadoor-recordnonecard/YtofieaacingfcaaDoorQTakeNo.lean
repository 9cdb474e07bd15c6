/-
  The taking of fields at a reader that nothing made.
-/
import Derived.Test.YtofieaacingfcaaDoorQPutNo
namespace Go.Proofs.YtofieaacingfcaaDoor
open Go.RowKit
set_option linter.unusedVariables false

def M.zop : Array Value := #[.int .i64 0, .int .i64 0, .int .i64 0, .int .i64 0, .int .i64 0, .string ⟨#[]⟩, .string ⟨#[]⟩, .string ⟨#[]⟩]
/-- one number is asked for, and the reader refuses -/
theorem frInt1_no {w : World} {g : Nat} {T : TypeId} {rp : Option Addr} (hg : w.heap[g]? = some (.cells #[.pointer rp, .int .i64 0] T (0, 0))) (hn : No w (.pointer rp)) (lb lc qb qo : Nat) (hl : w.cell? ⟨lb, 0, none⟩ = some (.pointer (some ⟨qb, qo, none⟩))) {cs : Array Value} {t : TypeId} (hq : w.heap[qb]? = some (.cells cs t (0, 0))) (hqo : cs[qo]? = some (.int .i64 0)) (hqg : qb ≠ g) :
    Calls Tryd.prog 91 #[.pointer (some ⟨g, 0, none⟩), .slice (some ⟨lb, 0, none⟩) 1 lc] w fun e w' => (∃ v, e = .returned v) ∧ w'.heap[g]? = some (.cells #[.pointer rp, .int .i64 2] T (0, 0)) ∧ w'.heap[qb]? = w.heap[qb]? ∧ Fr (fun k => k = g) w w' := by
  refine (frInt1 (R := fun _ => False) (PP := fun _ => True) hg lb lc qb qo hl hq hqo hqg (fun h => h) (fun h => h) (v := 0) (er := 2) (fun W hW => (noRInt W _ (hn.kept hW)).mono ?_) (fun _ _ _ _ => trivial)).mono ?_
  · rintro e w' ⟨rfl, rfl⟩
    exact ⟨rfl, Fr.refl _ _, trivial⟩
  · rintro e w' ⟨h1, h2⟩
    have hq2 := h2.q_
    rw [set_same hqo] at hq2
    have hb : w'.heap[qb]? = w.heap[qb]? := by rw [hq2, hq]
    refine ⟨h1, h2.g_, hb, h2.fr.os, h2.fr.tape, h2.fr.output, h2.fr.size, fun k hk e => ?_⟩
    by_cases ek : k = qb
    · rw [ek]; exact hb
    · exact h2.fr.block k hk (by rintro (h | h | h); exact h; exact e h; exact ek h)
set_option maxRecDepth 20000 in
set_option maxHeartbeats 3200000 in
theorem frOp_no {w : World} {g : Nat} {T : TypeId} {rp : Option Addr} (hg : w.heap[g]? = some (.cells #[.pointer rp, .int .i64 0] T (0, 0))) (hn : No w (.pointer rp)) :
    Calls Tryd.prog 61 #[.pointer (some ⟨g, 0, none⟩)] w fun e w' => e = .returned (.agg M.zop) ∧ w'.heap[g]? = some (.cells #[.pointer rp, .int .i64 2] T (0, 0)) ∧ Fr (fun k => k = g) w w' := by
  obtain ⟨rb, hrb⟩ : ∃ rb, w.heap.size = rb := ⟨_, rfl⟩
  obtain ⟨qb, hqb⟩ : ∃ qb, rb + 1 = qb := ⟨_, rfl⟩
  obtain ⟨lb, hlb⟩ : ∃ lb, qb + 1 = lb := ⟨_, rfl⟩
  have hgl := lt_of_row hg
  obtain ⟨W, hW⟩ : ∃ W, ((w.alloc (.cells M.zop 25)).alloc (.cells M.zop 25)).alloc (.cells #[.pointer (some ⟨qb, 0, none⟩)] 161) = W := ⟨_, rfl⟩
  have fW : Fr (fun _ => False) w W := by rw [← hW]; exact Fr.alloc (Fr.alloc (Fr.alloc (Fr.refl _ _) _) _) _
  have br : W.heap[rb]? = some (.cells M.zop 25 (0, 0)) := by rw [← hW, ← hrb]; exact (Below.heap_alloc _ _ _ (by simp; omega)).trans ((Below.heap_alloc _ _ _ (by simp)).trans (Go.heap_alloc_new w _))
  have bq : W.heap[qb]? = some (.cells M.zop 25 (0, 0)) := by
    have h1 := Go.heap_alloc_new (w.alloc (.cells M.zop 25)) (.cells M.zop 25)
    rw [World.size_alloc, hrb, hqb] at h1
    rw [← hW]; exact (Below.heap_alloc _ _ _ (by simp; omega)).trans h1
  have bl : W.heap[lb]? = some (.cells #[.pointer (some ⟨qb, 0, none⟩)] 161 (0, 0)) := by
    have h1 := Go.heap_alloc_new ((w.alloc (.cells M.zop 25)).alloc (.cells M.zop 25)) (.cells #[.pointer (some ⟨qb, 0, none⟩)] 161)
    rw [World.size_alloc, World.size_alloc, hrb, hqb, hlb] at h1
    rw [← hW]; exact h1
  have K1 := hid (frInt1_no (fW.cells hg (fun h => h)) (hn.kept fW) lb 1 qb 0 (cell_at (j := 0) bl rfl) bq rfl (by omega))
  have HW := hid hW
  have HRB := hid hrb
  have HQB := hid hqb
  have HLB := hid hlb
  have FW := hid fW
  have BR := hid br
  have BQ := hid bq
  have HGL := hid hgl
  clear hW hrb hqb hlb fW br bq bl hgl hg hn
  unfold M.zop at HW
  go_enter Tryd.func61, Tryd.ntmps61
  go_wp2_with fail
  rw [HRB.out, HQB.out, HLB.out, HW.out]
  refine K1.out.mono ?_
  rintro e w1 ⟨⟨v1, rfl⟩, hg1, hq1, hf1⟩
  have d1 := cell_at (j := 1) hg1 rfl
  have hgl := HGL.out
  have hrb := HRB.out
  have hqb := HQB.out
  have bq1 : w1.heap[qb]? = some (.cells M.zop 25 (0, 0)) := by rw [hq1]; exact BQ.out
  have br1 : w1.heap[rb]? = some (.cells M.zop 25 (0, 0)) := hf1.cells BR.out (fun e => by omega)
  have KI : Hid (∀ V, Fr (fun _ => False) w1 V → ∀ n, V.heap.size = n → Calls Tryd.prog 92 #[.pointer (some ⟨g, 0, none⟩), .slice (some ⟨n, 0, none⟩) 2 2] (V.alloc (.cells #[.pointer (some ⟨qb, 1, none⟩), .pointer (some ⟨qb, 2, none⟩)] 163)) fun e w' => (∃ v, e = .returned v) ∧ Fr (fun _ => False) w1 w') := hid (fun V hf n hn => by
    have fv := Fr.alloc hf (.cells #[.pointer (some ⟨qb, 1, none⟩), .pointer (some ⟨qb, 2, none⟩)] 163)
    have bv := fv.cells bq1 (fun h => h)
    refine (frInts_err (cellFr fv (fun h => h) d1) (by decide) _ 2 2 [(qb, 1), (qb, 2)] (Pl.newn V n hn _ _ _ 2 rfl rfl) (by omega) (fun x hx => ?_)).mono ?_
    · simp only [List.mem_cons, List.not_mem_nil, or_false] at hx
      rcases hx with rfl | rfl
      · exact ⟨_, _, bv, rfl⟩
      · exact ⟨_, _, bv, rfl⟩
    · rintro e w' ⟨h1, h2⟩
      exact ⟨h1, fv.trans h2 (fun _ _ h => h)⟩)
  have K6 : Hid (∀ V, Fr (fun _ => False) w1 V → ∀ n, V.heap.size = n → Calls Tryd.prog 91 #[.pointer (some ⟨g, 0, none⟩), .slice (some ⟨n, 0, none⟩) 2 2] (V.alloc (.cells #[.pointer (some ⟨qb, 3, none⟩), .pointer (some ⟨qb, 4, none⟩)] 161)) fun e w' => (∃ v, e = .returned v) ∧ Fr (fun _ => False) w1 w') := hid (fun V hf n hn => by
    have fv := Fr.alloc hf (.cells #[.pointer (some ⟨qb, 3, none⟩), .pointer (some ⟨qb, 4, none⟩)] 161)
    refine (frInt64s_err (cellFr fv (fun h => h) d1) (by decide) _ 2 2 [(qb, 3), (qb, 4)] (Pl.newn V n hn _ _ _ 2 rfl rfl) (by omega)).mono ?_
    rintro e w' ⟨h1, rfl⟩
    exact ⟨h1, fv⟩)
  have KT : Hid (∀ V, Fr (fun _ => False) w1 V → ∀ n, V.heap.size = n → Calls Tryd.prog 93 #[.pointer (some ⟨g, 0, none⟩), .slice (some ⟨n, 0, none⟩) 3 3] (V.alloc (.cells #[.pointer (some ⟨qb, 5, none⟩), .pointer (some ⟨qb, 6, none⟩), .pointer (some ⟨qb, 7, none⟩)] 165)) fun e w' => (∃ v, e = .returned v) ∧ Fr (fun _ => False) w1 w') := hid (fun V hf n hn => by
    have fv := Fr.alloc hf (.cells #[.pointer (some ⟨qb, 5, none⟩), .pointer (some ⟨qb, 6, none⟩), .pointer (some ⟨qb, 7, none⟩)] 165)
    refine (frTexts_err (cellFr fv (fun h => h) d1) (by decide) _ 3 3 [(qb, 5), (qb, 6), (qb, 7)] (Pl.newn V n hn _ _ _ 3 rfl rfl) (by omega)).mono ?_
    rintro e w' ⟨h1, rfl⟩
    exact ⟨h1, fv⟩)
  have ld : ∀ V, Fr (fun _ => False) w1 V → (Instr.loadAt 25 (.pointer (some ⟨qb, 0, none⟩))).run Tryd.prog V = .ok (.agg M.zop) V := fun V hf => run_loadAt_mid V qb 0 _ M.zop.toList _ (rangeAt_of (hf.cells bq1 (fun h => h)) 0 M.zop.toList rfl) Tryd.underlying25 rfl (by kernel_rfl)
  have st : ∀ V, Fr (fun _ => False) w1 V → (Instr.storeAt 25 (.pointer (some ⟨rb, 0, none⟩)) (.agg M.zop)).run Tryd.prog V = .ok () (V.setCells rb 0 M.zop.toList) ∧ (loadVar 25 ⟨rb, 0, none⟩).run Tryd.prog (V.setCells rb 0 M.zop.toList) = .ok (.agg M.zop) (V.setCells rb 0 M.zop.toList) := fun V hf => by
    have th : V.there rb 0 M.zop.size := there_of (hf.cells br1 (fun h => h)) (by decide)
    exact ⟨run_storeAt_mid (P := Tryd.prog) V _ 0 25 M.zop th (by kernel_rfl) (by kernel_rfl), run_loadVar_mid (P := Tryd.prog) _ _ 0 25 M.zop.toList _ (World.rangeAt_setCells_same V _ 0 M.zop.toList th) Tryd.underlying25 rfl (by kernel_rfl)⟩
  obtain ⟨va, hva⟩ : ∃ v, Value.agg M.zop = v := ⟨_, rfl⟩
  rw [hva] at ld st
  have HVA := hid hva
  have LD := hid ld
  have ST := hid st
  have F1 := hid hf1
  have HG1 := hid hg1
  clear hg1 hq1 hf1 d1 hgl hrb hqb bq1 br1 ld st hva K1 HW
  dsimp only
  repeat (first
    | (refine wpList_load_v LD4.out (by exact ⟨_, rfl, rfl⟩) (by kernel_rfl) ?_)
    | (refine wpList_store_v ST4.out (by exact ⟨_, _, rfl, rfl, rfl⟩) (by kernel_rfl) ?_)
    | (go_at_call 93; refine (KT.out _ F3.out _ rfl).mono ?_; rintro e w4 ⟨⟨v4, rfl⟩, hf4⟩; have LD4 := hid (LD.out _ hf4); have st4 := ST.out _ hf4; have f5 := Fr.setCells w4 rb 0 M.zop.toList; obtain ⟨w5, hw5⟩ : ∃ w5, w4.setCells rb 0 M.zop.toList = w5 := ⟨_, rfl⟩; rw [hw5] at st4 f5; have ST4 := hid st4.1; have LR4 := hid st4.2; have F5 := hid f5; have F4 := hid hf4; clear hf4 st4 f5 hw5; dsimp only)
    | (go_at_call 91; refine (K6.out _ F2.out _ rfl).mono ?_; rintro e w3 ⟨⟨v3, rfl⟩, hf3⟩; have F3 := hid hf3; clear hf3; dsimp only)
    | (go_at_call 92; refine (KI.out w1 (Fr.refl _ _) _ rfl).mono ?_; rintro e w2 ⟨⟨v2, rfl⟩, hf2⟩; have F2 := hid hf2; clear hf2; dsimp only)
    | go_values | go_skip | go_guarded | go_step | go_upon | go_back)
  refine bodyPost_ret (v := va) (results_cell1 Tryd.results61 _ _ _ _ _ (by rfl) LR4.out) rfl ⟨by rw [← HVA.out], ?_, ?_⟩
  · have h1 := HGL.out
    have h2 := HRB.out
    exact F5.out.cells (F4.out.cells HG1.out (fun h => h)) (fun e => by omega)
  · have h2 := HRB.out
    exact (((FW.out.mono (T := fun k => k = g ∨ k = rb) (fun _ _ h => h.elim)).trans F1.out (fun _ _ h => .inl h)).trans (F4.out.mono (T := fun k => k = rb) (fun _ _ h => h.elim)) (fun _ _ h => .inr h)).trans F5.out (fun _ _ h => .inr h) |>.mono (fun i hi e => by omega)

end Go.Proofs.YtofieaacingfcaaDoor

/-
  What a table is asked and told: Ask, Put, Last, Len.
-/
import Derived.Test.YtffjekhlloippaaYAsk
namespace Go.Proofs.Ytffjekhlloippaa
open Go.RowKit Go.Maps
set_option linter.unusedVariables false
set_option linter.unusedSimpArgs false
set_option maxRecDepth 100000
theorem fld0 (w : World) (a b c d e f : Int) : (Instr.field 61 (.agg #[.int .i64 a, .int .i64 b, .int .i64 c, .int .i64 d, .int .i64 e, .int .i64 f]) 0).run Try.prog w = .ok (.int .i64 a) w := by kernel_rfl
theorem fld1 (w : World) (a b c d e f : Int) : (Instr.field 61 (.agg #[.int .i64 a, .int .i64 b, .int .i64 c, .int .i64 d, .int .i64 e, .int .i64 f]) 1).run Try.prog w = .ok (.int .i64 b) w := by kernel_rfl
theorem fld2 (w : World) (a b c d e f : Int) : (Instr.field 61 (.agg #[.int .i64 a, .int .i64 b, .int .i64 c, .int .i64 d, .int .i64 e, .int .i64 f]) 2).run Try.prog w = .ok (.agg #[.int .i64 c, .int .i64 d, .int .i64 e, .int .i64 f]) w := by kernel_rfl
theorem ylen_any {w : World} {p mb : Nat} {t : Y.Tb} (h : Ym w p mb t) : Calls Try.prog 21 #[ptrY p] w fun e w' => e = .returned (.int .i64 t.length) ∧ w = w' := by
  have c0 : w.cell? ⟨p, 0, none⟩ = some (.map (some mb)) := cellA (j := 0) h.box rfl
  have HL := hid h.len
  have KM := hid (ymade_any h)
  clear h
  go_enter Try.func21, Try.ntmps21
  go_wp2_with (first
    | (go_at_call 23; refine KM.out.mono ?_; rintro e wx ⟨rfl, rfl⟩)
    | (refine wpList_len_v (HL.out _) (by exact ⟨_, rfl, rfl⟩) (by kernel_rfl) ?_))
  go_ret
  exact ⟨rfl, rfl⟩
theorem ylast_any {w : World} {p mb : Nat} {t : Y.Tb} (h : Ym w p mb t) {s : Int} (hs : (Lit.int .i64 s).wf = true) : Calls Try.prog 16 #[ptrY p, .int .i64 s] w fun e w' => e = .returned (.int .i64 (Y.last t s)) ∧ w = w' := by
  have c0 : w.cell? ⟨p, 0, none⟩ = some (.map (some mb)) := cellA (j := 0) h.box rfl
  have LK := hid (h.look hs)
  have KM := hid (ymade_any h)
  have hq := fld1
  unfold Y.last
  clear h hs
  cases hg : A.get s t with
  | none =>
    rw [hg] at LK
    simp only [Option.map_none, Option.getD_none] at LK
    clear hg
    go_enter Try.func16, Try.ntmps16
    go_wp2_with (first
      | (go_at_call 23; refine KM.out.mono ?_; rintro e wx ⟨rfl, rfl⟩)
      | (refine wpList_look_v LK.out (by exact ⟨_, _, rfl, rfl, rfl⟩) (by kernel_rfl) ?_))
    go_ret
    exact ⟨rfl, rfl⟩
  | some r =>
    rw [hg] at LK
    simp only [Option.map_some, Option.getD_some] at LK
    clear hg
    go_enter Try.func16, Try.ntmps16
    go_wp2_with (first
      | (go_at_call 23; refine KM.out.mono ?_; rintro e wx ⟨rfl, rfl⟩)
      | (refine wpList_look_v LK.out (by exact ⟨_, _, rfl, rfl, rfl⟩) (by kernel_rfl) ?_))
    go_ret
    exact ⟨rfl, rfl⟩
theorem put4 {w : World} {b : Nat} {c0 c1 c2 c3 : Value} {t : TypeId} {m : Nat × Nat} (h : w.heap[b]? = some (.cells #[c0, c1, c2, c3] t m)) (a0 a1 a2 a3 : Value) :
    ((((w.setCell ⟨b, 0, none⟩ a0).setCell ⟨b, 1, none⟩ a1).setCell ⟨b, 2, none⟩ a2).setCell ⟨b, 3, none⟩ a3).heap[b]? = some (.cells #[a0, a1, a2, a3] t m) := by
  have h1 := setCell_row (j := 0) h a0
  have h2 := setCell_row (j := 1) h1 a1
  have h3 := setCell_row (j := 2) h2 a2
  have h4 := setCell_row (j := 3) h3 a3
  exact h4
theorem put4_fr (w : World) (b : Nat) (a0 a1 a2 a3 : Value) :
    Fr (fun k => k = b) w ((((w.setCell ⟨b, 0, none⟩ a0).setCell ⟨b, 1, none⟩ a1).setCell ⟨b, 2, none⟩ a2).setCell ⟨b, 3, none⟩ a3) :=
  (((Fr.setCell (S := fun k => k = b) (p := ⟨b, 0, none⟩) (Fr.refl _ w) (fun _ => rfl) a0).setCell (p := ⟨b, 1, none⟩) (fun _ => rfl) a1).setCell (p := ⟨b, 2, none⟩) (fun _ => rfl) a2).setCell (p := ⟨b, 3, none⟩) (fun _ => rfl) a3
set_option maxHeartbeats 1600000 in
theorem yask_any {w : World} {p mb : Nat} {t : Y.Tb} (h : Ym w p mb t) {s q : Int} (hs : (Lit.int .i64 s).wf = true) : Calls Try.prog 13 #[ptrY p, .int .i64 s, .int .i64 q] w fun e w' => e = .returned (.tuple #[Y.rpv (Y.said t s q), .int .i64 (Y.judge t s q)]) ∧ Fr (fun _ => False) w w' := by
  have KJ := hid (fun (W : World) (hf : Fr (fun _ => False) w W) => yjudge_any (h.kept hf (fun h => h) (fun h => h)) (q := q) hs)
  have f0 : Fr (fun _ => False) w (w.alloc (.cells #[.int .i64 0, .int .i64 0, .int .i64 0, .int .i64 0] 34)) := Fr.alloc (Fr.refl _ _) _
  have hb := Go.heap_alloc_new w (.cells #[.int .i64 0, .int .i64 0, .int .i64 0, .int .i64 0] 34 (0, 0))
  have hq := fld2
  have F0 := hid f0
  have HB := hid hb
  clear f0 hb
  have LK := hid (fun (W : World) (hf : Fr (fun _ => False) w W) => (h.kept hf (fun h => h) (fun h => h)).look hs)
  have CC := hid (fun (W : World) (hf : Fr (fun _ => False) w W) => show W.cell? ⟨p, 0, none⟩ = some (.map (some mb)) from cellA (j := 0) (h.kept hf (fun h => h) (fun h => h)).box rfl)
  clear h hs
  unfold Y.said
  by_cases hj : Y.judge t s q = 2
  · rw [if_pos hj]
    cases hg : A.get s t with
    | none =>
      exfalso
      unfold Y.judge at hj
      rw [hg] at hj
      dsimp only at hj
      split at hj
      · split at hj
        · omega
        · split at hj <;> omega
      · omega
    | some r =>
      rw [hg] at LK
      simp only [Option.map_some, Option.getD_some] at LK
      rw [hj] at KJ ⊢
      clear hg hj
      go_enter Try.func13, Try.ntmps13
      go_wp2_with (first
        | (go_at_call 25; refine (KJ.out _ F0.out).mono ?_; rintro e w1 ⟨rfl, hf⟩; have c0 := CC.out _ (F0.out.trans hf (fun _ _ h => h)); have LK1 := hid (LK.out _ (F0.out.trans hf (fun _ _ h => h))); have F1 := hid (F0.out.trans hf (fun _ _ h => h)); have B1 := hid (hf.cells HB.out (fun h => h)); have d0 := cellA (j := 0) B1.out rfl; have z0 := frozen_of_row (j := 0) B1.out; have d1 := cellA (j := 1) B1.out rfl; have z1 := frozen_of_row (j := 1) B1.out; have d2 := cellA (j := 2) B1.out rfl; have z2 := frozen_of_row (j := 2) B1.out; have d3 := cellA (j := 3) B1.out rfl; have z3 := frozen_of_row (j := 3) B1.out; clear hf)
        | (refine wpList_look_v LK1.out (by exact ⟨_, _, rfl, rfl, rfl⟩) (by kernel_rfl) ?_))
      have hb4 := put4 B1.out (.int .i64 r.2.1) (.int .i64 r.2.2.1) (.int .i64 r.2.2.2.1) (.int .i64 r.2.2.2.2)
      refine bodyPost_ret (results_cell2 rfl _ _ _ _ _ _ rfl (loadVar_whole (ty := 34) hb4 Try.underlying34 rfl (by kernel_rfl)) rfl) rfl ?_
      exact ⟨rfl, F1.out.trans (put4_fr _ _ _ _ _ _) (fun i hi e => by omega)⟩
  · rw [if_neg hj]
    obtain ⟨j, hjj⟩ : ∃ j, Y.judge t s q = j := ⟨_, rfl⟩
    rw [hjj] at KJ hj ⊢
    have e1 : (j == 2) = false := by simp [hj]
    have e2 : (j != 2) = true := by simp [hj]
    clear hjj hj
    go_enter Try.func13, Try.ntmps13
    go_wp2_with (first
      | (go_at_call 25; refine (KJ.out _ F0.out).mono ?_; rintro e w1 ⟨rfl, hf⟩; have F1 := hid (F0.out.trans hf (fun _ _ h => h)); have B1 := hid (hf.cells HB.out (fun h => h)); have d0 := cellA (j := 0) B1.out rfl; have z0 := frozen_of_row (j := 0) B1.out; have d1 := cellA (j := 1) B1.out rfl; have z1 := frozen_of_row (j := 1) B1.out; have d2 := cellA (j := 2) B1.out rfl; have z2 := frozen_of_row (j := 2) B1.out; have d3 := cellA (j := 3) B1.out rfl; have z3 := frozen_of_row (j := 3) B1.out; clear hf))
    have hb4 := put4 B1.out (.int .i64 0) (.int .i64 0) (.int .i64 0) (.int .i64 0)
    refine bodyPost_ret (results_cell2 rfl _ _ _ _ _ _ rfl (loadVar_whole (ty := 34) hb4 Try.underlying34 rfl (by kernel_rfl)) rfl) rfl ?_
    exact ⟨rfl, F1.out.trans (put4_fr _ _ _ _ _ _) (fun i hi e => by omega)⟩
theorem judge_not1 {t : Y.Tb} {s q : Int} (hj : ¬ Y.judge t s q = 1) : Y.judge t s q = 2 ∨ Y.judge t s q = 3 ∨ Y.judge t s q = 4 ∨ Y.judge t s q = 5 ∨ Y.judge t s q = 6 := by
  unfold Y.judge at hj ⊢
  split
  · rename_i hm
    rw [if_pos hm] at hj
    cases hg : A.get s t with
    | none =>
      rw [hg] at hj
      dsimp only at hj ⊢
      split
      · omega
      · rename_i h1
        rw [if_neg h1] at hj
        split
        · omega
        · rename_i h2
          rw [if_neg h2] at hj
          omega
    | some x =>
      rw [hg] at hj
      dsimp only at hj ⊢
      split
      · omega
      · rename_i h1
        rw [if_neg h1] at hj
        split
        · omega
        · rename_i h2
          rw [if_neg h2] at hj
          split
          · rename_i h3
            rw [if_pos h3] at hj
            omega
          · omega
  · omega
set_option maxHeartbeats 3200000 in
theorem yput_any {w : World} {p mb : Nat} {t : Y.Tb} (h : Ym w p mb t) {s q : Int} (hs : (Lit.int .i64 s).wf = true) (r : Y.Rp) : Calls Try.prog 12 #[ptrY p, .int .i64 s, .int .i64 q, Y.rpv r] w fun e w' => e = .returned (.int .i64 (Y.perr (Y.judge t s q))) ∧ Ym w' p mb (Y.put t s q r) ∧ Fr (fun i => i = mb) w w' := by
  obtain ⟨r0, r1, r2, r3⟩ := r
  have KJ := hid (fun (W : World) (hf : Fr (fun _ => False) w W) => yjudge_any (h.kept hf (fun h => h) (fun h => h)) (q := q) hs)
  have HH := hid h
  have HS := hid hs
  have f0 : Fr (fun _ => False) w (w.alloc (.cells (Y.rcells (r0, r1, r2, r3)) 34)) := Fr.alloc (Fr.refl _ _) _
  have HB := hid (Go.heap_alloc_new w (.cells (Y.rcells (r0, r1, r2, r3)) 34 (0, 0)))
  have F0 := hid f0
  clear h hs f0
  by_cases hj : Y.judge t s q = 1
  · have hok := HH.out.ok.put s q (r0, r1, r2, r3)
    unfold Y.put at hok ⊢
    rw [if_pos hj] at hok ⊢
    have HOK := hid hok
    rw [hj] at KJ ⊢
    clear hj hok
    go_enter Try.func12, Try.ntmps12
    go_wp2_with (first
      | (go_at_call 25; refine (KJ.out _ F0.out).mono ?_; rintro e w1 ⟨rfl, hf⟩; have B1 := hid (hf.cells HB.out (fun h => h)); have F1 := hid (F0.out.trans hf (fun _ _ h => h)); clear hf))
    have h1 := HH.out.kept F1.out (fun h => h) (fun h => h)
    have hmb := lt_of_row HH.out.box
    have hmm := HH.out.map.lt
    have HC := hid (fun (V : World) (hV : Fr (fun i => i = mb) w1 V) => show V.cell? ⟨p, 0, none⟩ = some (.map (some mb)) ∧ (Instr.loadAt 34 (.pointer (some ⟨w.heap.size, 0, none⟩))).run Try.prog V = .ok (.agg #[.int .i64 r0, .int .i64 r1, .int .i64 r2, .int .i64 r3]) V from
      ⟨cellA (j := 0) (hV.cells h1.box h1.ne) rfl, load_whole (hV.cells B1.out (by omega)) Try.underlying34 rfl (by kernel_rfl)⟩)
    obtain ⟨w2, rs, m2, fs⟩ := (h1.kept (S := fun _ => False) (Fr.drew (Fr.refl _ w1)) (fun h => h) (fun h => h)).store HS.out (q, r0, r1, r2, r3) HOK.out
    have RS := hid rs
    have FS := hid fs
    have M2 := hid m2
    have hz1 := F1.out.size
    clear h1 rs fs m2 hmb hmm
    have hmx : Try.prog.follows .mixedOrders = true := by kernel_rfl
    refine wp_region_held (S := fun V => Fr (fun i => i = mb) w1 V) hmx ?_
    have hS := (Fr.drew (Fr.refl (fun i => i = mb) w1))
    simp only [List.size_toArray, List.length_cons, List.length_nil, Nat.reduceAdd, Array.replicate_succ, Array.replicate_zero, List.push_toArray, List.nil_append, List.cons_append]
    refine wpAnyH_take (i := 0) (v := ?_) rfl (by kernel_rfl) (by kernel_rfl) (by kernel_rfl) (fun _ _ _ h => h) (Or.inl ⟨by kernel_rfl, ?_⟩) hS ?_
    rotate_left 1
    · (intro w' hS'; clear hS'; go_simp; try with_reducible rfl)
    simp only [List.getElem_toArray, List.getElem_cons_zero, List.getElem_cons_succ, Act.put, List.setIfInBounds_toArray, List.set_cons_zero, List.set_cons_succ]
    refine wpAnyH_take (i := 1) (v := ?_) rfl (by kernel_rfl) (by kernel_rfl) (by kernel_rfl) (fun _ _ _ h => h) (Or.inl ⟨by kernel_rfl, ?_⟩) hS ?_
    rotate_left 1
    · (intro w' hS'; clear hS'; go_simp; try with_reducible rfl)
    simp only [List.getElem_toArray, List.getElem_cons_zero, List.getElem_cons_succ, Act.put, List.setIfInBounds_toArray, List.set_cons_zero, List.set_cons_succ]
    refine wpAnyH_take (i := 2) (v := ?_) rfl (by kernel_rfl) (by kernel_rfl) (by kernel_rfl) (fun _ _ _ h => h) (Or.inl ⟨by kernel_rfl, ?_⟩) hS ?_
    rotate_left 1
    · (intro w' hS'; clear hS'; go_simp; try with_reducible rfl)
    simp only [List.getElem_toArray, List.getElem_cons_zero, List.getElem_cons_succ, Act.put, List.setIfInBounds_toArray, List.set_cons_zero, List.set_cons_succ]
    refine wpAnyH_take (i := 3) (v := ?_) rfl (by kernel_rfl) (by kernel_rfl) (by kernel_rfl) (fun _ _ _ h => h) (Or.inl ⟨by kernel_rfl, ?_⟩) hS ?_
    rotate_left 1
    · (intro w' hS'; have h1 := (HC.out w' hS').1; clear hS'; go_simp; try with_reducible rfl)
    simp only [List.getElem_toArray, List.getElem_cons_zero, List.getElem_cons_succ, Act.put, List.setIfInBounds_toArray, List.set_cons_zero, List.set_cons_succ]
    refine wpAnyH_take (i := 4) (v := ?_) rfl (by kernel_rfl) (by kernel_rfl) (by kernel_rfl) (fun _ _ _ h => h) (Or.inl ⟨by kernel_rfl, ?_⟩) hS ?_
    rotate_left 1
    · (intro w' hS'; clear hS'; go_simp; try with_reducible rfl)
    simp only [List.getElem_toArray, List.getElem_cons_zero, List.getElem_cons_succ, Act.put, List.setIfInBounds_toArray, List.set_cons_zero, List.set_cons_succ]
    refine wpAnyH_take (i := 5) (v := ?_) rfl (by kernel_rfl) (by kernel_rfl) (by kernel_rfl) (fun _ _ _ h => h) (Or.inl ⟨by kernel_rfl, ?_⟩) hS ?_
    rotate_left 1
    · (intro w' hS'; clear hS'; go_simp; try with_reducible rfl)
    simp only [List.getElem_toArray, List.getElem_cons_zero, List.getElem_cons_succ, Act.put, List.setIfInBounds_toArray, List.set_cons_zero, List.set_cons_succ]
    refine wpAnyH_take (i := 6) (v := ?_) rfl (by kernel_rfl) (by kernel_rfl) (by kernel_rfl) (fun _ _ _ h => h) (Or.inl ⟨by kernel_rfl, ?_⟩) hS ?_
    rotate_left 1
    · (intro w' hS'; clear hS'; go_simp; try with_reducible rfl)
    simp only [List.getElem_toArray, List.getElem_cons_zero, List.getElem_cons_succ, Act.put, List.setIfInBounds_toArray, List.set_cons_zero, List.set_cons_succ]
    refine wpAnyH_take (i := 7) rfl (by kernel_rfl) (by kernel_rfl) (by kernel_rfl) (fun _ _ _ h => h) (tyload (by kernel_rfl) (by exact ⟨_, rfl, rfl⟩) (fun w' hS' => (HC.out w' hS').2)) hS ?_
    simp only [List.getElem_toArray, List.getElem_cons_zero, List.getElem_cons_succ, Act.put, List.setIfInBounds_toArray, List.set_cons_zero, List.set_cons_succ]
    refine wpAnyH_take (i := 8) (v := ?_) rfl (by kernel_rfl) (by kernel_rfl) (by kernel_rfl) (fun _ _ _ h => h) (Or.inl ⟨by kernel_rfl, ?_⟩) hS ?_
    rotate_left 1
    · (intro w' hS'; clear hS'; go_simp; try with_reducible rfl)
    simp only [List.getElem_toArray, List.getElem_cons_zero, List.getElem_cons_succ, Act.put, List.setIfInBounds_toArray, List.set_cons_zero, List.set_cons_succ]
    refine wpAnyH_ready (rs := [9]) (by kernel_rfl) (by simp) ?_
    refine AllReadyH.cons rfl (fun K1 hK1 => ?_) (AllReadyH.nil)
    refine tstep_upd (by kernel_rfl) RS.out (by exact ⟨_, _, _, rfl, rfl, rfl, rfl⟩) ?_
    refine hK1.out _ _ (hS.trans FS.out (fun _ _ h => h)) (fun hS => ?_)
    clear hK1 K1
    simp only [List.getElem_toArray, List.getElem_cons_zero, List.getElem_cons_succ, Act.put, List.setIfInBounds_toArray, List.set_cons_zero, List.set_cons_succ]
    refine wpAnyH_done (by kernel_rfl) ?_ _
    have FIN := hid (show Fr (fun i => i = mb) w w2 from (F1.out.mono (T := fun i => i = mb) (fun _ _ h => h.elim)).trans ((Fr.drew (Fr.refl (fun i => i = mb) w1)).trans FS.out (fun _ _ h => h)) (fun _ _ h => h))
    clear hS
    go_wp2
    go_ret
    exact ⟨rfl, M2.out, FIN.out⟩
  · unfold Y.put
    rw [if_neg hj]
    obtain ⟨j, hjj⟩ : ∃ j, Y.judge t s q = j := ⟨_, rfl⟩
    have hj6 := judge_not1 hj
    rw [hjj] at hj6
    rw [hjj] at KJ ⊢
    clear hjj hj
    have FIN := hid (fun (W : World) (hf : Fr (fun _ => False) w W) => And.intro (HH.out.kept hf (fun h => h) (fun h => h)) (hf.mono (T := fun i => i = mb) (fun _ _ h => h.elim)))
    rcases hj6 with rfl | rfl | rfl | rfl | rfl
    all_goals
      go_enter Try.func12, Try.ntmps12
      go_wp2_with (first
        | (go_at_call 25; refine (KJ.out _ F0.out).mono ?_; rintro e w1 ⟨rfl, hf⟩; have F1 := hid (F0.out.trans hf (fun _ _ h => h)); clear hf))
      go_ret
      exact ⟨rfl, FIN.out _ F1.out⟩
end Go.Proofs.Ytffjekhlloippaa

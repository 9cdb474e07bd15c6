/-
  What a table is asked: New, isMade, isFull, mayBe, judgeFirst, judge, Ask, Last, Len.
-/
import Derived.Test.YtffjekhlloippaaYMem
namespace Go.Proofs.Ytffjekhlloippaa
open Go.RowKit Go.Maps
set_option linter.unusedVariables false
set_option linter.unusedSimpArgs false
set_option maxRecDepth 100000
set_option maxHeartbeats 1600000 in
theorem ynew_any (w : World) : Calls Try.prog 9 #[] w fun e w' => e = .returned (.pointer (some ⟨w.heap.size + 1, 0, none⟩)) ∧ Ym w' (w.heap.size + 1) w.heap.size [] ∧ Fr (fun _ => False) w w' := by
  have hmm := @run_makeMap Try.prog
  go_enter Try.func9, Try.ntmps9
  go_wp2
  go_ret
  have hb := Go.heap_alloc_new (w.alloc (.map #[] 0)) (.cells #[.map (some w.heap.size)] 54 (0, 0))
  rw [World.size_alloc] at hb
  exact ⟨rfl, ⟨hb, (Mp.made 2 litI w).kept (S := fun _ => False) (Fr.alloc (Fr.refl _ _) _) (fun h => h), Y.Ok.nil⟩, Fr.alloc (Fr.alloc (Fr.refl _ _) _) _⟩
theorem ymade_any {w : World} {p mb : Nat} {t : Y.Tb} (h : Ym w p mb t) : Calls Try.prog 23 #[.pointer (some ⟨p, 0, none⟩)] w fun e w' => e = .returned (.bool true) ∧ w = w' := by
  have c0 : w.cell? ⟨p, 0, none⟩ = some (.map (some mb)) := cellA (j := 0) h.box rfl
  have q : (binOp .neq 52 (.map (some mb)) (.map none)).run Try.prog w = .ok (.bool true) w := run_neq_map_nil w _ _ _ (some mb) Try.underlying52
  clear h
  go_enter Try.func23, Try.ntmps23
  go_wp2
  go_ret
  exact ⟨rfl, rfl⟩
theorem yfull_any {w : World} {p mb : Nat} {t : Y.Tb} (h : Ym w p mb t) : Calls Try.prog 35 #[.pointer (some ⟨p, 0, none⟩)] w fun e w' => e = .returned (.bool (decide (64 ≤ t.length))) ∧ w = w' := by
  have c0 : w.cell? ⟨p, 0, none⟩ = some (.map (some mb)) := cellA (j := 0) h.box rfl
  have HL := hid h.len
  clear h
  go_enter Try.func35, Try.ntmps35
  go_wp2_with (refine wpList_len_v (HL.out _) (by exact ⟨_, rfl, rfl⟩) (by kernel_rfl) ?_)
  go_ret
  refine ⟨?_, rfl⟩
  show Ending.returned (.bool _) = _
  congr 3
  simp
  omega
theorem ymay_any {w : World} {g : Nat} {a b : Int} (h0 : w.cell? ⟨g, 0, none⟩ = some (.int .i64 a)) (h1 : w.cell? ⟨g, 1, none⟩ = some (.int .i64 b)) :
    Calls Try.prog 33 #[.slice (some ⟨g, 0, none⟩) 2 2] w fun e w' => e = .returned (.bool (Y.may a && Y.may b)) ∧ w = w' := by
  by_cases ha : Y.may a = true
  · obtain ⟨a1, a2⟩ := Y.may_iff.1 ha
    have a1' : ¬ a < 1 := by omega
    have a2' : ¬ 1099511627776 < a := by omega
    by_cases hb : Y.may b = true
    · obtain ⟨b1, b2⟩ := Y.may_iff.1 hb
      have b1' : ¬ b < 1 := by omega
      have b2' : ¬ 1099511627776 < b := by omega
      rw [ha, hb]
      clear ha hb a1 a2 b1 b2
      go_enter Try.func33, Try.ntmps33
      go_wp2
      refine wp_loop_rounds 3 ?_
      rw [rounds_succ]
      go_wp2
      rw [rounds_succ]
      go_wp2
      rw [rounds_succ]
      go_wp2
      go_ret
      exact ⟨rfl, rfl⟩
    · have hb' : b < 1 ∨ 1099511627776 < b := by
        rcases Int.lt_or_le b 1 with h | h
        · exact .inl h
        · refine .inr (Int.not_le.1 fun k => hb (Y.may_iff.2 ⟨h, k⟩))
      rw [ha, Bool.not_eq_true _ |>.mp hb]
      clear ha hb a1 a2
      rcases hb' with hb' | hb'
      · go_enter Try.func33, Try.ntmps33
        go_wp2
        refine wp_loop_rounds 3 ?_
        rw [rounds_succ]
        go_wp2
        rw [rounds_succ]
        go_wp2
        go_ret
        exact ⟨rfl, rfl⟩
      · have hb2 : ¬ b < 1 := by omega
        go_enter Try.func33, Try.ntmps33
        go_wp2
        refine wp_loop_rounds 3 ?_
        rw [rounds_succ]
        go_wp2
        rw [rounds_succ]
        go_wp2
        go_ret
        exact ⟨rfl, rfl⟩
  · have ha' : a < 1 ∨ 1099511627776 < a := by
      rcases Int.lt_or_le a 1 with h | h
      · exact .inl h
      · refine .inr (Int.not_le.1 fun k => ha (Y.may_iff.2 ⟨h, k⟩))
    rw [Bool.not_eq_true _ |>.mp ha]
    clear ha
    rcases ha' with ha' | ha'
    · go_enter Try.func33, Try.ntmps33
      go_wp2
      refine wp_loop_rounds 3 ?_
      rw [rounds_succ]
      go_wp2
      go_ret
      exact ⟨rfl, rfl⟩
    · have ha2 : ¬ a < 1 := by omega
      go_enter Try.func33, Try.ntmps33
      go_wp2
      refine wp_loop_rounds 3 ?_
      rw [rounds_succ]
      go_wp2
      go_ret
      exact ⟨rfl, rfl⟩
theorem yfirst_any {w : World} {p mb : Nat} {t : Y.Tb} (h : Ym w p mb t) (q : Int) : Calls Try.prog 34 #[ptrY p, .int .i64 q] w fun e w' => e = .returned (.int .i64 (if q ≠ 1 then 4 else if 64 ≤ t.length then 5 else 1)) ∧ w = w' := by
  have K := hid (yfull_any h)
  clear h
  by_cases hq : q = 1
  · rw [if_neg (by omega)]
    have hq' : (q != 1) = false := by simp [hq]
    cases hb : decide (64 ≤ t.length) with
    | true =>
      rw [if_pos (of_decide_eq_true hb)]
      rw [hb] at K
      clear hb
      subst hq
      go_enter Try.func34, Try.ntmps34
      go_wp2_with (go_at_call 35; refine K.out.mono ?_; rintro e wx ⟨rfl, rfl⟩)
      go_ret
      exact ⟨rfl, rfl⟩
    | false =>
      rw [if_neg (of_decide_eq_false hb)]
      rw [hb] at K
      clear hb
      subst hq
      go_enter Try.func34, Try.ntmps34
      go_wp2_with (go_at_call 35; refine K.out.mono ?_; rintro e wx ⟨rfl, rfl⟩)
      go_ret
      exact ⟨rfl, rfl⟩
  · rw [if_pos hq]
    have hq' : (q != 1) = true := by simp [hq]
    go_enter Try.func34, Try.ntmps34
    go_wp2
    go_ret
    exact ⟨rfl, rfl⟩
set_option maxHeartbeats 1600000 in
theorem yjudge_any {w : World} {p mb : Nat} {t : Y.Tb} (h : Ym w p mb t) {s q : Int} (hs : (Lit.int .i64 s).wf = true) : Calls Try.prog 25 #[ptrY p, .int .i64 s, .int .i64 q] w fun e w' => e = .returned (.int .i64 (Y.judge t s q)) ∧ Fr (fun _ => False) w w' := by
  have f0 : Fr (fun _ => False) w (w.alloc (.cells #[.int .i64 s, .int .i64 q] 2)) := Fr.alloc (Fr.refl _ _) _
  have hb := Go.heap_alloc_new w (.cells #[.int .i64 s, .int .i64 q] 2 (0, 0))
  have KM := hid (ymade_any h)
  have KY := hid (ymay_any (cellA (j := 0) hb rfl) (cellA (j := 1) hb rfl))
  have h2 := h.kept f0 (fun h => h) (fun h => h)
  have KF := hid (fun (W : World) (hf : Fr (fun _ => False) (w.alloc (.cells #[.int .i64 s, .int .i64 q] 2)) W) => yfirst_any (h2.kept hf (fun h => h) (fun h => h)) q)
  have LK := hid (h2.look2 hs)
  have c0 : (w.alloc (.cells #[.int .i64 s, .int .i64 q] 2)).cell? ⟨p, 0, none⟩ = some (.map (some mb)) := cellA (j := 0) h2.box rfl
  have F0 := hid f0
  have HR := hid h.ok.rng
  clear h h2 hs hb f0
  unfold Y.judge
  cases hm : (Y.may s && Y.may q) with
  | false =>
    rw [if_neg (by simp)]
    rw [hm] at KY
    clear hm HR KF LK
    go_enter Try.func25, Try.ntmps25
    go_wp2_with (first
      | (go_at_call 23; refine KM.out.mono ?_; rintro e wx ⟨rfl, rfl⟩)
      | (go_at_call 33; refine KY.out.mono ?_; rintro e wx ⟨rfl, rfl⟩))
    go_ret
    exact ⟨rfl, F0.out⟩
  | true =>
    rw [if_pos rfl]
    rw [hm] at KY
    have hqm := (Bool.and_eq_true _ _ |>.mp hm).2
    cases hg : A.get s t with
    | none =>
      rw [hg] at LK
      simp only [Option.map_none, Option.getD_none, Option.isSome_none] at LK
      obtain ⟨j, hj⟩ : ∃ j, (if q ≠ 1 then (4 : Int) else if 64 ≤ t.length then 5 else 1) = j := ⟨_, rfl⟩
      rw [hj] at KF
      dsimp only
      rw [hj]
      clear hm HR hg hj
      go_enter Try.func25, Try.ntmps25
      go_wp2_with (first
        | (go_at_call 23; refine KM.out.mono ?_; rintro e wx ⟨rfl, rfl⟩)
        | (go_at_call 33; refine KY.out.mono ?_; rintro e wx ⟨rfl, rfl⟩)
        | (refine wpList_look_v LK.out (by exact ⟨_, _, rfl, rfl, rfl⟩) (by kernel_rfl) ?_)
        | (go_at_call 34; refine (KF.out _ (Fr.alloc (Fr.refl _ _) _)).mono ?_; rintro e wx ⟨rfl, rfl⟩))
      go_ret
      exact ⟨rfl, Fr.alloc F0.out _⟩
    | some r =>
      rw [hg] at LK
      simp only [Option.map_some, Option.getD_some, Option.isSome_some] at LK
      have hr := Y.may_iff.1 (HR.out s r hg).2
      have hq := Y.may_iff.1 hqm
      obtain ⟨n, x0, x1, x2, x3⟩ := r
      dsimp only at hr ⊢
      clear hm hg HR KF hqm
      rcases Int.lt_trichotomy q n with e | e | e
      · rw [if_neg (by omega), if_pos e]
        have e1 : (q == n) = false := by simp; omega
        go_enter Try.func25, Try.ntmps25
        go_wp2_with (first
          | (go_at_call 23; refine KM.out.mono ?_; rintro e wx ⟨rfl, rfl⟩)
          | (go_at_call 33; refine KY.out.mono ?_; rintro e wx ⟨rfl, rfl⟩)
          | (refine wpList_look_v LK.out (by exact ⟨_, _, rfl, rfl, rfl⟩) (by kernel_rfl) ?_))
        go_ret
        exact ⟨rfl, Fr.alloc F0.out _⟩
      · rw [if_pos e]
        subst e
        go_enter Try.func25, Try.ntmps25
        go_wp2_with (first
          | (go_at_call 23; refine KM.out.mono ?_; rintro e wx ⟨rfl, rfl⟩)
          | (go_at_call 33; refine KY.out.mono ?_; rintro e wx ⟨rfl, rfl⟩)
          | (refine wpList_look_v LK.out (by exact ⟨_, _, rfl, rfl, rfl⟩) (by kernel_rfl) ?_))
        go_ret
        exact ⟨rfl, Fr.alloc F0.out _⟩
      · rw [if_neg (by omega), if_neg (by omega)]
        have e1 : (q == n) = false := by simp; omega
        have e2 : ¬ q < n := by omega
        by_cases e3 : q = n + 1
        · rw [if_pos e3]
          subst e3
          go_enter Try.func25, Try.ntmps25
          go_wp2_with (first
            | (go_at_call 23; refine KM.out.mono ?_; rintro e wx ⟨rfl, rfl⟩)
            | (go_at_call 33; refine KY.out.mono ?_; rintro e wx ⟨rfl, rfl⟩)
            | (refine wpList_look_v LK.out (by exact ⟨_, _, rfl, rfl, rfl⟩) (by kernel_rfl) ?_))
          go_ret
          exact ⟨rfl, Fr.alloc F0.out _⟩
        · rw [if_neg e3]
          have e4 : (q == n + 1) = false := by simp; omega
          go_enter Try.func25, Try.ntmps25
          go_wp2_with (first
            | (go_at_call 23; refine KM.out.mono ?_; rintro e wx ⟨rfl, rfl⟩)
            | (go_at_call 33; refine KY.out.mono ?_; rintro e wx ⟨rfl, rfl⟩)
            | (refine wpList_look_v LK.out (by exact ⟨_, _, rfl, rfl, rfl⟩) (by kernel_rfl) ?_))
          go_ret
          exact ⟨rfl, Fr.alloc F0.out _⟩
end Go.Proofs.Ytffjekhlloippaa

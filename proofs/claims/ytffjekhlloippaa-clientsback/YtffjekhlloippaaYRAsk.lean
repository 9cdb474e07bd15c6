/-
  The document's table: Ask.
-/
import Derived.Test.YtffjekhlloippaaYRef
namespace Go.Proofs.Ytffjekhlloippaa
open Go.RowKit Go.Maps
set_option linter.unusedVariables false
set_option linter.unusedSimpArgs false
set_option maxRecDepth 100000
set_option maxHeartbeats 4000000 in
theorem raskY_any {w : World} {r : Nat} {a : Option Addr} {c : Nat} {t : Y.Tb} (h : Yd w r a c t) (s q : Int) :
    Calls Try.prog 14 #[ptrY r, .int .i64 s, .int .i64 q] w fun e w' => e = .returned (.tuple #[Y.rpv (Y.said t s q), .int .i64 (Y.judge t s q)]) ∧ Fr (fun _ => False) w w' := by
  have f0 : Fr (fun _ => False) w (w.alloc (.cells #[.int .i64 0, .int .i64 0, .int .i64 0, .int .i64 0] 34)) := Fr.alloc (Fr.refl _ _) _
  have KF := hid (fun (W : World) (hf : Fr (fun _ => False) w W) => rfindY_any (h.fr hf) s)
  have KM := hid (fun (W : World) (n : Int) => rmay_any W n)
  have HB := hid (Go.heap_alloc_new w (.cells #[.int .i64 0, .int .i64 0, .int .i64 0, .int .i64 0] 34 (0, 0)))
  have F0 := hid f0
  obtain ⟨len, hln⟩ : ∃ len, t.length = len := ⟨_, rfl⟩
  have hl64 : len ≤ 64 := by rw [← hln]; exact h.ok.few
  have HX := hid (show w.heap[r]? = some (.cells #[.slice a len c] 28 (0, 0)) from by rw [← hln]; exact h.box)
  have H := hid h
  have HLN := hid hln
  clear h f0
  unfold Y.said Y.judge
  cases hm : Y.may s with
  | false =>
    simp only [Bool.false_and, Bool.false_eq_true, if_false]
    clear HX KF H hln
    go_enter Try.func14, Try.ntmps14
    go_wp2_with (first
      | (go_at_call 26; refine (KM.out _ _).mono ?_; rintro e wx ⟨rfl, rfl⟩))
    exact bodyPost_ret (results_cell2 rfl _ _ _ _ _ _ rfl (loadVar_whole (ty := 34) HB.out Try.underlying34 rfl (by kernel_rfl)) rfl) rfl ⟨rfl, F0.out⟩
  | true =>
    simp only [Bool.true_and]
    cases hm2 : Y.may q with
    | false =>
      simp only [Bool.false_eq_true, if_false]
      clear HX KF H hln
      go_enter Try.func14, Try.ntmps14
      go_wp2_with (first
        | (go_at_call 26; refine (KM.out _ _).mono ?_; rintro e wx ⟨rfl, rfl⟩))
      exact bodyPost_ret (results_cell2 rfl _ _ _ _ _ _ rfl (loadVar_whole (ty := 34) HB.out Try.underlying34 rfl (by kernel_rfl)) rfl) rfl ⟨rfl, F0.out⟩
    | true =>
      simp only [if_true]
      have hq := Y.may_iff.1 hm2
      cases hg : A.get s t with
      | none =>
        rw [hg] at KF
        simp only [Option.isSome_none] at KF
        rw [hln]
        clear hg H hln
        by_cases hq1 : q = 1
        · subst hq1
          simp only [ne_eq, not_true_eq_false, if_false]
          by_cases hfull : 64 ≤ len
          · simp only [hfull, if_true]
            have hfull' : (64 : Int) ≤ (len : Int) := by omega
            go_enter Try.func14, Try.ntmps14
            go_wp2_with (first
              | (go_at_call 26; refine (KM.out _ _).mono ?_; rintro e wx ⟨rfl, rfl⟩)
              | (go_at_call 27; refine (KF.out _ F0.out).mono ?_; rintro e w1 ⟨rfl, hf⟩; have c0 := cellA (j := 0) (hf.cells (F0.out.cells HX.out (fun h => h)) (fun h => h)) rfl; have B1 := hid (hf.cells HB.out (fun h => h)); have F1 := hid (F0.out.trans hf (fun _ _ h => h)); have d0 := cellA (j := 0) B1.out rfl; have z0 := frozen_of_row (j := 0) B1.out; have d1 := cellA (j := 1) B1.out rfl; have z1 := frozen_of_row (j := 1) B1.out; have d2 := cellA (j := 2) B1.out rfl; have z2 := frozen_of_row (j := 2) B1.out; have d3 := cellA (j := 3) B1.out rfl; have z3 := frozen_of_row (j := 3) B1.out; clear hf))
            have hb4 := put4 B1.out (.int .i64 0) (.int .i64 0) (.int .i64 0) (.int .i64 0)
            refine bodyPost_ret (results_cell2 rfl _ _ _ _ _ _ rfl (loadVar_whole (ty := 34) hb4 Try.underlying34 rfl (by kernel_rfl)) rfl) rfl ?_
            exact ⟨rfl, F1.out.trans (put4_fr _ _ _ _ _ _) (fun i hi e => by omega)⟩
          · simp only [hfull, if_false]
            have hfull' : ¬ (64 : Int) ≤ (len : Int) := by omega
            go_enter Try.func14, Try.ntmps14
            go_wp2_with (first
              | (go_at_call 26; refine (KM.out _ _).mono ?_; rintro e wx ⟨rfl, rfl⟩)
              | (go_at_call 27; refine (KF.out _ F0.out).mono ?_; rintro e w1 ⟨rfl, hf⟩; have c0 := cellA (j := 0) (hf.cells (F0.out.cells HX.out (fun h => h)) (fun h => h)) rfl; have B1 := hid (hf.cells HB.out (fun h => h)); have F1 := hid (F0.out.trans hf (fun _ _ h => h)); have d0 := cellA (j := 0) B1.out rfl; have z0 := frozen_of_row (j := 0) B1.out; have d1 := cellA (j := 1) B1.out rfl; have z1 := frozen_of_row (j := 1) B1.out; have d2 := cellA (j := 2) B1.out rfl; have z2 := frozen_of_row (j := 2) B1.out; have d3 := cellA (j := 3) B1.out rfl; have z3 := frozen_of_row (j := 3) B1.out; clear hf))
            have hb4 := put4 B1.out (.int .i64 0) (.int .i64 0) (.int .i64 0) (.int .i64 0)
            refine bodyPost_ret (results_cell2 rfl _ _ _ _ _ _ rfl (loadVar_whole (ty := 34) hb4 Try.underlying34 rfl (by kernel_rfl)) rfl) rfl ?_
            exact ⟨rfl, F1.out.trans (put4_fr _ _ _ _ _ _) (fun i hi e => by omega)⟩
        · simp only [ne_eq, hq1, not_false_eq_true, if_true]
          have hq2 : (q != 1) = true := by simp [hq1]
          go_enter Try.func14, Try.ntmps14
          go_wp2_with (first
            | (go_at_call 26; refine (KM.out _ _).mono ?_; rintro e wx ⟨rfl, rfl⟩)
            | (go_at_call 27; refine (KF.out _ F0.out).mono ?_; rintro e w1 ⟨rfl, hf⟩; have c0 := cellA (j := 0) (hf.cells (F0.out.cells HX.out (fun h => h)) (fun h => h)) rfl; have B1 := hid (hf.cells HB.out (fun h => h)); have F1 := hid (F0.out.trans hf (fun _ _ h => h)); have d0 := cellA (j := 0) B1.out rfl; have z0 := frozen_of_row (j := 0) B1.out; have d1 := cellA (j := 1) B1.out rfl; have z1 := frozen_of_row (j := 1) B1.out; have d2 := cellA (j := 2) B1.out rfl; have z2 := frozen_of_row (j := 2) B1.out; have d3 := cellA (j := 3) B1.out rfl; have z3 := frozen_of_row (j := 3) B1.out; clear hf))
          have hb4 := put4 B1.out (.int .i64 0) (.int .i64 0) (.int .i64 0) (.int .i64 0)
          refine bodyPost_ret (results_cell2 rfl _ _ _ _ _ _ rfl (loadVar_whole (ty := 34) hb4 Try.underlying34 rfl (by kernel_rfl)) rfl) rfl ?_
          exact ⟨rfl, F1.out.trans (put4_fr _ _ _ _ _ _) (fun i hi e => by omega)⟩
      | some v =>
        rw [hg] at KF
        simp only [Option.isSome_some] at KF
        have hv := Y.may_iff.1 (H.out.ok.rng s v hg).2
        have hx := (A.low_get H.out.ok.up).1 hg
        obtain ⟨g, o, rfl, hgr, hc⟩ := H.out.at hx
        obtain ⟨k, hk⟩ : ∃ k, A.low s t = k := ⟨_, rfl⟩
        rw [hk] at KF hx hc
        obtain ⟨n, x0, x1, x2, x3⟩ := v
        have LD := hid (fun (W : World) (hf : Fr (fun _ => False) w W) => show (Instr.loadAt 61 (.pointer (some ⟨g, o + k * 6, none⟩))).run Try.prog W = .ok (.agg #[.int .i64 s, .int .i64 n, .int .i64 x0, .int .i64 x1, .int .i64 x2, .int .i64 x3]) W from
          run_loadAt_mid (P := Try.prog) W g (o + k * 6) 61 (Y.wcells s (n, x0, x1, x2, x3)).toList _ (fun j u hu => cellFr hf (fun h => h) (hc j u (by rw [← Array.getElem?_toList]; exact hu))) Try.underlying61 rfl (by kernel_rfl))
        have hkl : k < len := by rw [← hln]; exact (List.getElem?_eq_some_iff.1 hx).1
        have i0 : (0 : Int) ≤ (k : Int) := by omega
        have i1 : (k : Int) < (len : Int) := by omega
        clear hg hx hgr hc hk H hln
        dsimp only at hv ⊢
        rcases Int.lt_trichotomy q n with e | e | e
        · simp only [show ¬ q = n by omega, e, if_true, if_false]
          have e1 : (q == n) = false := by simp; omega
          go_enter Try.func14, Try.ntmps14
          go_wp2_with (first
            | (go_at_call 26; refine (KM.out _ _).mono ?_; rintro e wx ⟨rfl, rfl⟩)
            | (go_at_call 27; refine (KF.out _ F0.out).mono ?_; rintro e w1 ⟨rfl, hf⟩; have c0 := cellA (j := 0) (hf.cells (F0.out.cells HX.out (fun h => h)) (fun h => h)) rfl; have B1 := hid (hf.cells HB.out (fun h => h)); have F1 := hid (F0.out.trans hf (fun _ _ h => h)); have d0 := cellA (j := 0) B1.out rfl; have z0 := frozen_of_row (j := 0) B1.out; have d1 := cellA (j := 1) B1.out rfl; have z1 := frozen_of_row (j := 1) B1.out; have d2 := cellA (j := 2) B1.out rfl; have z2 := frozen_of_row (j := 2) B1.out; have d3 := cellA (j := 3) B1.out rfl; have z3 := frozen_of_row (j := 3) B1.out; have B2 := hid ((Fr.alloc (Fr.refl (fun _ => False) w1) (.cells #[.int .i64 s, .int .i64 n, .int .i64 x0, .int .i64 x1, .int .i64 x2, .int .i64 x3] 61)).cells B1.out (fun h => h)); have d0 := cellA (j := 0) B2.out rfl; have z0 := frozen_of_row (j := 0) B2.out; have d1 := cellA (j := 1) B2.out rfl; have z1 := frozen_of_row (j := 1) B2.out; have d2 := cellA (j := 2) B2.out rfl; have z2 := frozen_of_row (j := 2) B2.out; have d3 := cellA (j := 3) B2.out rfl; have z3 := frozen_of_row (j := 3) B2.out; clear hf)
            | (refine wpList_load_v (LD.out _ F1.out) (by exact ⟨_, rfl, rfl⟩) (by kernel_rfl) ?_))
          have hb4 := put4 B2.out (.int .i64 0) (.int .i64 0) (.int .i64 0) (.int .i64 0)
          refine bodyPost_ret (results_cell2 rfl _ _ _ _ _ _ rfl (loadVar_whole (ty := 34) hb4 Try.underlying34 rfl (by kernel_rfl)) rfl) rfl ?_
          exact ⟨rfl, (Fr.alloc F1.out _).trans (put4_fr _ _ _ _ _ _) (fun i hi e => by omega)⟩
        · subst e
          simp only [if_true]
          go_enter Try.func14, Try.ntmps14
          go_wp2_with (first
            | (go_at_call 26; refine (KM.out _ _).mono ?_; rintro e wx ⟨rfl, rfl⟩)
            | (go_at_call 27; refine (KF.out _ F0.out).mono ?_; rintro e w1 ⟨rfl, hf⟩; have c0 := cellA (j := 0) (hf.cells (F0.out.cells HX.out (fun h => h)) (fun h => h)) rfl; have B1 := hid (hf.cells HB.out (fun h => h)); have F1 := hid (F0.out.trans hf (fun _ _ h => h)); have d0 := cellA (j := 0) B1.out rfl; have z0 := frozen_of_row (j := 0) B1.out; have d1 := cellA (j := 1) B1.out rfl; have z1 := frozen_of_row (j := 1) B1.out; have d2 := cellA (j := 2) B1.out rfl; have z2 := frozen_of_row (j := 2) B1.out; have d3 := cellA (j := 3) B1.out rfl; have z3 := frozen_of_row (j := 3) B1.out; have B2 := hid ((Fr.alloc (Fr.refl (fun _ => False) w1) (.cells #[.int .i64 s, .int .i64 q, .int .i64 x0, .int .i64 x1, .int .i64 x2, .int .i64 x3] 61)).cells B1.out (fun h => h)); have d0 := cellA (j := 0) B2.out rfl; have z0 := frozen_of_row (j := 0) B2.out; have d1 := cellA (j := 1) B2.out rfl; have z1 := frozen_of_row (j := 1) B2.out; have d2 := cellA (j := 2) B2.out rfl; have z2 := frozen_of_row (j := 2) B2.out; have d3 := cellA (j := 3) B2.out rfl; have z3 := frozen_of_row (j := 3) B2.out; clear hf)
            | (refine wpList_load_v (LD.out _ F1.out) (by exact ⟨_, rfl, rfl⟩) (by kernel_rfl) ?_))
          have hb4 := put4 B2.out (.int .i64 x0) (.int .i64 x1) (.int .i64 x2) (.int .i64 x3)
          refine bodyPost_ret (results_cell2 rfl _ _ _ _ _ _ rfl (loadVar_whole (ty := 34) hb4 Try.underlying34 rfl (by kernel_rfl)) rfl) rfl ?_
          exact ⟨rfl, (Fr.alloc F1.out _).trans (put4_fr _ _ _ _ _ _) (fun i hi e => by omega)⟩
        · simp only [show ¬ q = n by omega, show ¬ q < n by omega, if_false]
          have e1 : (q == n) = false := by simp; omega
          have e2 : ¬ q < n := by omega
          by_cases e3 : q = n + 1
          · subst e3
            simp only [if_true]
            go_enter Try.func14, Try.ntmps14
            go_wp2_with (first
              | (go_at_call 26; refine (KM.out _ _).mono ?_; rintro e wx ⟨rfl, rfl⟩)
              | (go_at_call 27; refine (KF.out _ F0.out).mono ?_; rintro e w1 ⟨rfl, hf⟩; have c0 := cellA (j := 0) (hf.cells (F0.out.cells HX.out (fun h => h)) (fun h => h)) rfl; have B1 := hid (hf.cells HB.out (fun h => h)); have F1 := hid (F0.out.trans hf (fun _ _ h => h)); have d0 := cellA (j := 0) B1.out rfl; have z0 := frozen_of_row (j := 0) B1.out; have d1 := cellA (j := 1) B1.out rfl; have z1 := frozen_of_row (j := 1) B1.out; have d2 := cellA (j := 2) B1.out rfl; have z2 := frozen_of_row (j := 2) B1.out; have d3 := cellA (j := 3) B1.out rfl; have z3 := frozen_of_row (j := 3) B1.out; have B2 := hid ((Fr.alloc (Fr.refl (fun _ => False) w1) (.cells #[.int .i64 s, .int .i64 n, .int .i64 x0, .int .i64 x1, .int .i64 x2, .int .i64 x3] 61)).cells B1.out (fun h => h)); have d0 := cellA (j := 0) B2.out rfl; have z0 := frozen_of_row (j := 0) B2.out; have d1 := cellA (j := 1) B2.out rfl; have z1 := frozen_of_row (j := 1) B2.out; have d2 := cellA (j := 2) B2.out rfl; have z2 := frozen_of_row (j := 2) B2.out; have d3 := cellA (j := 3) B2.out rfl; have z3 := frozen_of_row (j := 3) B2.out; clear hf)
              | (refine wpList_load_v (LD.out _ F1.out) (by exact ⟨_, rfl, rfl⟩) (by kernel_rfl) ?_))
            have hb4 := put4 B2.out (.int .i64 0) (.int .i64 0) (.int .i64 0) (.int .i64 0)
            refine bodyPost_ret (results_cell2 rfl _ _ _ _ _ _ rfl (loadVar_whole (ty := 34) hb4 Try.underlying34 rfl (by kernel_rfl)) rfl) rfl ?_
            exact ⟨rfl, (Fr.alloc F1.out _).trans (put4_fr _ _ _ _ _ _) (fun i hi e => by omega)⟩
          · simp only [e3, if_false]
            have e4 : (q == n + 1) = false := by simp; omega
            go_enter Try.func14, Try.ntmps14
            go_wp2_with (first
              | (go_at_call 26; refine (KM.out _ _).mono ?_; rintro e wx ⟨rfl, rfl⟩)
              | (go_at_call 27; refine (KF.out _ F0.out).mono ?_; rintro e w1 ⟨rfl, hf⟩; have c0 := cellA (j := 0) (hf.cells (F0.out.cells HX.out (fun h => h)) (fun h => h)) rfl; have B1 := hid (hf.cells HB.out (fun h => h)); have F1 := hid (F0.out.trans hf (fun _ _ h => h)); have d0 := cellA (j := 0) B1.out rfl; have z0 := frozen_of_row (j := 0) B1.out; have d1 := cellA (j := 1) B1.out rfl; have z1 := frozen_of_row (j := 1) B1.out; have d2 := cellA (j := 2) B1.out rfl; have z2 := frozen_of_row (j := 2) B1.out; have d3 := cellA (j := 3) B1.out rfl; have z3 := frozen_of_row (j := 3) B1.out; have B2 := hid ((Fr.alloc (Fr.refl (fun _ => False) w1) (.cells #[.int .i64 s, .int .i64 n, .int .i64 x0, .int .i64 x1, .int .i64 x2, .int .i64 x3] 61)).cells B1.out (fun h => h)); have d0 := cellA (j := 0) B2.out rfl; have z0 := frozen_of_row (j := 0) B2.out; have d1 := cellA (j := 1) B2.out rfl; have z1 := frozen_of_row (j := 1) B2.out; have d2 := cellA (j := 2) B2.out rfl; have z2 := frozen_of_row (j := 2) B2.out; have d3 := cellA (j := 3) B2.out rfl; have z3 := frozen_of_row (j := 3) B2.out; clear hf)
              | (refine wpList_load_v (LD.out _ F1.out) (by exact ⟨_, rfl, rfl⟩) (by kernel_rfl) ?_))
            have hb4 := put4 B2.out (.int .i64 0) (.int .i64 0) (.int .i64 0) (.int .i64 0)
            refine bodyPost_ret (results_cell2 rfl _ _ _ _ _ _ rfl (loadVar_whole (ty := 34) hb4 Try.underlying34 rfl (by kernel_rfl)) rfl) rfl ?_
            exact ⟨rfl, (Fr.alloc F1.out _).trans (put4_fr _ _ _ _ _ _) (fun i hi e => by omega)⟩
end Go.Proofs.Ytffjekhlloippaa

/-
  SameEntry's walk, where all up to there is the same. (gen/gen_asame.py)
-/
import Derived.Test.YtcmpkbgkhbcekaaDoorASame
namespace Go.Proofs.YtcmpkbgkhbcekaaDoor
open Go.RowKit
set_option linter.unusedVariables false
set_option linter.unusedSimpArgs false

set_option maxHeartbeats 16000000 in
set_option maxRecDepth 20000 in
theorem same_rest {w : World} {ca cb : Array Value} {x y : A.Pa} {vO vO' vE vE' vV vV' : Value} {rO rE rV : Bool} {a1 a2 b1 b2 : Option Addr} {c1 c2 d1 d2 : Nat} (hsa : ca.size = 56) (hsb : cb.size = 56) (h : SE w ((w.alloc (.cells ca 37)).alloc (.cells cb 37)) x y vO vO' vE vE' vV vV' rO rE rV a1 a2 b1 b2 c1 c2 d1 d2) (h0 : x.f 0 = y.f 0) (h1 : x.f 1 = y.f 1) (h2 : x.f 2 = y.f 2) (hO : rO = true) (h11 : x.f 11 = y.f 11) (h12 : x.f 12 = y.f 12)
    (R : Ending → World → Prop) (hR : ∀ (r : Bool) (w' : World), (r = true ↔ (x.f 0 = y.f 0 ∧ x.f 1 = y.f 1 ∧ x.f 2 = y.f 2 ∧ x.op.cs = y.op.cs ∧ x.f 11 = y.f 11 ∧ x.f 12 = y.f 12 ∧ x.ops = y.ops ∧ x.ep = y.ep ∧ x.f 39 = y.f 39 ∧ x.ve = y.ve ∧ x.f 48 = y.f 48 ∧ (x.f 49 = y.f 49 ∧ x.f 50 = y.f 50 ∧ x.f 51 = y.f 51 ∧ x.dt = y.dt) ∧ x.f 53 = y.f 53 ∧ x.f 54 = y.f 54 ∧ x.f 55 = y.f 55)) → Fr (fun _ => False) w w' → R (.returned (.bool r)) w') :
    Calls Tryd.prog 10 #[.agg ca, .agg cb] w R := by
  obtain ⟨W, hW⟩ : ∃ W, (w.alloc (.cells ca 37)).alloc (.cells cb 37) = W := ⟨_, rfl⟩
  rw [hW] at h
  have HW := hid hW
  have HH := hid h
  have HR := hid hR
  clear hW h hR
  go_enter Tryd.func10, Tryd.ntmps10
  go_upto_region 1 with fail
  rw [HW.out]
  clear HW
  have ma0 : W.cell? ⟨w.heap.size, 0, none⟩ = some (.int .i64 (x.f 0)) := (HH.out.ci W (Fr.refl _ _)).1 0 (by omega) rfl
  have mb0 : W.cell? ⟨w.heap.size + 1, 0, none⟩ = some (.int .i64 (y.f 0)) := (HH.out.ci W (Fr.refl _ _)).2 0 (by omega) rfl
  have ma1 : W.cell? ⟨w.heap.size, 1, none⟩ = some (.int .i64 (x.f 1)) := (HH.out.ci W (Fr.refl _ _)).1 1 (by omega) rfl
  have mb1 : W.cell? ⟨w.heap.size + 1, 1, none⟩ = some (.int .i64 (y.f 1)) := (HH.out.ci W (Fr.refl _ _)).2 1 (by omega) rfl
  have ma2 : W.cell? ⟨w.heap.size, 2, none⟩ = some (.int .i64 (x.f 2)) := (HH.out.ci W (Fr.refl _ _)).1 2 (by omega) rfl
  have mb2 : W.cell? ⟨w.heap.size + 1, 2, none⟩ = some (.int .i64 (y.f 2)) := (HH.out.ci W (Fr.refl _ _)).2 2 (by omega) rfl
  have ma11 : W.cell? ⟨w.heap.size, 11, none⟩ = some (.int .i64 (x.f 11)) := (HH.out.ci W (Fr.refl _ _)).1 11 (by omega) rfl
  have mb11 : W.cell? ⟨w.heap.size + 1, 11, none⟩ = some (.int .i64 (y.f 11)) := (HH.out.ci W (Fr.refl _ _)).2 11 (by omega) rfl
  have ma12 : W.cell? ⟨w.heap.size, 12, none⟩ = some (.int .i64 (x.f 12)) := (HH.out.ci W (Fr.refl _ _)).1 12 (by omega) rfl
  have mb12 : W.cell? ⟨w.heap.size + 1, 12, none⟩ = some (.int .i64 (y.f 12)) := (HH.out.ci W (Fr.refl _ _)).2 12 (by omega) rfl
  have ms1 := (HH.out.cs W (Fr.refl _ _)).1
  have ms2 := (HH.out.cs W (Fr.refl _ _)).2
  have HOO := hid (HH.out.io.1 hO)
  have HEQ := hid (And.intro h0 (And.intro h1 (And.intro h2 (And.intro h11 h12))))
  subst hO
  repeat (first
    | go_values | go_skip
    | (refine wpList_load_v (u := .pointer (some ⟨w.heap.size, 3, none⟩)) (HH.out.lo _ (Fr.refl _ _)).1 (by exact ⟨_, rfl, rfl⟩) (by kernel_rfl) ?_)
    | (refine wpList_load_v (u := .pointer (some ⟨w.heap.size + 1, 3, none⟩)) (HH.out.lo _ (Fr.refl _ _)).2 (by exact ⟨_, rfl, rfl⟩) (by kernel_rfl) ?_)
    | (refine wpList_eql_v (HH.out.eo _) (by exact ⟨_, _, _, rfl, rfl, rfl, HH.out.go _ _ _⟩) (by kernel_rfl) ?_)
    | go_guarded | go_step | go_upon | go_back)
  refine (HH.out.ko W (Fr.refl _ _)).mono ?_
  rintro e w1 ⟨r, rfl, hr, q, rfl⟩
  have HRR := hid hr
  have F1 := hid (Fr.drewN (S := fun _ => False) W q)
  clear hr ms1 ms2 ma0 mb0 ma1 mb1 ma2 mb2 ma11 mb11 ma12 mb12 h0 h1 h2 h11 h12
  obtain ⟨W1, hW1⟩ : ∃ W1, W.drewN q = W1 := ⟨_, rfl⟩
  rw [hW1] at F1 ⊢
  clear hW1
  dsimp only
  cases r with
  | false =>
    have hops : ¬ x.ops = y.ops := fun h => by have := HRR.out.2 h; cases this
    have HOPS := hid hops
    clear hops
    go_wp2
    exact HR.out false _ (by simp [HOPS.out]) (HH.out.fw.trans F1.out (fun _ _ h => h))
  | true =>
  have HOPS := hid (HRR.out.1 rfl)
  clear HRR
  have na39 : W1.cell? ⟨w.heap.size, 39, none⟩ = some (.int .i64 (x.f 39)) := (HH.out.ci W1 F1.out).1 39 (by omega) rfl
  have nb39 : W1.cell? ⟨w.heap.size + 1, 39, none⟩ = some (.int .i64 (y.f 39)) := (HH.out.ci W1 F1.out).2 39 (by omega) rfl
  have na48 : W1.cell? ⟨w.heap.size, 48, none⟩ = some (.int .i64 (x.f 48)) := (HH.out.ci W1 F1.out).1 48 (by omega) rfl
  have nb48 : W1.cell? ⟨w.heap.size + 1, 48, none⟩ = some (.int .i64 (y.f 48)) := (HH.out.ci W1 F1.out).2 48 (by omega) rfl
  cases rE with
  | false =>
    have hE : ¬ x.ep = y.ep := fun h => by have := HH.out.ie.2 h; cases this
    have HE := hid hE
    clear hE
    repeat (first
      | go_values | go_skip
      | (refine wpList_load_v (u := .pointer (some ⟨w.heap.size, 14, none⟩)) (HH.out.le _ F1.out).1 (by exact ⟨_, rfl, rfl⟩) (by kernel_rfl) ?_)
      | (refine wpList_load_v (u := .pointer (some ⟨w.heap.size + 1, 14, none⟩)) (HH.out.le _ F1.out).2 (by exact ⟨_, rfl, rfl⟩) (by kernel_rfl) ?_)
      | (refine wpList_eql_v (HH.out.ee _) (by exact ⟨_, _, _, rfl, rfl, rfl, HH.out.ge _ _ _⟩) (by kernel_rfl) ?_; go_wp2)
      | go_guarded | go_step | go_upon | go_back)
    exact HR.out false _ (by simp [HE.out]) (HH.out.fw.trans F1.out (fun _ _ h => h))
  | true =>
  have HE := hid (HH.out.ie.1 rfl)
  by_cases h39 : x.f 39 = y.f 39
  rotate_left
  · have hb : (x.f 39 == y.f 39) = false := by simpa using h39
    repeat (first
      | go_values | go_skip
      | (refine wpList_load_v (u := .pointer (some ⟨w.heap.size, 14, none⟩)) (HH.out.le _ F1.out).1 (by exact ⟨_, rfl, rfl⟩) (by kernel_rfl) ?_)
      | (refine wpList_load_v (u := .pointer (some ⟨w.heap.size + 1, 14, none⟩)) (HH.out.le _ F1.out).2 (by exact ⟨_, rfl, rfl⟩) (by kernel_rfl) ?_)
      | (refine wpList_eql_v (HH.out.ee _) (by exact ⟨_, _, _, rfl, rfl, rfl, HH.out.ge _ _ _⟩) (by kernel_rfl) ?_; go_wp2)
      | go_guarded | go_step | go_upon | go_back)
    exact HR.out false _ (by simp [h39]) (HH.out.fw.trans F1.out (fun _ _ h => h))
  cases rV with
  | false =>
    have hV : ¬ x.ve = y.ve := fun h => by have := HH.out.iv.2 h; cases this
    have HV := hid hV
    clear hV
    repeat (first
      | go_values | go_skip
      | (refine wpList_load_v (u := .pointer (some ⟨w.heap.size, 14, none⟩)) (HH.out.le _ F1.out).1 (by exact ⟨_, rfl, rfl⟩) (by kernel_rfl) ?_)
      | (refine wpList_load_v (u := .pointer (some ⟨w.heap.size + 1, 14, none⟩)) (HH.out.le _ F1.out).2 (by exact ⟨_, rfl, rfl⟩) (by kernel_rfl) ?_)
      | (refine wpList_eql_v (HH.out.ee _) (by exact ⟨_, _, _, rfl, rfl, rfl, HH.out.ge _ _ _⟩) (by kernel_rfl) ?_)
      | (refine wpList_load_v (u := .pointer (some ⟨w.heap.size, 40, none⟩)) (HH.out.lv _ F1.out).1 (by exact ⟨_, rfl, rfl⟩) (by kernel_rfl) ?_)
      | (refine wpList_load_v (u := .pointer (some ⟨w.heap.size + 1, 40, none⟩)) (HH.out.lv _ F1.out).2 (by exact ⟨_, rfl, rfl⟩) (by kernel_rfl) ?_)
      | (refine wpList_eql_v (HH.out.ev _) (by exact ⟨_, _, _, rfl, rfl, rfl, HH.out.gv _ _ _⟩) (by kernel_rfl) ?_; go_wp2)
      | go_guarded | go_step | go_upon | go_back)
    exact HR.out false _ (by simp [HV.out]) (HH.out.fw.trans F1.out (fun _ _ h => h))
  | true =>
  have HV := hid (HH.out.iv.1 rfl)
  by_cases h48 : x.f 48 = y.f 48
  rotate_left
  · have hb : (x.f 48 == y.f 48) = false := by simpa using h48
    repeat (first
      | go_values | go_skip
      | (refine wpList_load_v (u := .pointer (some ⟨w.heap.size, 14, none⟩)) (HH.out.le _ F1.out).1 (by exact ⟨_, rfl, rfl⟩) (by kernel_rfl) ?_)
      | (refine wpList_load_v (u := .pointer (some ⟨w.heap.size + 1, 14, none⟩)) (HH.out.le _ F1.out).2 (by exact ⟨_, rfl, rfl⟩) (by kernel_rfl) ?_)
      | (refine wpList_eql_v (HH.out.ee _) (by exact ⟨_, _, _, rfl, rfl, rfl, HH.out.ge _ _ _⟩) (by kernel_rfl) ?_)
      | (refine wpList_load_v (u := .pointer (some ⟨w.heap.size, 40, none⟩)) (HH.out.lv _ F1.out).1 (by exact ⟨_, rfl, rfl⟩) (by kernel_rfl) ?_)
      | (refine wpList_load_v (u := .pointer (some ⟨w.heap.size + 1, 40, none⟩)) (HH.out.lv _ F1.out).2 (by exact ⟨_, rfl, rfl⟩) (by kernel_rfl) ?_)
      | (refine wpList_eql_v (HH.out.ev _) (by exact ⟨_, _, _, rfl, rfl, rfl, HH.out.gv _ _ _⟩) (by kernel_rfl) ?_; go_wp2)
      | go_guarded | go_step | go_upon | go_back)
    exact HR.out false _ (by simp [h48]) (HH.out.fw.trans F1.out (fun _ _ h => h))
  repeat (first
    | go_values | go_skip
    | (refine wpList_load_v (u := .pointer (some ⟨w.heap.size, 14, none⟩)) (HH.out.le _ F1.out).1 (by exact ⟨_, rfl, rfl⟩) (by kernel_rfl) ?_)
    | (refine wpList_load_v (u := .pointer (some ⟨w.heap.size + 1, 14, none⟩)) (HH.out.le _ F1.out).2 (by exact ⟨_, rfl, rfl⟩) (by kernel_rfl) ?_)
    | (refine wpList_eql_v (HH.out.ee _) (by exact ⟨_, _, _, rfl, rfl, rfl, HH.out.ge _ _ _⟩) (by kernel_rfl) ?_)
    | (refine wpList_load_v (u := .pointer (some ⟨w.heap.size, 40, none⟩)) (HH.out.lv _ F1.out).1 (by exact ⟨_, rfl, rfl⟩) (by kernel_rfl) ?_)
    | (refine wpList_load_v (u := .pointer (some ⟨w.heap.size + 1, 40, none⟩)) (HH.out.lv _ F1.out).2 (by exact ⟨_, rfl, rfl⟩) (by kernel_rfl) ?_)
    | (refine wpList_eql_v (HH.out.ev _) (by exact ⟨_, _, _, rfl, rfl, rfl, HH.out.gv _ _ _⟩) (by kernel_rfl) ?_)
    | (refine wpList_load_v (u := .pointer (some ⟨w.heap.size, 49, none⟩)) (HH.out.lp _ F1.out).1 (by exact ⟨_, rfl, rfl⟩) (by kernel_rfl) ?_)
    | (refine wpList_load_v (u := .pointer (some ⟨w.heap.size + 1, 49, none⟩)) (HH.out.lp _ F1.out).2 (by exact ⟨_, rfl, rfl⟩) (by kernel_rfl) ?_)
    | go_guarded | go_step | go_upon | go_back)
  refine (HH.out.kp W1 F1.out).mono ?_
  rintro e w2 ⟨r, rfl, hr, hf2⟩
  have HRP := hid hr
  have F2 := hid (F1.out.trans hf2 (fun _ _ h => h))
  have H3948 := hid (And.intro h39 h48)
  clear hr hf2 na39 nb39 na48 nb48 h39 h48
  dsimp only
  cases r with
  | false =>
    have hP : ¬ (x.f 49 = y.f 49 ∧ x.f 50 = y.f 50 ∧ x.f 51 = y.f 51 ∧ x.dt = y.dt) := fun h => by have := HRP.out.2 h; cases this
    have HP := hid hP
    clear hP
    go_wp2
    exact HR.out false _ ⟨fun h => (by cases h), fun h => (HP.out h.2.2.2.2.2.2.2.2.2.2.2.1).elim⟩ (HH.out.fw.trans F2.out (fun _ _ h => h))
  | true =>
  have HP := hid (HRP.out.1 rfl)
  clear HRP
  have pa53 : w2.cell? ⟨w.heap.size, 53, none⟩ = some (.int .i64 (x.f 53)) := (HH.out.ci w2 F2.out).1 53 (by omega) rfl
  have pb53 : w2.cell? ⟨w.heap.size + 1, 53, none⟩ = some (.int .i64 (y.f 53)) := (HH.out.ci w2 F2.out).2 53 (by omega) rfl
  have pa54 : w2.cell? ⟨w.heap.size, 54, none⟩ = some (.int .i64 (x.f 54)) := (HH.out.ci w2 F2.out).1 54 (by omega) rfl
  have pb54 : w2.cell? ⟨w.heap.size + 1, 54, none⟩ = some (.int .i64 (y.f 54)) := (HH.out.ci w2 F2.out).2 54 (by omega) rfl
  have pa55 : w2.cell? ⟨w.heap.size, 55, none⟩ = some (.int .i64 (x.f 55)) := (HH.out.ci w2 F2.out).1 55 (by omega) rfl
  have pb55 : w2.cell? ⟨w.heap.size + 1, 55, none⟩ = some (.int .i64 (y.f 55)) := (HH.out.ci w2 F2.out).2 55 (by omega) rfl
  by_cases h53 : x.f 53 = y.f 53
  rotate_left
  · have hb : (x.f 53 == y.f 53) = false := by simpa using h53
    go_wp2
    exact HR.out false _ (by simp [h53]) (HH.out.fw.trans F2.out (fun _ _ h => h))
  by_cases h54 : x.f 54 = y.f 54
  rotate_left
  · have hb : (x.f 54 == y.f 54) = false := by simpa using h54
    go_wp2
    exact HR.out false _ (by simp [h54]) (HH.out.fw.trans F2.out (fun _ _ h => h))
  by_cases h55 : x.f 55 = y.f 55
  rotate_left
  · have hb : (x.f 55 == y.f 55) = false := by simpa using h55
    go_wp2
    exact HR.out false _ (by simp [h55]) (HH.out.fw.trans F2.out (fun _ _ h => h))
  have HL := hid (And.intro h53 (And.intro h54 h55))
  go_wp2
  exact HR.out true _ ⟨fun _ => ⟨HEQ.out.1, HEQ.out.2.1, HEQ.out.2.2.1, HOO.out, HEQ.out.2.2.2.1, HEQ.out.2.2.2.2, HOPS.out, HE.out, H3948.out.1, HV.out, H3948.out.2, HP.out, HL.out⟩, fun _ => rfl⟩ (HH.out.fw.trans F2.out (fun _ _ h => h))
end Go.Proofs.YtcmpkbgkhbcekaaDoor

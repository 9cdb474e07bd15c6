/-
  SameEntry's walk, where the operation or one of the next two numbers differs. (gen/gen_asame.py)
-/
import Derived.Test.YtcmpkbgkhbcekaaDoorASame
namespace Go.Proofs.YtcmpkbgkhbcekaaDoor
open Go.RowKit
set_option linter.unusedVariables false
set_option linter.unusedSimpArgs false

set_option maxHeartbeats 8000000 in
set_option maxRecDepth 20000 in
theorem same_o {w : World} {ca cb : Array Value} {x y : A.Pa} {vO vO' vE vE' vV vV' : Value} {rO rE rV : Bool} {a1 a2 b1 b2 : Option Addr} {c1 c2 d1 d2 : Nat} (hsa : ca.size = 56) (hsb : cb.size = 56) (h : SE w ((w.alloc (.cells ca 37)).alloc (.cells cb 37)) x y vO vO' vE vE' vV vV' rO rE rV a1 a2 b1 b2 c1 c2 d1 d2) (h0 : x.f 0 = y.f 0) (h1 : x.f 1 = y.f 1) (h2 : x.f 2 = y.f 2) (hn : rO = false)
    (R : Ending → World → Prop) (hR : ∀ (r : Bool) (w' : World), (r = true ↔ (x.f 0 = y.f 0 ∧ x.f 1 = y.f 1 ∧ x.f 2 = y.f 2 ∧ x.op.cs = y.op.cs ∧ x.f 11 = y.f 11 ∧ x.f 12 = y.f 12 ∧ x.ops = y.ops ∧ x.ep = y.ep ∧ x.f 39 = y.f 39 ∧ x.ve = y.ve ∧ x.f 48 = y.f 48 ∧ (x.f 49 = y.f 49 ∧ x.f 50 = y.f 50 ∧ x.f 51 = y.f 51 ∧ x.dt = y.dt) ∧ x.f 53 = y.f 53 ∧ x.f 54 = y.f 54 ∧ x.f 55 = y.f 55)) → Fr (fun _ => False) w w' → R (.returned (.bool r)) w') :
    Calls Tryd.prog 10 #[.agg ca, .agg cb] w R := by
  obtain ⟨W, hW⟩ : ∃ W, (w.alloc (.cells ca 37)).alloc (.cells cb 37) = W := ⟨_, rfl⟩
  rw [hW] at h
  have HW := hid hW
  have HH := hid h
  have HR := hid hR
  clear hW h hR
  go_enter Tryd.func10, Tryd.ntmps10
  go_upto_region 1 with fail
  rw [HW.out]
  clear HW
  have ma0 : W.cell? ⟨w.heap.size, 0, none⟩ = some (.int .i64 (x.f 0)) := (HH.out.ci W (Fr.refl _ _)).1 0 (by omega) rfl
  have mb0 : W.cell? ⟨w.heap.size + 1, 0, none⟩ = some (.int .i64 (y.f 0)) := (HH.out.ci W (Fr.refl _ _)).2 0 (by omega) rfl
  have ma1 : W.cell? ⟨w.heap.size, 1, none⟩ = some (.int .i64 (x.f 1)) := (HH.out.ci W (Fr.refl _ _)).1 1 (by omega) rfl
  have mb1 : W.cell? ⟨w.heap.size + 1, 1, none⟩ = some (.int .i64 (y.f 1)) := (HH.out.ci W (Fr.refl _ _)).2 1 (by omega) rfl
  have ma2 : W.cell? ⟨w.heap.size, 2, none⟩ = some (.int .i64 (x.f 2)) := (HH.out.ci W (Fr.refl _ _)).1 2 (by omega) rfl
  have mb2 : W.cell? ⟨w.heap.size + 1, 2, none⟩ = some (.int .i64 (y.f 2)) := (HH.out.ci W (Fr.refl _ _)).2 2 (by omega) rfl
  subst hn
  have hO : ¬ x.op.cs = y.op.cs := fun h => by have := HH.out.io.2 h; cases this
  have HO := hid hO
  clear hO
  repeat (first
    | go_values | go_skip
    | (refine wpList_load_v (u := .pointer (some ⟨w.heap.size, 3, none⟩)) (HH.out.lo _ (Fr.refl _ _)).1 (by exact ⟨_, rfl, rfl⟩) (by kernel_rfl) ?_)
    | (refine wpList_load_v (u := .pointer (some ⟨w.heap.size + 1, 3, none⟩)) (HH.out.lo _ (Fr.refl _ _)).2 (by exact ⟨_, rfl, rfl⟩) (by kernel_rfl) ?_)
    | (refine wpList_eql_v (HH.out.eo _) (by exact ⟨_, _, _, rfl, rfl, rfl, HH.out.go _ _ _⟩) (by kernel_rfl) ?_; go_wp2)
    | go_guarded | go_step | go_upon | go_back)
  exact HR.out false _ (by simp [HO.out]) HH.out.fw
set_option maxHeartbeats 8000000 in
set_option maxRecDepth 20000 in
theorem same_n11 {w : World} {ca cb : Array Value} {x y : A.Pa} {vO vO' vE vE' vV vV' : Value} {rO rE rV : Bool} {a1 a2 b1 b2 : Option Addr} {c1 c2 d1 d2 : Nat} (hsa : ca.size = 56) (hsb : cb.size = 56) (h : SE w ((w.alloc (.cells ca 37)).alloc (.cells cb 37)) x y vO vO' vE vE' vV vV' rO rE rV a1 a2 b1 b2 c1 c2 d1 d2) (h0 : x.f 0 = y.f 0) (h1 : x.f 1 = y.f 1) (h2 : x.f 2 = y.f 2) (hO : rO = true) (hn : ¬ x.f 11 = y.f 11)
    (R : Ending → World → Prop) (hR : ∀ (r : Bool) (w' : World), (r = true ↔ (x.f 0 = y.f 0 ∧ x.f 1 = y.f 1 ∧ x.f 2 = y.f 2 ∧ x.op.cs = y.op.cs ∧ x.f 11 = y.f 11 ∧ x.f 12 = y.f 12 ∧ x.ops = y.ops ∧ x.ep = y.ep ∧ x.f 39 = y.f 39 ∧ x.ve = y.ve ∧ x.f 48 = y.f 48 ∧ (x.f 49 = y.f 49 ∧ x.f 50 = y.f 50 ∧ x.f 51 = y.f 51 ∧ x.dt = y.dt) ∧ x.f 53 = y.f 53 ∧ x.f 54 = y.f 54 ∧ x.f 55 = y.f 55)) → Fr (fun _ => False) w w' → R (.returned (.bool r)) w') :
    Calls Tryd.prog 10 #[.agg ca, .agg cb] w R := by
  obtain ⟨W, hW⟩ : ∃ W, (w.alloc (.cells ca 37)).alloc (.cells cb 37) = W := ⟨_, rfl⟩
  rw [hW] at h
  have HW := hid hW
  have HH := hid h
  have HR := hid hR
  clear hW h hR
  go_enter Tryd.func10, Tryd.ntmps10
  go_upto_region 1 with fail
  rw [HW.out]
  clear HW
  have ma0 : W.cell? ⟨w.heap.size, 0, none⟩ = some (.int .i64 (x.f 0)) := (HH.out.ci W (Fr.refl _ _)).1 0 (by omega) rfl
  have mb0 : W.cell? ⟨w.heap.size + 1, 0, none⟩ = some (.int .i64 (y.f 0)) := (HH.out.ci W (Fr.refl _ _)).2 0 (by omega) rfl
  have ma1 : W.cell? ⟨w.heap.size, 1, none⟩ = some (.int .i64 (x.f 1)) := (HH.out.ci W (Fr.refl _ _)).1 1 (by omega) rfl
  have mb1 : W.cell? ⟨w.heap.size + 1, 1, none⟩ = some (.int .i64 (y.f 1)) := (HH.out.ci W (Fr.refl _ _)).2 1 (by omega) rfl
  have ma2 : W.cell? ⟨w.heap.size, 2, none⟩ = some (.int .i64 (x.f 2)) := (HH.out.ci W (Fr.refl _ _)).1 2 (by omega) rfl
  have mb2 : W.cell? ⟨w.heap.size + 1, 2, none⟩ = some (.int .i64 (y.f 2)) := (HH.out.ci W (Fr.refl _ _)).2 2 (by omega) rfl
  have ma11 : W.cell? ⟨w.heap.size, 11, none⟩ = some (.int .i64 (x.f 11)) := (HH.out.ci W (Fr.refl _ _)).1 11 (by omega) rfl
  have mb11 : W.cell? ⟨w.heap.size + 1, 11, none⟩ = some (.int .i64 (y.f 11)) := (HH.out.ci W (Fr.refl _ _)).2 11 (by omega) rfl
  have ma12 : W.cell? ⟨w.heap.size, 12, none⟩ = some (.int .i64 (x.f 12)) := (HH.out.ci W (Fr.refl _ _)).1 12 (by omega) rfl
  have mb12 : W.cell? ⟨w.heap.size + 1, 12, none⟩ = some (.int .i64 (y.f 12)) := (HH.out.ci W (Fr.refl _ _)).2 12 (by omega) rfl
  subst hO
  have hb : (x.f 11 == y.f 11) = false := by simpa using hn
  repeat (first
    | go_values | go_skip
    | (refine wpList_load_v (u := .pointer (some ⟨w.heap.size, 3, none⟩)) (HH.out.lo _ (Fr.refl _ _)).1 (by exact ⟨_, rfl, rfl⟩) (by kernel_rfl) ?_)
    | (refine wpList_load_v (u := .pointer (some ⟨w.heap.size + 1, 3, none⟩)) (HH.out.lo _ (Fr.refl _ _)).2 (by exact ⟨_, rfl, rfl⟩) (by kernel_rfl) ?_)
    | (refine wpList_eql_v (HH.out.eo _) (by exact ⟨_, _, _, rfl, rfl, rfl, HH.out.go _ _ _⟩) (by kernel_rfl) ?_; go_wp2)
    | go_guarded | go_step | go_upon | go_back)
  exact HR.out false _ (by simp [hn]) HH.out.fw
set_option maxHeartbeats 8000000 in
set_option maxRecDepth 20000 in
theorem same_n12 {w : World} {ca cb : Array Value} {x y : A.Pa} {vO vO' vE vE' vV vV' : Value} {rO rE rV : Bool} {a1 a2 b1 b2 : Option Addr} {c1 c2 d1 d2 : Nat} (hsa : ca.size = 56) (hsb : cb.size = 56) (h : SE w ((w.alloc (.cells ca 37)).alloc (.cells cb 37)) x y vO vO' vE vE' vV vV' rO rE rV a1 a2 b1 b2 c1 c2 d1 d2) (h0 : x.f 0 = y.f 0) (h1 : x.f 1 = y.f 1) (h2 : x.f 2 = y.f 2) (hO : rO = true) (h11 : x.f 11 = y.f 11) (hn : ¬ x.f 12 = y.f 12)
    (R : Ending → World → Prop) (hR : ∀ (r : Bool) (w' : World), (r = true ↔ (x.f 0 = y.f 0 ∧ x.f 1 = y.f 1 ∧ x.f 2 = y.f 2 ∧ x.op.cs = y.op.cs ∧ x.f 11 = y.f 11 ∧ x.f 12 = y.f 12 ∧ x.ops = y.ops ∧ x.ep = y.ep ∧ x.f 39 = y.f 39 ∧ x.ve = y.ve ∧ x.f 48 = y.f 48 ∧ (x.f 49 = y.f 49 ∧ x.f 50 = y.f 50 ∧ x.f 51 = y.f 51 ∧ x.dt = y.dt) ∧ x.f 53 = y.f 53 ∧ x.f 54 = y.f 54 ∧ x.f 55 = y.f 55)) → Fr (fun _ => False) w w' → R (.returned (.bool r)) w') :
    Calls Tryd.prog 10 #[.agg ca, .agg cb] w R := by
  obtain ⟨W, hW⟩ : ∃ W, (w.alloc (.cells ca 37)).alloc (.cells cb 37) = W := ⟨_, rfl⟩
  rw [hW] at h
  have HW := hid hW
  have HH := hid h
  have HR := hid hR
  clear hW h hR
  go_enter Tryd.func10, Tryd.ntmps10
  go_upto_region 1 with fail
  rw [HW.out]
  clear HW
  have ma0 : W.cell? ⟨w.heap.size, 0, none⟩ = some (.int .i64 (x.f 0)) := (HH.out.ci W (Fr.refl _ _)).1 0 (by omega) rfl
  have mb0 : W.cell? ⟨w.heap.size + 1, 0, none⟩ = some (.int .i64 (y.f 0)) := (HH.out.ci W (Fr.refl _ _)).2 0 (by omega) rfl
  have ma1 : W.cell? ⟨w.heap.size, 1, none⟩ = some (.int .i64 (x.f 1)) := (HH.out.ci W (Fr.refl _ _)).1 1 (by omega) rfl
  have mb1 : W.cell? ⟨w.heap.size + 1, 1, none⟩ = some (.int .i64 (y.f 1)) := (HH.out.ci W (Fr.refl _ _)).2 1 (by omega) rfl
  have ma2 : W.cell? ⟨w.heap.size, 2, none⟩ = some (.int .i64 (x.f 2)) := (HH.out.ci W (Fr.refl _ _)).1 2 (by omega) rfl
  have mb2 : W.cell? ⟨w.heap.size + 1, 2, none⟩ = some (.int .i64 (y.f 2)) := (HH.out.ci W (Fr.refl _ _)).2 2 (by omega) rfl
  have ma11 : W.cell? ⟨w.heap.size, 11, none⟩ = some (.int .i64 (x.f 11)) := (HH.out.ci W (Fr.refl _ _)).1 11 (by omega) rfl
  have mb11 : W.cell? ⟨w.heap.size + 1, 11, none⟩ = some (.int .i64 (y.f 11)) := (HH.out.ci W (Fr.refl _ _)).2 11 (by omega) rfl
  have ma12 : W.cell? ⟨w.heap.size, 12, none⟩ = some (.int .i64 (x.f 12)) := (HH.out.ci W (Fr.refl _ _)).1 12 (by omega) rfl
  have mb12 : W.cell? ⟨w.heap.size + 1, 12, none⟩ = some (.int .i64 (y.f 12)) := (HH.out.ci W (Fr.refl _ _)).2 12 (by omega) rfl
  subst hO
  have hb : (x.f 12 == y.f 12) = false := by simpa using hn
  repeat (first
    | go_values | go_skip
    | (refine wpList_load_v (u := .pointer (some ⟨w.heap.size, 3, none⟩)) (HH.out.lo _ (Fr.refl _ _)).1 (by exact ⟨_, rfl, rfl⟩) (by kernel_rfl) ?_)
    | (refine wpList_load_v (u := .pointer (some ⟨w.heap.size + 1, 3, none⟩)) (HH.out.lo _ (Fr.refl _ _)).2 (by exact ⟨_, rfl, rfl⟩) (by kernel_rfl) ?_)
    | (refine wpList_eql_v (HH.out.eo _) (by exact ⟨_, _, _, rfl, rfl, rfl, HH.out.go _ _ _⟩) (by kernel_rfl) ?_; go_wp2)
    | go_guarded | go_step | go_upon | go_back)
  exact HR.out false _ (by simp [hn]) HH.out.fw
end Go.Proofs.YtcmpkbgkhbcekaaDoor

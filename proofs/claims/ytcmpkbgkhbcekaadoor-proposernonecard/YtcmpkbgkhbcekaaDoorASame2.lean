/-
  SameEntry's walk, where one of the first three numbers differs. (gen/gen_asame.py)
-/
import Derived.Test.YtcmpkbgkhbcekaaDoorASame
namespace Go.Proofs.YtcmpkbgkhbcekaaDoor
open Go.RowKit
set_option linter.unusedVariables false
set_option linter.unusedSimpArgs false

set_option maxHeartbeats 8000000 in
set_option maxRecDepth 20000 in
theorem same_n0 {w : World} {ca cb : Array Value} {x y : A.Pa} {vO vO' vE vE' vV vV' : Value} {rO rE rV : Bool} {a1 a2 b1 b2 : Option Addr} {c1 c2 d1 d2 : Nat} (hsa : ca.size = 56) (hsb : cb.size = 56) (h : SE w ((w.alloc (.cells ca 37)).alloc (.cells cb 37)) x y vO vO' vE vE' vV vV' rO rE rV a1 a2 b1 b2 c1 c2 d1 d2)  (hn : ¬ x.f 0 = y.f 0)
    (R : Ending → World → Prop) (hR : ∀ (r : Bool) (w' : World), (r = true ↔ (x.f 0 = y.f 0 ∧ x.f 1 = y.f 1 ∧ x.f 2 = y.f 2 ∧ x.op.cs = y.op.cs ∧ x.f 11 = y.f 11 ∧ x.f 12 = y.f 12 ∧ x.ops = y.ops ∧ x.ep = y.ep ∧ x.f 39 = y.f 39 ∧ x.ve = y.ve ∧ x.f 48 = y.f 48 ∧ (x.f 49 = y.f 49 ∧ x.f 50 = y.f 50 ∧ x.f 51 = y.f 51 ∧ x.dt = y.dt) ∧ x.f 53 = y.f 53 ∧ x.f 54 = y.f 54 ∧ x.f 55 = y.f 55)) → Fr (fun _ => False) w w' → R (.returned (.bool r)) w') :
    Calls Tryd.prog 10 #[.agg ca, .agg cb] w R := by
  obtain ⟨W, hW⟩ : ∃ W, (w.alloc (.cells ca 37)).alloc (.cells cb 37) = W := ⟨_, rfl⟩
  rw [hW] at h
  have HW := hid hW
  have HH := hid h
  have HR := hid hR
  clear hW h hR
  go_enter Tryd.func10, Tryd.ntmps10
  go_upto_region 1 with fail
  rw [HW.out]
  clear HW
  have ma0 : W.cell? ⟨w.heap.size, 0, none⟩ = some (.int .i64 (x.f 0)) := (HH.out.ci W (Fr.refl _ _)).1 0 (by omega) rfl
  have mb0 : W.cell? ⟨w.heap.size + 1, 0, none⟩ = some (.int .i64 (y.f 0)) := (HH.out.ci W (Fr.refl _ _)).2 0 (by omega) rfl
  have hb : (x.f 0 == y.f 0) = false := by simpa using hn
  go_wp2
  exact HR.out false _ (by simp [hn]) HH.out.fw
set_option maxHeartbeats 8000000 in
set_option maxRecDepth 20000 in
theorem same_n1 {w : World} {ca cb : Array Value} {x y : A.Pa} {vO vO' vE vE' vV vV' : Value} {rO rE rV : Bool} {a1 a2 b1 b2 : Option Addr} {c1 c2 d1 d2 : Nat} (hsa : ca.size = 56) (hsb : cb.size = 56) (h : SE w ((w.alloc (.cells ca 37)).alloc (.cells cb 37)) x y vO vO' vE vE' vV vV' rO rE rV a1 a2 b1 b2 c1 c2 d1 d2) (h0 : x.f 0 = y.f 0) (hn : ¬ x.f 1 = y.f 1)
    (R : Ending → World → Prop) (hR : ∀ (r : Bool) (w' : World), (r = true ↔ (x.f 0 = y.f 0 ∧ x.f 1 = y.f 1 ∧ x.f 2 = y.f 2 ∧ x.op.cs = y.op.cs ∧ x.f 11 = y.f 11 ∧ x.f 12 = y.f 12 ∧ x.ops = y.ops ∧ x.ep = y.ep ∧ x.f 39 = y.f 39 ∧ x.ve = y.ve ∧ x.f 48 = y.f 48 ∧ (x.f 49 = y.f 49 ∧ x.f 50 = y.f 50 ∧ x.f 51 = y.f 51 ∧ x.dt = y.dt) ∧ x.f 53 = y.f 53 ∧ x.f 54 = y.f 54 ∧ x.f 55 = y.f 55)) → Fr (fun _ => False) w w' → R (.returned (.bool r)) w') :
    Calls Tryd.prog 10 #[.agg ca, .agg cb] w R := by
  obtain ⟨W, hW⟩ : ∃ W, (w.alloc (.cells ca 37)).alloc (.cells cb 37) = W := ⟨_, rfl⟩
  rw [hW] at h
  have HW := hid hW
  have HH := hid h
  have HR := hid hR
  clear hW h hR
  go_enter Tryd.func10, Tryd.ntmps10
  go_upto_region 1 with fail
  rw [HW.out]
  clear HW
  have ma0 : W.cell? ⟨w.heap.size, 0, none⟩ = some (.int .i64 (x.f 0)) := (HH.out.ci W (Fr.refl _ _)).1 0 (by omega) rfl
  have mb0 : W.cell? ⟨w.heap.size + 1, 0, none⟩ = some (.int .i64 (y.f 0)) := (HH.out.ci W (Fr.refl _ _)).2 0 (by omega) rfl
  have ma1 : W.cell? ⟨w.heap.size, 1, none⟩ = some (.int .i64 (x.f 1)) := (HH.out.ci W (Fr.refl _ _)).1 1 (by omega) rfl
  have mb1 : W.cell? ⟨w.heap.size + 1, 1, none⟩ = some (.int .i64 (y.f 1)) := (HH.out.ci W (Fr.refl _ _)).2 1 (by omega) rfl
  have hb : (x.f 1 == y.f 1) = false := by simpa using hn
  go_wp2
  exact HR.out false _ (by simp [hn]) HH.out.fw
set_option maxHeartbeats 8000000 in
set_option maxRecDepth 20000 in
theorem same_n2 {w : World} {ca cb : Array Value} {x y : A.Pa} {vO vO' vE vE' vV vV' : Value} {rO rE rV : Bool} {a1 a2 b1 b2 : Option Addr} {c1 c2 d1 d2 : Nat} (hsa : ca.size = 56) (hsb : cb.size = 56) (h : SE w ((w.alloc (.cells ca 37)).alloc (.cells cb 37)) x y vO vO' vE vE' vV vV' rO rE rV a1 a2 b1 b2 c1 c2 d1 d2) (h0 : x.f 0 = y.f 0) (h1 : x.f 1 = y.f 1) (hn : ¬ x.f 2 = y.f 2)
    (R : Ending → World → Prop) (hR : ∀ (r : Bool) (w' : World), (r = true ↔ (x.f 0 = y.f 0 ∧ x.f 1 = y.f 1 ∧ x.f 2 = y.f 2 ∧ x.op.cs = y.op.cs ∧ x.f 11 = y.f 11 ∧ x.f 12 = y.f 12 ∧ x.ops = y.ops ∧ x.ep = y.ep ∧ x.f 39 = y.f 39 ∧ x.ve = y.ve ∧ x.f 48 = y.f 48 ∧ (x.f 49 = y.f 49 ∧ x.f 50 = y.f 50 ∧ x.f 51 = y.f 51 ∧ x.dt = y.dt) ∧ x.f 53 = y.f 53 ∧ x.f 54 = y.f 54 ∧ x.f 55 = y.f 55)) → Fr (fun _ => False) w w' → R (.returned (.bool r)) w') :
    Calls Tryd.prog 10 #[.agg ca, .agg cb] w R := by
  obtain ⟨W, hW⟩ : ∃ W, (w.alloc (.cells ca 37)).alloc (.cells cb 37) = W := ⟨_, rfl⟩
  rw [hW] at h
  have HW := hid hW
  have HH := hid h
  have HR := hid hR
  clear hW h hR
  go_enter Tryd.func10, Tryd.ntmps10
  go_upto_region 1 with fail
  rw [HW.out]
  clear HW
  have ma0 : W.cell? ⟨w.heap.size, 0, none⟩ = some (.int .i64 (x.f 0)) := (HH.out.ci W (Fr.refl _ _)).1 0 (by omega) rfl
  have mb0 : W.cell? ⟨w.heap.size + 1, 0, none⟩ = some (.int .i64 (y.f 0)) := (HH.out.ci W (Fr.refl _ _)).2 0 (by omega) rfl
  have ma1 : W.cell? ⟨w.heap.size, 1, none⟩ = some (.int .i64 (x.f 1)) := (HH.out.ci W (Fr.refl _ _)).1 1 (by omega) rfl
  have mb1 : W.cell? ⟨w.heap.size + 1, 1, none⟩ = some (.int .i64 (y.f 1)) := (HH.out.ci W (Fr.refl _ _)).2 1 (by omega) rfl
  have ma2 : W.cell? ⟨w.heap.size, 2, none⟩ = some (.int .i64 (x.f 2)) := (HH.out.ci W (Fr.refl _ _)).1 2 (by omega) rfl
  have mb2 : W.cell? ⟨w.heap.size + 1, 2, none⟩ = some (.int .i64 (y.f 2)) := (HH.out.ci W (Fr.refl _ _)).2 2 (by omega) rfl
  have hb : (x.f 2 == y.f 2) = false := by simpa using hn
  go_wp2
  exact HR.out false _ (by simp [hn]) HH.out.fw
end Go.Proofs.YtcmpkbgkhbcekaaDoor

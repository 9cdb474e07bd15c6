/-
  The simplest entry: CheckEntry of it.
-/
import Derived.Test.YtfkddpcadgidgaaDoorQEp
import Derived.Test.YtfkddpcadgidgaaDoorInts
import Derived.LoopN
import Derived.DeepKeys
import Derived.Deep.Cut
import Derived.Deep.CutRange
import Derived.Deep.MidRow
namespace Go.Proofs.YtfkddpcadgidgaaDoor
open Go.RowKit
set_option linter.unusedVariables false

set_option maxHeartbeats 800000 in
theorem cutInt_any {w : World} {g j : Nat} {cs : Array Value} {t : TypeId} (h : w.heap[g]? = some (.cells cs t (0, 0))) (x : Int) (hv : cs[j]? = some (.int .i64 x)) :
    Calls Tryd.prog 86 #[.pointer (some ⟨g, j, none⟩)] w fun e w' => e = .returned (.int .i64 x) ∧ w.setCell ⟨g, j, none⟩ (.int .i64 0) = w' := by
  have c0 := cell_at h hv
  have z0 := frozen_of_row (j := j) h
  clear h hv
  go_enter Tryd.func86, Tryd.ntmps86
  go_wp2
  go_ret
  exact ⟨rfl, rfl⟩
set_option maxRecDepth 20000 in
set_option maxHeartbeats 1600000 in
theorem cutSite {w : World} {g : Nat} {cs : Array Value} {t : TypeId} (h : w.heap[g]? = some (.cells cs t (0, 0))) (x : Int) (hv : cs[53]? = some (.int .i64 x)) (hx0 : 0 ≤ x) (hx : x ≤ 7) :
    Calls Tryd.prog 74 #[.pointer (some ⟨g, 0, none⟩), .int .i64 16] w fun e w' => e = .returned (.bool true) ∧ w'.heap[g]? = some (.cells (cs.setIfInBounds 53 (.int .i64 0)) t (0, 0)) ∧ Fr (fun k => k = g) w w' := by
  have KC := hid (cutInt_any (j := 53) h x hv)
  have hr := setCell_row (j := 53) h (.int .i64 0)
  have f1 : Fr (fun k => k = g) w (w.setCell ⟨g, 53, none⟩ (.int .i64 0)) := Fr.setCell (p := ⟨g, 53, none⟩) (S := fun k => k = g) (Fr.refl _ _) (fun _ => rfl) _
  have HR := hid hr
  have F1 := hid f1
  have B : M.within 0 7 [x] = true := by simp [M.within]; omega
  clear h hv hr f1 hx0 hx
  go_enter Tryd.func74, Tryd.ntmps74
  go_wp2_with (first
    | (go_at_call 86; refine KC.out.mono ?_; rintro e w1 ⟨rfl, rfl⟩)
    | (go_at_call 62; refine (areSites_any _ 1 1 [x] _ (Is.newn _ _ (by simp) [x] _ _ 1 rfl rfl) (by omega)).mono ?_; rw [B]; rintro e wx ⟨rfl, rfl⟩))
  go_ret
  refine ⟨rfl, ?_, Fr.alloc F1.out _⟩
  exact (Fr.alloc (Fr.refl (fun _ => False) _) _).cells HR.out (fun h => h)
set_option maxHeartbeats 1600000 in
theorem cutNone (w : World) (g : Nat) :
    Calls Tryd.prog 74 #[.pointer (some ⟨g, 0, none⟩), .int .i64 0] w fun e w' => e = .returned (.bool true) ∧ w = w' := by
  go_enter Tryd.func74, Tryd.ntmps74
  go_wp2
  go_ret
  exact ⟨rfl, rfl⟩
def M.e73 : Array Value := #[.int .i64 7, .int .i64 0, .int .i64 0, .int .i64 0, .int .i64 0, .int .i64 0, .int .i64 0, .int .i64 0, .string ⟨#[]⟩, .string ⟨#[]⟩, .string ⟨#[]⟩, .int .i64 0, .int .i64 0, .slice none 0 0, .int .i64 0, .int .i64 0, .int .i64 0, .int .i64 0, .int .i64 0, .int .i64 0, .int .i64 0, .int .i64 0, .int .i64 0, .int .i64 0, .int .i64 0, .int .i64 0, .int .i64 0, .int .i64 0, .int .i64 0, .int .i64 0, .int .i64 0, .int .i64 0, .int .i64 0, .int .i64 0, .int .i64 0, .int .i64 0, .int .i64 0, .int .i64 0, .int .i64 0, .int .i64 0, .int .i64 0, .int .i64 0, .int .i64 0, .int .i64 0, .int .i64 0, .int .i64 0, .int .i64 0, .int .i64 0, .int .i64 0, .int .i64 0, .int .i64 0, .int .i64 0, .slice none 0 0, .int .i64 3, .int .i64 0, .int .i64 0]
def M.e70 : Array Value := #[.int .i64 7, .int .i64 0, .int .i64 0, .int .i64 0, .int .i64 0, .int .i64 0, .int .i64 0, .int .i64 0, .string ⟨#[]⟩, .string ⟨#[]⟩, .string ⟨#[]⟩, .int .i64 0, .int .i64 0, .slice none 0 0, .int .i64 0, .int .i64 0, .int .i64 0, .int .i64 0, .int .i64 0, .int .i64 0, .int .i64 0, .int .i64 0, .int .i64 0, .int .i64 0, .int .i64 0, .int .i64 0, .int .i64 0, .int .i64 0, .int .i64 0, .int .i64 0, .int .i64 0, .int .i64 0, .int .i64 0, .int .i64 0, .int .i64 0, .int .i64 0, .int .i64 0, .int .i64 0, .int .i64 0, .int .i64 0, .int .i64 0, .int .i64 0, .int .i64 0, .int .i64 0, .int .i64 0, .int .i64 0, .int .i64 0, .int .i64 0, .int .i64 0, .int .i64 0, .int .i64 0, .int .i64 0, .slice none 0 0, .int .i64 0, .int .i64 0, .int .i64 0]
def M.e00 : Array Value := #[.int .i64 0, .int .i64 0, .int .i64 0, .int .i64 0, .int .i64 0, .int .i64 0, .int .i64 0, .int .i64 0, .string ⟨#[]⟩, .string ⟨#[]⟩, .string ⟨#[]⟩, .int .i64 0, .int .i64 0, .slice none 0 0, .int .i64 0, .int .i64 0, .int .i64 0, .int .i64 0, .int .i64 0, .int .i64 0, .int .i64 0, .int .i64 0, .int .i64 0, .int .i64 0, .int .i64 0, .int .i64 0, .int .i64 0, .int .i64 0, .int .i64 0, .int .i64 0, .int .i64 0, .int .i64 0, .int .i64 0, .int .i64 0, .int .i64 0, .int .i64 0, .int .i64 0, .int .i64 0, .int .i64 0, .int .i64 0, .int .i64 0, .int .i64 0, .int .i64 0, .int .i64 0, .int .i64 0, .int .i64 0, .int .i64 0, .int .i64 0, .int .i64 0, .int .i64 0, .int .i64 0, .int .i64 0, .slice none 0 0, .int .i64 0, .int .i64 0, .int .i64 0]
set_option maxRecDepth 20000 in
set_option maxHeartbeats 1600000 in
theorem opsEqual_nil (w : World) : Calls Tryd.prog 23 #[.slice none 0 0, .slice none 0 0] w fun e w' => e = .returned (.bool true) ∧ w = w' := by
  go_enter Tryd.func23, Tryd.ntmps23
  go_wp2
  refine wp_loop_rounds 1 ?_
  rw [rounds_succ]
  go_wp2
  go_ret
  exact ⟨rfl, rfl⟩
set_option maxRecDepth 20000 in
set_option maxHeartbeats 1600000 in
theorem samePart_zero (w : World) : Calls Tryd.prog 24 #[.agg #[.int .i64 0, .int .i64 0, .int .i64 0, .slice none 0 0], .agg #[.int .i64 0, .int .i64 0, .int .i64 0, .slice none 0 0]] w fun e w' => e = .returned (.bool true) ∧ (w.alloc (.cells #[.int .i64 0, .int .i64 0, .int .i64 0, .slice none 0 0] 34)).alloc (.cells #[.int .i64 0, .int .i64 0, .int .i64 0, .slice none 0 0] 34) = w' := by
  have K := hid (fun W => equal_any none none 0 0 0 0 [] [] W (Sl.nil _ _) (Sl.nil _ _))
  go_enter Tryd.func24, Tryd.ntmps24
  go_wp2_with (first | (go_at_call 21; refine (K.out _).mono ?_; rintro e wx ⟨rfl, rfl⟩))
  go_ret
  exact ⟨rfl, rfl⟩
def M.zO : List Value := [.int .i64 0, .int .i64 0, .int .i64 0, .int .i64 0, .int .i64 0, .string ⟨#[]⟩, .string ⟨#[]⟩, .string ⟨#[]⟩]
def M.zE : List Value := [.int .i64 0, .int .i64 0, .int .i64 0, .int .i64 0, .int .i64 0, .int .i64 0, .int .i64 0, .int .i64 0, .int .i64 0, .int .i64 0, .int .i64 0, .int .i64 0, .int .i64 0, .int .i64 0, .int .i64 0, .int .i64 0, .int .i64 0, .int .i64 0, .int .i64 0, .int .i64 0, .int .i64 0, .int .i64 0, .int .i64 0, .int .i64 0, .int .i64 0]
def M.zV : List Value := [.int .i64 0, .int .i64 0, .int .i64 0, .int .i64 0, .int .i64 0, .int .i64 0, .int .i64 0, .int .i64 0]
def M.zP : List Value := [.int .i64 0, .int .i64 0, .int .i64 0, .slice none 0 0]
theorem eq_O (W : World) : (binOp .eql 25 (.agg M.zO.toArray) (.agg M.zO.toArray)).run Tryd.prog W = .ok (.bool true) W := eql_of (eq_self 9997 3 (by kernel_rfl) _ [.int .i64 0, .int .i64 0, .int .i64 0, .int .i64 0, .int .i64 0, .string [], .string [], .string []] 3 (by kernel_rfl) (by kernel_rfl) W)
theorem eq_E (W : World) : (binOp .eql 31 (.agg M.zE.toArray) (.agg M.zE.toArray)).run Tryd.prog W = .ok (.bool true) W := eql_of (eq_self 9997 3 (by kernel_rfl) _ [.int .i64 0, .int .i64 0, .int .i64 0, .int .i64 0, .int .i64 0, .int .i64 0, .int .i64 0, .int .i64 0, .int .i64 0, .int .i64 0, .int .i64 0, .int .i64 0, .int .i64 0, .int .i64 0, .int .i64 0, .int .i64 0, .int .i64 0, .int .i64 0, .int .i64 0, .int .i64 0, .int .i64 0, .int .i64 0, .int .i64 0, .int .i64 0, .int .i64 0] 3 (by kernel_rfl) (by kernel_rfl) W)
theorem eq_V (W : World) : (binOp .eql 29 (.agg M.zV.toArray) (.agg M.zV.toArray)).run Tryd.prog W = .ok (.bool true) W := eql_of (eq_self 9997 3 (by kernel_rfl) _ [.int .i64 0, .int .i64 0, .int .i64 0, .int .i64 0, .int .i64 0, .int .i64 0, .int .i64 0, .int .i64 0] 3 (by kernel_rfl) (by kernel_rfl) W)
/-- the aggregates of a zero entry at g, and its other cells -/
structure ZE (W : World) (g : Nat) (vO vE vV vP : Value) : Prop where
  lO : (Instr.loadAt 25 (.pointer (some ⟨g, 3, none⟩))).run Tryd.prog W = .ok vO W
  lE : (Instr.loadAt 31 (.pointer (some ⟨g, 14, none⟩))).run Tryd.prog W = .ok vE W
  lV : (Instr.loadAt 29 (.pointer (some ⟨g, 40, none⟩))).run Tryd.prog W = .ok vV W
  lP : (Instr.loadAt 34 (.pointer (some ⟨g, 49, none⟩))).run Tryd.prog W = .ok vP W
  c0 : W.cell? ⟨g, 0, none⟩ = some (.int .i64 0)
  c1 : W.cell? ⟨g, 1, none⟩ = some (.int .i64 0)
  c2 : W.cell? ⟨g, 2, none⟩ = some (.int .i64 0)
  c11 : W.cell? ⟨g, 11, none⟩ = some (.int .i64 0)
  c12 : W.cell? ⟨g, 12, none⟩ = some (.int .i64 0)
  c13 : W.cell? ⟨g, 13, none⟩ = some (.slice none 0 0)
  c39 : W.cell? ⟨g, 39, none⟩ = some (.int .i64 0)
  c48 : W.cell? ⟨g, 48, none⟩ = some (.int .i64 0)
  c53 : W.cell? ⟨g, 53, none⟩ = some (.int .i64 0)
  c54 : W.cell? ⟨g, 54, none⟩ = some (.int .i64 0)
  c55 : W.cell? ⟨g, 55, none⟩ = some (.int .i64 0)
theorem ZE.of {W : World} {g : Nat} {t : TypeId} {m : Nat × Nat} (h : W.heap[g]? = some (.cells M.e00 t m)) : ZE W g (.agg M.zO.toArray) (.agg M.zE.toArray) (.agg M.zV.toArray) (.agg M.zP.toArray) :=
  ⟨run_loadAt_mid W g 3 _ M.zO _ (rangeAt_of h 3 M.zO rfl) Tryd.underlying25 rfl (by kernel_rfl),
   run_loadAt_mid W g 14 _ M.zE _ (rangeAt_of h 14 M.zE rfl) Tryd.underlying31 rfl (by kernel_rfl),
   run_loadAt_mid W g 40 _ M.zV _ (rangeAt_of h 40 M.zV rfl) Tryd.underlying29 rfl (by kernel_rfl),
   run_loadAt_mid W g 49 _ M.zP _ (rangeAt_of h 49 M.zP rfl) Tryd.underlying34 rfl (by kernel_rfl),
cell_at (j := 0) h rfl, cell_at (j := 1) h rfl, cell_at (j := 2) h rfl, cell_at (j := 11) h rfl, cell_at (j := 12) h rfl, cell_at (j := 13) h rfl, cell_at (j := 39) h rfl, cell_at (j := 48) h rfl, cell_at (j := 53) h rfl, cell_at (j := 54) h rfl, cell_at (j := 55) h rfl⟩
set_option maxRecDepth 20000 in
set_option maxHeartbeats 6400000 in
theorem sameEntry_zero (w : World) : Calls Tryd.prog 7 #[.agg M.e00, .agg M.e00] w fun e w' => e = .returned (.bool true) ∧ Fr (fun _ => False) w w' := by
  have fW : Fr (fun _ => False) w ((w.alloc (.cells M.e00 36)).alloc (.cells M.e00 36)) := Fr.alloc (Fr.alloc (Fr.refl _ _) _) _
  have b0 : ((w.alloc (.cells M.e00 36)).alloc (.cells M.e00 36)).heap[w.heap.size]? = some (.cells M.e00 36 (0, 0)) := (Below.heap_alloc _ _ _ (by simp)).trans (Go.heap_alloc_new w _)
  have b1 : ((w.alloc (.cells M.e00 36)).alloc (.cells M.e00 36)).heap[w.heap.size + 1]? = some (.cells M.e00 36 (0, 0)) := by
    have := Go.heap_alloc_new (w.alloc (.cells M.e00 36)) (.cells M.e00 36)
    rw [World.size_alloc] at this
    exact this
  obtain ⟨W, hW⟩ : ∃ W, (w.alloc (.cells M.e00 36)).alloc (.cells M.e00 36) = W := ⟨_, rfl⟩
  obtain ⟨va, hva⟩ : ∃ v, Value.agg M.e00 = v := ⟨_, rfl⟩
  rw [hW] at fW b0 b1
  have HW := hid hW
  have HVA := hid hva
  have z0 := ZE.of b0
  have z1 := ZE.of b1
  have qO := eq_O W
  have qE := eq_E W
  have qV := eq_V W
  have KP := hid (samePart_zero W)
  rw [show Value.agg #[.int .i64 0, .int .i64 0, .int .i64 0, .slice none 0 0] = .agg M.zP.toArray from rfl] at KP
  have B0 := hid b0
  have B1 := hid b1
  have FW := hid fW
  clear hW hva b0 b1 fW
  have gO := fun x y => guard_of (t := 25) (by kernel_rfl) x y M.zO.toArray M.zO.toArray W
  have gE := fun x y => guard_of (t := 31) (by kernel_rfl) x y M.zE.toArray M.zE.toArray W
  have gV := fun x y => guard_of (t := 29) (by kernel_rfl) x y M.zV.toArray M.zV.toArray W
  generalize Value.agg M.zO.toArray = vO at z0 z1 qO gO
  generalize Value.agg M.zE.toArray = vE at z0 z1 qE gE
  generalize Value.agg M.zV.toArray = vV at z0 z1 qV gV
  generalize Value.agg M.zP.toArray = vP at z0 z1 KP
  unfold M.e00 at HW HVA ⊢
  go_enter Tryd.func7, Tryd.ntmps7
  go_upto_region 1 with fail
  rw [HW.out, HVA.out]
  clear HW HVA
  have lO_0 := z0.lO
  have lE_0 := z0.lE
  have lV_0 := z0.lV
  have lP_0 := z0.lP
  have c0_0 := z0.c0
  have c1_0 := z0.c1
  have c2_0 := z0.c2
  have c11_0 := z0.c11
  have c12_0 := z0.c12
  have c13_0 := z0.c13
  have c39_0 := z0.c39
  have c48_0 := z0.c48
  have c53_0 := z0.c53
  have c54_0 := z0.c54
  have c55_0 := z0.c55
  have lO_1 := z1.lO
  have lE_1 := z1.lE
  have lV_1 := z1.lV
  have lP_1 := z1.lP
  have c0_1 := z1.c0
  have c1_1 := z1.c1
  have c2_1 := z1.c2
  have c11_1 := z1.c11
  have c12_1 := z1.c12
  have c13_1 := z1.c13
  have c39_1 := z1.c39
  have c48_1 := z1.c48
  have c53_1 := z1.c53
  have c54_1 := z1.c54
  have c55_1 := z1.c55
  clear z0 z1
  have LO0 := hid lO_0
  have LE0 := hid lE_0
  have LV0 := hid lV_0
  have LP0 := hid lP_0
  have LO1 := hid lO_1
  have LE1 := hid lE_1
  have LV1 := hid lV_1
  have LP1 := hid lP_1
  have QO := hid qO
  have GO := hid gO
  have QE := hid qE
  have GE := hid gE
  have QV := hid qV
  have GV := hid gV
  clear lO_0 lE_0 lV_0 lP_0 lO_1 lE_1 lV_1 lP_1 qO qE qV gO gE gV
  repeat (first
    | (refine wpList_load_v LO0.out (by exact ⟨_, rfl, rfl⟩) (by kernel_rfl) ?_)
    | (refine wpList_load_v LO1.out (by exact ⟨_, rfl, rfl⟩) (by kernel_rfl) ?_)
    | (refine wpList_load_v LE0.out (by exact ⟨_, rfl, rfl⟩) (by kernel_rfl) ?_)
    | (refine wpList_load_v LE1.out (by exact ⟨_, rfl, rfl⟩) (by kernel_rfl) ?_)
    | (refine wpList_load_v LV0.out (by exact ⟨_, rfl, rfl⟩) (by kernel_rfl) ?_)
    | (refine wpList_load_v LV1.out (by exact ⟨_, rfl, rfl⟩) (by kernel_rfl) ?_)
    | (refine wpList_load_v LP0.out (by exact ⟨_, rfl, rfl⟩) (by kernel_rfl) ?_)
    | (refine wpList_load_v LP1.out (by exact ⟨_, rfl, rfl⟩) (by kernel_rfl) ?_)
    | (refine wpList_eql_v QO.out (by exact ⟨_, _, _, rfl, rfl, rfl, GO.out _ _⟩) (by kernel_rfl) ?_)
    | (refine wpList_eql_v QE.out (by exact ⟨_, _, _, rfl, rfl, rfl, GE.out _ _⟩) (by kernel_rfl) ?_)
    | (refine wpList_eql_v QV.out (by exact ⟨_, _, _, rfl, rfl, rfl, GV.out _ _⟩) (by kernel_rfl) ?_)
    | (go_at_call 23; refine (opsEqual_nil _).mono ?_; rintro e wx ⟨rfl, rfl⟩; dsimp only)
    | (go_at_call 24; refine KP.out.mono ?_; rintro e w2 ⟨rfl, hw2⟩; have f2 : Fr (fun _ => False) W w2 := (by rw [← hw2]; exact Fr.alloc (Fr.alloc (Fr.refl _ _) _) _); have d0 := cellFr f2 (fun h => h) c53_0; have d1 := cellFr f2 (fun h => h) c54_0; have d2 := cellFr f2 (fun h => h) c55_0; have d3 := cellFr f2 (fun h => h) c53_1; have d4 := cellFr f2 (fun h => h) c54_1; have d5 := cellFr f2 (fun h => h) c55_1; have F2 := hid f2; clear hw2 f2; dsimp only)
    | go_values | go_skip | go_guarded | go_step | go_upon | go_back)
  go_ret
  exact ⟨rfl, FW.out.trans F2.out (fun _ _ h => h)⟩

end Go.Proofs.YtfkddpcadgidgaaDoor

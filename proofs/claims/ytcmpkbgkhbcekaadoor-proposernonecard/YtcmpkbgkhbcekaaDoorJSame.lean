/-
  Two slotted entries of zeros are the same.
-/
import Derived.Test.YtcmpkbgkhbcekaaDoorJTrue
import Derived.Test.YtcmpkbgkhbcekaaDoorASame5
namespace Go.Proofs.YtcmpkbgkhbcekaaDoor
open Go.RowKit Go.Maps
set_option linter.unusedVariables false
set_option linter.unusedSimpArgs false

def A.zfx : List Value := [.int .i64 0, .int .i64 0, .int .i64 0, .int .i64 0, .int .i64 0, .int .i64 0, .int .i64 0, .int .i64 0, .string ⟨#[]⟩, .string ⟨#[]⟩, .string ⟨#[]⟩, .int .i64 0, .int .i64 0, .slice none 0 0, .int .i64 0, .int .i64 0, .int .i64 0, .int .i64 0, .int .i64 0, .int .i64 0, .int .i64 0, .int .i64 0, .int .i64 0, .int .i64 0, .int .i64 0, .int .i64 0, .int .i64 0, .int .i64 0, .int .i64 0, .int .i64 0, .int .i64 0, .int .i64 0, .int .i64 0, .int .i64 0, .int .i64 0, .int .i64 0, .int .i64 0, .int .i64 0, .int .i64 0, .int .i64 0, .int .i64 0, .int .i64 0, .int .i64 0, .int .i64 0, .int .i64 0, .int .i64 0, .int .i64 0, .int .i64 0, .int .i64 0, .int .i64 0, .int .i64 0, .int .i64 0, .slice none 0 0, .int .i64 0, .int .i64 0, .int .i64 0]
def A.zen : A.En := ⟨A.zfx, [], []⟩
def A.vB (t : Nat) (v : Value) : Bool := match t, v with
  | 0, .int .i64 _ => true
  | 1, .string _ => true
  | 2, .slice none 0 0 => true
  | _, _ => false
theorem A.vB_ok {t : Nat} {v : Value} (h : A.vB t v = true) : A.vOk t v := by
  unfold A.vB at h
  split at h
  · exact ⟨_, rfl⟩
  · exact ⟨_, rfl⟩
  · rfl
  · cases h
theorem A.ty_of {fx : List Value} (h : (fx.zipIdx.all (fun p => A.vB (A.tyAt p.2) p.1)) = true) : ∀ (j : Nat) v, fx[j]? = some v → A.vOk (A.tyAt j) v := fun j v hv => by
  rw [List.all_eq_true] at h
  exact A.vB_ok (h (v, j) (List.mem_zipIdx_iff_getElem?.2 hv))
theorem A.zen_ok : A.zen.Ok := ⟨rfl, A.ty_of (by decide), by simp [A.zen], by simp [A.zen], by simp [A.zen]⟩
theorem A.zen_re (I : Nat → Prop) (w : World) : Re I w A.zfx A.zen := ⟨A.zen_ok, none, 0, none, 0, rfl, Rw.nil _ _ _ _, Rw.nil _ _ _ _⟩
theorem sameZ (w : World) : Calls Tryd.prog 10 #[.agg zE56, .agg zE56] w fun e w' => e = .returned (.bool true) ∧ Fr (fun _ => False) w w' := by
  have h := sameEntry_any (A.zen_re (fun _ => False) w) (A.zen_re (fun _ => False) w)
  refine Calls.mono (show Calls Tryd.prog 10 #[.agg zE56, .agg zE56] w _ from h) ?_
  rintro e w' ⟨b, rfl, hb, f⟩
  rw [hb.2 rfl]
  exact ⟨rfl, f⟩
set_option maxHeartbeats 6400000 in
set_option maxRecDepth 20000 in
theorem sameSl (w : World) : Calls Tryd.prog 9 #[.agg jS59, .agg jS59] w fun e w' => e = .returned (.bool true) ∧ Fr (fun _ => False) w w' := by
  obtain ⟨W, hW⟩ : ∃ W, (w.alloc (.cells jS59 55)).alloc (.cells jS59 55) = W := ⟨_, rfl⟩
  have f0 : Fr (fun _ => False) w W := by rw [← hW]; exact Fr.alloc (Fr.alloc (Fr.refl _ _) _) _
  have ba : W.heap[w.heap.size]? = some (.cells jS59 55 (0, 0)) := by rw [← hW]; exact (Below.heap_alloc _ _ _ (by simp)).trans (Go.heap_alloc_new w _)
  have bz : W.heap[w.heap.size + 1]? = some (.cells jS59 55 (0, 0)) := by
    have h1 := Go.heap_alloc_new (w.alloc (.cells jS59 55)) (.cells jS59 55)
    rw [World.size_alloc] at h1
    rw [← hW]; exact h1
  have c0 : W.cell? ⟨w.heap.size, 0, none⟩ = some (.int .i64 0) := cellA ba rfl
  have c1 : W.cell? ⟨w.heap.size, 1, none⟩ = some (.int .i64 0) := cellA ba rfl
  have c2 : W.cell? ⟨w.heap.size, 2, none⟩ = some (.int .i64 0) := cellA ba rfl
  have d0 : W.cell? ⟨w.heap.size + 1, 0, none⟩ = some (.int .i64 0) := cellA bz rfl
  have d1 : W.cell? ⟨w.heap.size + 1, 1, none⟩ = some (.int .i64 0) := cellA bz rfl
  have d2 : W.cell? ⟨w.heap.size + 1, 2, none⟩ = some (.int .i64 0) := cellA bz rfl
  have LA := hid (show (Instr.loadAt 37 (.pointer (some ⟨w.heap.size, 3, none⟩))).run Tryd.prog W = .ok (.agg zE56) W from run_loadAt_mid (P := Tryd.prog) W _ 3 37 zE56.toList _ (rangeAt_of ba 3 _ rfl) Tryd.underlying37 rfl (by kernel_rfl))
  have LB := hid (show (Instr.loadAt 37 (.pointer (some ⟨w.heap.size + 1, 3, none⟩))).run Tryd.prog W = .ok (.agg zE56) W from run_loadAt_mid (P := Tryd.prog) W _ 3 37 zE56.toList _ (rangeAt_of bz 3 _ rfl) Tryd.underlying37 rfl (by kernel_rfl))
  have K := hid (sameZ W)
  have HW := hid hW
  have F0 := hid f0
  clear hW f0 ba bz
  go_enter Tryd.func9, Tryd.ntmps9
  go_upto_region 1 with fail
  rw [HW.out]
  go_wp2_with (first
    | (refine wpList_load_v LA.out (by exact ⟨_, rfl, rfl⟩) (by kernel_rfl) ?_)
    | (refine wpList_load_v LB.out (by exact ⟨_, rfl, rfl⟩) (by kernel_rfl) ?_)
    | (go_at_call 10; refine K.out.mono ?_; rintro e w1 ⟨rfl, f1⟩; have F1 := hid (F0.out.trans f1 (fun _ _ h => h)); clear f1))
  go_ret
  exact ⟨rfl, F1.out⟩
end Go.Proofs.YtcmpkbgkhbcekaaDoor

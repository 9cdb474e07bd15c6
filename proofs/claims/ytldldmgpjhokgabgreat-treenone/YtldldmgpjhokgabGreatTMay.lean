/-
  The guard: what it says of a make.
-/
import Derived.Test.YtldldmgpjhokgabGreatTAsk
import Derived.Test.YtldldmgpjhokgabGreatTName
namespace Go.Proofs.YtldldmgpjhokgabGreat
open Go.RowKit Go.Maps
set_option linter.unusedVariables false
set_option maxRecDepth 100000
set_option linter.unusedSimpArgs false

/-- may a node be made? -/
def T.may1 (t : T.Tr) (o : S.Op) : Bool := decide (2 < o.n) && (!(A.get o.n t).isSome && ((A.get o.p t).isSome && T.nam o.a))
set_option maxHeartbeats 1600000 in
theorem may1_any {c : Nat → Option T.Col} {w : World} {bud p : Nat} {dos last : Int} {t : T.Tr} {mb : Nat} {f : Int → Nat} (h : Tf c w bud p dos last t mb f) (hl : Lo c w.heap.size) (o : S.Op) (hi : o.in64) (hk : o.k = 1) :
    Calls Tryz.prog 21 #[ptr p, .agg o.cs] w fun e w' => e = .returned (.bool (T.may1 t o)) ∧ Fr (fun _ => False) w w' := by
  obtain ⟨W, hW⟩ : ∃ W, w.alloc (.cells o.cs 34) = W := ⟨_, rfl⟩
  have fW : Fr (fun _ => False) w W := by rw [← hW]; exact Fr.alloc (Fr.refl _ _) _
  have hTW := h.kept fW (fun _ _ h => h)
  have K1 := hid (has_any hTW (wfT hi.1.1 hi.1.2))
  have K2 := hid (has_any hTW (wfT hi.2.1 hi.2.2))
  have KN := hid (tname_any o.a)
  have hbx : W.heap[w.heap.size]? = some (.cells o.cs 34 (0, 0)) := by rw [← hW]; exact Go.heap_alloc_new w _
  have c4 : W.cell? ⟨w.heap.size, 4, none⟩ = some (.int .i64 o.p) := cellA (j := 4) hbx rfl
  have c5 : W.cell? ⟨w.heap.size, 5, none⟩ = some (.string o.a) := cellA (j := 5) hbx rfl
  have FW := hid fW
  have HW := hid hW
  obtain ⟨t', s', k', n', p', a', b', c'⟩ := o
  simp only at hk hi K1 K2 KN HW c4 c5
  subst hk
  clear h hl hi hTW hW fW hbx
  simp only [T.may1]
  by_cases h2 : 2 < n' <;> cases hg : A.get n' t <;> cases hq : A.get p' t <;> cases hnm : T.nam a' <;>
  · rw [hg] at K1
    rw [hq] at K2
    rw [hnm] at KN
    simp only [Option.isSome_none, Option.isSome_some] at K1 K2
    go_enter Tryz.func21, Tryz.ntmps21
    go_wp2_with (first
      | (go_at_call 46; rw [HW.out]; refine K1.out.mono ?_; rintro e wx ⟨rfl, rfl⟩)
      | (go_at_call 46; refine K2.out.mono ?_; rintro e wx ⟨rfl, rfl⟩)
      | (go_at_call 47; refine (KN.out _).mono ?_; rintro e wx ⟨rfl, rfl⟩))
    all_goals (go_ret; exact ⟨by simp [h2], by first | exact FW.out | (rw [HW.out]; exact FW.out)⟩)
end Go.Proofs.YtldldmgpjhokgabGreat

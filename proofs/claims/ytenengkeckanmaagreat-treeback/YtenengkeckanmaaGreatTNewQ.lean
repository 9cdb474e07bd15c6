/-
  New: the root and the trash alone.
-/
import Derived.Test.YtenengkeckanmaaGreatTMemQ
namespace Go.Proofs.YtenengkeckanmaaGreat
open Go.RowKit Go.Maps
set_option linter.unusedVariables false
set_option maxRecDepth 100000
set_option linter.unusedSimpArgs false

abbrev zNode : Obj := .cells #[.int .i64 0, .string ⟨#[]⟩, .map none, .map none] 89 (0, 0)
def T.newCol (w : World) (a b p : Nat) : Nat → Option T.Col := fun i => if i = w.heap.size then some .nodes else if i = a then some (.node 1) else if i = b then some (.node 2) else if i = p then some .tree else none
set_option maxHeartbeats 1600000 in
theorem tnew_any (w : World) : Calls Tryz.prog 9 #[] w fun e w' => ∃ p c, e = .returned (ptr p) ∧ Tm c w' 0 p 0 0 T.zero ∧ Fr (fun _ => False) w w' ∧ ∀ i, c i ≠ none → w.heap.size ≤ i ∧ i < w'.heap.size := by
  have hmm := @run_makeMap Tryz.prog
  obtain ⟨w1, r1, m1, f1⟩ := Mp.store (w := (w.alloc (.map #[] 0)).alloc zNode) (Mp.kept (Mp.made 2 litI w) (S := fun _ => False) (Fr.alloc (Fr.refl _ _) _) (fun h => h)) litI_inj keyI Tryz.underlying90 (by decide) (keyOfI (x := 1) (by decide)) (ptr (w.heap.size + 1))
  obtain ⟨w2, r2, m2, f2⟩ := Mp.store (w := w1.alloc zNode) (Mp.kept m1 (S := fun _ => False) (Fr.alloc (Fr.refl _ _) _) (fun h => h)) litI_inj keyI Tryz.underlying90 (by decide) (keyOfI (x := 2) (by decide)) (ptr w1.heap.size)
  have R1 := hid r1
  have R2 := hid r2
  clear r1 r2
  go_enter Tryz.func9, Tryz.ntmps9
  go_wp2_with (first
    | (refine wpList_ins_v R1.out (by exact ⟨_, _, _, rfl, rfl, rfl, rfl⟩) (by kernel_rfl) ?_)
    | (refine wpList_ins_v R2.out (by exact ⟨_, _, _, rfl, rfl, rfl, rfl⟩) (by kernel_rfl) ?_))
  have z1 : w.heap.size + 2 ≤ w1.heap.size := by have := f1.size; rw [alloc_size, alloc_size] at this; omega
  have z2 : w1.heap.size + 1 ≤ w2.heap.size := by have := f2.size; rw [alloc_size] at this; omega
  have f3 : Fr (fun _ => False) w2 (w2.alloc (.cells #[.map (some w.heap.size), .int .i64 0, .int .i64 0] 92 (0, 0))) := Fr.alloc (Fr.refl _ _) _
  have hF : Fr (fun i => i = w.heap.size) ((w.alloc (.map #[] 0)).alloc zNode) (w2.alloc (.cells #[.map (some w.heap.size), .int .i64 0, .int .i64 0] 92 (0, 0))) :=
    ((f1.trans (Fr.alloc (Fr.refl (fun i => i = w.heap.size) _) zNode) (fun i _ h => h)).trans f2 (fun i _ h => h)).trans f3 (fun i _ h => h.elim)
  go_ret
  refine ⟨w2.heap.size, T.newCol w (w.heap.size + 1) w1.heap.size w2.heap.size, rfl, ⟨w.heap.size, fun n => if n = 1 then w.heap.size + 1 else w1.heap.size, Go.heap_alloc_new w2 _, ?_, ?_, ?_, ?_, ?_⟩, ?_, ?_⟩
  · unfold T.newCol
    rw [if_neg (by omega), if_neg (by omega), if_neg (by omega), if_pos rfl]
  · unfold T.newCol
    rw [if_pos rfl]
  · have e : (fun n => (A.get n T.zero).map (fun _ => ptr (if n = 1 then w.heap.size + 1 else w1.heap.size))) = at_ (at_ (fun _ => none) 1 (some (ptr (w.heap.size + 1)))) 2 (some (ptr w1.heap.size)) := by
      funext n
      unfold at_ T.zero A.get
      by_cases h2 : n = 2
      · subst h2; rfl
      · by_cases h1 : n = 1
        · subst h1; rfl
        · have b1 : ((1 : Int) == n) = false := by simp; omega
          have b2 : ((2 : Int) == n) = false := by simp; omega
          simp [List.find?, b1, b2, h1, h2]
    rw [e]
    exact m2.kept f3 (fun h => h)
  · decide
  · intro n x hx
    have hm := A.get_mem hx
    simp only [T.zero, List.mem_cons, Prod.mk.injEq, List.not_mem_nil, or_false] at hm
    rcases hm with ⟨rfl, rfl⟩ | ⟨rfl, rfl⟩
    · refine Nm.fresh (hF.cells (p := w.heap.size + 1) ?_ (by omega)) ?_
      · have := Go.heap_alloc_new (w.alloc (.map #[] 0)) zNode
        rw [alloc_size] at this
        exact this
      · show T.newCol w (w.heap.size + 1) w1.heap.size w2.heap.size (w.heap.size + 1) = some (.node 1)
        unfold T.newCol
        rw [if_neg (by omega), if_pos rfl]
    · refine Nm.fresh ((f2.trans f3 (fun i _ h => h.elim)).cells (p := w1.heap.size) ?_ (by omega)) ?_
      · exact Go.heap_alloc_new w1 zNode
      · show T.newCol w (w.heap.size + 1) w1.heap.size w2.heap.size w1.heap.size = some (.node 2)
        unfold T.newCol
        rw [if_neg (by omega), if_neg (by omega), if_pos rfl]
  · exact ((Fr.alloc (Fr.alloc (Fr.refl _ w) _) _).trans hF (fun i h e => absurd e (by omega)))
  · intro i h
    rw [alloc_size]
    unfold T.newCol at h
    by_cases e1 : i = w.heap.size
    · omega
    · rw [if_neg e1] at h
      by_cases e2 : i = w.heap.size + 1
      · omega
      · rw [if_neg e2] at h
        by_cases e3 : i = w1.heap.size
        · omega
        · rw [if_neg e3] at h
          by_cases e4 : i = w2.heap.size
          · omega
          · rw [if_neg e4] at h
            exact absurd rfl h
end Go.Proofs.YtenengkeckanmaaGreat

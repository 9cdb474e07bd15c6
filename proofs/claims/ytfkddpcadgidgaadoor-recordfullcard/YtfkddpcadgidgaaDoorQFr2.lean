/-
  A reader of fields: one number is taken.
-/
import Derived.Test.YtfkddpcadgidgaaDoorQFr
namespace Go.Proofs.YtfkddpcadgidgaaDoor
open Go.RowKit
set_option linter.unusedVariables false

/-- what the taking of one number leaves -/
structure Fk (R : Nat → Prop) (PP : World → Prop) (w : World) (g : Nat) (T : TypeId) (u : Value) (qb qo : Nat) (cs : Array Value) (t : TypeId) (v er : Int) (w' : World) : Prop where
  g_ : w'.heap[g]? = some (.cells #[u, .int .i64 er] T (0, 0))
  q_ : w'.heap[qb]? = some (.cells (cs.setIfInBounds qo (.int .i64 v)) t (0, 0))
  pp : PP w'
  fr : Fr (fun k => R k ∨ k = g ∨ k = qb) w w'
set_option maxRecDepth 20000 in
set_option maxHeartbeats 3200000 in
theorem frInt1 {R : Nat → Prop} {PP : World → Prop} {w : World} {g : Nat} {T : TypeId} {rp : Option Addr} (hg : w.heap[g]? = some (.cells #[.pointer rp, .int .i64 0] T (0, 0))) (lb lc qb qo : Nat) (hl : w.cell? ⟨lb, 0, none⟩ = some (.pointer (some ⟨qb, qo, none⟩))) {cs : Array Value} {t : TypeId} (hq : w.heap[qb]? = some (.cells cs t (0, 0))) {old : Int} (hqo : cs[qo]? = some (.int .i64 old)) (hqg : qb ≠ g) (hRg : ¬ R g) (hRq : ¬ R qb) {v er : Int}
    (KI : ∀ W, Fr (fun _ => False) w W → Calls Tryd.prog 107 #[.pointer rp] W fun e w' => e = .returned (.tuple #[.int .i64 v, .int .i64 er]) ∧ Fr R W w' ∧ PP w') (hPP : ∀ A B, PP A → Fr (fun k => k = g ∨ k = qb) A B → PP B) :
    Calls Tryd.prog 99 #[.pointer (some ⟨g, 0, none⟩), .slice (some ⟨lb, 0, none⟩) 1 lc] w fun e w' => (∃ v, e = .returned v) ∧ Fk R PP w g T (.pointer rp) qb qo cs t v er w' := by
  have d0 := cell_at (j := 0) hg rfl
  have d1 := cell_at (j := 1) hg rfl
  have HG := hid hg
  have HQ := hid hq
  have HK := hid KI
  have HPP := hid hPP
  have HQO := hid hqo
  clear hg hq KI hPP hqo
  go_enter Tryd.func99, Tryd.ntmps99
  go_wp2
  refine wp_loop_rounds 2 ?_
  rw [rounds_succ]
  go_wp2_with fail
  refine (HK.out w (Fr.refl _ _)).mono ?_
  rintro e w1 ⟨rfl, hf, hp⟩
  have q1 := hf.cells HQ.out hRq
  have g1 := hf.cells HG.out hRg
  have y0 := cell_at (j := qo) q1 HQO.out
  have y1 := frozen_of_row (j := qo) q1
  have y2 := cell_at (j := 1) g1 rfl
  have y3 := frozen_of_row (j := 1) g1
  have Q1 := hid q1
  have G1 := hid g1
  have F1 := hid hf
  have PP1 := hid hp
  have hgq : g ≠ qb := fun e => hqg e.symm
  clear hf hp q1 g1 d0 d1
  go_wp2_with fail
  rw [rounds_succ]
  go_wp2
  go_end0
  have fa : Fr (fun k => k = g ∨ k = qb) w1 (w1.setCell ⟨qb, qo, none⟩ (.int .i64 v)) := Fr.setCell (p := ⟨qb, qo, none⟩) (S := fun k => k = g ∨ k = qb) (Fr.refl _ _) (fun _ => .inr rfl) _
  have fb : Fr (fun k => k = g ∨ k = qb) w1 ((w1.setCell ⟨qb, qo, none⟩ (.int .i64 v)).setCell ⟨g, 1, none⟩ (.int .i64 er)) := Fr.setCell (p := ⟨g, 1, none⟩) (S := fun k => k = g ∨ k = qb) fa (fun _ => .inl rfl) _
  have fc : Fr (fun k => k = qb) w1 (w1.setCell ⟨qb, qo, none⟩ (.int .i64 v)) := Fr.setCell (p := ⟨qb, qo, none⟩) (S := fun k => k = qb) (Fr.refl _ _) (fun _ => rfl) _
  have fd : Fr (fun k => k = g) (w1.setCell ⟨qb, qo, none⟩ (.int .i64 v)) ((w1.setCell ⟨qb, qo, none⟩ (.int .i64 v)).setCell ⟨g, 1, none⟩ (.int .i64 er)) := Fr.setCell (p := ⟨g, 1, none⟩) (S := fun k => k = g) (Fr.refl _ _) (fun _ => rfl) _
  refine ⟨⟨_, rfl⟩, ?_, ?_, HPP.out _ _ PP1.out fb, (F1.out.mono (T := fun k => R k ∨ k = g ∨ k = qb) (fun _ _ h => .inl h)).trans fb (fun _ _ h => .inr h)⟩
  · rw [setCell_row (fc.cells G1.out hgq)]; rfl
  · exact fd.cells (setCell_row Q1.out _) hqg
set_option maxRecDepth 20000 in
set_option maxHeartbeats 3200000 in
theorem frInts1 {R : Nat → Prop} {PP : World → Prop} {w : World} {g : Nat} {T : TypeId} {rp : Option Addr} (hg : w.heap[g]? = some (.cells #[.pointer rp, .int .i64 0] T (0, 0))) (lb lc qb qo : Nat) (hl : w.cell? ⟨lb, 0, none⟩ = some (.pointer (some ⟨qb, qo, none⟩))) {cs : Array Value} {t : TypeId} (hq : w.heap[qb]? = some (.cells cs t (0, 0))) {old : Int} (hqo : cs[qo]? = some (.int .i64 old)) (hqg : qb ≠ g) (hRg : ¬ R g) (hRq : ¬ R qb) (hRlt : ∀ k, R k → k < w.heap.size) {v er : Int} (hv : -9223372036854775808 ≤ v ∧ v ≤ 9223372036854775807)
    (KI : ∀ W, Fr (fun _ => False) w W → Calls Tryd.prog 107 #[.pointer rp] W fun e w' => e = .returned (.tuple #[.int .i64 v, .int .i64 er]) ∧ Fr R W w' ∧ PP w') (hPP : ∀ A B, PP A → Fr (fun k => k = g ∨ k = qb ∨ w.heap.size ≤ k) A B → PP B) :
    Calls Tryd.prog 77 #[.pointer (some ⟨g, 0, none⟩), .slice (some ⟨lb, 0, none⟩) 1 lc] w fun e w' => (∃ v, e = .returned v) ∧ Fk R PP w g T (.pointer rp) qb qo cs t v er w' := by
  have hgl := lt_of_row hg
  have hql := lt_of_row hq
  have fa : Fr (fun _ => False) w ((w.alloc (.cells #[.int .i64 0] 2)).alloc (.cells #[.pointer (some ⟨w.heap.size, 0, none⟩)] 155)) := Fr.alloc (Fr.alloc (Fr.refl _ _) _) _
  have bn : ((w.alloc (.cells #[.int .i64 0] 2)).alloc (.cells #[.pointer (some ⟨w.heap.size, 0, none⟩)] 155)).heap[w.heap.size]? = some (.cells #[.int .i64 0] 2 (0, 0)) := (Below.heap_alloc _ _ _ (by simp)).trans (Go.heap_alloc_new w _)
  have bl : ((w.alloc (.cells #[.int .i64 0] 2)).alloc (.cells #[.pointer (some ⟨w.heap.size, 0, none⟩)] 155)).heap[w.heap.size + 1]? = some (.cells #[.pointer (some ⟨w.heap.size, 0, none⟩)] 155 (0, 0)) := by
    have := Go.heap_alloc_new (w.alloc (.cells #[.int .i64 0] 2)) (.cells #[.pointer (some ⟨w.heap.size, 0, none⟩)] 155)
    rw [World.size_alloc] at this
    exact this
  have K1 := hid (frInt1 (R := R) (PP := PP) (fa.cells hg (fun h => h)) (w.heap.size + 1) 1 w.heap.size 0 (cell_at (j := 0) bl rfl) bn (old := 0) rfl (by omega) hRg (fun hr => by have := hRlt _ hr; omega) (fun W hf => KI W (fa.trans hf (fun _ _ h => h))) (fun A B hA hf => hPP A B hA (hf.mono (fun i hi e => by omega))))
  have HG := hid hg
  have HQ := hid hq
  have HQO := hid hqo
  have HPP := hid hPP
  have FA := hid fa
  clear fa bn bl hg hq KI hPP hqo
  go_enter Tryd.func77, Tryd.ntmps77
  go_wp2
  refine wp_loop_rounds 2 ?_
  rw [rounds_succ]
  go_wp2_with fail
  refine K1.out.mono ?_
  rintro e w1 ⟨⟨v0, rfl⟩, hk⟩
  have q1 : w1.heap[qb]? = some (.cells cs t (0, 0)) := hk.fr.cells (FA.out.cells HQ.out (fun h => h)) (fun e => by rcases e with e | e | e; exact hRq e; exact hqg e; omega)
  have n1 : w1.cell? ⟨w.heap.size, 0, none⟩ = some (.int .i64 v) := cell_at (j := 0) hk.q_ rfl
  have y0 := cell_at (j := qo) q1 HQO.out
  have y1 := frozen_of_row (j := qo) q1
  have Q1 := hid q1
  have HK := hid hk
  clear hk q1
  go_wp2_with fail
  rw [rounds_succ]
  go_wp2
  go_end0
  have fc : Fr (fun k => k = qb) w1 (w1.setCell ⟨qb, qo, none⟩ (.int .i64 v)) := Fr.setCell (p := ⟨qb, qo, none⟩) (S := fun k => k = qb) (Fr.refl _ _) (fun _ => rfl) _
  refine ⟨⟨_, rfl⟩, fc.cells HK.out.g_ (fun e => hqg e.symm), setCell_row Q1.out _, HPP.out _ _ HK.out.pp (fc.mono (fun i hi e => .inr (.inl e))), ?_⟩
  exact (((FA.out.mono (T := fun k => R k ∨ k = g ∨ k = qb) (fun _ _ h => h.elim)).trans (HK.out.fr) (fun i hi e => by
    rcases e with e | e | e
    · exact .inl e
    · exact .inr (.inl e)
    · omega))).trans fc (fun i hi e => .inr (.inr e))

end Go.Proofs.YtfkddpcadgidgaaDoor

/-
  WalNone's walk.
-/
import Derived.Test.YtgplkjfkafnpoaaGreatDoorWNone
namespace Go.Proofs.YtgplkjfkafnpoaaGreatDoor
open Go.RowKit Go.Shelf
set_option linter.unusedVariables false
attribute [local go_sem] Oper.semAt_some

/-- what the walk carries: the result's cell, the zero log, the two pointers -/
structure WST (w W : World) (zb : Nat) : Prop where
  fr : Fr (fun _ => False) w W
  rb : W.heap[w.heap.size]? = some (.cells #[.bool false] 4 (0, 0))
  z1 : W.cell? ⟨zb, 1, none⟩ = some (.string ⟨#[]⟩)
  l0 : W.cell? ⟨zb + 1, 0, none⟩ = some (.pointer none)
  l1 : W.cell? ⟨zb + 1, 1, none⟩ = some (.pointer (some ⟨zb, 0, none⟩))
theorem WST.kept {w W W' : World} {zb : Nat} (h : WST w W zb) (hf : Fr (fun _ => False) W W') : WST w W' zb :=
  ⟨h.fr.trans hf (fun _ _ h => h), hf.cells h.rb (fun h => h), cell_fr hf (fun h => h) h.z1, cell_fr hf (fun h => h) h.l0, cell_fr hf (fun h => h) h.l1⟩

set_option maxRecDepth 100000 in
set_option maxHeartbeats 8000000 in
theorem walNone_walk (w : World) (T : Tv w) (A : Option Addr) (m c : Nat) (n : Int) :
    Calls Tryz.prog 6 #[.slice A m c, .int .i64 n] w fun e w' => e = .returned (.bool true) ∧ Fr (fun _ => False) w w' := by
  refine (callsIn_wide (n := 8)).1 ?_
  have hf0 : Fence.wide.fn 20 := trivial
  have hf1 : Fence.wide.fn 23 := trivial
  have hf2 : Fence.wide.fn 24 := trivial
  have hf3 : Fence.wide.fn 26 := trivial
  have hf4 : Fence.wide.fn 27 := trivial
  have hf5 : Fence.wide.fn 28 := trivial
  have hf6 : Fence.wide.fn 25 := trivial
  have hf7 : Fence.wide.fn 22 := trivial
  refine callsIn_of_wp_marks Tryz.func6 rfl trivial ?_ rfl
  simp only [Tryz.ntmps6, List.size_toArray, List.length_cons, List.length_nil, Nat.reduceAdd, Nat.reduceSub, Array.replicate_succ, Array.replicate_zero, List.push_toArray, List.append_toArray, List.nil_append, List.cons_append]
  gi_wp2_with fail
  refine ⟨trivial, (callsIn_wide.2 (live_any _ (T.kept (Fr.alloc (Fr.refl (fun _ => False) _) _) (fun h => h)))).mono ?_⟩
  rintro e w1 ⟨rfl, hf1⟩
  have hf0 : Fr (fun _ => False) w w1 := (Fr.alloc (Fr.refl _ _) _).trans hf1 (fun _ _ h => h)
  have hb1 := hf1.cells (Go.heap_alloc_new w _) (fun h => h)
  have HF0 := hid hf0
  have HB1 := hid hb1
  clear hf0 hf1 hb1 T
  gi_wp2
  have hst : WST w ((w1.alloc (.cells #[.pointer none, .string ⟨#[]⟩, .slice none 0 0, .int .i64 0, .int .i64 0, .bool false, .bool false] 61)).alloc (.cells #[.pointer none, .pointer (some ⟨w1.heap.size, 0, none⟩)] 42)) w1.heap.size := by
    have f2 : Fr (fun _ => False) w1 ((w1.alloc (.cells #[.pointer none, .string ⟨#[]⟩, .slice none 0 0, .int .i64 0, .int .i64 0, .bool false, .bool false] 61)).alloc (.cells #[.pointer none, .pointer (some ⟨w1.heap.size, 0, none⟩)] 42)) := Fr.alloc (Fr.alloc (Fr.refl _ _) _) _
    have hz := Below.heap_alloc (w1.alloc (.cells #[.pointer none, .string ⟨#[]⟩, .slice none 0 0, .int .i64 0, .int .i64 0, .bool false, .bool false] 61)) (.cells #[.pointer none, .pointer (some ⟨w1.heap.size, 0, none⟩)] 42) w1.heap.size (by simp) |>.trans (Go.heap_alloc_new w1 _)
    have hl := Go.heap_alloc_new (w1.alloc (.cells #[.pointer none, .string ⟨#[]⟩, .slice none 0 0, .int .i64 0, .int .i64 0, .bool false, .bool false] 61)) (.cells #[.pointer none, .pointer (some ⟨w1.heap.size, 0, none⟩)] 42)
    rw [World.size_alloc] at hl
    exact ⟨HF0.out.trans f2 (fun _ _ h => h), f2.cells HB1.out (fun h => h), cell_of hz rfl, cell_of hl rfl, cell_of hl rfl⟩
  generalize (w1.alloc (.cells #[.pointer none, .string ⟨#[]⟩, .slice none 0 0, .int .i64 0, .int .i64 0, .bool false, .bool false] 61)).alloc (.cells #[.pointer none, .pointer (some ⟨w1.heap.size, 0, none⟩)] 42) = wa at hst ⊢
  generalize w1.heap.size = zb at hst ⊢
  clear HF0 HB1
  have l0 := hst.l0
  refine wpIn_loop_rounds 3 ?_
  rw [roundsIn_succ]
  gi_wp2_with (first
    | (gi_at_call 20; refine (callsIn_wide.2 (noLAppend _ _ (.inl rfl) A m c)).mono ?_; rintro e wx ⟨rfl, rfl⟩)
    | (gi_at_call 23; refine (callsIn_wide.2 (noLSync _ _ (.inl rfl) )).mono ?_; rintro e wx ⟨rfl, rfl⟩)
    | (gi_at_call 24; refine (callsIn_wide.2 (noLCut _ _ (.inl rfl) n)).mono ?_; rintro e wx ⟨rfl, rfl⟩)
    | (gi_at_call 26; refine (callsIn_wide.2 (noLNext _ _ (.inl rfl) )).mono ?_; rintro e wx ⟨rfl, rfl⟩)
    | (gi_at_call 27; refine (callsIn_wide.2 (noLSynced _ _ (.inl rfl) )).mono ?_; rintro e wx ⟨rfl, rfl⟩)
    | (gi_at_call 28; refine (callsIn_wide.2 (noLSegments _ _ (.inl rfl) )).mono ?_; rintro e wx ⟨rfl, rfl⟩)
    | (gi_at_call 25; refine (callsIn_wide.2 (noLFirst _ _ (.inl rfl) )).mono ?_; rintro e wx ⟨rfl, rfl⟩))
  refine (callsIn_wide.2 (noLRecords _ _ (.inl rfl))).mono ?_
  rintro e wn1 ⟨B1, rfl, hB1, hf⟩
  replace hst := hst.kept hf
  have hs1 := hst.fr.size
  clear hf
  gi_wp2_with fail
  refine wpIn_rangeFunc_ownH (w := wn1) rfl (by omega) (gf := 69) (lb := #[.pointer (some ⟨B1, 0, none⟩)]) rfl trivial (enters_of Tryz.func69 (by kernel_rfl) rfl)
    (recs0_stops Fence.wide _ trivial rfl (by omega) B1 wn1 hB1) (fun h k => h.trans k)
    (fun W l o o' hl hW _ _ k hk => World.putObj_heap_other (fun e => by
      have := World.block_lt_of_cell? _ _ hB1; simp only at this; omega))
    (Below.refl _ _) (fun _ => rfl) (fun _ W => Fr (fun _ => False) wn1 W) (fun _ _ _ => False) (fun _ A B row hs hg hr => hs.trans (Fr.of_grown hg) (fun i hi e => by have := (hr i e).1; omega)) (fun _ _ _ _ _ hs _ _ => hs) (Fr.refl _ _) (fun _ _ _ => True) (fun _ _ _ _ _ _ _ _ _ => trivial) ?_ ?_ ?_ ?_
  · intro l pre x
    exact x.elim
  · intro l pre x
    exact x.elim
  rotate_left
  · intro D c pre W _ _ h _
    exact h.elim
  intro D1 ys W1 hD1 _ hf hK1
  replace hst := hst.kept hf
  have l0 := hst.l0
  have l1 := hst.l1
  clear hf hB1
  gi_wp2
  clear l1
  have l1 := hst.l1
  clear l0
  rw [roundsIn_succ]
  gi_wp2_with (first
    | (gi_at_call 20; refine (callsIn_wide.2 (noLAppend _ _ (.inr ⟨_, rfl, hst.z1⟩) A m c)).mono ?_; rintro e wx ⟨rfl, rfl⟩)
    | (gi_at_call 23; refine (callsIn_wide.2 (noLSync _ _ (.inr ⟨_, rfl, hst.z1⟩) )).mono ?_; rintro e wx ⟨rfl, rfl⟩)
    | (gi_at_call 24; refine (callsIn_wide.2 (noLCut _ _ (.inr ⟨_, rfl, hst.z1⟩) n)).mono ?_; rintro e wx ⟨rfl, rfl⟩)
    | (gi_at_call 26; refine (callsIn_wide.2 (noLNext _ _ (.inr ⟨_, rfl, hst.z1⟩) )).mono ?_; rintro e wx ⟨rfl, rfl⟩)
    | (gi_at_call 27; refine (callsIn_wide.2 (noLSynced _ _ (.inr ⟨_, rfl, hst.z1⟩) )).mono ?_; rintro e wx ⟨rfl, rfl⟩)
    | (gi_at_call 28; refine (callsIn_wide.2 (noLSegments _ _ (.inr ⟨_, rfl, hst.z1⟩) )).mono ?_; rintro e wx ⟨rfl, rfl⟩)
    | (gi_at_call 25; refine (callsIn_wide.2 (noLFirst _ _ (.inr ⟨_, rfl, hst.z1⟩) )).mono ?_; rintro e wx ⟨rfl, rfl⟩))
  refine (callsIn_wide.2 (noLRecords _ _ (.inr ⟨_, rfl, hst.z1⟩))).mono ?_
  rintro e wn2 ⟨B2, rfl, hB2, hf⟩
  replace hst := hst.kept hf
  have hs2 := hst.fr.size
  replace hK1 := hf.cells hK1 (fun h => h); have hlt1 := lt_of_row hK1
  clear hf
  gi_wp2_with fail
  refine wpIn_rangeFunc_ownH (w := wn2) rfl (by omega) (gf := 69) (lb := #[.pointer (some ⟨B2, 0, none⟩)]) rfl trivial (enters_of Tryz.func69 (by kernel_rfl) rfl)
    (recs0_stops Fence.wide _ trivial rfl (by omega) B2 wn2 hB2) (fun h k => h.trans k)
    (fun W l o o' hl hW _ _ k hk => World.putObj_heap_other (fun e => by
      have := World.block_lt_of_cell? _ _ hB2; simp only at this; omega))
    (Below.refl _ _) (fun _ => rfl) (fun _ W => Fr (fun _ => False) wn2 W) (fun _ _ _ => False) (fun _ A B row hs hg hr => hs.trans (Fr.of_grown hg) (fun i hi e => by have := (hr i e).1; omega)) (fun _ _ _ _ _ hs _ _ => hs) (Fr.refl _ _) (fun _ _ _ => True) (fun _ _ _ _ _ _ _ _ _ => trivial) ?_ ?_ ?_ ?_
  · intro l pre x
    exact x.elim
  · intro l pre x
    exact x.elim
  rotate_left
  · intro D c pre W _ _ h _
    exact h.elim
  intro D2 ys W2 hD2 _ hf hK2
  replace hst := hst.kept hf
  replace hK1 := hf.cells hK1 (fun h => h)
  have l0 := hst.l0
  have l1 := hst.l1
  clear hf hB2
  gi_wp2
  rw [roundsIn_succ]
  have r0 : W2.cell? ⟨w.heap.size, 0, none⟩ = some (.bool false) := cell_of hst.rb rfl
  have r1 : W2.frozen? ⟨w.heap.size, 0, none⟩ = false := frozen_of_row hst.rb
  gi_wp2
  have hw : w.heap.size < W2.heap.size := lt_of_row hst.rb
  have n2 : D2 ≠ w.heap.size := fun e => by rw [e, hst.rb] at hK2; simp at hK2
  have n1 : D1 ≠ w.heap.size := fun e => by rw [e, hst.rb] at hK1; simp at hK1
  have n12 : D1 ≠ D2 := by omega
  have g1 : D1 < w.heap.size → False := fun h => by omega
  have q2 : (W2.setCell ⟨w.heap.size, 0, none⟩ (.bool true)).heap[D2]? = some (.deferred (some [])) := (Below.heap_setCell _ _ _ _ n2).trans hK2
  have q1 : ((W2.setCell ⟨w.heap.size, 0, none⟩ (.bool true)).putObj D2 (.deferred none)).heap[D1]? = some (.deferred (some [])) := (World.putObj_heap_other n12).trans ((Below.heap_setCell _ _ _ _ n1).trans hK1)
  have qr : (((W2.setCell ⟨w.heap.size, 0, none⟩ (.bool true)).putObj D2 (.deferred none)).putObj D1 (.deferred none)).heap[w.heap.size]? = some (.cells #[.bool true] 4 (0, 0)) := by
    rw [World.putObj_heap_other n1.symm, World.putObj_heap_other n2.symm, setCell_row hst.rb]; rfl
  have qc := cell_of (j := 0) qr rfl
  refine ⟨by simp, .inl ⟨_, _, rfl, run_takeDeferred q2, ?_⟩⟩
  refine ⟨by simp, .inl ⟨_, _, rfl, run_takeDeferred q1, ?_⟩⟩
  refine ⟨.bool true, ?_, rfl, ?_⟩
  · simp [results, Tryz.f6, go_sem, qc]
  · have f1 : Fr (fun _ => False) w (W2.setCell ⟨w.heap.size, 0, none⟩ (.bool true)) := Fr.setCell (p := ⟨w.heap.size, 0, none⟩) hst.fr (fun h => by simp only at h; omega) _
    exact (f1.trans (Fr.of_grown (grownBy_putObj' _ D2 _)) (fun i hi e => by simp at e; omega)).trans (Fr.of_grown (grownBy_putObj' _ D1 _)) (fun i hi e => by simp at e; exact g1 (e ▸ hi))

end Go.Proofs.YtgplkjfkafnpoaaGreatDoor

/-
  ClientsNone's walk.
-/
import Derived.Test.YtffjekhlloippaaYNone
import Derived.Test.YtffjekhlloippaaYSt
import Derived.Test.YtffjekhlloippaaYLive
namespace Go.Proofs.Ytffjekhlloippaa
open Go.RowKit Go.Maps
set_option linter.unusedVariables false
set_option linter.unusedSimpArgs false
set_option maxRecDepth 100000
attribute [local go_sem] Oper.semAt_some
/-- what the walk carries: the boxed operation, the result's cell, the zero table, the two pointers -/
structure Y.Nt (w W : World) (zb : Nat) (x : Y.Sop) : Prop where
  fr : Fr (fun _ => False) w W
  bx : W.heap[w.heap.size]? = some (.cells x.cs 36 (0, 0))
  rb : W.heap[w.heap.size + 1]? = some (.cells #[.bool false] 4 (0, 0))
  z : W.heap[zb]? = some (.cells #[.map none] 54 (0, 0))
  l : W.heap[zb + 1]? = some (.cells #[.pointer none, ptrY zb] 23 (0, 0))
theorem Y.Nt.kept {w W W' : World} {zb : Nat} {x : Y.Sop} (h : Y.Nt w W zb x) (hf : Fr (fun _ => False) W W') : Y.Nt w W' zb x :=
  ⟨h.fr.trans hf (fun _ _ h => h), hf.cells h.bx (fun h => h), hf.cells h.rb (fun h => h), hf.cells h.z (fun h => h), hf.cells h.l (fun h => h)⟩
theorem Y.Nt.c {w W : World} {zb : Nat} {x : Y.Sop} (h : Y.Nt w W zb x) : W.cell? ⟨w.heap.size, 0, none⟩ = some (.int .i64 x.s) ∧ W.cell? ⟨w.heap.size, 1, none⟩ = some (.int .i64 x.q) ∧ W.cell? ⟨w.heap.size, 4, none⟩ = some (.int .i64 x.r.1) ∧ W.cell? ⟨w.heap.size, 5, none⟩ = some (.int .i64 x.r.2.1) ∧ W.cell? ⟨w.heap.size, 6, none⟩ = some (.int .i64 x.r.2.2.1) ∧ W.cell? ⟨w.heap.size, 7, none⟩ = some (.int .i64 x.r.2.2.2) ∧ W.cell? ⟨zb + 1, 0, none⟩ = some (.pointer none) ∧ W.cell? ⟨zb + 1, 1, none⟩ = some (.pointer (some ⟨zb, 0, none⟩)) :=
  ⟨cellA (j := 0) h.bx rfl, cellA (j := 1) h.bx rfl, cellA (j := 4) h.bx rfl, cellA (j := 5) h.bx rfl, cellA (j := 6) h.bx rfl, cellA (j := 7) h.bx rfl, cellA (j := 0) h.l rfl, cellA (j := 1) h.l rfl⟩
set_option maxHeartbeats 8000000 in
theorem clientsNone_walk (w : World) (x : Y.Sop) :
    Calls Try.prog 7 #[.agg x.cs] w fun e w' => e = .returned (.bool true) ∧ Fr (fun _ => False) w w' := by
  have KL := hid (fun (W : World) => ylive_any W)
  refine (callsIn_wide (n := 9)).1 ?_
  have hf0 : Fence.wide.fn 22 := trivial
  have hf1 : Fence.wide.fn 21 := trivial
  have hf2 : Fence.wide.fn 13 := trivial
  have hf3 : Fence.wide.fn 12 := trivial
  have hf4 : Fence.wide.fn 16 := trivial
  have hf5 : Fence.wide.fn 11 := trivial
  refine callsIn_of_wp_marks Try.func7 rfl trivial ?_ rfl
  simp only [Try.ntmps7, List.size_toArray, List.length_cons, List.length_nil, Nat.reduceAdd, Nat.reduceSub, Array.replicate_succ, Array.replicate_zero, List.push_toArray, List.append_toArray, List.nil_append, List.cons_append]
  gi_wp2_with fail
  refine ⟨trivial, ((callsIn_wide (n := 8)).2 (KL.out _)).mono ?_⟩
  rintro e w1 ⟨rfl, hf1⟩
  have hf0 : Fr (fun _ => False) w w1 := (Fr.alloc (Fr.alloc (Fr.refl _ _) _) _).trans hf1 (fun _ _ h => h)
  have hb1 := hf1.cells (Below.heap_alloc _ _ w.heap.size (by simp) |>.trans (Go.heap_alloc_new w _)) (fun h => h)
  have hb2 := hf1.cells (Go.heap_alloc_new (w.alloc _) _) (fun h => h)
  rw [World.size_alloc] at hb2
  have HF0 := hid hf0
  have HB1 := hid hb1
  have HB2 := hid hb2
  clear hf0 hf1 hb1 hb2
  gi_wp2
  have hst : Y.Nt w ((w1.alloc (.cells #[.map none] 54)).alloc (.cells #[.pointer none, .pointer (some ⟨w1.heap.size, 0, none⟩)] 23)) w1.heap.size x := by
    have f2 : Fr (fun _ => False) w1 ((w1.alloc (.cells #[.map none] 54)).alloc (.cells #[.pointer none, .pointer (some ⟨w1.heap.size, 0, none⟩)] 23)) := Fr.alloc (Fr.alloc (Fr.refl _ _) _) _
    have hz := Below.heap_alloc (w1.alloc (.cells #[.map none] 54)) (.cells #[.pointer none, .pointer (some ⟨w1.heap.size, 0, none⟩)] 23) w1.heap.size (by simp) |>.trans (Go.heap_alloc_new w1 _)
    have hl := Go.heap_alloc_new (w1.alloc (.cells #[.map none] 54)) (.cells #[.pointer none, .pointer (some ⟨w1.heap.size, 0, none⟩)] 23)
    rw [World.size_alloc] at hl
    exact ⟨HF0.out.trans f2 (fun _ _ h => h), f2.cells HB1.out (fun h => h), f2.cells HB2.out (fun h => h), hz, hl⟩
  generalize (w1.alloc (.cells #[.map none] 54)).alloc (.cells #[.pointer none, .pointer (some ⟨w1.heap.size, 0, none⟩)] 23) = wa at hst ⊢
  generalize w1.heap.size = zb at hst ⊢
  clear HF0 HB1 HB2
  obtain ⟨c0, c1, c4, c5, c6, c7, l0, l1⟩ := hst.c
  refine wpIn_loop_rounds 3 ?_
  rw [roundsIn_succ]
  gi_wp2_with (first
    | (gi_at_call 13; refine (callsIn_wide.2 (nyask (show Yn _ _ from .inl rfl) x.s x.q)).mono ?_; rintro e wx ⟨rfl, hf⟩; replace hst := hst.kept hf; replace hst := hst.kept (Fr.alloc (Fr.refl (fun _ => False) wx) (.cells #[.int .i64 0, .int .i64 0, .int .i64 0, .int .i64 0] 34)); clear c0 c1 c4 c5 c6 c7 l0 l1; obtain ⟨c0, c1, c4, c5, c6, c7, l0, l1⟩ := hst.c; clear hf)
    | (gi_at_call 12; refine (callsIn_wide.2 (nyput (show Yn _ _ from .inl rfl) x.s x.q x.r)).mono ?_; rintro e wx ⟨rfl, hf⟩; replace hst := hst.kept hf; clear c0 c1 c4 c5 c6 c7 l0 l1; obtain ⟨c0, c1, c4, c5, c6, c7, l0, l1⟩ := hst.c; clear hf)
    | (gi_at_call 16; refine (callsIn_wide.2 (nylast (show Yn _ _ from .inl rfl) x.s)).mono ?_; rintro e wx ⟨rfl, rfl⟩)
    | (gi_at_call 21; refine (callsIn_wide.2 (nylen (show Yn _ _ from .inl rfl))).mono ?_; rintro e wx ⟨rfl, rfl⟩)
    | (gi_at_call 11; refine (callsIn_wide.2 (nyclone (show Yn _ _ from .inl rfl))).mono ?_; rintro e wx ⟨rfl, rfl⟩))
  refine (callsIn_wide.2 (nyrows (show Yn _ _ from .inl rfl))).mono ?_
  rintro e wn1 ⟨B1, ra1, rc1, rfl, hit1, hf⟩
  replace hst := hst.kept hf
  have hs1 := hst.fr.size
  clear hf
  gi_wp2_with fail
  refine wpIn_rangeV (w := wn1) rfl (by omega) (gf := 31) (lb := #[ptrY B1]) rfl trivial (enters_of Try.func31 (by kernel_rfl) rfl)
    (yiter_seq 8 (by omega) B1 rc1 _ ra1 [] (fun _ => False) wn1 hit1 (fun h => h) (fun _ _ h => h) (by simp)) (Below.refl _ _) (fun x => rfl) (fun h k => h.trans k) (fun W l o o' hl hW hc _ => Kz.putObj o' hW hc)
    (fun _ W => Fr (fun _ => False) wn1 W) (fun _ _ _ => False) (fun _ _ _ _ => False) (fun _ A B row hs hg hr => hs.own hg (fun r e => (hr r e).1)) (fun _ _ _ _ _ hs _ _ => hs) (Fr.refl _ _) (fun _ _ _ _ _ _ _ _ _ _ _ h => h) ?_ ?_ ?_ ?_
  · intro l pre x W0 W K _ _ hv
    have := hv.length_le
    simp at this
  · intro l pre x a1 W h
    exact h.elim
  rotate_left
  · intro D c pre W _ _ h
    exact h.elim
  intro D1 ys W1 hD1 _ hf hK1
  skip
  replace hst := hst.kept hf
  skip
  clear hf hit1 c0 c1 c4 c5 c6 c7 l0 l1
  obtain ⟨c0, c1, c4, c5, c6, c7, l0, l1⟩ := hst.c
  have hw1 := hst.fr.size
  gi_wp2
  rw [roundsIn_succ]
  have HD1 := hid (show D1 < W1.heap.size from lt_of_row hK1)
  gi_wp2_with (first
    | (gi_at_call 13; refine (callsIn_wide.2 (nyask (show Yn _ _ from .inr ⟨_, rfl, hst.z⟩) x.s x.q)).mono ?_; rintro e wx ⟨rfl, hf⟩; replace hK1 := hf.cells hK1 (fun h => h); replace hK1 := (Fr.alloc (Fr.refl (fun _ => False) wx) (.cells #[.int .i64 0, .int .i64 0, .int .i64 0, .int .i64 0] 34)).cells hK1 (fun h => h); replace hst := hst.kept hf; replace hst := hst.kept (Fr.alloc (Fr.refl (fun _ => False) wx) (.cells #[.int .i64 0, .int .i64 0, .int .i64 0, .int .i64 0] 34)); clear c0 c1 c4 c5 c6 c7 l0 l1; obtain ⟨c0, c1, c4, c5, c6, c7, l0, l1⟩ := hst.c; clear hf)
    | (gi_at_call 12; refine (callsIn_wide.2 (nyput (show Yn _ _ from .inr ⟨_, rfl, hst.z⟩) x.s x.q x.r)).mono ?_; rintro e wx ⟨rfl, hf⟩; replace hK1 := hf.cells hK1 (fun h => h); replace hst := hst.kept hf; clear c0 c1 c4 c5 c6 c7 l0 l1; obtain ⟨c0, c1, c4, c5, c6, c7, l0, l1⟩ := hst.c; clear hf)
    | (gi_at_call 16; refine (callsIn_wide.2 (nylast (show Yn _ _ from .inr ⟨_, rfl, hst.z⟩) x.s)).mono ?_; rintro e wx ⟨rfl, rfl⟩)
    | (gi_at_call 21; refine (callsIn_wide.2 (nylen (show Yn _ _ from .inr ⟨_, rfl, hst.z⟩))).mono ?_; rintro e wx ⟨rfl, rfl⟩)
    | (gi_at_call 11; refine (callsIn_wide.2 (nyclone (show Yn _ _ from .inr ⟨_, rfl, hst.z⟩))).mono ?_; rintro e wx ⟨rfl, rfl⟩))
  refine (callsIn_wide.2 (nyrows (show Yn _ _ from .inr ⟨_, rfl, hst.z⟩))).mono ?_
  rintro e wn2 ⟨B2, ra2, rc2, rfl, hit2, hf⟩
  replace hst := hst.kept hf
  replace hK1 := hf.cells hK1 (fun h => h)
  clear hf
  gi_wp2_with fail
  refine wpIn_rangeV (w := wn2) rfl (by omega) (gf := 31) (lb := #[ptrY B2]) rfl trivial (enters_of Try.func31 (by kernel_rfl) rfl)
    (yiter_seq 8 (by omega) B2 rc2 _ ra2 [] (fun _ => False) wn2 hit2 (fun h => h) (fun _ _ h => h) (by simp)) (Below.refl _ _) (fun x => rfl) (fun h k => h.trans k) (fun W l o o' hl hW hc _ => Kz.putObj o' hW hc)
    (fun _ W => Fr (fun _ => False) wn2 W) (fun _ _ _ => False) (fun _ _ _ _ => False) (fun _ A B row hs hg hr => hs.own hg (fun r e => (hr r e).1)) (fun _ _ _ _ _ hs _ _ => hs) (Fr.refl _ _) (fun _ _ _ _ _ _ _ _ _ _ _ h => h) ?_ ?_ ?_ ?_
  · intro l pre x W0 W K _ _ hv
    have := hv.length_le
    simp at this
  · intro l pre x a1 W h
    exact h.elim
  rotate_left
  · intro D c pre W _ _ h
    exact h.elim
  intro D2 ys W2 hD2 _ hf hK2
  have h12 : D1 < D2 := Nat.lt_of_lt_of_le (lt_of_row hK1) hD2
  replace hst := hst.kept hf
  replace hK1 := hf.cells hK1 (fun h => h)
  clear hf hit2 c0 c1 c4 c5 c6 c7 l0 l1
  obtain ⟨c0, c1, c4, c5, c6, c7, l0, l1⟩ := hst.c
  skip
  gi_wp2
  rw [roundsIn_succ]
  have r0 : W2.cell? ⟨w.heap.size + 1, 0, none⟩ = some (.bool false) := cellA hst.rb rfl
  have r1 : W2.frozen? ⟨w.heap.size + 1, 0, none⟩ = false := frozen_of_row hst.rb
  gi_wp2
  have hw : w.heap.size + 1 < W2.heap.size := lt_of_row hst.rb
  have n2 : D2 ≠ w.heap.size + 1 := fun e => by rw [e, hst.rb] at hK2; simp at hK2
  have n1 : D1 ≠ w.heap.size + 1 := fun e => by rw [e, hst.rb] at hK1; simp at hK1
  have n12 : D1 ≠ D2 := by omega
  have q2 : (W2.setCell ⟨w.heap.size + 1, 0, none⟩ (.bool true)).heap[D2]? = some (.deferred (some [])) := (Below.heap_setCell _ _ _ _ n2).trans hK2
  have q1 : ((W2.setCell ⟨w.heap.size + 1, 0, none⟩ (.bool true)).putObj D2 (.deferred none)).heap[D1]? = some (.deferred (some [])) := (World.putObj_heap_other n12).trans ((Below.heap_setCell _ _ _ _ n1).trans hK1)
  have qr : (((W2.setCell ⟨w.heap.size + 1, 0, none⟩ (.bool true)).putObj D2 (.deferred none)).putObj D1 (.deferred none)).heap[w.heap.size + 1]? = some (.cells #[.bool true] 4 (0, 0)) := by
    rw [World.putObj_heap_other n1.symm, World.putObj_heap_other n2.symm, setCell_row hst.rb]; rfl
  have qc : (((W2.setCell ⟨w.heap.size + 1, 0, none⟩ (.bool true)).putObj D2 (.deferred none)).putObj D1 (.deferred none)).cell? ⟨w.heap.size + 1, 0, none⟩ = some (.bool true) := cellA qr rfl
  refine ⟨by simp, .inl ⟨_, _, rfl, run_takeDeferred q2, ?_⟩⟩
  refine ⟨by simp, .inl ⟨_, _, rfl, run_takeDeferred q1, ?_⟩⟩
  refine ⟨.bool true, ?_, rfl, ?_⟩
  · simp [results, Try.f7, go_sem, qc]
  · have f1 : Fr (fun _ => False) w (W2.setCell ⟨w.heap.size + 1, 0, none⟩ (.bool true)) := Fr.setCell (p := ⟨w.heap.size + 1, 0, none⟩) hst.fr (fun h => by simp only at h; omega) _
    exact (f1.trans (Fr.of_grown (grownBy_putObj' _ D2 _)) (fun i hi e => by simp at e; omega)).trans (Fr.of_grown (grownBy_putObj' _ D1 _)) (fun i hi e => by simp at e; omega)
end Go.Proofs.Ytffjekhlloippaa

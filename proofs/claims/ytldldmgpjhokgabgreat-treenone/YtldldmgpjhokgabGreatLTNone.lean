/-
  TreeNone's walk.
-/
import Derived.Test.YtldldmgpjhokgabGreatTNone
import Derived.Stop.RegionWithIn
import Derived.LoopNIn
namespace Go.Proofs.YtldldmgpjhokgabGreat
open Go.RowKit Go.Maps Go.Shelf
set_option linter.unusedVariables false
set_option maxRecDepth 100000
attribute [local go_sem] Oper.semAt_some

/-- an operation of a script -/
structure T.Sop where
  d : Int
  o : S.Op
  wh : Int
  n : Int
  m : Int
  nm : ByteArray
  st : Int
abbrev T.Sop.cs (x : T.Sop) : Array Value := #[.int .i64 x.d, .int .i64 x.o.t, .int .i64 x.o.s, .int .i64 x.o.k, .int .i64 x.o.n, .int .i64 x.o.p, .string x.o.a, .string x.o.b, .string x.o.c, .int .i64 x.wh, .int .i64 x.n, .int .i64 x.m, .string x.nm, .int .i64 x.st]
/-- what the walk carries: the boxed operation, the result's cell, the zero tree, the two pointers -/
structure NTt (w W : World) (zb : Nat) (x : T.Sop) : Prop where
  fr : Fr (fun _ => False) w W
  bx : W.heap[w.heap.size]? = some (.cells x.cs 58 (0, 0))
  rb : W.heap[w.heap.size + 1]? = some (.cells #[.bool false] 4 (0, 0))
  z : W.heap[zb]? = some (.cells #[.map none, .int .i64 0, .int .i64 0] 61 (0, 0))
  l0 : W.cell? ⟨zb + 1, 0, none⟩ = some (.pointer none)
  l1 : W.cell? ⟨zb + 1, 1, none⟩ = some (.pointer (some ⟨zb, 0, none⟩))
theorem NTt.kept {w W W' : World} {zb : Nat} {x : T.Sop} (h : NTt w W zb x) (hf : Fr (fun _ => False) W W') : NTt w W' zb x :=
  ⟨h.fr.trans hf (fun _ _ h => h), hf.cells h.bx (fun h => h), hf.cells h.rb (fun h => h), hf.cells h.z (fun h => h), cellFr hf (fun h => h) h.l0, cellFr hf (fun h => h) h.l1⟩

theorem NTt.c {w W : World} {zb : Nat} {x : T.Sop} (h : NTt w W zb x) : W.cell? ⟨w.heap.size, 1, none⟩ = some (.int .i64 x.o.t) ∧ W.cell? ⟨w.heap.size, 2, none⟩ = some (.int .i64 x.o.s) ∧ W.cell? ⟨w.heap.size, 3, none⟩ = some (.int .i64 x.o.k) ∧ W.cell? ⟨w.heap.size, 4, none⟩ = some (.int .i64 x.o.n) ∧ W.cell? ⟨w.heap.size, 5, none⟩ = some (.int .i64 x.o.p) ∧ W.cell? ⟨w.heap.size, 6, none⟩ = some (.string x.o.a) ∧ W.cell? ⟨w.heap.size, 7, none⟩ = some (.string x.o.b) ∧ W.cell? ⟨w.heap.size, 8, none⟩ = some (.string x.o.c) ∧ W.cell? ⟨w.heap.size, 10, none⟩ = some (.int .i64 x.n) ∧ W.cell? ⟨w.heap.size, 12, none⟩ = some (.string x.nm) :=
  ⟨cellA (j := 1) h.bx rfl, cellA (j := 2) h.bx rfl, cellA (j := 3) h.bx rfl, cellA (j := 4) h.bx rfl, cellA (j := 5) h.bx rfl, cellA (j := 6) h.bx rfl, cellA (j := 7) h.bx rfl, cellA (j := 8) h.bx rfl, cellA (j := 10) h.bx rfl, cellA (j := 12) h.bx rfl⟩
set_option maxHeartbeats 8000000 in
theorem treeNone_walk (w : World) (x : T.Sop) (hi : x.o.in64) (hn : (Lit.int .i64 x.n).wf = true) :
    Calls Tryz.prog 4 #[.agg x.cs] w fun e w' => e = .returned (.bool true) ∧ Fr (fun _ => False) w w' := by
  have HI := hid hi
  have HNW := hid hn
  clear hi hn
  refine (callsIn_wide (n := 9)).1 ?_
  have hf0 : Fence.wide.fn 17 := trivial
  have hf1 : Fence.wide.fn 11 := trivial
  have hf2 : Fence.wide.fn 18 := trivial
  have hf3 : Fence.wide.fn 19 := trivial
  have hf4 : Fence.wide.fn 21 := trivial
  have hf5 : Fence.wide.fn 22 := trivial
  have hf6 : Fence.wide.fn 23 := trivial
  have hf7 : Fence.wide.fn 10 := trivial
  have hf8 : Fence.wide.fn 9 := trivial
  have hf9 : Fence.wide.fn 24 := trivial
  have hf10 : Fence.wide.fn 25 := trivial
  have hf11 : Fence.wide.fn 26 := trivial
  have hf90 : Fence.wide.fn 20 := trivial
  refine callsIn_of_wp_marks Tryz.func4 rfl trivial ?_ rfl
  simp only [Tryz.ntmps4, List.size_toArray, List.length_cons, List.length_nil, Nat.reduceAdd, Nat.reduceSub, Array.replicate_succ, Array.replicate_zero, List.push_toArray, List.append_toArray, List.nil_append, List.cons_append]
  gi_wp2_with fail
  refine ⟨trivial, (callsIn_wide.2 (tbegun_any _)).mono ?_⟩
  rintro e w1 ⟨rfl, hf1⟩
  have hf0 : Fr (fun _ => False) w w1 := (Fr.alloc (Fr.alloc (Fr.refl _ _) _) _).trans hf1 (fun _ _ h => h)
  have hb1 := hf1.cells (Below.heap_alloc _ _ w.heap.size (by simp) |>.trans (Go.heap_alloc_new w _)) (fun h => h)
  have hb2 := hf1.cells (Go.heap_alloc_new (w.alloc _) _) (fun h => h)
  rw [World.size_alloc] at hb2
  have HF0 := hid hf0
  have HB1 := hid hb1
  have HB2 := hid hb2
  clear hf0 hf1 hb1 hb2
  gi_wp2
  have hst : NTt w ((w1.alloc (.cells #[.map none, .int .i64 0, .int .i64 0] 61)).alloc (.cells #[.pointer none, .pointer (some ⟨w1.heap.size, 0, none⟩)] 24)) w1.heap.size x := by
    have f2 : Fr (fun _ => False) w1 ((w1.alloc (.cells #[.map none, .int .i64 0, .int .i64 0] 61)).alloc (.cells #[.pointer none, .pointer (some ⟨w1.heap.size, 0, none⟩)] 24)) := Fr.alloc (Fr.alloc (Fr.refl _ _) _) _
    have hz := Below.heap_alloc (w1.alloc (.cells #[.map none, .int .i64 0, .int .i64 0] 61)) (.cells #[.pointer none, .pointer (some ⟨w1.heap.size, 0, none⟩)] 24) w1.heap.size (by simp) |>.trans (Go.heap_alloc_new w1 _)
    have hl := Go.heap_alloc_new (w1.alloc (.cells #[.map none, .int .i64 0, .int .i64 0] 61)) (.cells #[.pointer none, .pointer (some ⟨w1.heap.size, 0, none⟩)] 24)
    rw [World.size_alloc] at hl
    exact ⟨HF0.out.trans f2 (fun _ _ h => h), f2.cells HB1.out (fun h => h), f2.cells HB2.out (fun h => h), hz, cellA hl rfl, cellA hl rfl⟩
  generalize (w1.alloc (.cells #[.map none, .int .i64 0, .int .i64 0] 61)).alloc (.cells #[.pointer none, .pointer (some ⟨w1.heap.size, 0, none⟩)] 24) = wa at hst ⊢
  generalize w1.heap.size = zb at hst ⊢
  clear HF0 HB1 HB2
  obtain ⟨c1, c2, c3, c4, c5, c6, c7, c8, c10, c12⟩ := hst.c
  have l0 := hst.l0
  refine wpIn_loop_rounds 3 ?_
  rw [roundsIn_succ]
  gi_wp2_with (first
    | (gi_at_call 17; refine (callsIn_wide.2 (ntDo (.inl rfl) x.o HI.out)).mono ?_; rintro e wx ⟨rfl, hf⟩; replace hst := hst.kept hf; replace hst := hst.kept (Fr.alloc (Fr.refl (fun _ => False) wx) (.cells #[.pointer none] 65)); clear c1 c2 c3 c4 c5 c6 c7 c8 c10 c12; obtain ⟨c1, c2, c3, c4, c5, c6, c7, c8, c10, c12⟩ := hst.c; clear hf)
    | (gi_at_call 11; refine (callsIn_wide.2 (ntNode (.inl rfl) HNW.out)).mono ?_; rintro e wx ⟨rfl, hf⟩; replace hst := hst.kept hf; replace hst := hst.kept (Fr.alloc (Fr.refl (fun _ => False) wx) (.cells #[.int .i64 0, .int .i64 0, .string ⟨#[]⟩, .slice none 0 0] 39)); clear c1 c2 c3 c4 c5 c6 c7 c8 c10 c12; obtain ⟨c1, c2, c3, c4, c5, c6, c7, c8, c10, c12⟩ := hst.c; clear hf)
    | (gi_at_call 18; refine (callsIn_wide.2 (ntLookup (.inl rfl) HNW.out x.nm)).mono ?_; rintro e wx ⟨rfl, rfl⟩)
    | (gi_at_call 19; refine (callsIn_wide.2 (ntAttr (.inl rfl) HNW.out x.nm)).mono ?_; rintro e wx ⟨rfl, rfl⟩)
    | (gi_at_call 20; refine (callsIn_wide.2 (same_zero _)).mono ?_; rintro e wx ⟨rfl, hf⟩; replace hst := hst.kept hf; clear c1 c2 c3 c4 c5 c6 c7 c8 c10 c12; obtain ⟨c1, c2, c3, c4, c5, c6, c7, c8, c10, c12⟩ := hst.c; clear hf)
    | (gi_at_call 21; refine (callsIn_wide.2 (ntMay (.inl rfl) x.o HI.out)).mono ?_; rintro e wx ⟨rfl, hf⟩; replace hst := hst.kept hf; clear c1 c2 c3 c4 c5 c6 c7 c8 c10 c12; obtain ⟨c1, c2, c3, c4, c5, c6, c7, c8, c10, c12⟩ := hst.c; clear hf)
    | (gi_at_call 22; refine (callsIn_wide.2 (ntBack (.inl rfl))).mono ?_; rintro e wx ⟨rfl, hf⟩; replace hst := hst.kept hf; clear c1 c2 c3 c4 c5 c6 c7 c8 c10 c12; obtain ⟨c1, c2, c3, c4, c5, c6, c7, c8, c10, c12⟩ := hst.c; clear hf)
    | (gi_at_call 23; refine (callsIn_wide.2 (ntBelow (.inl rfl) HNW.out x.n)).mono ?_; rintro e wx ⟨rfl, rfl⟩)
    | (gi_at_call 10; refine (callsIn_wide.2 (ntChildren (.inl rfl) HNW.out)).mono ?_; rintro e wx ⟨rfl, rfl⟩)
    | (gi_at_call 9; refine (callsIn_wide.2 (ntNodes (.inl rfl))).mono ?_; rintro e wx ⟨rfl, rfl⟩)
    | (gi_at_call 24; refine (callsIn_wide.2 (ntLen (.inl rfl))).mono ?_; rintro e wx ⟨rfl, rfl⟩)
    | (gi_at_call 25; refine (callsIn_wide.2 (ntClone (.inl rfl))).mono ?_; rintro e wx ⟨rfl, rfl⟩))
  refine (callsIn_wide.2 (ntWalk (.inl rfl) (by decide))).mono ?_
  rintro e wn1 ⟨B1, rfl, hit1, hf⟩
  replace hst := hst.kept hf
  have hs1 := hst.fr.size
  skip
  clear hf
  have hBl1 := lt_of_row hit1
  gi_wp2_with fail
  refine wpIn_rangeV (w := wn1) rfl (by omega) (gf := 52) (lb := #[ptr B1]) rfl trivial (enters_of Tryz.func52 (by kernel_rfl) rfl)
    (walk1_seq 8 hit1 (fun _ _ _ _ => True) (fun _ _ => True)) (Below.refl _ _) (fun x => x.elim) (fun _ _ => trivial) (fun _ _ _ _ _ _ _ _ => trivial)
    (fun _ W => Fr (fun _ => False) wn1 W) (fun _ _ _ => False) (fun _ _ _ _ => False) (fun _ A B row hs hg hr => hs.own hg (fun r e => (hr r e).1)) (fun _ _ _ _ _ hs _ _ => hs) (Fr.refl _ _) (fun _ x => x.elim) ?_ ?_ ?_ ?_
  · intro l pre x
    exact x.elim
  · intro l pre x
    exact x.elim
  rotate_left
  · intro D c pre W _ h
    exact h.elim
  intro D1 ys W1 hD1 _ hf hK1
  replace hst := hst.kept hf
  skip
  clear c1 c2 c3 c4 c5 c6 c7 c8 c10 c12
  obtain ⟨c1, c2, c3, c4, c5, c6, c7, c8, c10, c12⟩ := hst.c
  have l0 := hst.l0
  have l1 := hst.l1
  clear hf hit1
  gi_wp2
  clear l1
  have l1 := hst.l1
  clear l0
  rw [roundsIn_succ]
  gi_wp2_with (first
    | (gi_at_call 17; refine (callsIn_wide.2 (ntDo (.inr ⟨_, rfl, by first | exact hst.z⟩) x.o HI.out)).mono ?_; rintro e wx ⟨rfl, hf⟩; replace hst := hst.kept hf; replace hK1 := hf.cells hK1 (fun h => h); replace hK1 := (Fr.alloc (Fr.refl (fun _ => False) wx) (.cells #[.pointer none] 65)).cells hK1 (fun h => h); replace hst := hst.kept (Fr.alloc (Fr.refl (fun _ => False) wx) (.cells #[.pointer none] 65)); clear c1 c2 c3 c4 c5 c6 c7 c8 c10 c12; obtain ⟨c1, c2, c3, c4, c5, c6, c7, c8, c10, c12⟩ := hst.c; clear hf)
    | (gi_at_call 11; refine (callsIn_wide.2 (ntNode (.inr ⟨_, rfl, by first | exact hst.z⟩) HNW.out)).mono ?_; rintro e wx ⟨rfl, hf⟩; replace hst := hst.kept hf; replace hK1 := hf.cells hK1 (fun h => h); replace hK1 := (Fr.alloc (Fr.refl (fun _ => False) wx) (.cells #[.int .i64 0, .int .i64 0, .string ⟨#[]⟩, .slice none 0 0] 39)).cells hK1 (fun h => h); replace hst := hst.kept (Fr.alloc (Fr.refl (fun _ => False) wx) (.cells #[.int .i64 0, .int .i64 0, .string ⟨#[]⟩, .slice none 0 0] 39)); clear c1 c2 c3 c4 c5 c6 c7 c8 c10 c12; obtain ⟨c1, c2, c3, c4, c5, c6, c7, c8, c10, c12⟩ := hst.c; clear hf)
    | (gi_at_call 18; refine (callsIn_wide.2 (ntLookup (.inr ⟨_, rfl, by first | exact hst.z⟩) HNW.out x.nm)).mono ?_; rintro e wx ⟨rfl, rfl⟩)
    | (gi_at_call 19; refine (callsIn_wide.2 (ntAttr (.inr ⟨_, rfl, by first | exact hst.z⟩) HNW.out x.nm)).mono ?_; rintro e wx ⟨rfl, rfl⟩)
    | (gi_at_call 20; refine (callsIn_wide.2 (same_zero _)).mono ?_; rintro e wx ⟨rfl, hf⟩; replace hst := hst.kept hf; replace hK1 := hf.cells hK1 (fun h => h); clear c1 c2 c3 c4 c5 c6 c7 c8 c10 c12; obtain ⟨c1, c2, c3, c4, c5, c6, c7, c8, c10, c12⟩ := hst.c; clear hf)
    | (gi_at_call 21; refine (callsIn_wide.2 (ntMay (.inr ⟨_, rfl, by first | exact hst.z⟩) x.o HI.out)).mono ?_; rintro e wx ⟨rfl, hf⟩; replace hst := hst.kept hf; replace hK1 := hf.cells hK1 (fun h => h); clear c1 c2 c3 c4 c5 c6 c7 c8 c10 c12; obtain ⟨c1, c2, c3, c4, c5, c6, c7, c8, c10, c12⟩ := hst.c; clear hf)
    | (gi_at_call 22; refine (callsIn_wide.2 (ntBack (.inr ⟨_, rfl, by first | exact hst.z⟩))).mono ?_; rintro e wx ⟨rfl, hf⟩; replace hst := hst.kept hf; replace hK1 := hf.cells hK1 (fun h => h); clear c1 c2 c3 c4 c5 c6 c7 c8 c10 c12; obtain ⟨c1, c2, c3, c4, c5, c6, c7, c8, c10, c12⟩ := hst.c; clear hf)
    | (gi_at_call 23; refine (callsIn_wide.2 (ntBelow (.inr ⟨_, rfl, by first | exact hst.z⟩) HNW.out x.n)).mono ?_; rintro e wx ⟨rfl, rfl⟩)
    | (gi_at_call 10; refine (callsIn_wide.2 (ntChildren (.inr ⟨_, rfl, by first | exact hst.z⟩) HNW.out)).mono ?_; rintro e wx ⟨rfl, rfl⟩)
    | (gi_at_call 9; refine (callsIn_wide.2 (ntNodes (.inr ⟨_, rfl, by first | exact hst.z⟩))).mono ?_; rintro e wx ⟨rfl, rfl⟩)
    | (gi_at_call 24; refine (callsIn_wide.2 (ntLen (.inr ⟨_, rfl, by first | exact hst.z⟩))).mono ?_; rintro e wx ⟨rfl, rfl⟩)
    | (gi_at_call 25; refine (callsIn_wide.2 (ntClone (.inr ⟨_, rfl, by first | exact hst.z⟩))).mono ?_; rintro e wx ⟨rfl, rfl⟩))
  refine (callsIn_wide.2 (ntWalk (.inr ⟨_, rfl, hst.z⟩) (by decide))).mono ?_
  rintro e wn2 ⟨B2, rfl, hit2, hf⟩
  replace hst := hst.kept hf
  have hs2 := hst.fr.size
  replace hK1 := hf.cells hK1 (fun h => h); have hlt1 := lt_of_row hK1
  clear hf
  have hBl2 := lt_of_row hit2
  gi_wp2_with fail
  refine wpIn_rangeV (w := wn2) rfl (by omega) (gf := 52) (lb := #[ptr B2]) rfl trivial (enters_of Tryz.func52 (by kernel_rfl) rfl)
    (walk1_seq 8 hit2 (fun _ _ _ _ => True) (fun _ _ => True)) (Below.refl _ _) (fun x => x.elim) (fun _ _ => trivial) (fun _ _ _ _ _ _ _ _ => trivial)
    (fun _ W => Fr (fun _ => False) wn2 W) (fun _ _ _ => False) (fun _ _ _ _ => False) (fun _ A B row hs hg hr => hs.own hg (fun r e => (hr r e).1)) (fun _ _ _ _ _ hs _ _ => hs) (Fr.refl _ _) (fun _ x => x.elim) ?_ ?_ ?_ ?_
  · intro l pre x
    exact x.elim
  · intro l pre x
    exact x.elim
  rotate_left
  · intro D c pre W _ h
    exact h.elim
  intro D2 ys W2 hD2 _ hf hK2
  replace hst := hst.kept hf
  replace hK1 := hf.cells hK1 (fun h => h)
  clear c1 c2 c3 c4 c5 c6 c7 c8 c10 c12
  obtain ⟨c1, c2, c3, c4, c5, c6, c7, c8, c10, c12⟩ := hst.c
  have l0 := hst.l0
  have l1 := hst.l1
  clear hf hit2
  gi_wp2
  rw [roundsIn_succ]
  have r0 : W2.cell? ⟨w.heap.size + 1, 0, none⟩ = some (.bool false) := cellA hst.rb rfl
  have r1 : W2.frozen? ⟨w.heap.size + 1, 0, none⟩ = false := frozen_of_row hst.rb
  gi_wp2
  have hw : w.heap.size + 1 < W2.heap.size := lt_of_row hst.rb
  have n2 : D2 ≠ w.heap.size + 1 := fun e => by rw [e, hst.rb] at hK2; simp at hK2
  have n1 : D1 ≠ w.heap.size + 1 := fun e => by rw [e, hst.rb] at hK1; simp at hK1
  have n12 : D1 ≠ D2 := by omega
  have g1 : D1 < w.heap.size → False := fun h => by omega
  have q2 : (W2.setCell ⟨w.heap.size + 1, 0, none⟩ (.bool true)).heap[D2]? = some (.deferred (some [])) := (Below.heap_setCell _ _ _ _ n2).trans hK2
  have q1 : ((W2.setCell ⟨w.heap.size + 1, 0, none⟩ (.bool true)).putObj D2 (.deferred none)).heap[D1]? = some (.deferred (some [])) := (World.putObj_heap_other n12).trans ((Below.heap_setCell _ _ _ _ n1).trans hK1)
  have qr : (((W2.setCell ⟨w.heap.size + 1, 0, none⟩ (.bool true)).putObj D2 (.deferred none)).putObj D1 (.deferred none)).heap[w.heap.size + 1]? = some (.cells #[.bool true] 4 (0, 0)) := by
    rw [World.putObj_heap_other n1.symm, World.putObj_heap_other n2.symm, setCell_row hst.rb]; rfl
  have qc : (((W2.setCell ⟨w.heap.size + 1, 0, none⟩ (.bool true)).putObj D2 (.deferred none)).putObj D1 (.deferred none)).cell? ⟨w.heap.size + 1, 0, none⟩ = some (.bool true) := cellA qr rfl
  refine ⟨by simp, .inl ⟨_, _, rfl, run_takeDeferred q2, ?_⟩⟩
  refine ⟨by simp, .inl ⟨_, _, rfl, run_takeDeferred q1, ?_⟩⟩
  refine ⟨.bool true, ?_, rfl, ?_⟩
  · simp [results, Tryz.f4, go_sem, qc]
  · have f1 : Fr (fun _ => False) w (W2.setCell ⟨w.heap.size + 1, 0, none⟩ (.bool true)) := Fr.setCell (p := ⟨w.heap.size + 1, 0, none⟩) hst.fr (fun h => by simp only at h; omega) _
    exact (f1.trans (Fr.of_grown (grownBy_putObj' _ D2 _)) (fun i hi e => by simp at e; omega)).trans (Fr.of_grown (grownBy_putObj' _ D1 _)) (fun i hi e => by simp at e; exact g1 (e ▸ hi))

end Go.Proofs.YtldldmgpjhokgabGreat

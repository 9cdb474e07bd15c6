/-
  AcceptorNone's walk. (gen/gen_lanone.py)
-/
import Derived.Test.YtfegipnogfiphabANone
namespace Go.Proofs.Ytfegipnogfiphab
open Go.RowKit Go.Maps Go.Shelf
set_option linter.unusedVariables false
attribute [local go_sem] Oper.semAt_some

/-- what the walk carries: the boxed ballot, the result's cell, the zero acceptor, the two pointers -/
structure NT (w W : World) (zb : Nat) (b1 b2 : Int) : Prop where
  fr : Fr (fun _ => False) w W
  c0 : W.cell? ⟨w.heap.size, 0, none⟩ = some (.int .i64 b1)
  c1 : W.cell? ⟨w.heap.size, 1, none⟩ = some (.int .i64 b2)
  rb : W.heap[w.heap.size + 1]? = some (.cells #[.bool false] 4 (0, 0))
  z : W.heap[zb]? = some (.cells #[.int .i64 0, .int .i64 0, .int .i64 0, .map none] 28 (0, 0))
  l0 : W.cell? ⟨zb + 1, 0, none⟩ = some (.pointer none)
  l1 : W.cell? ⟨zb + 1, 1, none⟩ = some (.pointer (some ⟨zb, 0, none⟩))
theorem NT.kept {w W W' : World} {zb : Nat} {b1 b2 : Int} (h : NT w W zb b1 b2) (hf : Fr (fun _ => False) W W') : NT w W' zb b1 b2 :=
  ⟨h.fr.trans hf (fun _ _ h => h), cellFr hf (fun h => h) h.c0, cellFr hf (fun h => h) h.c1, hf.cells h.rb (fun h => h), hf.cells h.z (fun h => h), cellFr hf (fun h => h) h.l0, cellFr hf (fun h => h) h.l1⟩

set_option maxRecDepth 100000 in
set_option maxHeartbeats 8000000 in
theorem acceptorNone_walk (w : World) (b1 b2 s : Int) :
    Calls Try.prog 3 #[.agg #[.int .i64 b1, .int .i64 b2], .int .i64 s] w fun e w' => e = .returned (.bool true) ∧ Fr (fun _ => False) w w' := by
  refine (callsIn_wide (n := 9)).1 ?_
  have hf0 : Fence.wide.fn 6 := trivial
  have hf1 : Fence.wide.fn 7 := trivial
  have hf2 : Fence.wide.fn 8 := trivial
  have hf3 : Fence.wide.fn 9 := trivial
  have hf4 : Fence.wide.fn 10 := trivial
  have hf5 : Fence.wide.fn 11 := trivial
  have hf6 : Fence.wide.fn 12 := trivial
  have hf7 : Fence.wide.fn 13 := trivial
  have hf8 : Fence.wide.fn 14 := trivial
  refine callsIn_of_wp_marks Try.func3 rfl trivial ?_ rfl
  simp only [Try.ntmps3, List.size_toArray, List.length_cons, List.length_nil, Nat.reduceAdd, Nat.reduceSub, Array.replicate_succ, Array.replicate_zero, List.push_toArray, List.append_toArray, List.nil_append, List.cons_append]
  gi_wp2_with fail
  refine ⟨trivial, (callsIn_wide.2 (live_any _)).mono ?_⟩
  rintro e w1 ⟨rfl, hf1⟩
  have hf0 : Fr (fun _ => False) w w1 := (Fr.alloc (Fr.alloc (Fr.refl _ _) _) _).trans hf1 (fun _ _ h => h)
  have hb1 := hf1.cells (Below.heap_alloc _ _ w.heap.size (by simp) |>.trans (Go.heap_alloc_new w _)) (fun h => h)
  have hb2 := hf1.cells (Go.heap_alloc_new (w.alloc _) _) (fun h => h)
  rw [World.size_alloc] at hb2
  have HF0 := hid hf0
  have HB1 := hid hb1
  have HB2 := hid hb2
  clear hf0 hf1 hb1 hb2
  gi_wp2
  have hst : NT w ((w1.alloc (.cells #[.int .i64 0, .int .i64 0, .int .i64 0, .map none] 28)).alloc (.cells #[.pointer none, .pointer (some ⟨w1.heap.size, 0, none⟩)] 25)) w1.heap.size b1 b2 := by
    have f2 : Fr (fun _ => False) w1 ((w1.alloc (.cells #[.int .i64 0, .int .i64 0, .int .i64 0, .map none] 28)).alloc (.cells #[.pointer none, .pointer (some ⟨w1.heap.size, 0, none⟩)] 25)) := Fr.alloc (Fr.alloc (Fr.refl _ _) _) _
    have hz := Below.heap_alloc (w1.alloc (.cells #[.int .i64 0, .int .i64 0, .int .i64 0, .map none] 28)) (.cells #[.pointer none, .pointer (some ⟨w1.heap.size, 0, none⟩)] 25) w1.heap.size (by simp) |>.trans (Go.heap_alloc_new w1 _)
    have hl := Go.heap_alloc_new (w1.alloc (.cells #[.int .i64 0, .int .i64 0, .int .i64 0, .map none] 28)) (.cells #[.pointer none, .pointer (some ⟨w1.heap.size, 0, none⟩)] 25)
    rw [World.size_alloc] at hl
    exact ⟨HF0.out.trans f2 (fun _ _ h => h), cellFr f2 (fun h => h) (cellA HB1.out rfl), cellFr f2 (fun h => h) (cellA HB1.out rfl), f2.cells HB2.out (fun h => h), hz, cellA hl rfl, cellA hl rfl⟩
  generalize (w1.alloc (.cells #[.int .i64 0, .int .i64 0, .int .i64 0, .map none] 28)).alloc (.cells #[.pointer none, .pointer (some ⟨w1.heap.size, 0, none⟩)] 25) = wa at hst ⊢
  generalize w1.heap.size = zb at hst ⊢
  clear HF0 HB1 HB2
  have c0 := hst.c0
  have c1 := hst.c1
  have l0 := hst.l0
  refine wpIn_loop_rounds 3 ?_
  rw [roundsIn_succ]
  gi_wp2_with (first
    | (gi_at_call 6; refine (callsIn_wide.2 (noPrepare (.inl rfl) b1 b2 s)).mono ?_; rintro e wx ⟨rfl, hf⟩; replace hst := hst.kept hf; replace c0 := hst.c0; replace c1 := hst.c1; clear hf)
    | (gi_at_call 7; refine (callsIn_wide.2 (noAt (.inl rfl) s)).mono ?_; rintro e wx ⟨rfl, hf⟩; replace hst := hst.kept hf; replace c0 := hst.c0; replace c1 := hst.c1; clear hf; obtain ⟨V, st, hbV, fV⟩ := box_whole (V := wx.alloc (.cells zS59 50)) (c := zS59) (Go.heap_alloc_new wx _) rfl (by kernel_rfl) (by kernel_rfl); have fWV : Fr (fun _ => False) wx V := (Fr.alloc (Fr.refl (fun _ => False) wx) _).trans fV (fun i hi e => by omega); have STO := hid st; have HFV := hid fWV; have HBV := hid hbV; clear st hbV fV fWV)
    | (refine wpListIn_store_v (by exact STO.out) rfl (by exact ⟨_, _, rfl, rfl, rfl⟩) ?_; have hf := HFV.out; replace hst := hst.kept hf; replace c0 := hst.c0; replace c1 := hst.c1; clear hf; have x0 := cellA (j := 0) HBV.out (show zS59[0]? = some (.int .i64 0) from rfl))
    | (gi_at_call 8; refine (callsIn_wide.2 (noAccept (.inl rfl) b1 b2 s _ rfl)).mono ?_; rintro e wx ⟨rfl, hf⟩; replace x0 := cellFr hf (fun h => h) x0; replace hst := hst.kept hf; replace c0 := hst.c0; replace c1 := hst.c1; clear hf)
    | (gi_at_call 9; refine (callsIn_wide.2 (noForget (.inl rfl) s)).mono ?_; rintro e wx ⟨rfl, hf⟩; replace x0 := cellFr hf (fun h => h) x0; replace hst := hst.kept hf; replace c0 := hst.c0; replace c1 := hst.c1; clear hf)
    | (gi_at_call 10; refine (callsIn_wide.2 (noPromised (.inl rfl))).mono ?_; rintro e wx ⟨rfl, hf⟩; replace x0 := cellFr hf (fun h => h) x0; replace hst := hst.kept hf; replace c0 := hst.c0; replace c1 := hst.c1; clear hf)
    | (gi_at_call 11; refine (callsIn_wide.2 (noFirst (.inl rfl))).mono ?_; rintro e wx ⟨rfl, rfl⟩)
    | (gi_at_call 12; refine (callsIn_wide.2 (noLen (.inl rfl))).mono ?_; rintro e wx ⟨rfl, rfl⟩)
    | (gi_at_call 13; refine (callsIn_wide.2 (noClone (.inl rfl))).mono ?_; rintro e wx ⟨rfl, rfl⟩))
  refine (callsIn_wide.2 (noAll (.inl rfl) 0)).mono ?_
  rintro e wn1 ⟨B1, rfl, hit1, hf⟩
  replace hst := hst.kept hf
  have hs1 := hst.fr.size
  skip
  clear hf
  have hBl1 := lt_of_row hit1.bx
  gi_wp2_with fail
  refine wpIn_rangeV (w := wn1) rfl (by omega) (gf := 30) (lb := #[ptrV B1]) rfl trivial (enters_of Try.func30 (by kernel_rfl) rfl)
    (all1_seq 8 (by omega) B1 0 none [] (fun k => k = B1) (fun k => ¬ k = B1) wn1 hit1 (fun k h n => n h) (by simp)) (Below.refl _ _) (fun _ => rfl) (fun h k => h.trans k) (fun W l o o' hl hW hc _ => Kz.putObj o' hW hc)
    (fun _ W => Fr (fun _ => False) wn1 W) (fun _ _ _ => False) (fun _ _ _ _ => False) (fun _ A B row hs hg hr => hs.own hg (fun r e => (hr r e).1)) (fun _ _ _ _ _ hs _ _ => hs) (Fr.refl _ _) (fun _ _ _ _ _ _ _ _ _ _ _ h => h) ?_ ?_ ?_ ?_
  · intro l pre x W0 W K _ _ hv _
    have := hv.1
    simp at this
  · intro l pre x a1 W h
    exact h.elim
  rotate_left
  · intro D c pre W _ _ h _
    exact h.elim
  intro D1 ys W1 hD1 _ hf hK1
  replace hst := hst.kept hf
  skip
  replace c0 := hst.c0; replace c1 := hst.c1
  have l0 := hst.l0
  have l1 := hst.l1
  clear hf hit1
  gi_wp2
  clear l1 x0
  have l1 := hst.l1
  clear l0
  rw [roundsIn_succ]
  gi_wp2_with (first
    | (gi_at_call 6; refine (callsIn_wide.2 (noPrepare (.inr ⟨_, rfl, hst.z⟩) b1 b2 s)).mono ?_; rintro e wx ⟨rfl, hf⟩; replace hK1 := hf.cells hK1 (fun h => h); replace hst := hst.kept hf; replace c0 := hst.c0; replace c1 := hst.c1; clear hf)
    | (gi_at_call 7; refine (callsIn_wide.2 (noAt (.inr ⟨_, rfl, hst.z⟩) s)).mono ?_; rintro e wx ⟨rfl, hf⟩; replace hK1 := hf.cells hK1 (fun h => h); replace hst := hst.kept hf; replace c0 := hst.c0; replace c1 := hst.c1; clear hf; obtain ⟨V, st, hbV, fV⟩ := box_whole (V := wx.alloc (.cells zS59 50)) (c := zS59) (Go.heap_alloc_new wx _) rfl (by kernel_rfl) (by kernel_rfl); have fWV : Fr (fun _ => False) wx V := (Fr.alloc (Fr.refl (fun _ => False) wx) _).trans fV (fun i hi e => by omega); have STO := hid st; have HFV := hid fWV; have HBV := hid hbV; clear st hbV fV fWV)
    | (refine wpListIn_store_v (by exact STO.out) rfl (by exact ⟨_, _, rfl, rfl, rfl⟩) ?_; have hf := HFV.out; replace hK1 := hf.cells hK1 (fun h => h); replace hst := hst.kept hf; replace c0 := hst.c0; replace c1 := hst.c1; clear hf; have x0 := cellA (j := 0) HBV.out (show zS59[0]? = some (.int .i64 0) from rfl))
    | (gi_at_call 8; refine (callsIn_wide.2 (noAccept (.inr ⟨_, rfl, hst.z⟩) b1 b2 s _ rfl)).mono ?_; rintro e wx ⟨rfl, hf⟩; replace x0 := cellFr hf (fun h => h) x0; replace hK1 := hf.cells hK1 (fun h => h); replace hst := hst.kept hf; replace c0 := hst.c0; replace c1 := hst.c1; clear hf)
    | (gi_at_call 9; refine (callsIn_wide.2 (noForget (.inr ⟨_, rfl, hst.z⟩) s)).mono ?_; rintro e wx ⟨rfl, hf⟩; replace x0 := cellFr hf (fun h => h) x0; replace hK1 := hf.cells hK1 (fun h => h); replace hst := hst.kept hf; replace c0 := hst.c0; replace c1 := hst.c1; clear hf)
    | (gi_at_call 10; refine (callsIn_wide.2 (noPromised (.inr ⟨_, rfl, hst.z⟩))).mono ?_; rintro e wx ⟨rfl, hf⟩; replace x0 := cellFr hf (fun h => h) x0; replace hK1 := hf.cells hK1 (fun h => h); replace hst := hst.kept hf; replace c0 := hst.c0; replace c1 := hst.c1; clear hf)
    | (gi_at_call 11; refine (callsIn_wide.2 (noFirst (.inr ⟨_, rfl, hst.z⟩))).mono ?_; rintro e wx ⟨rfl, rfl⟩)
    | (gi_at_call 12; refine (callsIn_wide.2 (noLen (.inr ⟨_, rfl, hst.z⟩))).mono ?_; rintro e wx ⟨rfl, rfl⟩)
    | (gi_at_call 13; refine (callsIn_wide.2 (noClone (.inr ⟨_, rfl, hst.z⟩))).mono ?_; rintro e wx ⟨rfl, rfl⟩))
  refine (callsIn_wide.2 (noAll (.inr ⟨_, rfl, hst.z⟩) 0)).mono ?_
  rintro e wn2 ⟨B2, rfl, hit2, hf⟩
  replace hst := hst.kept hf
  have hs2 := hst.fr.size
  replace hK1 := hf.cells hK1 (fun h => h); have hlt1 := lt_of_row hK1
  clear hf
  have hBl2 := lt_of_row hit2.bx
  gi_wp2_with fail
  refine wpIn_rangeV (w := wn2) rfl (by omega) (gf := 30) (lb := #[ptrV B2]) rfl trivial (enters_of Try.func30 (by kernel_rfl) rfl)
    (all1_seq 8 (by omega) B2 0 none [] (fun k => k = B2) (fun k => ¬ k = B2) wn2 hit2 (fun k h n => n h) (by simp)) (Below.refl _ _) (fun _ => rfl) (fun h k => h.trans k) (fun W l o o' hl hW hc _ => Kz.putObj o' hW hc)
    (fun _ W => Fr (fun _ => False) wn2 W) (fun _ _ _ => False) (fun _ _ _ _ => False) (fun _ A B row hs hg hr => hs.own hg (fun r e => (hr r e).1)) (fun _ _ _ _ _ hs _ _ => hs) (Fr.refl _ _) (fun _ _ _ _ _ _ _ _ _ _ _ h => h) ?_ ?_ ?_ ?_
  · intro l pre x W0 W K _ _ hv _
    have := hv.1
    simp at this
  · intro l pre x a1 W h
    exact h.elim
  rotate_left
  · intro D c pre W _ _ h _
    exact h.elim
  intro D2 ys W2 hD2 _ hf hK2
  replace hst := hst.kept hf
  replace hK1 := hf.cells hK1 (fun h => h)
  replace c0 := hst.c0; replace c1 := hst.c1
  have l0 := hst.l0
  have l1 := hst.l1
  clear hf hit2
  gi_wp2
  rw [roundsIn_succ]
  have r0 : W2.cell? ⟨w.heap.size + 1, 0, none⟩ = some (.bool false) := cellA hst.rb rfl
  have r1 : W2.frozen? ⟨w.heap.size + 1, 0, none⟩ = false := frozen_of_row hst.rb
  gi_wp2
  have hw : w.heap.size + 1 < W2.heap.size := lt_of_row hst.rb
  have n2 : D2 ≠ w.heap.size + 1 := fun e => by rw [e, hst.rb] at hK2; simp at hK2
  have n1 : D1 ≠ w.heap.size + 1 := fun e => by rw [e, hst.rb] at hK1; simp at hK1
  have n12 : D1 ≠ D2 := by omega
  have g1 : D1 < w.heap.size → False := fun h => by omega
  have q2 : (W2.setCell ⟨w.heap.size + 1, 0, none⟩ (.bool true)).heap[D2]? = some (.deferred (some [])) := (Below.heap_setCell _ _ _ _ n2).trans hK2
  have q1 : ((W2.setCell ⟨w.heap.size + 1, 0, none⟩ (.bool true)).putObj D2 (.deferred none)).heap[D1]? = some (.deferred (some [])) := (World.putObj_heap_other n12).trans ((Below.heap_setCell _ _ _ _ n1).trans hK1)
  have qr : (((W2.setCell ⟨w.heap.size + 1, 0, none⟩ (.bool true)).putObj D2 (.deferred none)).putObj D1 (.deferred none)).heap[w.heap.size + 1]? = some (.cells #[.bool true] 4 (0, 0)) := by
    rw [World.putObj_heap_other n1.symm, World.putObj_heap_other n2.symm, setCell_row hst.rb]; rfl
  have qc : (((W2.setCell ⟨w.heap.size + 1, 0, none⟩ (.bool true)).putObj D2 (.deferred none)).putObj D1 (.deferred none)).cell? ⟨w.heap.size + 1, 0, none⟩ = some (.bool true) := cellA qr rfl
  refine ⟨by simp, .inl ⟨_, _, rfl, run_takeDeferred q2, ?_⟩⟩
  refine ⟨by simp, .inl ⟨_, _, rfl, run_takeDeferred q1, ?_⟩⟩
  refine ⟨.bool true, ?_, rfl, ?_⟩
  · simp [results, Try.f3, go_sem, qc]
  · have f1 : Fr (fun _ => False) w (W2.setCell ⟨w.heap.size + 1, 0, none⟩ (.bool true)) := Fr.setCell (p := ⟨w.heap.size + 1, 0, none⟩) hst.fr (fun h => by simp only at h; omega) _
    exact (f1.trans (Fr.of_grown (grownBy_putObj' _ D2 _)) (fun i hi e => by simp at e; omega)).trans (Fr.of_grown (grownBy_putObj' _ D1 _)) (fun i hi e => by simp at e; exact g1 (e ▸ hi))

end Go.Proofs.Ytfegipnogfiphab

/-
  does, an operation of kind 1. (gen/gen_does.py)
-/
import Derived.Test.YtedhmhlhjonloaaADoes
namespace Go.Proofs.Ytedhmhlhjonloaa
open Go.RowKit Go.Maps
set_option linter.unusedVariables false
set_option linter.unusedSimpArgs false

set_option maxHeartbeats 8000000 in
set_option maxRecDepth 20000 in
theorem does_1 {I J E : Nat → Prop} {w : World} {p mb q : Nat} {a : A.Ac} (h : Bt I J w p mb q a) {cs : Array Value} {o : A.Lop} (hc : Rl E w cs o) (hE : ¬ E p ∧ ¬ E mb ∧ ¬ E q) (hl : a.l.length < 300000000000) (hk : o.kind = 1) :
    Calls Try.prog 14 #[ptrV p, ptrV q, .agg cs] w fun e w' => Dn I J w p mb q ((A.accept a (o.bl.1, o.bl.2) o.slot o.en).2) e w' := by
  have hsz := hc.size
  obtain ⟨ec, hcs, hre, hs0, hs1⟩ := hc
  have f0 : Fr (fun _ => False) w (w.alloc (.cells cs 48)) := Fr.alloc (Fr.refl _ _) _
  have b0 : (w.alloc (.cells cs 48)).heap[w.heap.size]? = some (.cells cs 48 (0, 0)) := Go.heap_alloc_new w _
  have LB := hid (fun (V : World) (hV : V.heap[w.heap.size]? = some (.cells cs 48 (0, 0))) => Lb.of (o := o) hre.len (by rw [← hcs]; exact hV))
  have HB := hid (h.fr f0)
  have HH := hid h
  have F0 := hid f0
  have B0 := hid b0
  have HRE := hid hre
  have HE := hid hE
  have lb0 := LB.out _ b0
  have k0 := lb0.c0
  have k1 := lb0.c1
  have k2 := lb0.c2
  have k3 := lb0.c3
  have hnp : w.heap.size ≠ p := by have := h.at_.2.1; omega
  have hnm : w.heap.size ≠ mb := by have := h.at_.2.2.1; omega
  have hnq : w.heap.size ≠ q := by have := h.rg.2.1; omega
  have hmx : Try.prog.follows .mixedOrders = true := by kernel_rfl
  clear hcs hre hE lb0 f0 b0 h
  rw [hk] at k0
  obtain ⟨W, hW⟩ : ∃ W, w.alloc (.cells cs 48) = W := ⟨_, rfl⟩
  have hws : W.heap.size = w.heap.size + 1 := by rw [← hW]; simp
  have HWS := hid hws
  rw [hW] at HB F0 B0 k0 k1 k2 k3
  have HW := hid hW
  clear hW hws
  have HBL := hid (fun (V : World) (hf : Fr (Pq p mb q) W V) => LB.out V (hf.cells B0.out (fun e => by rcases e with e | e | e; exact hnp e; exact hnm e; exact hnq e)))
  have KA := hid (acAccept_any (HB.out.at_.fr (Fr.drew (Fr.refl _ _))) o.bl.1 o.bl.2 o.slot ((HRE.out.kept F0.out (fun _ _ h => h)).kept (Fr.drew (Fr.refl (fun _ => False) W)) (fun _ _ h => h)) (by omega) HE.out.1)
  clear hk
  go_enter Try.func14, Try.ntmps14
  go_upto_region 1 with fail
  rw [HW.out]
  go_wp2_with fail
  refine wp_region_held (S := fun V => Fr (Pq p mb q) W V) hmx ?_
  have hS : Fr (Pq p mb q) W W.drew := Fr.drew (Fr.refl _ _)
  simp only [List.size_toArray, List.length_cons, List.length_nil, Nat.reduceAdd, Array.replicate_succ, Array.replicate_zero, List.push_toArray, List.nil_append, List.cons_append]
  refine wpAnyH_take (i := 0) (v := ?_) rfl (by kernel_rfl) (by kernel_rfl) (by kernel_rfl) (fun _ _ _ h => h) (Or.inl ⟨by kernel_rfl, ?_⟩) hS ?_
  rotate_left 1
  · (intro w' hS'; clear hS'; go_simp; try with_reducible rfl)
  simp only [List.getElem_toArray, List.getElem_cons_zero, List.getElem_cons_succ, Act.put, List.setIfInBounds_toArray, List.set_cons_zero, List.set_cons_succ]
  refine wpAnyH_take (i := 1) (v := ?_) rfl (by kernel_rfl) (by kernel_rfl) (by kernel_rfl) (fun _ _ _ h => h) (Or.inl ⟨by kernel_rfl, ?_⟩) hS ?_
  rotate_left 1
  · (intro w' hS'; clear hS'; go_simp; try with_reducible rfl)
  simp only [List.getElem_toArray, List.getElem_cons_zero, List.getElem_cons_succ, Act.put, List.setIfInBounds_toArray, List.set_cons_zero, List.set_cons_succ]
  refine wpAnyH_take (i := 2) rfl (by kernel_rfl) (by kernel_rfl) (by kernel_rfl) (fun _ _ _ h => h) (yieldsIf_load_v (by kernel_rfl) (by exact ⟨_, rfl, rfl⟩) (fun w' hS' => (HBL.out w' hS').lb)) hS ?_
  simp only [List.getElem_toArray, List.getElem_cons_zero, List.getElem_cons_succ, Act.put, List.setIfInBounds_toArray, List.set_cons_zero, List.set_cons_succ]
  refine wpAnyH_take (i := 3) (v := ?_) rfl (by kernel_rfl) (by kernel_rfl) (by kernel_rfl) (fun _ _ _ h => h) (Or.inl ⟨by kernel_rfl, ?_⟩) hS ?_
  rotate_left 1
  · (intro w' hS'; clear hS'; go_simp; try with_reducible rfl)
  simp only [List.getElem_toArray, List.getElem_cons_zero, List.getElem_cons_succ, Act.put, List.setIfInBounds_toArray, List.set_cons_zero, List.set_cons_succ]
  refine wpAnyH_take (i := 4) (v := ?_) rfl (by kernel_rfl) (by kernel_rfl) (by kernel_rfl) (fun _ _ _ h => h) (Or.inl ⟨by kernel_rfl, ?_⟩) hS ?_
  rotate_left 1
  · (intro w' hS'; have h1 := (HBL.out w' hS').c3; clear hS'; go_simp; try with_reducible rfl)
  simp only [List.getElem_toArray, List.getElem_cons_zero, List.getElem_cons_succ, Act.put, List.setIfInBounds_toArray, List.set_cons_zero, List.set_cons_succ]
  refine wpAnyH_take (i := 5) (v := ?_) rfl (by kernel_rfl) (by kernel_rfl) (by kernel_rfl) (fun _ _ _ h => h) (Or.inl ⟨by kernel_rfl, ?_⟩) hS ?_
  rotate_left 1
  · (intro w' hS'; clear hS'; go_simp; try with_reducible rfl)
  simp only [List.getElem_toArray, List.getElem_cons_zero, List.getElem_cons_succ, Act.put, List.setIfInBounds_toArray, List.set_cons_zero, List.set_cons_succ]
  refine wpAnyH_take (i := 6) rfl (by kernel_rfl) (by kernel_rfl) (by kernel_rfl) (fun _ _ _ h => h) (yieldsIf_load_v (by kernel_rfl) (by exact ⟨_, rfl, rfl⟩) (fun w' hS' => (HBL.out w' hS').le)) hS ?_
  simp only [List.getElem_toArray, List.getElem_cons_zero, List.getElem_cons_succ, Act.put, List.setIfInBounds_toArray, List.set_cons_zero, List.set_cons_succ]
  refine wpAnyH_take (i := 8) (v := ?_) rfl (by kernel_rfl) (by kernel_rfl) (by kernel_rfl) (fun _ _ _ h => h) (Or.inl ⟨by kernel_rfl, ?_⟩) hS ?_
  rotate_left 1
  · (intro w' hS'; clear hS'; go_simp; try with_reducible rfl)
  simp only [List.getElem_toArray, List.getElem_cons_zero, List.getElem_cons_succ, Act.put, List.setIfInBounds_toArray, List.set_cons_zero, List.set_cons_succ]
  refine wpAnyH_take (i := 9) (v := ?_) rfl (by kernel_rfl) (by kernel_rfl) (by kernel_rfl) (fun _ _ _ h => h) (Or.inl ⟨by kernel_rfl, ?_⟩) hS ?_
  rotate_left 1
  · (intro w' hS'; clear hS'; go_simp; try with_reducible rfl)
  simp only [List.getElem_toArray, List.getElem_cons_zero, List.getElem_cons_succ, Act.put, List.setIfInBounds_toArray, List.set_cons_zero, List.set_cons_succ]
  refine wpAnyH_take (i := 10) rfl (by kernel_rfl) (by kernel_rfl) (by kernel_rfl) (fun _ _ _ h => h) (yieldsIf_load_v (by kernel_rfl) (by exact ⟨_, rfl, rfl⟩) (fun w' hS' => (HBL.out w' hS').lb)) hS ?_
  simp only [List.getElem_toArray, List.getElem_cons_zero, List.getElem_cons_succ, Act.put, List.setIfInBounds_toArray, List.set_cons_zero, List.set_cons_succ]
  refine wpAnyH_take (i := 11) (v := ?_) rfl (by kernel_rfl) (by kernel_rfl) (by kernel_rfl) (fun _ _ _ h => h) (Or.inl ⟨by kernel_rfl, ?_⟩) hS ?_
  rotate_left 1
  · (intro w' hS'; clear hS'; go_simp; try with_reducible rfl)
  simp only [List.getElem_toArray, List.getElem_cons_zero, List.getElem_cons_succ, Act.put, List.setIfInBounds_toArray, List.set_cons_zero, List.set_cons_succ]
  refine wpAnyH_take (i := 12) (v := ?_) rfl (by kernel_rfl) (by kernel_rfl) (by kernel_rfl) (fun _ _ _ h => h) (Or.inl ⟨by kernel_rfl, ?_⟩) hS ?_
  rotate_left 1
  · (intro w' hS'; have h1 := (HBL.out w' hS').c3; clear hS'; go_simp; try with_reducible rfl)
  simp only [List.getElem_toArray, List.getElem_cons_zero, List.getElem_cons_succ, Act.put, List.setIfInBounds_toArray, List.set_cons_zero, List.set_cons_succ]
  refine wpAnyH_take (i := 13) (v := ?_) rfl (by kernel_rfl) (by kernel_rfl) (by kernel_rfl) (fun _ _ _ h => h) (Or.inl ⟨by kernel_rfl, ?_⟩) hS ?_
  rotate_left 1
  · (intro w' hS'; clear hS'; go_simp; try with_reducible rfl)
  simp only [List.getElem_toArray, List.getElem_cons_zero, List.getElem_cons_succ, Act.put, List.setIfInBounds_toArray, List.set_cons_zero, List.set_cons_succ]
  refine wpAnyH_take (i := 14) rfl (by kernel_rfl) (by kernel_rfl) (by kernel_rfl) (fun _ _ _ h => h) (yieldsIf_load_v (by kernel_rfl) (by exact ⟨_, rfl, rfl⟩) (fun w' hS' => (HBL.out w' hS').le)) hS ?_
  simp only [List.getElem_toArray, List.getElem_cons_zero, List.getElem_cons_succ, Act.put, List.setIfInBounds_toArray, List.set_cons_zero, List.set_cons_succ]
  refine wpAnyH_ready (rs := [7]) (by kernel_rfl) (by simp) ?_
  refine AllReadyH.cons rfl (fun K1 hK1 => ?_) AllReadyH.nil
  go_simp
  refine KA.out.mono ?_
  rintro e w1 ⟨rfl, hat1, f1⟩
  refine hK1.out _ _ (hS.trans f1 (fun _ _ h => h.elim .inl (fun h => .inr (.inl h)))) (fun hS => ?_)
  clear hK1 K1
  simp only [List.getElem_toArray, List.getElem_cons_zero, List.getElem_cons_succ, Act.put, List.setIfInBounds_toArray, List.set_cons_zero, List.set_cons_succ]
  have fd : Fr (fun k => k = p ∨ k = mb) W w1 := (Fr.drew (Fr.refl _ _)).trans f1 (fun _ _ h => h)
  have hrg1 : Rg J w1 q a := HB.out.rg.out fd HH.out.qp HH.out.qm HH.out.jp HH.out.jm
  have KR := hid (raccept_any hrg1 o.bl.1 o.bl.2 o.slot ((HRE.out.kept F0.out (fun _ _ h => h)).kept fd (fun k hk e => e.elim (fun e => HE.out.1 (e ▸ hk)) (fun e => HE.out.2.1 (e ▸ hk)))) (by omega) HE.out.2.2)
  refine wpAnyH_ready (rs := [15]) (by kernel_rfl) (by simp) ?_
  refine AllReadyH.cons rfl (fun K1 hK1 => ?_) AllReadyH.nil
  go_simp
  refine KR.out.mono ?_
  rintro e w2 ⟨rfl, hrg2, f2⟩
  refine hK1.out _ _ (hS.trans f2 (fun _ _ h => .inr (.inr h))) (fun hS => ?_)
  clear hK1 K1
  simp only [List.getElem_toArray, List.getElem_cons_zero, List.getElem_cons_succ, Act.put, List.setIfInBounds_toArray, List.set_cons_zero, List.set_cons_succ]
  refine wpAnyH_take (i := 16) (v := .bool false) rfl (by kernel_rfl) (by kernel_rfl) (by kernel_rfl) (fun _ _ _ h => h) (Or.inl ⟨by kernel_rfl, fun w' hS' => by clear hS'; go_simp⟩) hS ?_
  simp only [List.getElem_toArray, List.getElem_cons_zero, List.getElem_cons_succ, Act.put, List.setIfInBounds_toArray, List.set_cons_zero, List.set_cons_succ]
  refine wpAnyH_done (by kernel_rfl) ?_ _
  have hs1 := fd.size
  have hs2 := f2.size
  have hws := HWS.out
  have BT := hid (show Bt (Nw I W.drew w1) (Nw J w1 w2) w2 p mb q ((A.accept a (o.bl.1, o.bl.2) o.slot o.en).2) from ⟨hat1.out (S := fun _ => False) f2 HH.out.qp HH.out.qm (fun h => h.elim HH.out.iq (fun h => by have := HH.out.rg.2.1; have h1 : W.heap.size ≤ q := h.1; omega)), hrg2, (fun h => h.elim HH.out.jp (fun h => by have := HH.out.at_.2.1; omega)), (fun h => h.elim HH.out.jm (fun h => by have := HH.out.at_.2.2.1; omega)), (fun h => h.elim HH.out.iq (fun h => by have := HH.out.rg.2.1; have h1 : W.heap.size ≤ q := h.1; omega)), HH.out.qp, HH.out.qm⟩)
  have F := hid (show Fr (Pq p mb q) w w2 from (F0.out.mono (fun _ _ h => h.elim)).trans hS (fun _ _ h => h))
  have HN1 := hid (show ∀ k, (Nw I W.drew w1) k → Nw I w w2 k from fun k hk => hk.elim .inl (fun h => .inr ⟨by have h1 : W.heap.size ≤ k := h.1; omega, by omega⟩))
  have HN2 := hid (show ∀ k, Nw J w1 w2 k → Nw J w w2 k from fun k hk => hk.elim .inl (fun h => .inr ⟨by omega, h.2⟩))
  clear hat1 f1 fd hrg1 hrg2 f2 hS hs1 hs2 hws KA KR k0 k1 k2 k3
  obtain ⟨st, hst⟩ : ∃ st, (A.accept a (o.bl.1, o.bl.2) o.slot o.en).2 = st := ⟨_, rfl⟩
  rw [hst] at BT
  have HST := hid hst
  clear hst
  go_wp2_with fail
  obtain ⟨_, _, ra9, rc9, xs9, rf9⟩ := BT.out.rg
  have RF := hid rf9
  have hln := rf9.len
  have KP := hid (fun (V : World) (hf : Fr (fun _ => False) w2 V) => acPromised_any (BT.out.at_.fr hf))
  have KF := hid (fun (V : World) (hf : Fr (fun _ => False) w2 V) => acFirst_any (BT.out.at_.fr hf))
  have KL := hid (fun (V : World) (hf : Fr (fun _ => False) w2 V) => acLen_any (BT.out.at_.fr hf))
  have HQ := hid (fun (V : World) (hf : Fr (fun _ => False) w2 V) => show (Instr.loadAt 27 (.pointer (some ⟨q, 0, none⟩))).run Try.prog V = .ok (A.bv (st).pr) V ∧ V.cell? ⟨q, 2, none⟩ = some (.int .i64 (st).fs) ∧ V.cell? ⟨q, 3, none⟩ = some (.slice ra9 (st).l.length rc9) from by
    have hat := hf.cells rf9.at_ (fun h => h)
    refine ⟨?_, cellA hat rfl, by rw [← hln]; exact cellA hat rfl⟩
    refine run_loadAt_mid V q 0 _ [.int .i64 (st).pr.1, .int .i64 (st).pr.2] _ (fun j v hv => ?_) Try.underlying27 rfl (by kernel_rfl)
    match j, hv with
    | 0, hv => cases hv; exact cellA hat rfl
    | 1, hv => cases hv; exact cellA hat rfl
    | j + 2, hv => simp at hv)
  have eqB := fun V => eqBl (st).pr V
  generalize A.bv (st).pr = vB at KP HQ eqB
  generalize (st).fs = vF at KF HQ
  generalize (st).l.length = vL at KL HQ
  have EQB := hid eqB
  clear rf9 hln eqB
  refine wp_region_held (S := fun V => Fr (fun _ => False) w2 V) hmx ?_
  have hS : Fr (fun _ => False) w2 w2.drew := Fr.drew (Fr.refl _ _)
  simp only [List.size_toArray, List.length_cons, List.length_nil, Nat.reduceAdd, Array.replicate_succ, Array.replicate_zero, List.push_toArray, List.nil_append, List.cons_append]
  refine wpAnyH_take (i := 0) (v := ?_) rfl (by kernel_rfl) (by kernel_rfl) (by kernel_rfl) (fun _ _ _ h => h) (Or.inl ⟨by kernel_rfl, ?_⟩) hS ?_
  rotate_left 1
  · (intro w' hS'; clear hS'; go_simp; try with_reducible rfl)
  simp only [List.getElem_toArray, List.getElem_cons_zero, List.getElem_cons_succ, Act.put, List.setIfInBounds_toArray, List.set_cons_zero, List.set_cons_succ]
  refine wpAnyH_take (i := 2) (v := ?_) rfl (by kernel_rfl) (by kernel_rfl) (by kernel_rfl) (fun _ _ _ h => h) (Or.inl ⟨by kernel_rfl, ?_⟩) hS ?_
  rotate_left 1
  · (intro w' hS'; clear hS'; go_simp; try with_reducible rfl)
  simp only [List.getElem_toArray, List.getElem_cons_zero, List.getElem_cons_succ, Act.put, List.setIfInBounds_toArray, List.set_cons_zero, List.set_cons_succ]
  refine wpAnyH_take (i := 3) (v := ?_) rfl (by kernel_rfl) (by kernel_rfl) (by kernel_rfl) (fun _ _ _ h => h) (Or.inl ⟨by kernel_rfl, ?_⟩) hS ?_
  rotate_left 1
  · (intro w' hS'; clear hS'; go_simp; try with_reducible rfl)
  simp only [List.getElem_toArray, List.getElem_cons_zero, List.getElem_cons_succ, Act.put, List.setIfInBounds_toArray, List.set_cons_zero, List.set_cons_succ]
  refine wpAnyH_take (i := 4) (v := ?_) rfl (by kernel_rfl) (by kernel_rfl) (by kernel_rfl) (fun _ _ _ h => h) (Or.inl ⟨by kernel_rfl, ?_⟩) hS ?_
  rotate_left 1
  · (intro w' hS'; clear hS'; go_simp; try with_reducible rfl)
  simp only [List.getElem_toArray, List.getElem_cons_zero, List.getElem_cons_succ, Act.put, List.setIfInBounds_toArray, List.set_cons_zero, List.set_cons_succ]
  refine wpAnyH_take (i := 5) rfl (by kernel_rfl) (by kernel_rfl) (by kernel_rfl) (fun _ _ _ h => h) (yieldsIf_load_v (by kernel_rfl) (by exact ⟨_, rfl, rfl⟩) (fun w' hS' => (HQ.out w' hS').1)) hS ?_
  simp only [List.getElem_toArray, List.getElem_cons_zero, List.getElem_cons_succ, Act.put, List.setIfInBounds_toArray, List.set_cons_zero, List.set_cons_succ]
  refine wpAnyH_ready (rs := [1]) (by kernel_rfl) (by simp) ?_
  refine AllReadyH.cons rfl (fun K1 hK1 => ?_) AllReadyH.nil
  go_simp
  refine (KP.out _ hS).mono ?_
  rintro e w91 ⟨rfl, f91⟩
  refine hK1.out _ _ (hS.trans f91 (fun _ _ h => h)) (fun hS => ?_)
  clear f91
  clear hK1 K1
  simp only [List.getElem_toArray, List.getElem_cons_zero, List.getElem_cons_succ, Act.put, List.setIfInBounds_toArray, List.set_cons_zero, List.set_cons_succ]
  refine wpAnyH_take (i := 6) rfl (by kernel_rfl) (by kernel_rfl) (by kernel_rfl) (fun _ _ _ h => h) (yieldsIf_eql_v (by kernel_rfl) (by exact ⟨_, _, _, rfl, rfl, rfl, fun W => (EQB.out W).2 _ _⟩) (fun w' hS' => (EQB.out w').1)) hS ?_
  simp only [List.getElem_toArray, List.getElem_cons_zero, List.getElem_cons_succ, Act.put, List.setIfInBounds_toArray, List.set_cons_zero, List.set_cons_succ]
  refine wpAnyH_take (i := 7) (v := ?_) rfl (by kernel_rfl) (by kernel_rfl) (by kernel_rfl) (fun _ _ _ h => h) (Or.inl ⟨by kernel_rfl, ?_⟩) hS ?_
  rotate_left 1
  · (intro w' hS'; clear hS'; go_simp; try with_reducible rfl)
  simp only [List.getElem_toArray, List.getElem_cons_zero, List.getElem_cons_succ, Act.put, List.setIfInBounds_toArray, List.set_cons_zero, List.set_cons_succ]
  refine wpAnyH_take (i := 8) (v := ?_) rfl (by kernel_rfl) (by kernel_rfl) (by kernel_rfl) (fun _ _ _ h => h) (Or.inl ⟨by kernel_rfl, ?_⟩) hS ?_
  rotate_left 1
  · (intro w' hS'; clear hS'; go_simp; try with_reducible rfl)
  simp only [List.getElem_toArray, List.getElem_cons_zero, List.getElem_cons_succ, Act.put, List.setIfInBounds_toArray, List.set_cons_zero, List.set_cons_succ]
  refine wpAnyH_take (i := 10) (v := ?_) rfl (by kernel_rfl) (by kernel_rfl) (by kernel_rfl) (fun _ _ _ h => h) (Or.inl ⟨by kernel_rfl, ?_⟩) hS ?_
  rotate_left 1
  · (intro w' hS'; clear hS'; go_simp; try with_reducible rfl)
  simp only [List.getElem_toArray, List.getElem_cons_zero, List.getElem_cons_succ, Act.put, List.setIfInBounds_toArray, List.set_cons_zero, List.set_cons_succ]
  refine wpAnyH_take (i := 11) (v := ?_) rfl (by kernel_rfl) (by kernel_rfl) (by kernel_rfl) (fun _ _ _ h => h) (Or.inl ⟨by kernel_rfl, ?_⟩) hS ?_
  rotate_left 1
  · (intro w' hS'; clear hS'; go_simp; try with_reducible rfl)
  simp only [List.getElem_toArray, List.getElem_cons_zero, List.getElem_cons_succ, Act.put, List.setIfInBounds_toArray, List.set_cons_zero, List.set_cons_succ]
  refine wpAnyH_take (i := 12) (v := ?_) rfl (by kernel_rfl) (by kernel_rfl) (by kernel_rfl) (fun _ _ _ h => h) (Or.inl ⟨by kernel_rfl, ?_⟩) hS ?_
  rotate_left 1
  · (intro w' hS'; clear hS'; go_simp; try with_reducible rfl)
  simp only [List.getElem_toArray, List.getElem_cons_zero, List.getElem_cons_succ, Act.put, List.setIfInBounds_toArray, List.set_cons_zero, List.set_cons_succ]
  refine wpAnyH_take (i := 13) (v := ?_) rfl (by kernel_rfl) (by kernel_rfl) (by kernel_rfl) (fun _ _ _ h => h) (Or.inl ⟨by kernel_rfl, ?_⟩) hS ?_
  rotate_left 1
  · (intro w' hS'; have h1 := (HQ.out w' hS').2.1; clear hS'; go_simp; try with_reducible rfl)
  simp only [List.getElem_toArray, List.getElem_cons_zero, List.getElem_cons_succ, Act.put, List.setIfInBounds_toArray, List.set_cons_zero, List.set_cons_succ]
  refine wpAnyH_ready (rs := [9]) (by kernel_rfl) (by simp) ?_
  refine AllReadyH.cons rfl (fun K1 hK1 => ?_) AllReadyH.nil
  go_simp
  refine (KF.out _ hS).mono ?_
  rintro e w92 ⟨rfl, rfl⟩
  refine hK1.out _ _ hS (fun hS => ?_)
  clear hK1 K1
  simp only [List.getElem_toArray, List.getElem_cons_zero, List.getElem_cons_succ, Act.put, List.setIfInBounds_toArray, List.set_cons_zero, List.set_cons_succ]
  refine wpAnyH_take (i := 14) (v := .bool true) rfl (by kernel_rfl) (by kernel_rfl) (by kernel_rfl) (fun _ _ _ h => h) (Or.inl ⟨by kernel_rfl, fun w' hS' => by clear hS'; go_simp⟩) hS ?_
  simp only [List.getElem_toArray, List.getElem_cons_zero, List.getElem_cons_succ, Act.put, List.setIfInBounds_toArray, List.set_cons_zero, List.set_cons_succ]
  refine wpAnyH_take (i := 15) (v := ?_) rfl (by kernel_rfl) (by kernel_rfl) (by kernel_rfl) (fun _ _ _ h => h) (Or.inl ⟨by kernel_rfl, ?_⟩) hS ?_
  rotate_left 1
  · (intro w' hS'; clear hS'; go_simp; try with_reducible rfl)
  simp only [List.getElem_toArray, List.getElem_cons_zero, List.getElem_cons_succ, Act.put, List.setIfInBounds_toArray, List.set_cons_zero, List.set_cons_succ]
  refine wpAnyH_take (i := 16) (v := ?_) rfl (by kernel_rfl) (by kernel_rfl) (by kernel_rfl) (fun _ _ _ h => h) (Or.inl ⟨by kernel_rfl, ?_⟩) hS ?_
  rotate_left 1
  · (intro w' hS'; clear hS'; go_simp; try with_reducible rfl)
  simp only [List.getElem_toArray, List.getElem_cons_zero, List.getElem_cons_succ, Act.put, List.setIfInBounds_toArray, List.set_cons_zero, List.set_cons_succ]
  refine wpAnyH_take (i := 17) (v := ?_) rfl (by kernel_rfl) (by kernel_rfl) (by kernel_rfl) (fun _ _ _ h => h) (Or.inl ⟨by kernel_rfl, ?_⟩) hS ?_
  rotate_left 1
  · (intro w' hS'; clear hS'; go_simp; try with_reducible rfl)
  simp only [List.getElem_toArray, List.getElem_cons_zero, List.getElem_cons_succ, Act.put, List.setIfInBounds_toArray, List.set_cons_zero, List.set_cons_succ]
  refine wpAnyH_take (i := 19) (v := ?_) rfl (by kernel_rfl) (by kernel_rfl) (by kernel_rfl) (fun _ _ _ h => h) (Or.inl ⟨by kernel_rfl, ?_⟩) hS ?_
  rotate_left 1
  · (intro w' hS'; clear hS'; go_simp; try with_reducible rfl)
  simp only [List.getElem_toArray, List.getElem_cons_zero, List.getElem_cons_succ, Act.put, List.setIfInBounds_toArray, List.set_cons_zero, List.set_cons_succ]
  refine wpAnyH_take (i := 20) (v := ?_) rfl (by kernel_rfl) (by kernel_rfl) (by kernel_rfl) (fun _ _ _ h => h) (Or.inl ⟨by kernel_rfl, ?_⟩) hS ?_
  rotate_left 1
  · (intro w' hS'; clear hS'; go_simp; try with_reducible rfl)
  simp only [List.getElem_toArray, List.getElem_cons_zero, List.getElem_cons_succ, Act.put, List.setIfInBounds_toArray, List.set_cons_zero, List.set_cons_succ]
  refine wpAnyH_take (i := 21) (v := ?_) rfl (by kernel_rfl) (by kernel_rfl) (by kernel_rfl) (fun _ _ _ h => h) (Or.inl ⟨by kernel_rfl, ?_⟩) hS ?_
  rotate_left 1
  · (intro w' hS'; clear hS'; go_simp; try with_reducible rfl)
  simp only [List.getElem_toArray, List.getElem_cons_zero, List.getElem_cons_succ, Act.put, List.setIfInBounds_toArray, List.set_cons_zero, List.set_cons_succ]
  refine wpAnyH_take (i := 22) (v := ?_) rfl (by kernel_rfl) (by kernel_rfl) (by kernel_rfl) (fun _ _ _ h => h) (Or.inl ⟨by kernel_rfl, ?_⟩) hS ?_
  rotate_left 1
  · (intro w' hS'; have h1 := (HQ.out w' hS').2.2; clear hS'; go_simp; try with_reducible rfl)
  simp only [List.getElem_toArray, List.getElem_cons_zero, List.getElem_cons_succ, Act.put, List.setIfInBounds_toArray, List.set_cons_zero, List.set_cons_succ]
  refine wpAnyH_take (i := 23) (v := ?_) rfl (by kernel_rfl) (by kernel_rfl) (by kernel_rfl) (fun _ _ _ h => h) (Or.inl ⟨by kernel_rfl, ?_⟩) hS ?_
  rotate_left 1
  · (intro w' hS'; clear hS'; go_simp; try with_reducible rfl)
  simp only [List.getElem_toArray, List.getElem_cons_zero, List.getElem_cons_succ, Act.put, List.setIfInBounds_toArray, List.set_cons_zero, List.set_cons_succ]
  refine wpAnyH_ready (rs := [18]) (by kernel_rfl) (by simp) ?_
  refine AllReadyH.cons rfl (fun K1 hK1 => ?_) AllReadyH.nil
  go_simp
  refine (KL.out _ hS).mono ?_
  rintro e w93 ⟨rfl, rfl⟩
  refine hK1.out _ _ hS (fun hS => ?_)
  clear hK1 K1
  simp only [List.getElem_toArray, List.getElem_cons_zero, List.getElem_cons_succ, Act.put, List.setIfInBounds_toArray, List.set_cons_zero, List.set_cons_succ]
  refine wpAnyH_take (i := 24) (v := .bool true) rfl (by kernel_rfl) (by kernel_rfl) (by kernel_rfl) (fun _ _ _ h => h) (Or.inl ⟨by kernel_rfl, fun w' hS' => by clear hS'; go_simp⟩) hS ?_
  simp only [List.getElem_toArray, List.getElem_cons_zero, List.getElem_cons_succ, Act.put, List.setIfInBounds_toArray, List.set_cons_zero, List.set_cons_succ]
  refine wpAnyH_take (i := 25) (v := ?_) rfl (by kernel_rfl) (by kernel_rfl) (by kernel_rfl) (fun _ _ _ h => h) (Or.inl ⟨by kernel_rfl, ?_⟩) hS ?_
  rotate_left 1
  · (intro w' hS'; clear hS'; go_simp; try with_reducible rfl)
  simp only [List.getElem_toArray, List.getElem_cons_zero, List.getElem_cons_succ, Act.put, List.setIfInBounds_toArray, List.set_cons_zero, List.set_cons_succ]
  refine wpAnyH_take (i := 26) (v := ?_) rfl (by kernel_rfl) (by kernel_rfl) (by kernel_rfl) (fun _ _ _ h => h) (Or.inl ⟨by kernel_rfl, ?_⟩) hS ?_
  rotate_left 1
  · (intro w' hS'; clear hS'; go_simp; try with_reducible rfl)
  simp only [List.getElem_toArray, List.getElem_cons_zero, List.getElem_cons_succ, Act.put, List.setIfInBounds_toArray, List.set_cons_zero, List.set_cons_succ]
  refine wpAnyH_done (by kernel_rfl) ?_ _
  have FS := hid hS
  clear hS
  go_wp2
  go_ret
  rw [HST.out]
  exact Dn.mk' BT.out F.out FS.out HH.out HN1.out HN2.out
end Go.Proofs.Ytedhmhlhjonloaa

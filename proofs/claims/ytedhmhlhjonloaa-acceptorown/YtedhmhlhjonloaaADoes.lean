/-
  does: an operation with the acceptor and with the document's, where both have the same state: the same answers, and the same state behind it. (gen/gen_does.py)
-/
import Derived.Test.YtedhmhlhjonloaaACode3
namespace Go.Proofs.Ytedhmhlhjonloaa
open Go.RowKit Go.Maps
set_option linter.unusedVariables false
set_option linter.unusedSimpArgs false

/-- an operation of a script -/
structure A.Lop where
  kind : Int
  bl : A.Bl
  slot : Int
  en : A.En
  stop : Int
/-- its cells -/
def Rl (E : Nat → Prop) (w : World) (cs : Array Value) (o : A.Lop) : Prop := ∃ ec, cs = (.int .i64 o.kind :: .int .i64 o.bl.1 :: .int .i64 o.bl.2 :: .int .i64 o.slot :: (ec ++ [.int .i64 o.stop])).toArray ∧ Re E w ec o.en ∧ -9223372036854775808 ≤ o.slot ∧ o.slot ≤ 9223372036854775807
theorem Rl.kept {E S : Nat → Prop} {w w' : World} {cs : Array Value} {o : A.Lop} (h : Rl E w cs o) (hf : Fr S w w') (hS : ∀ i, E i → ¬ S i) : Rl E w' cs o := by
  obtain ⟨ec, h1, h2, h3⟩ := h
  exact ⟨ec, h1, h2.kept hf hS, h3⟩
theorem Rl.size {E : Nat → Prop} {w : World} {cs : Array Value} {o : A.Lop} (h : Rl E w cs o) : cs.size = 61 := by
  obtain ⟨ec, rfl, h2, _⟩ := h
  simp [h2.len]
/-- its box -/
structure Lb (w : World) (g : Nat) (o : A.Lop) (ec : List Value) : Prop where
  c0 : w.cell? ⟨g, 0, none⟩ = some (.int .i64 o.kind)
  c1 : w.cell? ⟨g, 1, none⟩ = some (.int .i64 o.bl.1)
  c2 : w.cell? ⟨g, 2, none⟩ = some (.int .i64 o.bl.2)
  c3 : w.cell? ⟨g, 3, none⟩ = some (.int .i64 o.slot)
  c60 : w.cell? ⟨g, 60, none⟩ = some (.int .i64 o.stop)
  lb : (Instr.loadAt 27 (.pointer (some ⟨g, 1, none⟩))).run Try.prog w = .ok (.agg #[.int .i64 o.bl.1, .int .i64 o.bl.2]) w
  le : (Instr.loadAt 46 (.pointer (some ⟨g, 4, none⟩))).run Try.prog w = .ok (.agg ec.toArray) w
theorem Lb.of {w : World} {g : Nat} {o : A.Lop} {ec : List Value} {t : TypeId} {m : Nat × Nat} (hl : ec.length = 56) (h : w.heap[g]? = some (.cells (.int .i64 o.kind :: .int .i64 o.bl.1 :: .int .i64 o.bl.2 :: .int .i64 o.slot :: (ec ++ [.int .i64 o.stop])).toArray t m)) : Lb w g o ec := by
  have c1 : w.cell? ⟨g, 1, none⟩ = some (.int .i64 o.bl.1) := cellA h rfl
  have c2 : w.cell? ⟨g, 2, none⟩ = some (.int .i64 o.bl.2) := cellA h rfl
  refine ⟨cellA h rfl, c1, c2, cellA h rfl, cellA h ?_, ?_, ?_⟩
  · rw [List.getElem?_toArray]
    simp only [List.getElem?_cons_succ]
    rw [List.getElem?_append_right (by omega), hl]
    rfl
  · refine run_loadAt_mid w g 1 _ [.int .i64 o.bl.1, .int .i64 o.bl.2] _ (fun j v hv => ?_) Try.underlying27 rfl (by kernel_rfl)
    match j, hv with
    | 0, hv => cases hv; exact c1
    | 1, hv => cases hv; exact c2
    | j + 2, hv => simp at hv
  · refine run_loadAt_mid w g 4 _ ec _ (fun j v hv => ?_) Try.underlying46 rfl (by rw [hl]; kernel_rfl)
    refine cellA h ?_
    rw [List.getElem?_toArray, show 4 + j = j + 1 + 1 + 1 + 1 by omega]
    simp only [List.getElem?_cons_succ]
    rw [List.getElem?_append_left (List.getElem?_eq_some_iff.1 hv).1]
    exact hv
/-- what an operation does -/
def A.op (a : A.Ac) (o : A.Lop) : A.Ac :=
  if o.kind = 0 then (A.prepare a o.bl o.slot).2.2 else if o.kind = 1 then (A.accept a o.bl o.slot o.en).2 else if o.kind = 2 then (A.forget a o.slot).2 else a
/-- BOTH ACCEPTORS, in the same state: the code's at p with its map mb, the document's at q. -/
structure Bt (I J : Nat → Prop) (w : World) (p mb q : Nat) (a : A.Ac) : Prop where
  at_ : At_ I w p mb a
  rg : Rg J w q a
  jp : ¬ J p
  jm : ¬ J mb
  iq : ¬ I q
  qp : q ≠ p
  qm : q ≠ mb
def Pq (p mb q : Nat) : Nat → Prop := fun k => k = p ∨ k = mb ∨ k = q
theorem Bt.fr {I J : Nat → Prop} {w w' : World} {p mb q : Nat} {a : A.Ac} (h : Bt I J w p mb q a) (hf : Fr (fun _ => False) w w') : Bt I J w' p mb q a := ⟨h.at_.fr hf, h.rg.fr hf, h.jp, h.jm, h.iq, h.qp, h.qm⟩
theorem At_.out {I S : Nat → Prop} {w w' : World} {p mb : Nat} {a : A.Ac} (h : At_ I w p mb a) {q : Nat} (hf : Fr (fun k => k = q) w w') (h1 : q ≠ p) (h2 : q ≠ mb) (h3 : ¬ I q) : At_ I w' p mb a := h.kept hf (fun e => h1 e.symm) (fun e => h2 e.symm) (fun k hk e => h3 (e ▸ hk))
theorem Rg.out {J : Nat → Prop} {w w' : World} {q : Nat} {a : A.Ac} (h : Rg J w q a) {p mb : Nat} (hf : Fr (fun k => k = p ∨ k = mb) w w') (h1 : q ≠ p) (h2 : q ≠ mb) (h3 : ¬ J p) (h4 : ¬ J mb) : Rg J w' q a := h.kept hf (fun e => e.elim h1 h2) (fun k hk e => e.elim (fun e => h3 (e ▸ hk)) (fun e => h4 (e ▸ hk)))
/-- the answer of does -/
def Dn (I J : Nat → Prop) (w : World) (p mb q : Nat) (a' : A.Ac) (e : Ending) (w' : World) : Prop := e = .returned (.bool true) ∧ Bt (Nw I w w') (Nw J w w') w' p mb q a' ∧ Fr (Pq p mb q) w w'
theorem A.prepare_len (a : A.Ac) (b : A.Bl) (k : Int) : (A.prepare a b k).2.1.length ≤ a.l.length := by
  unfold A.prepare
  split
  · simp
  · simp only [List.length_map]
    exact List.length_filter_le _ _
/-- a ballot is itself -/
theorem eqBl (b : A.Bl) (V : World) : (binOp .eql 27 (A.bv b) (A.bv b)).run Try.prog V = .ok (.bool true) V ∧ ∀ x y, (eqGuard .eql 27 x y (A.bv b) (A.bv b)).run Try.prog V = .ok () V := by
  refine ⟨?_, fun x y => guard_of (by kernel_rfl) x y _ _ V⟩
  unfold A.bv
  rw [run_eql_struct]
  go_simp
theorem yieldsIf_eql_v {ops : Array Oper} {S : World → Prop} {o : Oper} {a : Act} {t : TypeId} {u v r : Value} (hw : Region.wanted o (yielded ops a.tmps) = true) (h0 : ∃ x y ty, o.op = .binOp .eql t x y ty ∧ a.eval x = u ∧ a.eval y = v ∧ ∀ W, (eqGuard .eql t x y u v).run Try.prog W = .ok () W) (hr : ∀ w, S w → (binOp .eql t u v).run Try.prog w = .ok r w) : YieldsIf Try.prog ops S o r a :=
  .inl ⟨hw, fun w hw' => by
    obtain ⟨x, y, ty, ho, hx, hy, hg⟩ := h0
    simp [execOp, ho, hx, hy, hg, hr w hw', Result.andThen]⟩
theorem Dn.mk' {I J I' J' : Nat → Prop} {w W W' : World} {p mb q : Nat} {a a' : A.Ac} (h : Bt I' J' W p mb q a') (hf : Fr (Pq p mb q) w W) (hs : Fr (fun _ => False) W W') (h0 : Bt I J w p mb q a) (hI : ∀ k, I' k → Nw I w W k := by exact fun _ h => h) (hJ : ∀ k, J' k → Nw J w W k := by exact fun _ h => h) : Dn I J w p mb q a' (.returned (.bool true)) W' := by
  have h1 := hf.size
  have h2 := hs.size
  have p1 := h0.at_.2.1
  have p2 := h0.at_.2.2.1
  have p3 := h0.rg.2.1
  have up : ∀ {K : Nat → Prop} k, Nw K w W k → Nw K w W' k := fun k hk => hk.elim .inl (fun h => .inr ⟨h.1, Nat.lt_of_lt_of_le h.2 h2⟩)
  obtain ⟨_, _, _, l0, am0⟩ := h0.at_
  obtain ⟨_, _, _, _, _, rf0⟩ := h0.rg
  refine ⟨rfl, ⟨(h.at_.fr hs).more (fun k hk => up k (hI k hk)) (fun k hk => ?_) ?_ ?_, (h.rg.fr hs).more (fun k hk => up k (hJ k hk)) (fun k hk => ?_) ?_, ?_, ?_, ?_, h0.qp, h0.qm⟩, hf.trans hs (fun _ _ h => h.elim)⟩
  · rcases hk with hk | hk
    · have := h0.at_.1 k hk; omega
    · exact hk.2
  · rintro (hk | hk)
    · exact am0.np hk
    · omega
  · rintro (hk | hk)
    · exact am0.nm hk
    · omega
  · rcases hk with hk | hk
    · have := h0.rg.1 k hk; omega
    · exact hk.2
  · rintro (hk | hk)
    · exact rf0.nq hk
    · omega
  · rintro (hk | hk)
    · exact h0.jp hk
    · omega
  · rintro (hk | hk)
    · exact h0.jm hk
    · omega
  · rintro (hk | hk)
    · exact h0.iq hk
    · omega
set_option maxHeartbeats 8000000 in
set_option maxRecDepth 20000 in
theorem does_other {I J E : Nat → Prop} {w : World} {p mb q : Nat} {a : A.Ac} (h : Bt I J w p mb q a) {cs : Array Value} {o : A.Lop} (hc : Rl E w cs o) (hE : ¬ E p ∧ ¬ E mb ∧ ¬ E q) (hl : a.l.length < 300000000000) (hk : ¬ o.kind = 0 ∧ ¬ o.kind = 1 ∧ ¬ o.kind = 2 ∧ ¬ o.kind = 3) :
    Calls Try.prog 14 #[ptrV p, ptrV q, .agg cs] w fun e w' => Dn I J w p mb q (a) e w' := by
  have hsz := hc.size
  obtain ⟨ec, hcs, hre, hs0, hs1⟩ := hc
  have f0 : Fr (fun _ => False) w (w.alloc (.cells cs 48)) := Fr.alloc (Fr.refl _ _) _
  have b0 : (w.alloc (.cells cs 48)).heap[w.heap.size]? = some (.cells cs 48 (0, 0)) := Go.heap_alloc_new w _
  have LB := hid (fun (V : World) (hV : V.heap[w.heap.size]? = some (.cells cs 48 (0, 0))) => Lb.of (o := o) hre.len (by rw [← hcs]; exact hV))
  have HB := hid (h.fr f0)
  have HH := hid h
  have F0 := hid f0
  have B0 := hid b0
  have HRE := hid hre
  have HE := hid hE
  have lb0 := LB.out _ b0
  have k0 := lb0.c0
  have k1 := lb0.c1
  have k2 := lb0.c2
  have k3 := lb0.c3
  have hnp : w.heap.size ≠ p := by have := h.at_.2.1; omega
  have hnm : w.heap.size ≠ mb := by have := h.at_.2.2.1; omega
  have hnq : w.heap.size ≠ q := by have := h.rg.2.1; omega
  have hmx : Try.prog.follows .mixedOrders = true := by kernel_rfl
  clear hcs hre hE lb0 f0 b0 h
  obtain ⟨n0, n1, n2, n3⟩ := hk
  have BT := hid HB.out
  have F : Hid (Fr (Pq p mb q) w (w.alloc (.cells cs 48))) := hid (F0.out.mono (fun _ _ h => h.elim))
  obtain ⟨W, hW⟩ : ∃ W, w.alloc (.cells cs 48) = W := ⟨_, rfl⟩
  have HW := hid hW
  rw [hW] at BT F
  clear hW
  go_enter Try.func14, Try.ntmps14
  go_wp2_with fail
  rw [HW.out]
  clear k0 k1 k2 k3
  obtain ⟨_, _, ra9, rc9, xs9, rf9⟩ := BT.out.rg
  have RF := hid rf9
  have hln := rf9.len
  have KP := hid (fun (V : World) (hf : Fr (fun _ => False) W V) => acPromised_any (BT.out.at_.fr hf))
  have KF := hid (fun (V : World) (hf : Fr (fun _ => False) W V) => acFirst_any (BT.out.at_.fr hf))
  have KL := hid (fun (V : World) (hf : Fr (fun _ => False) W V) => acLen_any (BT.out.at_.fr hf))
  have HQ := hid (fun (V : World) (hf : Fr (fun _ => False) W V) => show (Instr.loadAt 27 (.pointer (some ⟨q, 0, none⟩))).run Try.prog V = .ok (A.bv (a).pr) V ∧ V.cell? ⟨q, 2, none⟩ = some (.int .i64 (a).fs) ∧ V.cell? ⟨q, 3, none⟩ = some (.slice ra9 (a).l.length rc9) from by
    have hat := hf.cells rf9.at_ (fun h => h)
    refine ⟨?_, cellA hat rfl, by rw [← hln]; exact cellA hat rfl⟩
    refine run_loadAt_mid V q 0 _ [.int .i64 (a).pr.1, .int .i64 (a).pr.2] _ (fun j v hv => ?_) Try.underlying27 rfl (by kernel_rfl)
    match j, hv with
    | 0, hv => cases hv; exact cellA hat rfl
    | 1, hv => cases hv; exact cellA hat rfl
    | j + 2, hv => simp at hv)
  have eqB := fun V => eqBl (a).pr V
  generalize A.bv (a).pr = vB at KP HQ eqB
  generalize (a).fs = vF at KF HQ
  generalize (a).l.length = vL at KL HQ
  have EQB := hid eqB
  clear rf9 hln eqB
  refine wp_region_held (S := fun V => Fr (fun _ => False) W V) hmx ?_
  have hS : Fr (fun _ => False) W W.drew := Fr.drew (Fr.refl _ _)
  simp only [List.size_toArray, List.length_cons, List.length_nil, Nat.reduceAdd, Array.replicate_succ, Array.replicate_zero, List.push_toArray, List.nil_append, List.cons_append]
  refine wpAnyH_take (i := 0) (v := ?_) rfl (by kernel_rfl) (by kernel_rfl) (by kernel_rfl) (fun _ _ _ h => h) (Or.inl ⟨by kernel_rfl, ?_⟩) hS ?_
  rotate_left 1
  · (intro w' hS'; clear hS'; go_simp; try with_reducible rfl)
  simp only [List.getElem_toArray, List.getElem_cons_zero, List.getElem_cons_succ, Act.put, List.setIfInBounds_toArray, List.set_cons_zero, List.set_cons_succ]
  refine wpAnyH_take (i := 2) (v := ?_) rfl (by kernel_rfl) (by kernel_rfl) (by kernel_rfl) (fun _ _ _ h => h) (Or.inl ⟨by kernel_rfl, ?_⟩) hS ?_
  rotate_left 1
  · (intro w' hS'; clear hS'; go_simp; try with_reducible rfl)
  simp only [List.getElem_toArray, List.getElem_cons_zero, List.getElem_cons_succ, Act.put, List.setIfInBounds_toArray, List.set_cons_zero, List.set_cons_succ]
  refine wpAnyH_take (i := 3) (v := ?_) rfl (by kernel_rfl) (by kernel_rfl) (by kernel_rfl) (fun _ _ _ h => h) (Or.inl ⟨by kernel_rfl, ?_⟩) hS ?_
  rotate_left 1
  · (intro w' hS'; clear hS'; go_simp; try with_reducible rfl)
  simp only [List.getElem_toArray, List.getElem_cons_zero, List.getElem_cons_succ, Act.put, List.setIfInBounds_toArray, List.set_cons_zero, List.set_cons_succ]
  refine wpAnyH_take (i := 4) (v := ?_) rfl (by kernel_rfl) (by kernel_rfl) (by kernel_rfl) (fun _ _ _ h => h) (Or.inl ⟨by kernel_rfl, ?_⟩) hS ?_
  rotate_left 1
  · (intro w' hS'; clear hS'; go_simp; try with_reducible rfl)
  simp only [List.getElem_toArray, List.getElem_cons_zero, List.getElem_cons_succ, Act.put, List.setIfInBounds_toArray, List.set_cons_zero, List.set_cons_succ]
  refine wpAnyH_take (i := 5) rfl (by kernel_rfl) (by kernel_rfl) (by kernel_rfl) (fun _ _ _ h => h) (yieldsIf_load_v (by kernel_rfl) (by exact ⟨_, rfl, rfl⟩) (fun w' hS' => (HQ.out w' hS').1)) hS ?_
  simp only [List.getElem_toArray, List.getElem_cons_zero, List.getElem_cons_succ, Act.put, List.setIfInBounds_toArray, List.set_cons_zero, List.set_cons_succ]
  refine wpAnyH_ready (rs := [1]) (by kernel_rfl) (by simp) ?_
  refine AllReadyH.cons rfl (fun K1 hK1 => ?_) AllReadyH.nil
  go_simp
  refine (KP.out _ hS).mono ?_
  rintro e w91 ⟨rfl, f91⟩
  refine hK1.out _ _ (hS.trans f91 (fun _ _ h => h)) (fun hS => ?_)
  clear f91
  clear hK1 K1
  simp only [List.getElem_toArray, List.getElem_cons_zero, List.getElem_cons_succ, Act.put, List.setIfInBounds_toArray, List.set_cons_zero, List.set_cons_succ]
  refine wpAnyH_take (i := 6) rfl (by kernel_rfl) (by kernel_rfl) (by kernel_rfl) (fun _ _ _ h => h) (yieldsIf_eql_v (by kernel_rfl) (by exact ⟨_, _, _, rfl, rfl, rfl, fun W => (EQB.out W).2 _ _⟩) (fun w' hS' => (EQB.out w').1)) hS ?_
  simp only [List.getElem_toArray, List.getElem_cons_zero, List.getElem_cons_succ, Act.put, List.setIfInBounds_toArray, List.set_cons_zero, List.set_cons_succ]
  refine wpAnyH_take (i := 7) (v := ?_) rfl (by kernel_rfl) (by kernel_rfl) (by kernel_rfl) (fun _ _ _ h => h) (Or.inl ⟨by kernel_rfl, ?_⟩) hS ?_
  rotate_left 1
  · (intro w' hS'; clear hS'; go_simp; try with_reducible rfl)
  simp only [List.getElem_toArray, List.getElem_cons_zero, List.getElem_cons_succ, Act.put, List.setIfInBounds_toArray, List.set_cons_zero, List.set_cons_succ]
  refine wpAnyH_take (i := 8) (v := ?_) rfl (by kernel_rfl) (by kernel_rfl) (by kernel_rfl) (fun _ _ _ h => h) (Or.inl ⟨by kernel_rfl, ?_⟩) hS ?_
  rotate_left 1
  · (intro w' hS'; clear hS'; go_simp; try with_reducible rfl)
  simp only [List.getElem_toArray, List.getElem_cons_zero, List.getElem_cons_succ, Act.put, List.setIfInBounds_toArray, List.set_cons_zero, List.set_cons_succ]
  refine wpAnyH_take (i := 10) (v := ?_) rfl (by kernel_rfl) (by kernel_rfl) (by kernel_rfl) (fun _ _ _ h => h) (Or.inl ⟨by kernel_rfl, ?_⟩) hS ?_
  rotate_left 1
  · (intro w' hS'; clear hS'; go_simp; try with_reducible rfl)
  simp only [List.getElem_toArray, List.getElem_cons_zero, List.getElem_cons_succ, Act.put, List.setIfInBounds_toArray, List.set_cons_zero, List.set_cons_succ]
  refine wpAnyH_take (i := 11) (v := ?_) rfl (by kernel_rfl) (by kernel_rfl) (by kernel_rfl) (fun _ _ _ h => h) (Or.inl ⟨by kernel_rfl, ?_⟩) hS ?_
  rotate_left 1
  · (intro w' hS'; clear hS'; go_simp; try with_reducible rfl)
  simp only [List.getElem_toArray, List.getElem_cons_zero, List.getElem_cons_succ, Act.put, List.setIfInBounds_toArray, List.set_cons_zero, List.set_cons_succ]
  refine wpAnyH_take (i := 12) (v := ?_) rfl (by kernel_rfl) (by kernel_rfl) (by kernel_rfl) (fun _ _ _ h => h) (Or.inl ⟨by kernel_rfl, ?_⟩) hS ?_
  rotate_left 1
  · (intro w' hS'; clear hS'; go_simp; try with_reducible rfl)
  simp only [List.getElem_toArray, List.getElem_cons_zero, List.getElem_cons_succ, Act.put, List.setIfInBounds_toArray, List.set_cons_zero, List.set_cons_succ]
  refine wpAnyH_take (i := 13) (v := ?_) rfl (by kernel_rfl) (by kernel_rfl) (by kernel_rfl) (fun _ _ _ h => h) (Or.inl ⟨by kernel_rfl, ?_⟩) hS ?_
  rotate_left 1
  · (intro w' hS'; have h1 := (HQ.out w' hS').2.1; clear hS'; go_simp; try with_reducible rfl)
  simp only [List.getElem_toArray, List.getElem_cons_zero, List.getElem_cons_succ, Act.put, List.setIfInBounds_toArray, List.set_cons_zero, List.set_cons_succ]
  refine wpAnyH_ready (rs := [9]) (by kernel_rfl) (by simp) ?_
  refine AllReadyH.cons rfl (fun K1 hK1 => ?_) AllReadyH.nil
  go_simp
  refine (KF.out _ hS).mono ?_
  rintro e w92 ⟨rfl, rfl⟩
  refine hK1.out _ _ hS (fun hS => ?_)
  clear hK1 K1
  simp only [List.getElem_toArray, List.getElem_cons_zero, List.getElem_cons_succ, Act.put, List.setIfInBounds_toArray, List.set_cons_zero, List.set_cons_succ]
  refine wpAnyH_take (i := 14) (v := .bool true) rfl (by kernel_rfl) (by kernel_rfl) (by kernel_rfl) (fun _ _ _ h => h) (Or.inl ⟨by kernel_rfl, fun w' hS' => by clear hS'; go_simp⟩) hS ?_
  simp only [List.getElem_toArray, List.getElem_cons_zero, List.getElem_cons_succ, Act.put, List.setIfInBounds_toArray, List.set_cons_zero, List.set_cons_succ]
  refine wpAnyH_take (i := 15) (v := ?_) rfl (by kernel_rfl) (by kernel_rfl) (by kernel_rfl) (fun _ _ _ h => h) (Or.inl ⟨by kernel_rfl, ?_⟩) hS ?_
  rotate_left 1
  · (intro w' hS'; clear hS'; go_simp; try with_reducible rfl)
  simp only [List.getElem_toArray, List.getElem_cons_zero, List.getElem_cons_succ, Act.put, List.setIfInBounds_toArray, List.set_cons_zero, List.set_cons_succ]
  refine wpAnyH_take (i := 16) (v := ?_) rfl (by kernel_rfl) (by kernel_rfl) (by kernel_rfl) (fun _ _ _ h => h) (Or.inl ⟨by kernel_rfl, ?_⟩) hS ?_
  rotate_left 1
  · (intro w' hS'; clear hS'; go_simp; try with_reducible rfl)
  simp only [List.getElem_toArray, List.getElem_cons_zero, List.getElem_cons_succ, Act.put, List.setIfInBounds_toArray, List.set_cons_zero, List.set_cons_succ]
  refine wpAnyH_take (i := 17) (v := ?_) rfl (by kernel_rfl) (by kernel_rfl) (by kernel_rfl) (fun _ _ _ h => h) (Or.inl ⟨by kernel_rfl, ?_⟩) hS ?_
  rotate_left 1
  · (intro w' hS'; clear hS'; go_simp; try with_reducible rfl)
  simp only [List.getElem_toArray, List.getElem_cons_zero, List.getElem_cons_succ, Act.put, List.setIfInBounds_toArray, List.set_cons_zero, List.set_cons_succ]
  refine wpAnyH_take (i := 19) (v := ?_) rfl (by kernel_rfl) (by kernel_rfl) (by kernel_rfl) (fun _ _ _ h => h) (Or.inl ⟨by kernel_rfl, ?_⟩) hS ?_
  rotate_left 1
  · (intro w' hS'; clear hS'; go_simp; try with_reducible rfl)
  simp only [List.getElem_toArray, List.getElem_cons_zero, List.getElem_cons_succ, Act.put, List.setIfInBounds_toArray, List.set_cons_zero, List.set_cons_succ]
  refine wpAnyH_take (i := 20) (v := ?_) rfl (by kernel_rfl) (by kernel_rfl) (by kernel_rfl) (fun _ _ _ h => h) (Or.inl ⟨by kernel_rfl, ?_⟩) hS ?_
  rotate_left 1
  · (intro w' hS'; clear hS'; go_simp; try with_reducible rfl)
  simp only [List.getElem_toArray, List.getElem_cons_zero, List.getElem_cons_succ, Act.put, List.setIfInBounds_toArray, List.set_cons_zero, List.set_cons_succ]
  refine wpAnyH_take (i := 21) (v := ?_) rfl (by kernel_rfl) (by kernel_rfl) (by kernel_rfl) (fun _ _ _ h => h) (Or.inl ⟨by kernel_rfl, ?_⟩) hS ?_
  rotate_left 1
  · (intro w' hS'; clear hS'; go_simp; try with_reducible rfl)
  simp only [List.getElem_toArray, List.getElem_cons_zero, List.getElem_cons_succ, Act.put, List.setIfInBounds_toArray, List.set_cons_zero, List.set_cons_succ]
  refine wpAnyH_take (i := 22) (v := ?_) rfl (by kernel_rfl) (by kernel_rfl) (by kernel_rfl) (fun _ _ _ h => h) (Or.inl ⟨by kernel_rfl, ?_⟩) hS ?_
  rotate_left 1
  · (intro w' hS'; have h1 := (HQ.out w' hS').2.2; clear hS'; go_simp; try with_reducible rfl)
  simp only [List.getElem_toArray, List.getElem_cons_zero, List.getElem_cons_succ, Act.put, List.setIfInBounds_toArray, List.set_cons_zero, List.set_cons_succ]
  refine wpAnyH_take (i := 23) (v := ?_) rfl (by kernel_rfl) (by kernel_rfl) (by kernel_rfl) (fun _ _ _ h => h) (Or.inl ⟨by kernel_rfl, ?_⟩) hS ?_
  rotate_left 1
  · (intro w' hS'; clear hS'; go_simp; try with_reducible rfl)
  simp only [List.getElem_toArray, List.getElem_cons_zero, List.getElem_cons_succ, Act.put, List.setIfInBounds_toArray, List.set_cons_zero, List.set_cons_succ]
  refine wpAnyH_ready (rs := [18]) (by kernel_rfl) (by simp) ?_
  refine AllReadyH.cons rfl (fun K1 hK1 => ?_) AllReadyH.nil
  go_simp
  refine (KL.out _ hS).mono ?_
  rintro e w93 ⟨rfl, rfl⟩
  refine hK1.out _ _ hS (fun hS => ?_)
  clear hK1 K1
  simp only [List.getElem_toArray, List.getElem_cons_zero, List.getElem_cons_succ, Act.put, List.setIfInBounds_toArray, List.set_cons_zero, List.set_cons_succ]
  refine wpAnyH_take (i := 24) (v := .bool true) rfl (by kernel_rfl) (by kernel_rfl) (by kernel_rfl) (fun _ _ _ h => h) (Or.inl ⟨by kernel_rfl, fun w' hS' => by clear hS'; go_simp⟩) hS ?_
  simp only [List.getElem_toArray, List.getElem_cons_zero, List.getElem_cons_succ, Act.put, List.setIfInBounds_toArray, List.set_cons_zero, List.set_cons_succ]
  refine wpAnyH_take (i := 25) (v := ?_) rfl (by kernel_rfl) (by kernel_rfl) (by kernel_rfl) (fun _ _ _ h => h) (Or.inl ⟨by kernel_rfl, ?_⟩) hS ?_
  rotate_left 1
  · (intro w' hS'; clear hS'; go_simp; try with_reducible rfl)
  simp only [List.getElem_toArray, List.getElem_cons_zero, List.getElem_cons_succ, Act.put, List.setIfInBounds_toArray, List.set_cons_zero, List.set_cons_succ]
  refine wpAnyH_take (i := 26) (v := ?_) rfl (by kernel_rfl) (by kernel_rfl) (by kernel_rfl) (fun _ _ _ h => h) (Or.inl ⟨by kernel_rfl, ?_⟩) hS ?_
  rotate_left 1
  · (intro w' hS'; clear hS'; go_simp; try with_reducible rfl)
  simp only [List.getElem_toArray, List.getElem_cons_zero, List.getElem_cons_succ, Act.put, List.setIfInBounds_toArray, List.set_cons_zero, List.set_cons_succ]
  refine wpAnyH_done (by kernel_rfl) ?_ _
  have FS := hid hS
  clear hS
  go_wp2
  go_ret
  exact Dn.mk' BT.out F.out FS.out HH.out (fun _ h => .inl h) (fun _ h => .inl h)
end Go.Proofs.Ytedhmhlhjonloaa

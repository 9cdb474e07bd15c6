/-
  RecordNone's law.
-/
import Derived.Test.YtofieaacingfcaaDoorQTakeNo4
namespace Go.Proofs.YtofieaacingfcaaDoor
open Go.RowKit
set_option linter.unusedVariables false
theorem wpList_neq_v {ops : Array Oper} {rest : List Oper} {o : Oper} {a : Act} {w : World} {Q : Exit → Act → World → Prop} {t : TypeId} {u v r : Value} (hr : (binOp .neq t u v).run Tryd.prog w = .ok r w) (h0 : ∃ x y ty, o.op = .binOp .neq t x y ty ∧ a.eval x = u ∧ a.eval y = v ∧ (eqGuard .neq t x y u v).run Tryd.prog w = .ok () w) (hw : Region.wanted o (yielded ops a.tmps) = true)
    (h : wpList Tryd.prog ops Q rest (a.put o.dst r) w) : wpList Tryd.prog ops Q (o :: rest) a w :=
  wpList_step fun K hK => by
    obtain ⟨x, y, ty, ho, hx, hy, hg⟩ := h0
    rw [if_pos hw]
    unfold Oper.wp execOp
    simp only [ho, hx, hy, hg, hr, Sem.run_bind, Result.andThen_ok]
    exact hK _ _ h
theorem neq_of {t : TypeId} {cs : Array Value} {W : World} (h : (Op.equalIn 10000 t (.agg cs) (.agg cs)).run Tryd.prog W = .ok true W) : (binOp .neq t (.agg cs) (.agg cs)).run Tryd.prog W = .ok (.bool false) W := by
  have e : binOp .neq t (.agg cs) (.agg cs) = (do pure (.bool (!(← Op.equal t (.agg cs) (.agg cs))))) := rfl
  have e2 : Op.equal t (.agg cs) (.agg cs) = Op.equalIn 10000 t (.agg cs) (.agg cs) := rfl
  rw [e, e2]
  simp only [Sem.run_bind, h, Result.andThen_ok]
  rfl
theorem guardN_of {t : TypeId} (h : Tryd.prog.eqGuardType Tryd.prog.depth t = false) (x y : Operand) (cs ds : Array Value) (W : World) : (eqGuard .neq t x y (.agg cs) (.agg ds)).run Tryd.prog W = .ok () W := by
  have e : ∀ W : World, (Sem.run Tryd.prog (Sem.program Sem.pure) W : Result Program) = .ok Tryd.prog W := fun _ => rfl
  unfold eqGuard
  simp [program, e, h]
theorem neq_O (W : World) : (binOp .neq 25 (.agg M.zop) (.agg M.zop)).run Tryd.prog W = .ok (.bool false) W := neq_of (eq_self 9997 3 (by kernel_rfl) _ [.int .i64 0, .int .i64 0, .int .i64 0, .int .i64 0, .int .i64 0, .string [], .string [], .string []] 3 (by kernel_rfl) (by kernel_rfl) W)
theorem neq_E (W : World) : (binOp .neq 31 (.agg M.zep) (.agg M.zep)).run Tryd.prog W = .ok (.bool false) W := neq_of (eq_self 9997 3 (by kernel_rfl) _ [.int .i64 0, .int .i64 0, .int .i64 0, .int .i64 0, .int .i64 0, .int .i64 0, .int .i64 0, .int .i64 0, .int .i64 0, .int .i64 0, .int .i64 0, .int .i64 0, .int .i64 0, .int .i64 0, .int .i64 0, .int .i64 0, .int .i64 0, .int .i64 0, .int .i64 0, .int .i64 0, .int .i64 0, .int .i64 0, .int .i64 0, .int .i64 0, .int .i64 0] 3 (by kernel_rfl) (by kernel_rfl) W)
set_option maxRecDepth 20000 in
set_option maxHeartbeats 3200000 in
theorem lawNone (o : M.Op) (x : Nat → Int) (w : World) (tb : Tb w) : Calls Tryd.prog 6 #[.agg o.cs, .agg (M.epCs x)] w fun e w' => e = .returned (.bool true) ∧ Fr (fun _ => False) w w' := by
  obtain ⟨W, hW⟩ : ∃ W, (w.alloc (.cells o.cs 25)).alloc (.cells (M.epCs x) 31) = W := ⟨_, rfl⟩
  have fW : Fr (fun _ => False) w W := by rw [← hW]; exact Fr.alloc (Fr.alloc (Fr.refl _ _) _) _
  have bo : W.heap[w.heap.size]? = some (.cells o.cs 25 (0, 0)) := by rw [← hW]; exact (Below.heap_alloc _ _ _ (by simp)).trans (Go.heap_alloc_new w _)
  have bx : W.heap[w.heap.size + 1]? = some (.cells (M.epCs x) 31 (0, 0)) := by
    have h1 := Go.heap_alloc_new (w.alloc (.cells o.cs 25)) (.cells (M.epCs x) 31)
    rw [World.size_alloc] at h1
    rw [← hW]; exact h1
  have ldo : ∀ V, Fr (fun _ => False) W V → (Instr.loadAt 25 (.pointer (some ⟨w.heap.size, 0, none⟩))).run Tryd.prog V = .ok (.agg o.cs) V := fun V hf => run_loadAt_mid V _ 0 _ o.cs.toList _ (rangeAt_of (hf.cells bo (fun h => h)) 0 o.cs.toList rfl) Tryd.underlying25 rfl (by kernel_rfl)
  have ldx : ∀ V, Fr (fun _ => False) W V → (Instr.loadAt 31 (.pointer (some ⟨w.heap.size + 1, 0, none⟩))).run Tryd.prog V = .ok (.agg (M.epCs x)) V := fun V hf => run_loadAt_mid V _ 0 _ (M.epCs x).toList _ (rangeAt_of (hf.cells bx (fun h => h)) 0 (M.epCs x).toList rfl) Tryd.underlying31 rfl (by kernel_rfl)
  have kpo := fun V v (h : Nz V v) => putOp_no h o
  have kpe := fun V v (h : Nz V v) => putEpoch_no h x
  have KTO := hid (fun V v (h : Nz V v) => takeOp_no h)
  have KTE := hid (fun V v (h : Nz V v) => takeEpoch_no h)
  have NQO := hid neq_O
  have NQE := hid neq_E
  have KB := hid (begunTrue W (tb.kept fW (fun h => h)))
  obtain ⟨vo, hvo⟩ : ∃ v, Value.agg o.cs = v := ⟨_, rfl⟩
  obtain ⟨vx, hvx⟩ : ∃ v, Value.agg (M.epCs x) = v := ⟨_, rfl⟩
  have HVO := hid hvo
  have HVX := hid hvx
  rw [hvo] at ldo kpo
  rw [hvx] at ldx kpe
  have LDO := hid ldo
  have LDX := hid ldx
  have KPO := hid kpo
  have KPE := hid kpe
  have HW := hid hW
  have FW := hid fW
  clear hW fW bo bx ldo ldx kpo kpe hvo hvx tb
  go_enter Tryd.func6, Tryd.ntmps6
  go_wp2_with fail
  rw [HW.out, HVO.out, HVX.out]
  clear HW
  refine KB.out.mono ?_
  rintro e w1 ⟨rfl, f1⟩
  have F1 := hid f1
  clear f1 KB
  go_wp2_with fail
  obtain ⟨zb, hzb⟩ : ∃ zb, w1.heap.size = zb := ⟨_, rfl⟩
  obtain ⟨sb, hsb⟩ : ∃ sb, zb + 1 = sb := ⟨_, rfl⟩
  obtain ⟨W2, hW2⟩ : ∃ W2, (w1.alloc (.cells #[.bool false, .slice none 0 0] 64)).alloc (.cells #[.pointer none, .pointer (some ⟨zb, 0, none⟩)] 50) = W2 := ⟨_, rfl⟩
  rw [hzb, hsb, hW2]
  have f2 : Fr (fun _ => False) w1 W2 := by rw [← hW2]; exact Fr.alloc (Fr.alloc (Fr.refl _ _) _) _
  have bz : W2.heap[zb]? = some (.cells #[.bool false, .slice none 0 0] 64 (0, 0)) := by rw [← hW2, ← hzb]; exact (Below.heap_alloc _ _ _ (by simp)).trans (Go.heap_alloc_new w1 _)
  have bs : W2.heap[sb]? = some (.cells #[.pointer none, .pointer (some ⟨zb, 0, none⟩)] 50 (0, 0)) := by
    have h1 := Go.heap_alloc_new (w1.alloc (.cells #[.bool false, .slice none 0 0] 64)) (.cells #[.pointer none, .pointer (some ⟨zb, 0, none⟩)] 50)
    rw [World.size_alloc, hzb, hsb] at h1
    rw [← hW2]; exact h1
  have F2 := hid (F1.out.trans f2 (fun _ _ h => h))
  have NZ : Hid (Nz W2 (.pointer (some ⟨zb, 0, none⟩))) := hid (.inr ⟨zb, _, rfl, bz⟩)
  have BS := hid bs
  have l0 := cell_at (j := 0) bs rfl
  clear hzb hsb hW2 f2 bz bs
  refine wp_loop_rounds 3 ?_
  rw [rounds_succ]
  repeat (first
    | (refine wpList_load_v (LDO.out _ F2.out) (by exact ⟨_, rfl, rfl⟩) (by kernel_rfl) ?_)
    | (go_at_call 17; refine (KPO.out _ _ (.inl rfl)).mono ?_; rintro e w3 ⟨rfl, hf3⟩; have G3 := hid hf3; have F3 := hid (F2.out.trans hf3 (fun _ _ h => h)); clear hf3; dsimp only)
    | (refine wpList_load_v (LDX.out _ F3.out) (by exact ⟨_, rfl, rfl⟩) (by kernel_rfl) ?_)
    | (go_at_call 23; refine (KPE.out _ _ (.inl rfl)).mono ?_; rintro e w4 ⟨rfl, hf4⟩; have G4 := hid (G3.out.trans hf4 (fun _ _ h => h)); have F4 := hid (F3.out.trans hf4 (fun _ _ h => h)); have l1 := cellFr G4.out (fun h => h) (cell_at (j := 1) BS.out rfl); clear hf4; dsimp only)
    | go_values | go_skip | go_guarded | go_step | go_upon | go_back)
  clear l0
  have NZ4 := hid (NZ.out.kept G4.out)
  rw [rounds_succ]
  repeat (first
    | (refine wpList_load_v (LDO.out _ F4.out) (by exact ⟨_, rfl, rfl⟩) (by kernel_rfl) ?_)
    | (go_at_call 17; refine (KPO.out _ _ NZ4.out).mono ?_; rintro e w5 ⟨rfl, hf5⟩; have NZ5 := hid (NZ4.out.kept hf5); have F5 := hid (F4.out.trans hf5 (fun _ _ h => h)); clear hf5; dsimp only)
    | (refine wpList_load_v (LDX.out _ F5.out) (by exact ⟨_, rfl, rfl⟩) (by kernel_rfl) ?_)
    | (go_at_call 23; refine (KPE.out _ _ NZ5.out).mono ?_; rintro e w6 ⟨rfl, hf6⟩; have F6 := hid (F5.out.trans hf6 (fun _ _ h => h)); clear hf6; dsimp only)
    | go_values | go_skip | go_guarded | go_step | go_upon | go_back)
  clear l1
  rw [rounds_succ]
  go_wp2_with fail
  obtain ⟨yb, hyb⟩ : ∃ yb, w6.heap.size = yb := ⟨_, rfl⟩
  obtain ⟨tb, htb⟩ : ∃ tb, yb + 1 = tb := ⟨_, rfl⟩
  obtain ⟨V0, hV0⟩ : ∃ V0, (w6.alloc (.cells #[.bool false, .slice none 0 0] 69)).alloc (.cells #[.pointer none, .pointer (some ⟨yb, 0, none⟩)] 67) = V0 := ⟨_, rfl⟩
  rw [hyb, htb, hV0]
  have f7 : Fr (fun _ => False) w6 V0 := by rw [← hV0]; exact Fr.alloc (Fr.alloc (Fr.refl _ _) _) _
  have by_ : V0.heap[yb]? = some (.cells #[.bool false, .slice none 0 0] 69 (0, 0)) := by rw [← hV0, ← hyb]; exact (Below.heap_alloc _ _ _ (by simp)).trans (Go.heap_alloc_new w6 _)
  have bt : V0.heap[tb]? = some (.cells #[.pointer none, .pointer (some ⟨yb, 0, none⟩)] 67 (0, 0)) := by
    have h1 := Go.heap_alloc_new (w6.alloc (.cells #[.bool false, .slice none 0 0] 69)) (.cells #[.pointer none, .pointer (some ⟨yb, 0, none⟩)] 67)
    rw [World.size_alloc, hyb, htb] at h1
    rw [← hV0]; exact h1
  have FV0 := hid (F6.out.trans f7 (fun _ _ h => h))
  have NY : Hid (Nz V0 (.pointer (some ⟨yb, 0, none⟩))) := hid (.inr ⟨yb, _, rfl, by_⟩)
  have BT := hid bt
  have l0 := cell_at (j := 0) bt rfl
  have GA0 : Hid (Fr (fun _ => False) V0 V0) := hid (Fr.refl _ _)
  clear hyb htb hV0 f7 by_ bt KPO KPE LDO LDX NZ NZ4 NZ5 BS
  refine wp_loop_rounds 3 ?_
  rw [rounds_succ]
  go_wp2_with fail
  refine (KTO.out V0 _ (Or.inl rfl)).mono ?_
  rintro e a0 ⟨rfl, ha⟩
  obtain ⟨A0, sa, ra, fa, za⟩ := fresh_box a0 25 M.zop M.zop (Nat.le_refl _) (by kernel_rfl) (by kernel_rfl)
  have ga := (GA0.out.trans ha (fun _ _ h => h)).trans fa (fun _ _ h => h)
  obtain ⟨vp, hvp⟩ : ∃ v, Value.agg M.zop = v := ⟨_, rfl⟩
  rw [hvp] at sa
  rw [hvp]
  have SA := hid sa
  have GA := hid ga
  have RA := hid ra
  have HVP := hid hvp
  clear ha sa ra fa za ga hvp
  unfold M.zop at SA
  dsimp only
  repeat (first
    | (refine wpList_store_v SA.out (by exact ⟨_, _, rfl, rfl, rfl⟩) (by kernel_rfl) ?_)
    | (go_at_call 25; refine (KTE.out _ _ (Or.inl rfl)).mono ?_)
    | go_values | go_skip | go_guarded | go_step | go_upon | go_back)
  rintro e b0 ⟨rfl, hb⟩
  obtain ⟨B0, sb', rb', fb', zb'⟩ := fresh_box b0 31 M.zep M.zep (Nat.le_refl _) (by kernel_rfl) (by kernel_rfl)
  have fab : Fr (fun _ => False) A0 B0 := hb.trans fb' (fun _ _ h => h)
  have gb := GA.out.trans fab (fun _ _ h => h)
  have lda : (Instr.loadAt 25 (.pointer (some ⟨a0.heap.size, 0, none⟩))).run Tryd.prog B0 = .ok (.agg M.zop) B0 := run_loadAt_mid B0 _ 0 _ M.zop.toList _ (rangeAt_kept RA.out fab (fun h => h)) Tryd.underlying25 rfl (by kernel_rfl)
  have ldb : (Instr.loadAt 31 (.pointer (some ⟨b0.heap.size, 0, none⟩))).run Tryd.prog B0 = .ok (.agg M.zep) B0 := run_loadAt_mid B0 _ 0 _ M.zep.toList _ rb' Tryd.underlying31 rfl (by kernel_rfl)
  have nqo := NQO.out B0
  have nqe := NQE.out B0
  have gdo : ∀ x y, (eqGuard .neq 25 x y (.agg M.zop) (.agg M.zop)).run Tryd.prog B0 = .ok () B0 := fun x y => guardN_of (by kernel_rfl) x y _ _ _
  have gde : ∀ x y, (eqGuard .neq 31 x y (.agg M.zep) (.agg M.zep)).run Tryd.prog B0 = .ok () B0 := fun x y => guardN_of (by kernel_rfl) x y _ _ _
  obtain ⟨vq, hvq⟩ : ∃ v, Value.agg M.zep = v := ⟨_, rfl⟩
  rw [hvq] at sb' ldb nqe gde
  rw [HVP.out] at lda nqo gdo
  rw [hvq]
  have HVQ := hid hvq
  have SB := hid sb'
  have LDA := hid lda
  have LDB := hid ldb
  have NO := hid nqo
  have NE := hid nqe
  have GDO := hid gdo
  have GDE := hid gde
  have GA1 := hid gb
  have l1 := cellFr gb (fun h => h) (cell_at (j := 1) BT.out rfl)
  clear hb sb' rb' fb' zb' fab gb lda ldb nqo nqe gdo gde hvq
  unfold M.zep at SB HVQ
  unfold M.zop at HVP
  dsimp only
  repeat (first
    | (refine wpList_store_v SB.out (by exact ⟨_, _, rfl, rfl, rfl⟩) (by kernel_rfl) ?_)
    | (refine wpList_load_v LDA.out (by exact ⟨_, rfl, rfl⟩) (by kernel_rfl) ?_)
    | (refine wpList_load_v LDB.out (by exact ⟨_, rfl, rfl⟩) (by kernel_rfl) ?_)
    | (refine wpList_neq_v NO.out (by exact ⟨_, _, _, rfl, rfl, HVP.out, GDO.out _ _⟩) (by kernel_rfl) ?_)
    | (refine wpList_neq_v NE.out (by exact ⟨_, _, _, rfl, rfl, HVQ.out, GDE.out _ _⟩) (by kernel_rfl) ?_)
    | go_values | go_skip | go_guarded | go_step | go_upon | go_back)
  clear l0 SA GA RA HVP SB LDA LDB NO NE GDO GDE HVQ
  obtain ⟨U1, hU1⟩ : ∃ U1, B0 = U1 := ⟨_, rfl⟩
  rw [hU1] at GA1 l1 ⊢
  clear hU1
  rw [rounds_succ]
  go_wp2_with fail
  refine (KTO.out U1 _ (NY.out.kept GA1.out)).mono ?_
  rintro e a1 ⟨rfl, ha⟩
  obtain ⟨A1, sa, ra, fa, za⟩ := fresh_box a1 25 M.zop M.zop (Nat.le_refl _) (by kernel_rfl) (by kernel_rfl)
  have ga := (GA1.out.trans ha (fun _ _ h => h)).trans fa (fun _ _ h => h)
  obtain ⟨vp, hvp⟩ : ∃ v, Value.agg M.zop = v := ⟨_, rfl⟩
  rw [hvp] at sa
  rw [hvp]
  have SA := hid sa
  have GA := hid ga
  have RA := hid ra
  have HVP := hid hvp
  clear ha sa ra fa za ga hvp
  unfold M.zop at SA
  dsimp only
  repeat (first
    | (refine wpList_store_v SA.out (by exact ⟨_, _, rfl, rfl, rfl⟩) (by kernel_rfl) ?_)
    | (go_at_call 25; refine (KTE.out _ _ (NY.out.kept GA.out)).mono ?_)
    | go_values | go_skip | go_guarded | go_step | go_upon | go_back)
  rintro e b1 ⟨rfl, hb⟩
  obtain ⟨B1, sb', rb', fb', zb'⟩ := fresh_box b1 31 M.zep M.zep (Nat.le_refl _) (by kernel_rfl) (by kernel_rfl)
  have fab : Fr (fun _ => False) A1 B1 := hb.trans fb' (fun _ _ h => h)
  have gb := GA.out.trans fab (fun _ _ h => h)
  have lda : (Instr.loadAt 25 (.pointer (some ⟨a1.heap.size, 0, none⟩))).run Tryd.prog B1 = .ok (.agg M.zop) B1 := run_loadAt_mid B1 _ 0 _ M.zop.toList _ (rangeAt_kept RA.out fab (fun h => h)) Tryd.underlying25 rfl (by kernel_rfl)
  have ldb : (Instr.loadAt 31 (.pointer (some ⟨b1.heap.size, 0, none⟩))).run Tryd.prog B1 = .ok (.agg M.zep) B1 := run_loadAt_mid B1 _ 0 _ M.zep.toList _ rb' Tryd.underlying31 rfl (by kernel_rfl)
  have nqo := NQO.out B1
  have nqe := NQE.out B1
  have gdo : ∀ x y, (eqGuard .neq 25 x y (.agg M.zop) (.agg M.zop)).run Tryd.prog B1 = .ok () B1 := fun x y => guardN_of (by kernel_rfl) x y _ _ _
  have gde : ∀ x y, (eqGuard .neq 31 x y (.agg M.zep) (.agg M.zep)).run Tryd.prog B1 = .ok () B1 := fun x y => guardN_of (by kernel_rfl) x y _ _ _
  obtain ⟨vq, hvq⟩ : ∃ v, Value.agg M.zep = v := ⟨_, rfl⟩
  rw [hvq] at sb' ldb nqe gde
  rw [HVP.out] at lda nqo gdo
  rw [hvq]
  have HVQ := hid hvq
  have SB := hid sb'
  have LDA := hid lda
  have LDB := hid ldb
  have NO := hid nqo
  have NE := hid nqe
  have GDO := hid gdo
  have GDE := hid gde
  have GA2 := hid gb
  skip
  clear hb sb' rb' fb' zb' fab gb lda ldb nqo nqe gdo gde hvq
  unfold M.zep at SB HVQ
  unfold M.zop at HVP
  dsimp only
  repeat (first
    | (refine wpList_store_v SB.out (by exact ⟨_, _, rfl, rfl, rfl⟩) (by kernel_rfl) ?_)
    | (refine wpList_load_v LDA.out (by exact ⟨_, rfl, rfl⟩) (by kernel_rfl) ?_)
    | (refine wpList_load_v LDB.out (by exact ⟨_, rfl, rfl⟩) (by kernel_rfl) ?_)
    | (refine wpList_neq_v NO.out (by exact ⟨_, _, _, rfl, rfl, HVP.out, GDO.out _ _⟩) (by kernel_rfl) ?_)
    | (refine wpList_neq_v NE.out (by exact ⟨_, _, _, rfl, rfl, HVQ.out, GDE.out _ _⟩) (by kernel_rfl) ?_)
    | go_values | go_skip | go_guarded | go_step | go_upon | go_back)
  clear l1 SA GA RA HVP SB LDA LDB NO NE GDO GDE HVQ
  rw [rounds_succ]
  go_wp2_with fail
  go_ret
  exact ⟨rfl, ((FW.out.trans FV0.out (fun _ _ h => h))).trans GA2.out (fun _ _ h => h)⟩
end Go.Proofs.YtofieaacingfcaaDoor

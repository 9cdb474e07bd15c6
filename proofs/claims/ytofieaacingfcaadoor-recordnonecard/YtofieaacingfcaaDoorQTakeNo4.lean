/-
  judged of an error; takeWhole, TakeOp, TakeEpoch at a reader that nothing made. (gen/gen_q7.py)
-/
import Derived.Test.YtofieaacingfcaaDoorQTakeNo3
namespace Go.Proofs.YtofieaacingfcaaDoor
open Go.RowKit
set_option linter.unusedVariables false
/-- a new box, and what is stored into it -/
theorem fresh_box (w : World) (ty : TypeId) (z c : Array Value) (hs : c.size ≤ z.size) (hi : (Tryd.prog.info? ty).map (·.size) = some c.size) (h1 : c.all (·.oneCell') = true) :
    ∃ W', (Instr.storeAt ty (.pointer (some ⟨w.heap.size, 0, none⟩)) (.agg c)).run Tryd.prog (w.alloc (.cells z ty)) = .ok () W' ∧ W'.rangeAt w.heap.size 0 c.toList ∧ Fr (fun _ => False) w W' ∧ w.heap.size < W'.heap.size := by
  have b0 : (w.alloc (.cells z ty)).heap[w.heap.size]? = some (.cells z ty (0, 0)) := Go.heap_alloc_new w _
  have th : (w.alloc (.cells z ty)).there w.heap.size 0 c.size := there_of b0 hs
  have hz := (Fr.setCells (w.alloc (.cells z ty)) w.heap.size 0 c.toList).size
  rw [World.size_alloc] at hz
  exact ⟨_, run_storeAt_mid (P := Tryd.prog) _ _ 0 ty c th hi h1, World.rangeAt_setCells_same _ _ 0 c.toList th, ((Fr.alloc (Fr.refl (fun k => k = w.heap.size) w) (.cells z ty)).trans (Fr.setCells _ _ _ _) (fun _ _ h => h)).mono (fun i hi e => by omega), by omega⟩
/-- a row is stored into a box, and read there -/
theorem box_back {V : World} {b : Nat} {ty : TypeId} {z c : Array Value} {d : TypeDesc} (hb : V.heap[b]? = some (.cells z ty (0, 0))) (hs : c.size ≤ z.size) (hi : (Tryd.prog.info? ty).map (·.size) = some c.size) (h1 : c.all (·.oneCell') = true) (hu : Tryd.prog.underlying ty = some d) (hd : d.isRow = true) :
    ∃ V', (Instr.storeAt ty (.pointer (some ⟨b, 0, none⟩)) (.agg c)).run Tryd.prog V = .ok () V' ∧ (loadVar ty ⟨b, 0, none⟩).run Tryd.prog V' = .ok (.agg c) V' ∧ Fr (fun k => k = b) V V' := by
  have th : V.there b 0 c.size := there_of hb hs
  exact ⟨_, run_storeAt_mid (P := Tryd.prog) V _ 0 ty c th hi h1, run_loadVar_mid (P := Tryd.prog) _ _ 0 ty c.toList _ (World.rangeAt_setCells_same V _ 0 c.toList th) hu hd (by simpa using hi), Fr.setCells _ _ _ _⟩
set_option maxRecDepth 20000 in
set_option maxHeartbeats 3200000 in
theorem judgedOp_err (w : World) (u : Value) : Calls Tryd.prog 90 #[.agg M.zop, .int .i64 2, u] w fun e w' => e = .returned (.tuple #[.agg M.zop, .int .i64 2]) ∧ Fr (fun _ => False) w w' := by
  obtain ⟨rb, hrb⟩ : ∃ rb, w.heap.size + 1 = rb := ⟨_, rfl⟩
  obtain ⟨W, hW⟩ : ∃ W, (w.alloc (.cells M.zop 25)).alloc (.cells M.zop 25) = W := ⟨_, rfl⟩
  have fW : Fr (fun _ => False) w W := by rw [← hW]; exact Fr.alloc (Fr.alloc (Fr.refl _ _) _) _
  have br : W.heap[rb]? = some (.cells M.zop 25 (0, 0)) := by
    have h1 := Go.heap_alloc_new (w.alloc (.cells M.zop 25)) (.cells M.zop 25)
    rw [World.size_alloc, hrb] at h1
    rw [← hW]; exact h1
  have fN : Fr (fun _ => False) W (W.alloc (.cells M.zop 25)) := Fr.alloc (Fr.refl _ _) _
  have bN : (W.alloc (.cells M.zop 25)).heap[W.heap.size]? = some (.cells M.zop 25 (0, 0)) := Go.heap_alloc_new W _
  have ld : (Instr.loadAt 25 (.pointer (some ⟨W.heap.size, 0, none⟩))).run Tryd.prog (W.alloc (.cells M.zop 25)) = .ok (.agg M.zop) (W.alloc (.cells M.zop 25)) := run_loadAt_mid _ W.heap.size 0 _ M.zop.toList _ (rangeAt_of bN 0 M.zop.toList rfl) Tryd.underlying25 rfl (by kernel_rfl)
  obtain ⟨W2, st, lr, f2⟩ := box_back (c := M.zop) (fN.cells br (fun h => h)) (Nat.le_refl _) (by kernel_rfl) (by kernel_rfl) Tryd.underlying25 rfl
  obtain ⟨va, hva⟩ : ∃ v, Value.agg M.zop = v := ⟨_, rfl⟩
  rw [hva] at ld st lr
  have HVA := hid hva
  have LD := hid ld
  have ST := hid st
  have LR := hid lr
  have HW := hid hW
  have HRB := hid hrb
  have FW := hid (fW.trans fN (fun _ _ h => h))
  have F2 := hid f2
  clear hva ld st lr hW hrb fW br fN bN f2
  unfold M.zop at LD ST HW HVA ⊢
  go_enter Tryd.func90, Tryd.ntmps90
  go_upto_region 1 with fail
  rw [HRB.out, HW.out, HVA.out]
  repeat (first
    | (refine wpList_load_v LD.out (by exact ⟨_, rfl, rfl⟩) (by kernel_rfl) ?_)
    | (refine wpList_store_v ST.out (by exact ⟨_, _, rfl, rfl, rfl⟩) (by kernel_rfl) ?_)
    | go_values | go_skip | go_guarded | go_step | go_upon | go_back)
  refine bodyPost_ret (v := .tuple #[va, .int .i64 2]) (results_cell2 Tryd.results90 _ _ _ _ _ _ (by rfl) LR.out (by rfl)) rfl ⟨by rw [← HVA.out], ?_⟩
  have h2 := HRB.out
  exact (FW.out.mono (T := fun k => k = rb) (fun _ _ h => h.elim)).trans F2.out (fun _ _ h => h) |>.mono (fun i hi e => by omega)
set_option maxRecDepth 20000 in
set_option maxHeartbeats 3200000 in
theorem takeOp_nil (w : World) (u1 u2 : Value) : Calls Tryd.prog 60 #[.pointer none, u1, u2] w fun e w' => e = .returned (.tuple #[.agg M.zop, .int .i64 2]) ∧ Fr (fun _ => False) w w' := by
  obtain ⟨rb, hrb⟩ : ∃ rb, w.heap.size = rb := ⟨_, rfl⟩
  obtain ⟨nb, hnb⟩ : ∃ nb, rb + 1 = nb := ⟨_, rfl⟩
  obtain ⟨W, hW⟩ : ∃ W, (w.alloc (.cells M.zop 25)).alloc (.cells M.zop 25) = W := ⟨_, rfl⟩
  have fW : Fr (fun _ => False) w W := by rw [← hW]; exact Fr.alloc (Fr.alloc (Fr.refl _ _) _) _
  have br : W.heap[rb]? = some (.cells M.zop 25 (0, 0)) := by rw [← hW, ← hrb]; exact (Below.heap_alloc _ _ _ (by simp)).trans (Go.heap_alloc_new w _)
  have bn : W.heap[nb]? = some (.cells M.zop 25 (0, 0)) := by
    have h1 := Go.heap_alloc_new (w.alloc (.cells M.zop 25)) (.cells M.zop 25)
    rw [World.size_alloc, hrb, hnb] at h1
    rw [← hW]; exact h1
  have ld : (Instr.loadAt 25 (.pointer (some ⟨nb, 0, none⟩))).run Tryd.prog W = .ok (.agg M.zop) W := run_loadAt_mid _ nb 0 _ M.zop.toList _ (rangeAt_of bn 0 M.zop.toList rfl) Tryd.underlying25 rfl (by kernel_rfl)
  obtain ⟨W2, st, lr, f2⟩ := box_back (c := M.zop) br (Nat.le_refl _) (by kernel_rfl) (by kernel_rfl) Tryd.underlying25 rfl
  obtain ⟨va, hva⟩ : ∃ v, Value.agg M.zop = v := ⟨_, rfl⟩
  rw [hva] at ld st lr
  have HVA := hid hva
  have LD := hid ld
  have ST := hid st
  have LR := hid lr
  have HW := hid hW
  have HRB := hid hrb
  have HNB := hid hnb
  have FW := hid fW
  have F2 := hid f2
  clear hva ld st lr hW hrb hnb fW br bn f2
  unfold M.zop at HW
  go_enter Tryd.func60, Tryd.ntmps60
  go_upto_region 2 with fail
  rw [HRB.out, HNB.out, HW.out]
  repeat (first
    | (refine wpList_load_v LD.out (by exact ⟨_, rfl, rfl⟩) (by kernel_rfl) ?_)
    | (refine wpList_store_v ST.out (by exact ⟨_, _, rfl, rfl, rfl⟩) (by kernel_rfl) ?_)
    | go_values | go_skip | go_guarded | go_step | go_upon | go_back)
  refine bodyPost_ret (v := .tuple #[va, .int .i64 2]) (results_cell2 Tryd.results60 _ _ _ _ _ _ (by rfl) LR.out (by rfl)) rfl ⟨by rw [← HVA.out], ?_⟩
  have h2 := HRB.out
  exact (FW.out.mono (T := fun k => k = rb) (fun _ _ h => h.elim)).trans F2.out (fun _ _ h => h) |>.mono (fun i hi e => by omega)
set_option maxRecDepth 20000 in
set_option maxHeartbeats 3200000 in
theorem takeOp_zero {w : World} {p : Nat} {T : TypeId} (hp : w.heap[p]? = some (.cells #[.bool false, .slice none 0 0] T (0, 0))) (u2 : Value) : Calls Tryd.prog 60 #[.pointer (some ⟨p, 0, none⟩), .func (.func 61) #[] #[], u2] w fun e w' => e = .returned (.tuple #[.agg M.zop, .int .i64 2]) ∧ Fr (fun _ => False) w w' := by
  obtain ⟨rb, hrb⟩ : ∃ rb, w.heap.size = rb := ⟨_, rfl⟩
  obtain ⟨W, hW⟩ : ∃ W, (w.alloc (.cells M.zop 25)).alloc (.cells M.zop 25) = W := ⟨_, rfl⟩
  have fW : Fr (fun _ => False) w W := by rw [← hW]; exact Fr.alloc (Fr.alloc (Fr.refl _ _) _) _
  have br : W.heap[rb]? = some (.cells M.zop 25 (0, 0)) := by rw [← hW, ← hrb]; exact (Below.heap_alloc _ _ _ (by simp)).trans (Go.heap_alloc_new w _)
  have pW := fW.cells hp (fun h => h)
  have c0 := cell_at (j := 0) pW rfl
  have c1 := cell_at (j := 1) pW rfl
  have hpl := lt_of_row pW
  have hrl := lt_of_row br
  obtain ⟨bb, hbb⟩ : ∃ bb, W.heap.size = bb := ⟨_, rfl⟩
  obtain ⟨fb, hfb⟩ : ∃ fb, bb + 1 = fb := ⟨_, rfl⟩
  obtain ⟨W2, hW2⟩ : ∃ W2, (W.alloc (.cells #[.bool false, .slice none 0 0] 69)).alloc (.cells #[.pointer (some ⟨p, 0, none⟩), .int .i64 0] 125) = W2 := ⟨_, rfl⟩
  have f2 : Fr (fun _ => False) W W2 := by rw [← hW2]; exact Fr.alloc (Fr.alloc (Fr.refl _ _) _) _
  have bb2 : W2.heap[bb]? = some (.cells #[.bool false, .slice none 0 0] 69 (0, 0)) := by rw [← hW2, ← hbb]; exact (Below.heap_alloc _ _ _ (by simp)).trans (Go.heap_alloc_new W _)
  have bf2 : W2.heap[fb]? = some (.cells #[.pointer (some ⟨p, 0, none⟩), .int .i64 0] 125 (0, 0)) := by
    have h1 := Go.heap_alloc_new (W.alloc (.cells #[.bool false, .slice none 0 0] 69)) (.cells #[.pointer (some ⟨p, 0, none⟩), .int .i64 0] 125)
    rw [World.size_alloc, hbb, hfb] at h1
    rw [← hW2]; exact h1
  have KT := hid (frOp_no bf2 (.inr ⟨p, rfl, cellFr f2 (fun h => h) c0⟩))
  have HW := hid hW
  have HW2 := hid hW2
  have HRB := hid hrb
  have HBB := hid hbb
  have HFB := hid hfb
  have FW := hid fW
  have F2 := hid f2
  have BR := hid br
  have PW := hid pW
  have BB2 := hid bb2
  have HPL := hid hpl
  have HRL := hid hrl
  clear hW hW2 hrb hbb hfb fW f2 br pW bb2 bf2 hpl hrl hp
  unfold M.zop at HW
  go_enter Tryd.func60, Tryd.ntmps60
  go_upto_region 2 with fail
  rw [HRB.out, HW.out]
  clear HW
  go_wp2_with fail
  rw [HBB.out, HFB.out, HW2.out]
  clear HW2 c0 c1
  refine KT.out.mono ?_
  rintro e w3 ⟨rfl, g3, f3⟩
  obtain ⟨W4, ste, rg4, f4, hz4⟩ := fresh_box w3 25 M.zop M.zop (Nat.le_refl _) (by kernel_rfl) (by kernel_rfl)
  have d4 : W4.cell? ⟨fb, 1, none⟩ = some (.int .i64 2) := cellFr f4 (fun h => h) (cell_at (j := 1) g3 rfl)
  have ld4 : (Instr.loadAt 25 (.pointer (some ⟨w3.heap.size, 0, none⟩))).run Tryd.prog W4 = .ok (.agg M.zop) W4 := run_loadAt_mid W4 w3.heap.size 0 _ M.zop.toList _ rg4 Tryd.underlying25 rfl (by kernel_rfl)
  have kj := judgedOp_err W4 u2
  obtain ⟨va, hva⟩ : ∃ v, Value.agg M.zop = v := ⟨_, rfl⟩
  rw [hva] at ste ld4 kj
  rw [hva]
  have HVA := hid hva
  have STE := hid ste
  have LD4 := hid ld4
  have KJ := hid kj
  have F3 := hid f3
  have F4 := hid f4
  clear g3 f3 ste rg4 f4 hz4 ld4 kj hva KT
  unfold M.zop at STE
  dsimp only
  repeat (first
    | (refine wpList_store_v STE.out (by exact ⟨_, _, rfl, rfl, rfl⟩) (by kernel_rfl) ?_)
    | (refine wpList_load_v LD4.out (by exact ⟨_, rfl, rfl⟩) (by kernel_rfl) ?_)
    | (go_at_call 90; refine KJ.out.mono ?_)
    | go_values | go_skip | go_guarded | go_step | go_upon | go_back)
  rintro e w5 ⟨rfl, f5⟩
  obtain ⟨W6, stv, rg6, f6, hz6⟩ := fresh_box w5 25 M.zop M.zop (Nat.le_refl _) (by kernel_rfl) (by kernel_rfl)
  have h1 := HRB.out
  have h2 := HBB.out
  have h3 := HFB.out
  have h4 := HPL.out
  have h5 := HRL.out
  have h6 := F2.out.size
  have h7 := F3.out.size
  have h8 := F4.out.size
  have h9 := f5.size
  have f26 : Fr (fun k => k = fb) W2 W6 := ((F3.out.trans (F4.out.mono (T := fun k => k = fb) (fun _ _ h => h.elim)) (fun _ _ h => h)).trans (f5.mono (T := fun k => k = fb) (fun _ _ h => h.elim)) (fun _ _ h => h)).trans (f6.mono (T := fun k => k = fb) (fun _ _ h => h.elim)) (fun _ _ h => h)
  have bb6 := f26.cells BB2.out (fun e => by omega)
  have p6 := f26.cells (F2.out.cells PW.out (fun h => h)) (fun e => by omega)
  have r6 := f26.cells (F2.out.cells BR.out (fun h => h)) (fun e => by omega)
  have ldb : (Instr.loadAt 69 (.pointer (some ⟨bb, 0, none⟩))).run Tryd.prog W6 = .ok (.agg #[.bool false, .slice none 0 0]) W6 := run_loadAt_mid W6 bb 0 _ [.bool false, .slice none 0 0] _ (rangeAt_of bb6 0 [.bool false, .slice none 0 0] rfl) Tryd.underlying69 rfl (by kernel_rfl)
  have thb : W6.there p 0 (#[.bool false, .slice none 0 0] : Array Value).size := there_of p6 (Nat.le_refl _)
  have stb := run_storeAt_mid (P := Tryd.prog) W6 p 0 69 #[.bool false, .slice none 0 0] thb (by kernel_rfl) (by kernel_rfl)
  have f7 : Fr (fun _ => False) W6 (W6.setCells p 0 (#[.bool false, .slice none 0 0] : Array Value).toList) := Fr.same (Fr.setCells _ _ _ _) ((setCells_same (#[.bool false, .slice none 0 0] : Array Value).toList W6 0 p6 (fun j v hv => by rw [Nat.zero_add]; simpa using hv)).trans p6.symm)
  obtain ⟨W7, hW7⟩ : ∃ W7, W6.setCells p 0 (#[.bool false, .slice none 0 0] : Array Value).toList = W7 := ⟨_, rfl⟩
  rw [hW7] at stb f7
  have ld7 : (Instr.loadAt 25 (.pointer (some ⟨w5.heap.size, 0, none⟩))).run Tryd.prog W7 = .ok (.agg M.zop) W7 := run_loadAt_mid W7 w5.heap.size 0 _ M.zop.toList _ (rangeAt_kept rg6 f7 (fun h => h)) Tryd.underlying25 rfl (by kernel_rfl)
  obtain ⟨W8, st8, lr8, f8⟩ := box_back (c := M.zop) (f7.cells r6 (fun h => h)) (Nat.le_refl _) (by kernel_rfl) (by kernel_rfl) Tryd.underlying25 rfl
  have hva := HVA.out
  rw [hva] at stv ld7 st8 lr8
  obtain ⟨vb, hvb⟩ : ∃ v, Value.agg #[.bool false, .slice none 0 0] = v := ⟨_, rfl⟩
  rw [hvb] at ldb stb
  have f27 : Fr (fun k => k = fb) W2 W7 := f26.trans (f7.mono (T := fun k => k = fb) (fun _ _ h => h.elim)) (fun _ _ h => h)
  have STV := hid stv
  have LDB := hid ldb
  have STB := hid stb
  have LD7 := hid ld7
  have ST8 := hid st8
  have LR8 := hid lr8
  have F27 := hid f27
  have F8 := hid f8
  clear f5 stv rg6 f6 hz6 h1 h2 h3 h4 h5 h6 h7 h8 h9 f26 bb6 p6 r6 ldb thb stb f7 hW7 ld7 st8 lr8 f8 hva hvb f27 d4 KJ
  unfold M.zop at STV
  dsimp only
  repeat (first
    | (refine wpList_store_v STV.out (by exact ⟨_, _, rfl, rfl, rfl⟩) (by kernel_rfl) ?_)
    | (refine wpList_load_v LDB.out (by exact ⟨_, rfl, rfl⟩) (by kernel_rfl) ?_)
    | (refine wpList_store_v STB.out (by exact ⟨_, _, rfl, rfl, rfl⟩) (by kernel_rfl) ?_)
    | (refine wpList_load_v LD7.out (by exact ⟨_, rfl, rfl⟩) (by kernel_rfl) ?_)
    | (refine wpList_store_v ST8.out (by exact ⟨_, _, rfl, rfl, rfl⟩) (by kernel_rfl) ?_)
    | go_values | go_skip | go_guarded | go_step | go_upon | go_back)
  refine bodyPost_ret (v := .tuple #[va, .int .i64 2]) (results_cell2 Tryd.results60 _ _ _ _ _ _ (by rfl) LR8.out (by rfl)) rfl ⟨by rw [← HVA.out], ?_⟩
  have h1 := HRB.out
  have h2 := HBB.out
  have h3 := HFB.out
  have h5 := FW.out.size
  exact (((FW.out.trans F2.out (fun _ _ h => h)).mono (T := fun k => k = rb ∨ k = fb) (fun _ _ h => h.elim)).trans F27.out (fun _ _ h => .inr h)).trans F8.out (fun _ _ h => .inl h) |>.mono (fun i hi e => by omega)
set_option maxRecDepth 20000 in
set_option maxHeartbeats 3200000 in
theorem takeOp_no {w : World} {v : Value} (h : Nz w v) : Calls Tryd.prog 24 #[v] w fun e w' => e = .returned (.tuple #[.agg M.zop, .int .i64 2]) ∧ Fr (fun _ => False) w w' := by
  obtain ⟨W, hW⟩ : ∃ W, w.alloc (.cells M.zop 25) = W := ⟨_, rfl⟩
  have fW : Fr (fun _ => False) w W := by rw [← hW]; exact Fr.alloc (Fr.refl _ _) _
  have br : W.heap[w.heap.size]? = some (.cells M.zop 25 (0, 0)) := by rw [← hW]; exact Go.heap_alloc_new w _
  have kw : Calls Tryd.prog 60 #[v, .func (.func 61) #[] #[], .func (.func 40) #[] #[]] W fun e w' => e = .returned (.tuple #[.agg M.zop, .int .i64 2]) ∧ Fr (fun _ => False) W w' := by
    rcases h.kept fW with rfl | ⟨p, T, rfl, hp⟩
    · exact takeOp_nil W _ _
    · exact takeOp_zero hp _
  have st : ∀ V, Fr (fun _ => False) W V → ∃ V', (Instr.storeAt 25 (.pointer (some ⟨w.heap.size, 0, none⟩)) (.agg M.zop)).run Tryd.prog V = .ok () V' ∧ (loadVar 25 ⟨w.heap.size, 0, none⟩).run Tryd.prog V' = .ok (.agg M.zop) V' ∧ Fr (fun k => k = w.heap.size) V V' := fun V hf => box_back (c := M.zop) (hf.cells br (fun h => h)) (Nat.le_refl _) (by kernel_rfl) (by kernel_rfl) Tryd.underlying25 rfl
  obtain ⟨va, hva⟩ : ∃ v, Value.agg M.zop = v := ⟨_, rfl⟩
  rw [hva] at kw st
  have HVA := hid hva
  have KW := hid kw
  have ST := hid st
  have HW := hid hW
  have FW := hid fW
  clear hva kw st hW fW br h
  unfold M.zop at HW
  go_enter Tryd.func24, Tryd.ntmps24
  go_wp2_with fail
  rw [HW.out]
  refine KW.out.mono ?_
  rintro e w1 ⟨rfl, f1⟩
  obtain ⟨w2, st2, lr2, f2⟩ := ST.out _ f1
  have ST2 := hid st2
  have LR2 := hid lr2
  have F1 := hid f1
  have F2 := hid f2
  clear f1 st2 lr2 f2 KW
  dsimp only
  repeat (first
    | (refine wpList_store_v ST2.out (by exact ⟨_, _, rfl, rfl, rfl⟩) (by kernel_rfl) ?_)
    | go_values | go_skip | go_guarded | go_step | go_upon | go_back)
  refine bodyPost_ret (v := .tuple #[va, .int .i64 2]) (results_cell2 Tryd.results24 _ _ _ _ _ _ (by rfl) LR2.out (by rfl)) rfl ⟨by rw [← HVA.out], ?_⟩
  exact ((FW.out.trans F1.out (fun _ _ h => h)).mono (T := fun k => k = w.heap.size) (fun _ _ h => h.elim)).trans F2.out (fun _ _ h => h) |>.mono (fun i hi e => by omega)
set_option maxRecDepth 20000 in
set_option maxHeartbeats 3200000 in
theorem judgedEpoch_err (w : World) (u : Value) : Calls Tryd.prog 94 #[.agg M.zep, .int .i64 2, u] w fun e w' => e = .returned (.tuple #[.agg M.zep, .int .i64 2]) ∧ Fr (fun _ => False) w w' := by
  obtain ⟨rb, hrb⟩ : ∃ rb, w.heap.size + 1 = rb := ⟨_, rfl⟩
  obtain ⟨W, hW⟩ : ∃ W, (w.alloc (.cells M.zep 31)).alloc (.cells M.zep 31) = W := ⟨_, rfl⟩
  have fW : Fr (fun _ => False) w W := by rw [← hW]; exact Fr.alloc (Fr.alloc (Fr.refl _ _) _) _
  have br : W.heap[rb]? = some (.cells M.zep 31 (0, 0)) := by
    have h1 := Go.heap_alloc_new (w.alloc (.cells M.zep 31)) (.cells M.zep 31)
    rw [World.size_alloc, hrb] at h1
    rw [← hW]; exact h1
  have fN : Fr (fun _ => False) W (W.alloc (.cells M.zep 31)) := Fr.alloc (Fr.refl _ _) _
  have bN : (W.alloc (.cells M.zep 31)).heap[W.heap.size]? = some (.cells M.zep 31 (0, 0)) := Go.heap_alloc_new W _
  have ld : (Instr.loadAt 31 (.pointer (some ⟨W.heap.size, 0, none⟩))).run Tryd.prog (W.alloc (.cells M.zep 31)) = .ok (.agg M.zep) (W.alloc (.cells M.zep 31)) := run_loadAt_mid _ W.heap.size 0 _ M.zep.toList _ (rangeAt_of bN 0 M.zep.toList rfl) Tryd.underlying31 rfl (by kernel_rfl)
  obtain ⟨W2, st, lr, f2⟩ := box_back (c := M.zep) (fN.cells br (fun h => h)) (Nat.le_refl _) (by kernel_rfl) (by kernel_rfl) Tryd.underlying31 rfl
  obtain ⟨va, hva⟩ : ∃ v, Value.agg M.zep = v := ⟨_, rfl⟩
  rw [hva] at ld st lr
  have HVA := hid hva
  have LD := hid ld
  have ST := hid st
  have LR := hid lr
  have HW := hid hW
  have HRB := hid hrb
  have FW := hid (fW.trans fN (fun _ _ h => h))
  have F2 := hid f2
  clear hva ld st lr hW hrb fW br fN bN f2
  unfold M.zep at LD ST HW HVA ⊢
  go_enter Tryd.func94, Tryd.ntmps94
  go_upto_region 1 with fail
  rw [HRB.out, HW.out, HVA.out]
  repeat (first
    | (refine wpList_load_v LD.out (by exact ⟨_, rfl, rfl⟩) (by kernel_rfl) ?_)
    | (refine wpList_store_v ST.out (by exact ⟨_, _, rfl, rfl, rfl⟩) (by kernel_rfl) ?_)
    | go_values | go_skip | go_guarded | go_step | go_upon | go_back)
  refine bodyPost_ret (v := .tuple #[va, .int .i64 2]) (results_cell2 Tryd.results94 _ _ _ _ _ _ (by rfl) LR.out (by rfl)) rfl ⟨by rw [← HVA.out], ?_⟩
  have h2 := HRB.out
  exact (FW.out.mono (T := fun k => k = rb) (fun _ _ h => h.elim)).trans F2.out (fun _ _ h => h) |>.mono (fun i hi e => by omega)
set_option maxRecDepth 20000 in
set_option maxHeartbeats 3200000 in
theorem takeEpoch_nil (w : World) (u1 u2 : Value) : Calls Tryd.prog 62 #[.pointer none, u1, u2] w fun e w' => e = .returned (.tuple #[.agg M.zep, .int .i64 2]) ∧ Fr (fun _ => False) w w' := by
  obtain ⟨rb, hrb⟩ : ∃ rb, w.heap.size = rb := ⟨_, rfl⟩
  obtain ⟨nb, hnb⟩ : ∃ nb, rb + 1 = nb := ⟨_, rfl⟩
  obtain ⟨W, hW⟩ : ∃ W, (w.alloc (.cells M.zep 31)).alloc (.cells M.zep 31) = W := ⟨_, rfl⟩
  have fW : Fr (fun _ => False) w W := by rw [← hW]; exact Fr.alloc (Fr.alloc (Fr.refl _ _) _) _
  have br : W.heap[rb]? = some (.cells M.zep 31 (0, 0)) := by rw [← hW, ← hrb]; exact (Below.heap_alloc _ _ _ (by simp)).trans (Go.heap_alloc_new w _)
  have bn : W.heap[nb]? = some (.cells M.zep 31 (0, 0)) := by
    have h1 := Go.heap_alloc_new (w.alloc (.cells M.zep 31)) (.cells M.zep 31)
    rw [World.size_alloc, hrb, hnb] at h1
    rw [← hW]; exact h1
  have ld : (Instr.loadAt 31 (.pointer (some ⟨nb, 0, none⟩))).run Tryd.prog W = .ok (.agg M.zep) W := run_loadAt_mid _ nb 0 _ M.zep.toList _ (rangeAt_of bn 0 M.zep.toList rfl) Tryd.underlying31 rfl (by kernel_rfl)
  obtain ⟨W2, st, lr, f2⟩ := box_back (c := M.zep) br (Nat.le_refl _) (by kernel_rfl) (by kernel_rfl) Tryd.underlying31 rfl
  obtain ⟨va, hva⟩ : ∃ v, Value.agg M.zep = v := ⟨_, rfl⟩
  rw [hva] at ld st lr
  have HVA := hid hva
  have LD := hid ld
  have ST := hid st
  have LR := hid lr
  have HW := hid hW
  have HRB := hid hrb
  have HNB := hid hnb
  have FW := hid fW
  have F2 := hid f2
  clear hva ld st lr hW hrb hnb fW br bn f2
  unfold M.zep at HW
  go_enter Tryd.func62, Tryd.ntmps62
  go_upto_region 2 with fail
  rw [HRB.out, HNB.out, HW.out]
  repeat (first
    | (refine wpList_load_v LD.out (by exact ⟨_, rfl, rfl⟩) (by kernel_rfl) ?_)
    | (refine wpList_store_v ST.out (by exact ⟨_, _, rfl, rfl, rfl⟩) (by kernel_rfl) ?_)
    | go_values | go_skip | go_guarded | go_step | go_upon | go_back)
  refine bodyPost_ret (v := .tuple #[va, .int .i64 2]) (results_cell2 Tryd.results62 _ _ _ _ _ _ (by rfl) LR.out (by rfl)) rfl ⟨by rw [← HVA.out], ?_⟩
  have h2 := HRB.out
  exact (FW.out.mono (T := fun k => k = rb) (fun _ _ h => h.elim)).trans F2.out (fun _ _ h => h) |>.mono (fun i hi e => by omega)
set_option maxRecDepth 20000 in
set_option maxHeartbeats 3200000 in
theorem takeEpoch_zero {w : World} {p : Nat} {T : TypeId} (hp : w.heap[p]? = some (.cells #[.bool false, .slice none 0 0] T (0, 0))) (u2 : Value) : Calls Tryd.prog 62 #[.pointer (some ⟨p, 0, none⟩), .func (.func 63) #[] #[], u2] w fun e w' => e = .returned (.tuple #[.agg M.zep, .int .i64 2]) ∧ Fr (fun _ => False) w w' := by
  obtain ⟨rb, hrb⟩ : ∃ rb, w.heap.size = rb := ⟨_, rfl⟩
  obtain ⟨W, hW⟩ : ∃ W, (w.alloc (.cells M.zep 31)).alloc (.cells M.zep 31) = W := ⟨_, rfl⟩
  have fW : Fr (fun _ => False) w W := by rw [← hW]; exact Fr.alloc (Fr.alloc (Fr.refl _ _) _) _
  have br : W.heap[rb]? = some (.cells M.zep 31 (0, 0)) := by rw [← hW, ← hrb]; exact (Below.heap_alloc _ _ _ (by simp)).trans (Go.heap_alloc_new w _)
  have pW := fW.cells hp (fun h => h)
  have c0 := cell_at (j := 0) pW rfl
  have c1 := cell_at (j := 1) pW rfl
  have hpl := lt_of_row pW
  have hrl := lt_of_row br
  obtain ⟨bb, hbb⟩ : ∃ bb, W.heap.size = bb := ⟨_, rfl⟩
  obtain ⟨fb, hfb⟩ : ∃ fb, bb + 1 = fb := ⟨_, rfl⟩
  obtain ⟨W2, hW2⟩ : ∃ W2, (W.alloc (.cells #[.bool false, .slice none 0 0] 69)).alloc (.cells #[.pointer (some ⟨p, 0, none⟩), .int .i64 0] 125) = W2 := ⟨_, rfl⟩
  have f2 : Fr (fun _ => False) W W2 := by rw [← hW2]; exact Fr.alloc (Fr.alloc (Fr.refl _ _) _) _
  have bb2 : W2.heap[bb]? = some (.cells #[.bool false, .slice none 0 0] 69 (0, 0)) := by rw [← hW2, ← hbb]; exact (Below.heap_alloc _ _ _ (by simp)).trans (Go.heap_alloc_new W _)
  have bf2 : W2.heap[fb]? = some (.cells #[.pointer (some ⟨p, 0, none⟩), .int .i64 0] 125 (0, 0)) := by
    have h1 := Go.heap_alloc_new (W.alloc (.cells #[.bool false, .slice none 0 0] 69)) (.cells #[.pointer (some ⟨p, 0, none⟩), .int .i64 0] 125)
    rw [World.size_alloc, hbb, hfb] at h1
    rw [← hW2]; exact h1
  have KT := hid (frEpoch_no bf2 (.inr ⟨p, rfl, cellFr f2 (fun h => h) c0⟩))
  have HW := hid hW
  have HW2 := hid hW2
  have HRB := hid hrb
  have HBB := hid hbb
  have HFB := hid hfb
  have FW := hid fW
  have F2 := hid f2
  have BR := hid br
  have PW := hid pW
  have BB2 := hid bb2
  have HPL := hid hpl
  have HRL := hid hrl
  clear hW hW2 hrb hbb hfb fW f2 br pW bb2 bf2 hpl hrl hp
  unfold M.zep at HW
  go_enter Tryd.func62, Tryd.ntmps62
  go_upto_region 2 with fail
  rw [HRB.out, HW.out]
  clear HW
  go_wp2_with fail
  rw [HBB.out, HFB.out, HW2.out]
  clear HW2 c0 c1
  refine KT.out.mono ?_
  rintro e w3 ⟨rfl, g3, f3⟩
  obtain ⟨W4, ste, rg4, f4, hz4⟩ := fresh_box w3 31 M.zep M.zep (Nat.le_refl _) (by kernel_rfl) (by kernel_rfl)
  have d4 : W4.cell? ⟨fb, 1, none⟩ = some (.int .i64 2) := cellFr f4 (fun h => h) (cell_at (j := 1) g3 rfl)
  have ld4 : (Instr.loadAt 31 (.pointer (some ⟨w3.heap.size, 0, none⟩))).run Tryd.prog W4 = .ok (.agg M.zep) W4 := run_loadAt_mid W4 w3.heap.size 0 _ M.zep.toList _ rg4 Tryd.underlying31 rfl (by kernel_rfl)
  have kj := judgedEpoch_err W4 u2
  obtain ⟨va, hva⟩ : ∃ v, Value.agg M.zep = v := ⟨_, rfl⟩
  rw [hva] at ste ld4 kj
  rw [hva]
  have HVA := hid hva
  have STE := hid ste
  have LD4 := hid ld4
  have KJ := hid kj
  have F3 := hid f3
  have F4 := hid f4
  clear g3 f3 ste rg4 f4 hz4 ld4 kj hva KT
  unfold M.zep at STE
  dsimp only
  repeat (first
    | (refine wpList_store_v STE.out (by exact ⟨_, _, rfl, rfl, rfl⟩) (by kernel_rfl) ?_)
    | (refine wpList_load_v LD4.out (by exact ⟨_, rfl, rfl⟩) (by kernel_rfl) ?_)
    | (go_at_call 94; refine KJ.out.mono ?_)
    | go_values | go_skip | go_guarded | go_step | go_upon | go_back)
  rintro e w5 ⟨rfl, f5⟩
  obtain ⟨W6, stv, rg6, f6, hz6⟩ := fresh_box w5 31 M.zep M.zep (Nat.le_refl _) (by kernel_rfl) (by kernel_rfl)
  have h1 := HRB.out
  have h2 := HBB.out
  have h3 := HFB.out
  have h4 := HPL.out
  have h5 := HRL.out
  have h6 := F2.out.size
  have h7 := F3.out.size
  have h8 := F4.out.size
  have h9 := f5.size
  have f26 : Fr (fun k => k = fb) W2 W6 := ((F3.out.trans (F4.out.mono (T := fun k => k = fb) (fun _ _ h => h.elim)) (fun _ _ h => h)).trans (f5.mono (T := fun k => k = fb) (fun _ _ h => h.elim)) (fun _ _ h => h)).trans (f6.mono (T := fun k => k = fb) (fun _ _ h => h.elim)) (fun _ _ h => h)
  have bb6 := f26.cells BB2.out (fun e => by omega)
  have p6 := f26.cells (F2.out.cells PW.out (fun h => h)) (fun e => by omega)
  have r6 := f26.cells (F2.out.cells BR.out (fun h => h)) (fun e => by omega)
  have ldb : (Instr.loadAt 69 (.pointer (some ⟨bb, 0, none⟩))).run Tryd.prog W6 = .ok (.agg #[.bool false, .slice none 0 0]) W6 := run_loadAt_mid W6 bb 0 _ [.bool false, .slice none 0 0] _ (rangeAt_of bb6 0 [.bool false, .slice none 0 0] rfl) Tryd.underlying69 rfl (by kernel_rfl)
  have thb : W6.there p 0 (#[.bool false, .slice none 0 0] : Array Value).size := there_of p6 (Nat.le_refl _)
  have stb := run_storeAt_mid (P := Tryd.prog) W6 p 0 69 #[.bool false, .slice none 0 0] thb (by kernel_rfl) (by kernel_rfl)
  have f7 : Fr (fun _ => False) W6 (W6.setCells p 0 (#[.bool false, .slice none 0 0] : Array Value).toList) := Fr.same (Fr.setCells _ _ _ _) ((setCells_same (#[.bool false, .slice none 0 0] : Array Value).toList W6 0 p6 (fun j v hv => by rw [Nat.zero_add]; simpa using hv)).trans p6.symm)
  obtain ⟨W7, hW7⟩ : ∃ W7, W6.setCells p 0 (#[.bool false, .slice none 0 0] : Array Value).toList = W7 := ⟨_, rfl⟩
  rw [hW7] at stb f7
  have ld7 : (Instr.loadAt 31 (.pointer (some ⟨w5.heap.size, 0, none⟩))).run Tryd.prog W7 = .ok (.agg M.zep) W7 := run_loadAt_mid W7 w5.heap.size 0 _ M.zep.toList _ (rangeAt_kept rg6 f7 (fun h => h)) Tryd.underlying31 rfl (by kernel_rfl)
  obtain ⟨W8, st8, lr8, f8⟩ := box_back (c := M.zep) (f7.cells r6 (fun h => h)) (Nat.le_refl _) (by kernel_rfl) (by kernel_rfl) Tryd.underlying31 rfl
  have hva := HVA.out
  rw [hva] at stv ld7 st8 lr8
  obtain ⟨vb, hvb⟩ : ∃ v, Value.agg #[.bool false, .slice none 0 0] = v := ⟨_, rfl⟩
  rw [hvb] at ldb stb
  have f27 : Fr (fun k => k = fb) W2 W7 := f26.trans (f7.mono (T := fun k => k = fb) (fun _ _ h => h.elim)) (fun _ _ h => h)
  have STV := hid stv
  have LDB := hid ldb
  have STB := hid stb
  have LD7 := hid ld7
  have ST8 := hid st8
  have LR8 := hid lr8
  have F27 := hid f27
  have F8 := hid f8
  clear f5 stv rg6 f6 hz6 h1 h2 h3 h4 h5 h6 h7 h8 h9 f26 bb6 p6 r6 ldb thb stb f7 hW7 ld7 st8 lr8 f8 hva hvb f27 d4 KJ
  unfold M.zep at STV
  dsimp only
  repeat (first
    | (refine wpList_store_v STV.out (by exact ⟨_, _, rfl, rfl, rfl⟩) (by kernel_rfl) ?_)
    | (refine wpList_load_v LDB.out (by exact ⟨_, rfl, rfl⟩) (by kernel_rfl) ?_)
    | (refine wpList_store_v STB.out (by exact ⟨_, _, rfl, rfl, rfl⟩) (by kernel_rfl) ?_)
    | (refine wpList_load_v LD7.out (by exact ⟨_, rfl, rfl⟩) (by kernel_rfl) ?_)
    | (refine wpList_store_v ST8.out (by exact ⟨_, _, rfl, rfl, rfl⟩) (by kernel_rfl) ?_)
    | go_values | go_skip | go_guarded | go_step | go_upon | go_back)
  refine bodyPost_ret (v := .tuple #[va, .int .i64 2]) (results_cell2 Tryd.results62 _ _ _ _ _ _ (by rfl) LR8.out (by rfl)) rfl ⟨by rw [← HVA.out], ?_⟩
  have h1 := HRB.out
  have h2 := HBB.out
  have h3 := HFB.out
  have h5 := FW.out.size
  exact (((FW.out.trans F2.out (fun _ _ h => h)).mono (T := fun k => k = rb ∨ k = fb) (fun _ _ h => h.elim)).trans F27.out (fun _ _ h => .inr h)).trans F8.out (fun _ _ h => .inl h) |>.mono (fun i hi e => by omega)
set_option maxRecDepth 20000 in
set_option maxHeartbeats 3200000 in
theorem takeEpoch_no {w : World} {v : Value} (h : Nz w v) : Calls Tryd.prog 25 #[v] w fun e w' => e = .returned (.tuple #[.agg M.zep, .int .i64 2]) ∧ Fr (fun _ => False) w w' := by
  obtain ⟨W, hW⟩ : ∃ W, w.alloc (.cells M.zep 31) = W := ⟨_, rfl⟩
  have fW : Fr (fun _ => False) w W := by rw [← hW]; exact Fr.alloc (Fr.refl _ _) _
  have br : W.heap[w.heap.size]? = some (.cells M.zep 31 (0, 0)) := by rw [← hW]; exact Go.heap_alloc_new w _
  have kw : Calls Tryd.prog 62 #[v, .func (.func 63) #[] #[], .func (.func 57) #[] #[]] W fun e w' => e = .returned (.tuple #[.agg M.zep, .int .i64 2]) ∧ Fr (fun _ => False) W w' := by
    rcases h.kept fW with rfl | ⟨p, T, rfl, hp⟩
    · exact takeEpoch_nil W _ _
    · exact takeEpoch_zero hp _
  have st : ∀ V, Fr (fun _ => False) W V → ∃ V', (Instr.storeAt 31 (.pointer (some ⟨w.heap.size, 0, none⟩)) (.agg M.zep)).run Tryd.prog V = .ok () V' ∧ (loadVar 31 ⟨w.heap.size, 0, none⟩).run Tryd.prog V' = .ok (.agg M.zep) V' ∧ Fr (fun k => k = w.heap.size) V V' := fun V hf => box_back (c := M.zep) (hf.cells br (fun h => h)) (Nat.le_refl _) (by kernel_rfl) (by kernel_rfl) Tryd.underlying31 rfl
  obtain ⟨va, hva⟩ : ∃ v, Value.agg M.zep = v := ⟨_, rfl⟩
  rw [hva] at kw st
  have HVA := hid hva
  have KW := hid kw
  have ST := hid st
  have HW := hid hW
  have FW := hid fW
  clear hva kw st hW fW br h
  unfold M.zep at HW
  go_enter Tryd.func25, Tryd.ntmps25
  go_wp2_with fail
  rw [HW.out]
  refine KW.out.mono ?_
  rintro e w1 ⟨rfl, f1⟩
  obtain ⟨w2, st2, lr2, f2⟩ := ST.out _ f1
  have ST2 := hid st2
  have LR2 := hid lr2
  have F1 := hid f1
  have F2 := hid f2
  clear f1 st2 lr2 f2 KW
  dsimp only
  repeat (first
    | (refine wpList_store_v ST2.out (by exact ⟨_, _, rfl, rfl, rfl⟩) (by kernel_rfl) ?_)
    | go_values | go_skip | go_guarded | go_step | go_upon | go_back)
  refine bodyPost_ret (v := .tuple #[va, .int .i64 2]) (results_cell2 Tryd.results25 _ _ _ _ _ _ (by rfl) LR2.out (by rfl)) rfl ⟨by rw [← HVA.out], ?_⟩
  exact ((FW.out.trans F1.out (fun _ _ h => h)).mono (T := fun k => k = w.heap.size) (fun _ _ h => h.elim)).trans F2.out (fun _ _ h => h) |>.mono (fun i hi e => by omega)

end Go.Proofs.YtofieaacingfcaaDoor

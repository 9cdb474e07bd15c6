/-
  The simplest leader: what it asks.
-/
import Derived.Test.YtcmpkbgkhbcekaaDoorJClone
import Derived.Test.YtcmpkbgkhbcekaaDoorQCheck
namespace Go.Proofs.YtcmpkbgkhbcekaaDoor
open Go.RowKit Go.Maps
set_option linter.unusedVariables false
set_option linter.unusedSimpArgs false

theorem jyload {ops : Array Oper} {S : World → Prop} {o : Oper} {a : Act} {ty : TypeId} {u v : Value} (hw : Region.wanted o (yielded ops a.tmps) = true) (h0 : ∃ x, o.op = .load ty x ∧ a.eval x = u) (hl : ∀ w, S w → (Instr.loadAt ty u).run Tryd.prog w = .ok v w) : YieldsIf Tryd.prog ops S o v a :=
  .inl ⟨hw, fun w hw' => by
    obtain ⟨x, ho, hx⟩ := h0
    simp [execOp, ho, hx, hl w hw', Result.andThen]⟩
theorem jstep_store {o : Oper} {a : Act} {w w' : World} {K : Act → World → Prop} {Q : Exit → Act → World → Prop} {ty : TypeId} {u v : Value} {c : Bool} {alt : Prop} (hc : c = true) (hl : (Instr.storeAt ty u v).run Tryd.prog w = .ok () w') (h0 : ∃ x y, o.op = .store ty x y ∧ a.eval x = u ∧ a.eval y = v)
    (h : K (a.put o.dst undef) w') : if c = true then Oper.wp Tryd.prog o a w K Q else alt := by
  obtain ⟨x, y, ho, hx, hy⟩ := h0
  rw [if_pos hc]
  unfold Oper.wp execOp
  simp only [ho, hx, hy, hl, Sem.run_bind, Result.andThen_ok]
  exact h
/-- how an element of the map reads: as its block's number -/
def jEl : Value → Option (DataW Nat × List MemPlace)
  | .pointer (some ⟨g, 0, none⟩) => some (.held g, [])
  | .pointer none => some (.nil, [])
  | _ => none
theorem jEl_inv {v : Value} {g : Nat} {ps : List MemPlace} (h : jEl v = some (.held g, ps)) : v = .pointer (some ⟨g, 0, none⟩) := by
  unfold jEl at h
  split at h
  · cases h; rfl
  · cases h
  · cases h
/-- the map that holds one entry, at slot 0 -/
def JM (w : World) (sm g : Nat) : Prop := w.ownsMap Tryd.prog 2 jEl sm 1 ((DataW.map []).put (.int .i64 0) (.held g))
theorem JM.kept {S : Nat → Prop} {w w' : World} {sm g : Nat} (h : JM w sm g) (hf : Fr S w w') (hS : ¬ S sm) : JM w' sm g := by
  obtain ⟨es, clock, hb, r⟩ := h
  exact ⟨es, clock, hf.cells hb hS, r⟩
theorem jkey : keyOf Tryd.prog 2 (.int .i64 0) = some (.int .i64 0) := Maps.keyOf_int_mk Tryd.underlying2 (by decide)
theorem jzero (w : World) : (zeroValue 76).run Tryd.prog w = .ok (.pointer none) w := by kernel_rfl
theorem JM.look {w : World} {sm g : Nat} (h : JM w sm g) : (Instr.lookup 47 (.map (some sm)) (.int .i64 0) false).run Tryd.prog w = .ok (.pointer (some ⟨g, 0, none⟩)) w := by
  obtain ⟨v, ps, hrun, hR⟩ := World.ownsMap.lookup h jkeyed Tryd.underlying47 (jzero w) (zd := .nil) (zp := []) rfl jkey
  have e : ((DataW.map []).put (.int .i64 0) (.held g) : DataW Nat).atKey (.int .i64 0) .nil = .held g := by rfl
  rw [e] at hR
  rw [hrun, jEl_inv hR]
theorem JM.made {w : World} {sm g : Nat} (h : w.heap[sm]? = some (.map #[] 0)) : ∃ w', (Instr.mapUpdate 47 (.map (some sm)) (.int .i64 0) (.pointer (some ⟨g, 0, none⟩))).run Tryd.prog w = .ok () w' ∧ JM w' sm g ∧ Fr (fun k => k = sm) w w' := by
  obtain ⟨w', h1, h2, h3⟩ := (owns_empty h jEl).update jkeyed Tryd.underlying47 (by decide) jkey (val := .pointer (some ⟨g, 0, none⟩)) (d := .held g) (ps := []) rfl
  exact ⟨w', h1, h2, (Fr.of_grown h3).mono (fun i _ e => by simp at e; exact e.symm)⟩
/-- what is asked -/
def jS : Array Value := #[.int .i64 0, .int .i64 1, .int .i64 0] ++ M.e73
theorem jE_one : M.e73.all (·.oneCell') = true := by simp [M.e73, Value.oneCell']
theorem jS_one : jS.all (·.oneCell') = true := by simp [jS, M.e73, Value.oneCell']
/-- what is held -/
def jH (r : Int) : Array Value := M.e73 ++ #[.int .u8 r]
set_option maxHeartbeats 6400000 in
set_option maxRecDepth 20000 in
theorem jasked {w : World} {p sm g : Nat} {n r : Int} (h : w.heap[p]? = some (.cells (jCells 1 none (some sm) n) 49 (0, 0))) (hm : JM w sm g) (hg : w.heap[g]? = some (.cells (jH r) 79 (0, 0))) :
    Calls Tryd.prog 25 #[.pointer (some ⟨p, 0, none⟩), .int .i64 0] w fun e w' => e = .returned (.agg jS) ∧ Fr (fun _ => False) w w' := by
  have hmx : Tryd.prog.follows .mixedOrders = true := by kernel_rfl
  obtain ⟨W, hW⟩ : ∃ W, w.alloc (.cells jS59 55) = W := ⟨_, rfl⟩
  have f0 : Fr (fun _ => False) w W := by rw [← hW]; exact Fr.alloc (Fr.refl _ _) _
  have b0 : W.heap[w.heap.size]? = some (.cells jS59 55 (0, 0)) := by rw [← hW]; exact Go.heap_alloc_new w _
  have hpl := lt_of_row h
  have hgl := lt_of_row hg
  have hsl := World.ownsMap.lt hm
  have hp0 := f0.cells h (fun h => h)
  have hg0 := f0.cells hg (fun h => h)
  have hm0 := hm.kept f0 (fun h => h)
  obtain ⟨B, hB⟩ : ∃ B, w.heap.size = B := ⟨_, rfl⟩
  rw [hB] at b0 hpl hgl hsl
  have P0 := hid (fun (V : World) (hf : Fr (fun k => k = B) W V) => hf.cells hp0 (by omega))
  have LB := hid (fun (V : World) (hf : Fr (fun k => k = B) W V) => show (Instr.loadAt 43 (.pointer (some ⟨p, 0, none⟩))).run Tryd.prog V = .ok (.agg #[.int .i64 1, .int .i64 0]) V from run_loadAt_mid (P := Tryd.prog) V p 0 43 [.int .i64 1, .int .i64 0] _ (rangeAt_of (hf.cells hp0 (by omega)) 0 _ rfl) Tryd.underlying43 rfl (by kernel_rfl))
  have LE := hid (fun (V : World) (hf : Fr (fun k => k = B) W V) => show (Instr.loadAt 37 (.pointer (some ⟨g, 0, none⟩))).run Tryd.prog V = .ok (.agg M.e73) V from run_loadAt_mid (P := Tryd.prog) V g 0 37 M.e73.toList _ (rangeAt_of (hf.cells hg0 (by omega)) 0 _ rfl) Tryd.underlying37 rfl (by kernel_rfl))
  have C6 := hid (fun (V : World) (hf : Fr (fun k => k = B) W V) => show V.cell? ⟨p, 6, none⟩ = some (.map (some sm)) from cellA (hf.cells hp0 (by omega)) rfl)
  have LK := hid (fun (V : World) (hf : Fr (fun k => k = B) W V) => (hm0.kept hf (by omega)).look)
  have KC := hid (fun (V : World) => jclone V M.e73 rfl jE_one rfl rfl)
  have ST := hid (fun (V : World) (hf : Fr (fun _ => False) W V) => box_back (c := jS) (hf.cells b0 (fun h => h)) (Nat.le_refl _) (by kernel_rfl) jS_one Tryd.underlying55 rfl)
  have HW := hid hW
  have F0 := hid f0
  have HB := hid hB
  unfold jS59 at HW
  obtain ⟨va, hva⟩ : ∃ va, Value.agg M.e73 = va := ⟨_, rfl⟩
  obtain ⟨vs, hvs⟩ : ∃ vs, Value.agg jS = vs := ⟨_, rfl⟩
  rw [hva] at LE KC
  rw [hvs] at ST ⊢
  have HVA := hid hva
  have HVS := hid hvs
  clear h hm hg hW f0 b0 hp0 hg0 hm0 hpl hgl hsl hva hvs
  go_enter Tryd.func25, Tryd.ntmps25
  go_upto_region 1 with fail
  rw [HW.out]
  refine wp_region_held (S := fun V => Fr (fun k => k = B) W V) hmx ?_
  have hS : Fr (fun k => k = B) W W.drew := Fr.drew (Fr.refl _ _)
  simp only [List.size_toArray, List.length_cons, List.length_nil, Nat.reduceAdd, Array.replicate_succ, Array.replicate_zero, List.push_toArray, List.nil_append, List.cons_append]
  refine wpAnyH_take (i := 0) (v := ?_) rfl (by kernel_rfl) (by kernel_rfl) (by kernel_rfl) (fun _ _ _ h => h) (Or.inl ⟨by kernel_rfl, ?_⟩) hS ?_
  rotate_left 1
  · (intro w' hS'; clear hS'; go_simp; try with_reducible rfl)
  simp only [List.getElem_toArray, List.getElem_cons_zero, List.getElem_cons_succ, Act.put, List.setIfInBounds_toArray, List.set_cons_zero, List.set_cons_succ]
  refine wpAnyH_take (i := 1) (v := ?_) rfl (by kernel_rfl) (by kernel_rfl) (by kernel_rfl) (fun _ _ _ h => h) (Or.inl ⟨by kernel_rfl, ?_⟩) hS ?_
  rotate_left 1
  · (intro w' hS'; clear hS'; go_simp; try with_reducible rfl)
  simp only [List.getElem_toArray, List.getElem_cons_zero, List.getElem_cons_succ, Act.put, List.setIfInBounds_toArray, List.set_cons_zero, List.set_cons_succ]
  refine wpAnyH_take (i := 2) (v := ?_) rfl (by kernel_rfl) (by kernel_rfl) (by kernel_rfl) (fun _ _ _ h => h) (Or.inl ⟨by kernel_rfl, ?_⟩) hS ?_
  rotate_left 1
  · (intro w' hS'; clear hS'; go_simp; try with_reducible rfl)
  simp only [List.getElem_toArray, List.getElem_cons_zero, List.getElem_cons_succ, Act.put, List.setIfInBounds_toArray, List.set_cons_zero, List.set_cons_succ]
  refine wpAnyH_take (i := 3) (v := ?_) rfl (by kernel_rfl) (by kernel_rfl) (by kernel_rfl) (fun _ _ _ h => h) (Or.inl ⟨by kernel_rfl, ?_⟩) hS ?_
  rotate_left 1
  · (intro w' hS'; clear hS'; go_simp; try with_reducible rfl)
  simp only [List.getElem_toArray, List.getElem_cons_zero, List.getElem_cons_succ, Act.put, List.setIfInBounds_toArray, List.set_cons_zero, List.set_cons_succ]
  refine wpAnyH_take (i := 4) rfl (by kernel_rfl) (by kernel_rfl) (by kernel_rfl) (fun _ _ _ h => h) (jyload (by kernel_rfl) (by exact ⟨_, rfl, rfl⟩) (fun w' hS' => LB.out w' hS')) hS ?_
  simp only [List.getElem_toArray, List.getElem_cons_zero, List.getElem_cons_succ, Act.put, List.setIfInBounds_toArray, List.set_cons_zero, List.set_cons_succ]
  refine wpAnyH_take (i := 5) (v := ?_) rfl (by kernel_rfl) (by kernel_rfl) (by kernel_rfl) (fun _ _ _ h => h) (Or.inl ⟨by kernel_rfl, ?_⟩) hS ?_
  rotate_left 1
  · (intro w' hS'; clear hS'; go_simp; try with_reducible rfl)
  simp only [List.getElem_toArray, List.getElem_cons_zero, List.getElem_cons_succ, Act.put, List.setIfInBounds_toArray, List.set_cons_zero, List.set_cons_succ]
  refine wpAnyH_take (i := 6) (v := ?_) rfl (by kernel_rfl) (by kernel_rfl) (by kernel_rfl) (fun _ _ _ h => h) (Or.inl ⟨by kernel_rfl, ?_⟩) hS ?_
  rotate_left 1
  · (intro w' hS'; clear hS'; go_simp; try with_reducible rfl)
  simp only [List.getElem_toArray, List.getElem_cons_zero, List.getElem_cons_succ, Act.put, List.setIfInBounds_toArray, List.set_cons_zero, List.set_cons_succ]
  refine wpAnyH_take (i := 7) (v := ?_) rfl (by kernel_rfl) (by kernel_rfl) (by kernel_rfl) (fun _ _ _ h => h) (Or.inl ⟨by kernel_rfl, ?_⟩) hS ?_
  rotate_left 1
  · (intro w' hS'; clear hS'; go_simp; try with_reducible rfl)
  simp only [List.getElem_toArray, List.getElem_cons_zero, List.getElem_cons_succ, Act.put, List.setIfInBounds_toArray, List.set_cons_zero, List.set_cons_succ]
  refine wpAnyH_take (i := 8) (v := ?_) rfl (by kernel_rfl) (by kernel_rfl) (by kernel_rfl) (fun _ _ _ h => h) (Or.inl ⟨by kernel_rfl, ?_⟩) hS ?_
  rotate_left 1
  · (intro w' hS'; have h1 := C6.out w' hS'; clear hS'; go_simp; try with_reducible rfl)
  simp only [List.getElem_toArray, List.getElem_cons_zero, List.getElem_cons_succ, Act.put, List.setIfInBounds_toArray, List.set_cons_zero, List.set_cons_succ]
  refine wpAnyH_take (i := 9) (v := ?_) rfl (by kernel_rfl) (by kernel_rfl) (by kernel_rfl) (fun _ _ _ h => h) (Or.inl ⟨by kernel_rfl, ?_⟩) hS ?_
  rotate_left 1
  · (intro w' hS'; clear hS'; go_simp; try with_reducible rfl)
  simp only [List.getElem_toArray, List.getElem_cons_zero, List.getElem_cons_succ, Act.put, List.setIfInBounds_toArray, List.set_cons_zero, List.set_cons_succ]
  refine wpAnyH_take (i := 10) (v := ?_) rfl (by kernel_rfl) (by kernel_rfl) (by kernel_rfl) (fun _ _ _ h => h) (Or.inl ⟨by kernel_rfl, ?_⟩) hS ?_
  rotate_left 1
  · (intro w' hS'; have h1 := LK.out w' hS'; clear hS'; go_simp; try with_reducible rfl)
  simp only [List.getElem_toArray, List.getElem_cons_zero, List.getElem_cons_succ, Act.put, List.setIfInBounds_toArray, List.set_cons_zero, List.set_cons_succ]
  refine wpAnyH_take (i := 11) (v := ?_) rfl (by kernel_rfl) (by kernel_rfl) (by kernel_rfl) (fun _ _ _ h => h) (Or.inl ⟨by kernel_rfl, ?_⟩) hS ?_
  rotate_left 1
  · (intro w' hS'; clear hS'; go_simp; try with_reducible rfl)
  simp only [List.getElem_toArray, List.getElem_cons_zero, List.getElem_cons_succ, Act.put, List.setIfInBounds_toArray, List.set_cons_zero, List.set_cons_succ]
  refine wpAnyH_take (i := 12) (v := ?_) rfl (by kernel_rfl) (by kernel_rfl) (by kernel_rfl) (fun _ _ _ h => h) (Or.inl ⟨by kernel_rfl, ?_⟩) hS ?_
  rotate_left 1
  · (intro w' hS'; clear hS'; go_simp; try with_reducible rfl)
  simp only [List.getElem_toArray, List.getElem_cons_zero, List.getElem_cons_succ, Act.put, List.setIfInBounds_toArray, List.set_cons_zero, List.set_cons_succ]
  refine wpAnyH_take (i := 13) rfl (by kernel_rfl) (by kernel_rfl) (by kernel_rfl) (fun _ _ _ h => h) (jyload (by kernel_rfl) (by exact ⟨_, rfl, rfl⟩) (fun w' hS' => LE.out w' hS')) hS ?_
  simp only [List.getElem_toArray, List.getElem_cons_zero, List.getElem_cons_succ, Act.put, List.setIfInBounds_toArray, List.set_cons_zero, List.set_cons_succ]
  refine wpAnyH_ready (rs := [14]) (by kernel_rfl) (by simp) ?_
  refine AllReadyH.cons rfl (fun K1 hK1 => ?_) AllReadyH.nil
  go_simp
  refine (KC.out _).mono ?_
  rintro e w5 ⟨rfl, f5⟩
  have F5 := hid ((Fr.drew (Fr.refl (fun _ => False) W)).trans f5 (fun _ _ h => h))
  clear f5
  refine hK1.out _ _ (F5.out.mono (fun _ _ h => h.elim)) (fun hS => ?_)
  clear hK1 K1
  simp only [List.getElem_toArray, List.getElem_cons_zero, List.getElem_cons_succ, Act.put, List.setIfInBounds_toArray, List.set_cons_zero, List.set_cons_succ]
  refine wpAnyH_take (i := 15) (v := vs) rfl (by kernel_rfl) (by kernel_rfl) (by kernel_rfl) (fun _ _ _ h => h) (Or.inl ⟨by kernel_rfl, fun w' hS' => by rw [← HVS.out, ← HVA.out]; kernel_rfl⟩) hS ?_
  simp only [List.getElem_toArray, List.getElem_cons_zero, List.getElem_cons_succ, Act.put, List.setIfInBounds_toArray, List.set_cons_zero, List.set_cons_succ]
  obtain ⟨V, st, lr, fV⟩ := ST.out w5 F5.out
  have LR := hid lr
  have FV := hid fV
  clear lr fV
  refine wpAnyH_ready (rs := [16]) (by kernel_rfl) (by simp) ?_
  refine AllReadyH.cons rfl (fun K1 hK1 => ?_) AllReadyH.nil
  refine jstep_store (by kernel_rfl) st (by exact ⟨_, _, rfl, rfl, rfl⟩) ?_
  refine hK1.out _ _ ((F5.out.mono (fun _ _ h => h.elim)).trans FV.out (fun _ _ h => h)) (fun hS => ?_)
  clear hK1 K1 st
  refine wpAnyH_done (by kernel_rfl) ?_ _
  have fin : Fr (fun _ => False) w V := (F0.out.trans F5.out (fun _ _ h => h)).trans FV.out (fun i hi e => by have := HB.out; omega)
  have FIN := hid fin
  clear hS fin
  go_wp2_with fail
  exact bodyPost_ret (v := vs) (results_cell1 Tryd.results25 _ _ _ _ _ (by rfl) LR.out) rfl ⟨rfl, FIN.out⟩
end Go.Proofs.YtcmpkbgkhbcekaaDoor

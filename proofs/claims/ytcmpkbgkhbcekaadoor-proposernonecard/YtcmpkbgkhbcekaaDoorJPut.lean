/-
  The simplest leader puts an entry.
-/
import Derived.Test.YtcmpkbgkhbcekaaDoorJAsk
namespace Go.Proofs.YtcmpkbgkhbcekaaDoor
open Go.RowKit Go.Maps
set_option linter.unusedVariables false
set_option linter.unusedSimpArgs false

set_option maxHeartbeats 12800000 in
set_option maxRecDepth 20000 in
theorem jput {w : World} {p sm : Nat} (T : Tb w) (h : w.heap[p]? = some (.cells (jCells 1 none (some sm) 0) 49 (0, 0))) (hs : w.heap[sm]? = some (.map #[] 0)) (hn : sm ≠ p) :
    Calls Tryd.prog 6 #[.pointer (some ⟨p, 0, none⟩), .agg M.e73] w fun e w' => ∃ g, e = .returned (.tuple #[.agg jS, .int .i64 0]) ∧ w.heap.size ≤ g ∧ w'.heap[p]? = some (.cells (jCells 1 none (some sm) 1) 49 (0, 0)) ∧ JM w' sm g ∧ w'.heap[g]? = some (.cells (jH 0) 79 (0, 0)) ∧ Fr (fun k => k = p ∨ k = sm) w w' := by
  have hmx : Tryd.prog.follows .mixedOrders = true := by kernel_rfl
  obtain ⟨W, hW⟩ : ∃ W, (w.alloc (.cells M.e73 37)).alloc (.cells jS59 55) = W := ⟨_, rfl⟩
  have f0 : Fr (fun _ => False) w W := by rw [← hW]; exact Fr.alloc (Fr.alloc (Fr.refl _ _) _) _
  have ba : W.heap[w.heap.size]? = some (.cells M.e73 37 (0, 0)) := by rw [← hW]; exact (Below.heap_alloc _ _ _ (by simp)).trans (Go.heap_alloc_new w _)
  have bz : W.heap[w.heap.size + 1]? = some (.cells jS59 55 (0, 0)) := by
    have h1 := Go.heap_alloc_new (w.alloc (.cells M.e73 37)) (.cells jS59 55)
    rw [World.size_alloc] at h1
    rw [← hW]; exact h1
  have hsz : W.heap.size = w.heap.size + 2 := by rw [← hW]; simp
  have hpl := lt_of_row h
  have hsl := lt_of_row hs
  have T0 := T.kept f0 (fun h => h)
  have hp0 := f0.cells h (fun h => h)
  have hs0 := f0.cells hs (fun h => h)
  obtain ⟨B, hB⟩ : ∃ B, w.heap.size = B := ⟨_, rfl⟩
  rw [hB] at ba bz hpl hsl hsz
  have HL := hid (And.intro hpl (And.intro hsl (And.intro hn hsz)))
  have K1 := hid (jmade_one (cellA (j := 3) hp0 rfl))
  have LD := hid (fun (V : World) (hV : V.heap[B]? = some (.cells M.e73 37 (0, 0))) => load_whole (ty := 37) hV Tryd.underlying37 rfl (by kernel_rfl))
  have KC := hid (checkLeave W T0)
  have KR := hid (fun (V : World) (hf : Fr (fun _ => False) W V) => jready 1 (.inr rfl) (hf.cells hp0 (fun h => h)))
  have HW := hid hW
  have F0 := hid f0
  have HB := hid hB
  have BA := hid ba
  have BZ := hid bz
  have HP := hid hp0
  have HS := hid hs0
  unfold jS59 at HW
  clear T h hs hn hW f0 ba bz hpl hsl T0 hp0 hs0 hsz
  go_enter Tryd.func6, Tryd.ntmps6
  go_upto_region 1 with fail
  rw [HW.out]
  go_upto_region 7 with (first
    | (go_at_call 22; refine K1.out.mono ?_; rintro e w1 ⟨rfl, rfl⟩)
    | (refine wpList_load_v (LD.out _ BA.out) (by exact ⟨_, rfl, rfl⟩) (by kernel_rfl) ?_)
    | (go_at_call 23; refine KC.out.mono ?_; rintro e w2 ⟨rfl, f2⟩; have F2 := hid f2; clear f2)
    | (go_at_call 11; refine (KR.out _ F2.out).mono ?_; rintro e w3 ⟨rfl, f3⟩; have F3 := hid (F2.out.trans f3 (fun _ _ h => h)); clear f3))
  clear K1 KC KR
  have p3 := F3.out.cells HP.out (fun h => h)
  have c7 : w3.cell? ⟨p, 7, none⟩ = some (.int .i64 0) := cellA p3 rfl
  have s3 := F3.out.cells HS.out (fun h => h)
  have a3 := F3.out.cells BA.out (fun h => h)
  have z3 := F3.out.cells BZ.out (fun h => h)
  have P3 := hid p3
  have S3 := hid s3
  have Z3 := hid z3
  have C6 := hid (fun (V : World) (hf : Fr (fun k => k = sm) w3 V) => show V.cell? ⟨p, 6, none⟩ = some (.map (some sm)) from cellA (hf.cells p3 (by have := HL.out.2.2.1; omega)) rfl)
  have LE := hid (fun (V : World) (hf : Fr (fun k => k = sm) w3 V) => LD.out V (hf.cells a3 (by have := HL.out.2.1; omega)))
  have KC := hid (fun (V : World) => jclone V M.e73 rfl jE_one rfl rfl)
  obtain ⟨va, hva⟩ : ∃ va, Value.agg M.e73 = va := ⟨_, rfl⟩
  rw [hva] at LE KC
  have HVA := hid hva
  clear p3 s3 a3 z3 hva LD
  go_upto_region 10 with fail
  refine wp_region_held (S := fun V => Fr (fun k => k = sm) w3 V) hmx ?_
  have hS : Fr (fun k => k = sm) w3 w3.drew := Fr.drew (Fr.refl _ _)
  simp only [List.size_toArray, List.length_cons, List.length_nil, Nat.reduceAdd, Array.replicate_succ, Array.replicate_zero, List.push_toArray, List.nil_append, List.cons_append]
  refine wpAnyH_take (i := 0) (v := ?_) rfl (by kernel_rfl) (by kernel_rfl) (by kernel_rfl) (fun _ _ _ h => h) (Or.inl ⟨by kernel_rfl, ?_⟩) hS ?_
  rotate_left 1
  · (intro w' hS'; clear hS'; go_simp; try with_reducible rfl)
  simp only [List.getElem_toArray, List.getElem_cons_zero, List.getElem_cons_succ, Act.put, List.setIfInBounds_toArray, List.set_cons_zero, List.set_cons_succ]
  refine wpAnyH_take (i := 1) (v := ?_) rfl (by kernel_rfl) (by kernel_rfl) (by kernel_rfl) (fun _ _ _ h => h) (Or.inl ⟨by kernel_rfl, ?_⟩) hS ?_
  rotate_left 1
  · (intro w' hS'; clear hS'; go_simp; try with_reducible rfl)
  simp only [List.getElem_toArray, List.getElem_cons_zero, List.getElem_cons_succ, Act.put, List.setIfInBounds_toArray, List.set_cons_zero, List.set_cons_succ]
  refine wpAnyH_take (i := 2) (v := ?_) rfl (by kernel_rfl) (by kernel_rfl) (by kernel_rfl) (fun _ _ _ h => h) (Or.inl ⟨by kernel_rfl, ?_⟩) hS ?_
  rotate_left 1
  · (intro w' hS'; clear hS'; go_simp; try with_reducible rfl)
  simp only [List.getElem_toArray, List.getElem_cons_zero, List.getElem_cons_succ, Act.put, List.setIfInBounds_toArray, List.set_cons_zero, List.set_cons_succ]
  refine wpAnyH_take (i := 3) (v := ?_) rfl (by kernel_rfl) (by kernel_rfl) (by kernel_rfl) (fun _ _ _ h => h) (Or.inl ⟨by kernel_rfl, ?_⟩) hS ?_
  rotate_left 1
  · (intro w' hS'; have h1 := C6.out w' hS'; clear hS'; go_simp; try with_reducible rfl)
  simp only [List.getElem_toArray, List.getElem_cons_zero, List.getElem_cons_succ, Act.put, List.setIfInBounds_toArray, List.set_cons_zero, List.set_cons_succ]
  refine wpAnyH_take (i := 4) (v := ?_) rfl (by kernel_rfl) (by kernel_rfl) (by kernel_rfl) (fun _ _ _ h => h) (Or.inl ⟨by kernel_rfl, ?_⟩) hS ?_
  rotate_left 1
  · (intro w' hS'; clear hS'; go_simp; try with_reducible rfl)
  simp only [List.getElem_toArray, List.getElem_cons_zero, List.getElem_cons_succ, Act.put, List.setIfInBounds_toArray, List.set_cons_zero, List.set_cons_succ]
  refine wpAnyH_take (i := 5) rfl (by kernel_rfl) (by kernel_rfl) (by kernel_rfl) (fun _ _ _ h => h) (jyload (by kernel_rfl) (by exact ⟨_, rfl, rfl⟩) (fun w' hS' => LE.out w' hS')) hS ?_
  simp only [List.getElem_toArray, List.getElem_cons_zero, List.getElem_cons_succ, Act.put, List.setIfInBounds_toArray, List.set_cons_zero, List.set_cons_succ]
  refine wpAnyH_ready (rs := [6]) (by kernel_rfl) (by simp) ?_
  refine AllReadyH.cons rfl (fun K1 hK1 => ?_) AllReadyH.nil
  go_simp
  refine (KC.out _).mono ?_
  rintro e w5 ⟨rfl, f5⟩
  have F5 := hid ((Fr.drew (Fr.refl (fun _ => False) w3)).trans f5 (fun _ _ h => h))
  clear f5
  refine hK1.out _ _ (F5.out.mono (fun _ _ h => h.elim)) (fun hS => ?_)
  clear hK1 K1
  simp only [List.getElem_toArray, List.getElem_cons_zero, List.getElem_cons_succ, Act.put, List.setIfInBounds_toArray, List.set_cons_zero, List.set_cons_succ]
  refine wpAnyH_take (i := 7) (v := .agg (jH 0)) rfl (by kernel_rfl) (by kernel_rfl) (by kernel_rfl) (fun _ _ _ h => h) (Or.inl ⟨by kernel_rfl, fun w' hS' => by rw [← HVA.out]; kernel_rfl⟩) hS ?_
  simp only [List.getElem_toArray, List.getElem_cons_zero, List.getElem_cons_succ, Act.put, List.setIfInBounds_toArray, List.set_cons_zero, List.set_cons_succ]
  have hg6 := Go.heap_alloc_new w5 (.cells (jH 0) 79)
  have F6 := hid (Fr.alloc F5.out (.cells (jH 0) 79))
  have hle : W.heap.size ≤ w5.heap.size := Nat.le_trans F3.out.size F5.out.size
  have f56 : Fr (fun _ => False) w5 (w5.alloc (.cells (jH 0) 79)) := Fr.alloc (Fr.refl _ _) _
  refine wpAnyH_ready (rs := [8]) (by kernel_rfl) (by simp) ?_
  refine AllReadyH.cons rfl (fun K1 hK1 => ?_) AllReadyH.nil
  have HG6 := hid hg6
  have HLE := hid hle
  clear hS hg6 hle f56
  go_simp
  refine hK1.out _ _ (F6.out.mono (fun _ _ h => h.elim)) (fun hS => ?_)
  clear hK1 K1
  simp only [List.getElem_toArray, List.getElem_cons_zero, List.getElem_cons_succ, Act.put, List.setIfInBounds_toArray, List.set_cons_zero, List.set_cons_succ]
  obtain ⟨w7, hup, jm7, f7⟩ := JM.made (g := w5.heap.size) (F6.out.cells S3.out (fun h => h))
  have JM7 := hid jm7
  have hsmg : w5.heap.size ≠ sm := by have := HLE.out; have := HL.out; omega
  have F7 := hid ((F6.out.mono (T := fun k => k = sm) (fun _ _ h => h.elim)).trans f7 (fun _ _ h => h))
  have HG7 := hid (f7.cells HG6.out hsmg)
  clear jm7 f7 hS hsmg
  generalize hw6 : w5.alloc (.cells (jH 0) 79) = w6 at *
  refine wpAnyH_ready (rs := [9]) (by kernel_rfl) (by simp) ?_
  refine AllReadyH.cons rfl (fun K1 hK1 => ?_) AllReadyH.nil
  go_simp
  refine hK1.out _ _ F7.out (fun hS => ?_)
  clear hK1 K1 hup hS
  refine wpAnyH_done (by kernel_rfl) ?_ _
  have p7 := F7.out.cells P3.out (by have := HL.out.2.2.1; omega)
  have d7 : w7.cell? ⟨p, 7, none⟩ = some (.int .i64 0) := cellA p7 rfl
  have z7 := frozen_of_row (j := 7) p7
  obtain ⟨w8, hw8⟩ : ∃ w8, w7.setCell ⟨p, 7, none⟩ (.int .i64 1) = w8 := ⟨_, rfl⟩
  have p8 : w8.heap[p]? = some (.cells (jCells 1 none (some sm) 1) 49 (0, 0)) := by rw [← hw8]; exact setCell_row p7 _
  have f8 : Fr (fun k => k = p) w7 w8 := by rw [← hw8]; exact Fr.setCell (p := ⟨p, 7, none⟩) (S := fun k => k = p) (Fr.refl _ _) (fun _ => rfl) _
  have jm8 := JM7.out.kept f8 HL.out.2.2.1
  have hgp : w5.heap.size ≠ p := by have := HLE.out; have := HL.out; omega
  have g8 := f8.cells HG7.out hgp
  have zz8 := f8.cells (F7.out.cells Z3.out (by have := HL.out; omega)) (by have := HL.out; omega)
  have KA := hid (jasked p8 jm8 g8)
  have HF8 := hid (And.intro p8 (And.intro jm8 (And.intro g8 (And.intro zz8 f8))))
  have HW8 := hid hw8
  clear p7 p8 f8 jm8 g8 zz8 hgp hw8 c7
  go_upto_region 12 with fail
  rw [HW8.out]
  obtain ⟨vs, hvs⟩ : ∃ vs, Value.agg jS = vs := ⟨_, rfl⟩
  have HVS := hid hvs
  rw [hvs] at KA
  clear hvs
  go_wp2_with (first
    | (go_at_call 25; refine KA.out.mono ?_; rintro e w9 ⟨rfl, f9⟩; have F9 := hid f9; obtain ⟨V, st, lr, fV⟩ := box_back (c := jS) (f9.cells HF8.out.2.2.2.1 (fun h => h)) (Nat.le_refl _) (by kernel_rfl) jS_one Tryd.underlying55 rfl; rw [HVS.out] at st lr; have ST := hid st; have LR := hid lr; have FV := hid fV; clear f9 st lr fV)
    | (refine wpList_store_v ST.out (by exact ⟨_, _, rfl, rfl, rfl⟩) (by kernel_rfl) ?_))
  have hb := HB.out
  have hl := HL.out
  have hle := HLE.out
  have e1 := FV.out.cells (F9.out.cells HF8.out.1 (fun h => h)) (by omega)
  have e2 := (HF8.out.2.1.kept F9.out (fun h => h)).kept FV.out (by omega)
  have e3 := FV.out.cells (F9.out.cells HF8.out.2.2.1 (fun h => h)) (by omega)
  have fin : Fr (fun k => k = p ∨ k = sm) w V := (((((F0.out.trans F3.out (fun _ _ h => h)).mono (T := fun k => k = p ∨ k = sm) (fun _ _ h => h.elim)).trans F7.out (fun _ _ h => .inr h)).trans HF8.out.2.2.2.2 (fun _ _ h => .inl h)).trans F9.out (fun _ _ h => h.elim)).trans FV.out (fun i hi e => by omega)
  exact bodyPost_ret (v := .tuple #[vs, .int .i64 0]) (results_cell2 Tryd.results6 _ _ _ _ _ _ (by rfl) LR.out (by rfl)) rfl ⟨w5.heap.size, by rw [HVS.out], by omega, e1, e2, e3, fin⟩
end Go.Proofs.YtcmpkbgkhbcekaaDoor

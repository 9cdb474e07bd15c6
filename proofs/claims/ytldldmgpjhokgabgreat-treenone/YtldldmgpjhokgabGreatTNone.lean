/-
  A tree that no call made.
-/
import Derived.Test.YtldldmgpjhokgabGreatTBegun
import Derived.Test.YtldldmgpjhokgabGreatSeq
namespace Go.Proofs.YtldldmgpjhokgabGreat
open Go.RowKit Go.Maps
set_option linter.unusedVariables false
set_option maxRecDepth 100000
set_option linter.unusedSimpArgs false

/-- nil, or a zero one -/
def NoT (w : World) (v : Value) : Prop := v = .pointer none ∨ ∃ p, v = ptr p ∧ w.heap[p]? = some (.cells #[.map none, .int .i64 0, .int .i64 0] 61 (0, 0))
theorem NoT.kept {w w' : World} {v : Value} (h : NoT w v) (hf : Fr (fun _ => False) w w') : NoT w' v := by
  rcases h with h | ⟨p, h1, h2⟩
  · exact .inl h
  · exact .inr ⟨p, h1, hf.cells h2 (fun h => h)⟩
set_option maxHeartbeats 800000 in
theorem ntMade {w : World} {v : Value} (h : NoT w v) : Calls Tryz.prog 33 #[v] w fun e w' => e = .returned (.bool false) ∧ w = w' := by
  rcases h with rfl | ⟨p, rfl, h⟩
  · go_enter Tryz.func33, Tryz.ntmps33
    go_wp2
    go_ret
    exact ⟨rfl, rfl⟩
  · have c0 : w.cell? ⟨p, 0, none⟩ = some (.map none) := cellA (j := 0) h rfl
    have q : (binOp .neq 59 (.map none) (.map none)).run Tryz.prog w = .ok (.bool false) w := run_neq_map_nil w _ _ _ none Tryz.underlying59
    clear h
    go_enter Tryz.func33, Tryz.ntmps33
    go_wp2
    go_ret
    exact ⟨rfl, rfl⟩
set_option maxHeartbeats 800000 in
theorem ntAt {w : World} {v : Value} (h : NoT w v) {n : Int} (hn : (Lit.int .i64 n).wf = true) : Calls Tryz.prog 37 #[v, .int .i64 n] w fun e w' => e = .returned (.pointer none) ∧ w = w' := by
  rcases h with rfl | ⟨p, rfl, h⟩
  · go_enter Tryz.func37, Tryz.ntmps37
    go_wp2
    go_ret
    exact ⟨rfl, rfl⟩
  · have c0 : w.cell? ⟨p, 0, none⟩ = some (.map none) := cellA (j := 0) h rfl
    have HL := hid (Maps.look_nil (w := w) false keyI Tryz.underlying59 (zeroNd w) (keyOfI hn))
    clear h hn
    go_enter Tryz.func37, Tryz.ntmps37
    go_wp2_with (refine wpList_look_v HL.out (by exact ⟨_, _, rfl, rfl, rfl⟩) (by kernel_rfl) ?_)
    go_ret
    exact ⟨rfl, rfl⟩
theorem ntHas {w : World} {v : Value} (h : NoT w v) {n : Int} (hn : (Lit.int .i64 n).wf = true) : Calls Tryz.prog 46 #[v, .int .i64 n] w fun e w' => e = .returned (.bool false) ∧ w = w' := by
  have K := hid (ntAt h hn)
  clear h hn
  go_enter Tryz.func46, Tryz.ntmps46
  go_wp2_with (go_at_call 37; refine K.out.mono ?_; rintro e wx ⟨rfl, rfl⟩)
  go_ret
  exact ⟨rfl, rfl⟩
theorem ntLen {w : World} {v : Value} (h : NoT w v) : Calls Tryz.prog 24 #[v] w fun e w' => e = .returned (.int .i64 0) ∧ w = w' := by
  have K := hid (ntMade h)
  clear h
  go_enter Tryz.func24, Tryz.ntmps24
  go_wp2_with (go_at_call 33; refine K.out.mono ?_; rintro e wx ⟨rfl, rfl⟩)
  go_ret
  exact ⟨rfl, rfl⟩
theorem ntClone {w : World} {v : Value} (h : NoT w v) : Calls Tryz.prog 25 #[v] w fun e w' => e = .returned (.pointer none) ∧ w = w' := by
  have K := hid (ntMade h)
  clear h
  go_enter Tryz.func25, Tryz.ntmps25
  go_wp2_with (go_at_call 33; refine K.out.mono ?_; rintro e wx ⟨rfl, rfl⟩)
  go_ret
  exact ⟨rfl, rfl⟩
theorem ntNodes {w : World} {v : Value} (h : NoT w v) : Calls Tryz.prog 9 #[v] w fun e w' => e = .returned (.slice none 0 0) ∧ w = w' := by
  have K := hid (ntMade h)
  clear h
  go_enter Tryz.func9, Tryz.ntmps9
  go_wp2_with (go_at_call 33; refine K.out.mono ?_; rintro e wx ⟨rfl, rfl⟩)
  go_ret
  exact ⟨rfl, rfl⟩
theorem ntChildren {w : World} {v : Value} (h : NoT w v) {n : Int} (hn : (Lit.int .i64 n).wf = true) : Calls Tryz.prog 10 #[v, .int .i64 n] w fun e w' => e = .returned (.slice none 0 0) ∧ w = w' := by
  have K := hid (ntAt h hn)
  clear h hn
  go_enter Tryz.func10, Tryz.ntmps10
  go_wp2_with (go_at_call 37; refine K.out.mono ?_; rintro e wx ⟨rfl, rfl⟩)
  go_ret
  exact ⟨rfl, rfl⟩
theorem ntLookup {w : World} {v : Value} (h : NoT w v) {n : Int} (hn : (Lit.int .i64 n).wf = true) (s : ByteArray) : Calls Tryz.prog 18 #[v, .int .i64 n, .string s] w fun e w' => e = .returned (.tuple #[.int .i64 0, .bool false]) ∧ w = w' := by
  have K := hid (ntAt h hn)
  clear h hn
  go_enter Tryz.func18, Tryz.ntmps18
  go_wp2_with (go_at_call 37; refine K.out.mono ?_; rintro e wx ⟨rfl, rfl⟩)
  go_ret2
  exact ⟨rfl, rfl⟩
theorem ntAttr {w : World} {v : Value} (h : NoT w v) {n : Int} (hn : (Lit.int .i64 n).wf = true) (s : ByteArray) : Calls Tryz.prog 19 #[v, .int .i64 n, .string s] w fun e w' => e = .returned (.tuple #[.string ⟨#[]⟩, .bool false]) ∧ w = w' := by
  have K := hid (ntAt h hn)
  clear h hn
  go_enter Tryz.func19, Tryz.ntmps19
  go_wp2_with (go_at_call 37; refine K.out.mono ?_; rintro e wx ⟨rfl, rfl⟩)
  go_ret2
  exact ⟨rfl, rfl⟩
set_option maxHeartbeats 800000 in
theorem ntBelow {w : World} {v : Value} (h : NoT w v) {n : Int} (hn : (Lit.int .i64 n).wf = true) (m : Int) : Calls Tryz.prog 23 #[v, .int .i64 n, .int .i64 m] w fun e w' => e = .returned (.bool false) ∧ w = w' := by
  have K := hid (ntAt h hn)
  clear h hn
  go_enter Tryz.func23, Tryz.ntmps23
  go_wp2_with (go_at_call 37; refine K.out.mono ?_; rintro e wx ⟨rfl, rfl⟩)
  refine wp_loop_rounds 1 ?_
  rw [rounds_succ]
  go_wp2
  go_ret
  exact ⟨rfl, rfl⟩
set_option maxHeartbeats 1600000 in
theorem ntNode {w : World} {v : Value} (h : NoT w v) {n : Int} (hn : (Lit.int .i64 n).wf = true) : Calls Tryz.prog 11 #[v, .int .i64 n] w fun e w' => e = .returned (.tuple #[.agg #[.int .i64 0, .int .i64 0, .string ⟨#[]⟩, .slice none 0 0], .bool false]) ∧ Fr (fun _ => False) w w' := by
  have K := hid (ntAt (h.kept (Fr.alloc (Fr.refl _ w) (.cells #[.int .i64 0, .int .i64 0, .string ⟨#[]⟩, .slice none 0 0] 39))) hn)
  clear h hn
  go_enter Tryz.func11, Tryz.ntmps11
  go_wp2_with (go_at_call 37; refine K.out.mono ?_; rintro e wx ⟨rfl, rfl⟩)
  have LR := loadVar_whole (Go.heap_alloc_new w (.cells #[.int .i64 0, .int .i64 0, .string ⟨#[]⟩, .slice none 0 0] 39)) Tryz.underlying39 rfl (by kernel_rfl)
  exact bodyPost_ret (v := .tuple #[.agg #[.int .i64 0, .int .i64 0, .string ⟨#[]⟩, .slice none 0 0], .bool false]) (results_cell2 Tryz.results11 _ _ _ _ _ _ (by rfl) LR (by rfl)) rfl ⟨rfl, Fr.alloc (Fr.refl _ _) _⟩
set_option maxHeartbeats 1600000 in
theorem ntMay {w : World} {v : Value} (h : NoT w v) (o : S.Op) (hi : o.in64) : Calls Tryz.prog 21 #[v, .agg o.cs] w fun e w' => e = .returned (.bool false) ∧ Fr (fun _ => False) w w' := by
  have fW : Fr (fun _ => False) w (w.alloc (.cells o.cs 34)) := Fr.alloc (Fr.refl _ _) _
  have K1 := hid (ntHas (h.kept fW) (wfT hi.1.1 hi.1.2))
  have K2 := hid (ntHas (h.kept fW) (wfT hi.2.1 hi.2.2))
  have FW := hid fW
  clear fW h hi
  by_cases h1 : o.k = 1 <;> by_cases h2 : o.k = 2 <;> by_cases h3 : o.k = 3 <;> by_cases hn : 2 < o.n <;>
  · first
    | (exfalso; omega)
    | (go_enter Tryz.func21, Tryz.ntmps21
       go_wp2_with (first
         | (go_at_call 46; refine K1.out.mono ?_; rintro e wx ⟨rfl, rfl⟩)
         | (go_at_call 46; refine K2.out.mono ?_; rintro e wx ⟨rfl, rfl⟩))
       go_ret
       exact ⟨rfl, FW.out⟩)
set_option maxHeartbeats 1600000 in
theorem ntDo {w : World} {v : Value} (h : NoT w v) (o : S.Op) (hi : o.in64) : Calls Tryz.prog 17 #[v, .agg o.cs] w fun e w' => e = .returned (.tuple #[.agg #[.pointer none], .bool false]) ∧ Fr (fun _ => False) w w' := by
  obtain ⟨W, hW⟩ : ∃ W, (w.alloc (.cells o.cs 34)).alloc (.cells #[.pointer none] 65) = W := ⟨_, rfl⟩
  have fW : Fr (fun _ => False) w W := by rw [← hW]; exact Fr.alloc (Fr.alloc (Fr.refl _ _) _) _
  have hbx : W.heap[w.heap.size]? = some (.cells o.cs 34 (0, 0)) := by
    rw [← hW]
    exact (Fr.alloc (Fr.refl (fun _ => False) _) _).cells (Go.heap_alloc_new w _) (fun h => h)
  have hbr : W.heap[w.heap.size + 1]? = some (.cells #[.pointer none] 65 (0, 0)) := by
    rw [← hW]
    have := Go.heap_alloc_new (w.alloc (.cells o.cs 34)) (.cells #[.pointer none] 65)
    rw [alloc_size] at this
    exact this
  have LP := hid (load_whole hbx (ty := 34) Tryz.underlying34 rfl (by kernel_rfl))
  have KM := hid (ntMay (h.kept fW) o hi)
  have HW := hid hW
  have FW := hid fW
  have HBR := hid hbr
  clear hW fW hbx hbr h hi
  go_enter Tryz.func17, Tryz.ntmps17
  go_wp2_with (first
    | (rw [HW.out]; refine wpList_load_v LP.out (by exact ⟨_, rfl, rfl⟩) (by kernel_rfl) ?_)
    | (go_at_call 21; refine KM.out.mono ?_; rintro e w1 ⟨rfl, fx⟩; have F1 := hid fx; have r1 : w1.cell? ⟨w.heap.size + 1, 0, none⟩ = some (.pointer none) := cellA (j := 0) (fx.cells HBR.out (fun h => h)) rfl; have r2 : w1.frozen? ⟨w.heap.size + 1, 0, none⟩ = false := frozen_of_row (fx.cells HBR.out (fun h => h)); have R1 := hid (fx.cells HBR.out (fun h => h)); clear fx))
  have b8 := setCell_row (j := 0) R1.out (.pointer none)
  have LR := loadVar_whole b8 (ty := 65) Tryz.underlying65 rfl (by kernel_rfl)
  have f8 : Fr (fun _ => False) w (w1.setCell ⟨w.heap.size + 1, 0, none⟩ (.pointer none)) := Fr.setCell (p := ⟨w.heap.size + 1, 0, none⟩) (FW.out.trans F1.out (fun _ _ h => h)) (fun h => by simp only at h; omega) _
  exact bodyPost_ret (v := .tuple #[.agg #[.pointer none], .bool false]) (results_cell2 Tryz.results17 _ _ _ _ _ _ (by rfl) LR (by rfl)) rfl ⟨rfl, f8⟩
set_option maxHeartbeats 1600000 in
theorem ntBack {w : World} {v : Value} (h : NoT w v) : Calls Tryz.prog 22 #[v, .agg #[.pointer none]] w fun e w' => e = .returned (.int .i64 2) ∧ Fr (fun _ => False) w w' := by
  have K := hid (ntMade (h.kept (Fr.alloc (Fr.refl _ w) (.cells #[.pointer none] 65))))
  clear h
  go_enter Tryz.func22, Tryz.ntmps22
  go_wp2_with (go_at_call 33; refine K.out.mono ?_; rintro e wx ⟨rfl, rfl⟩)
  go_ret
  exact ⟨rfl, Fr.alloc (Fr.refl _ _) _⟩
set_option maxHeartbeats 1600000 in
theorem same_zero (w : World) : Calls Tryz.prog 20 #[.agg #[.int .i64 0, .int .i64 0, .string ⟨#[]⟩, .slice none 0 0], .agg #[.int .i64 0, .int .i64 0, .string ⟨#[]⟩, .slice none 0 0]] w fun e w' => e = .returned (.bool true) ∧ Fr (fun _ => False) w w' := by
  go_enter Tryz.func20, Tryz.ntmps20
  go_wp2
  refine wp_loop_rounds 1 ?_
  rw [rounds_succ]
  go_wp2
  go_ret
  exact ⟨rfl, Fr.alloc (Fr.alloc (Fr.refl _ _) _) _⟩
theorem ntwalk {w : World} {v : Value} (h : NoT w v) {n : Int} (hn : (Lit.int .i64 n).wf = true) : Calls Tryz.prog 51 #[v, .int .i64 n] w fun e w' => e = .returned (.slice none 0 0) ∧ w = w' := by
  have K := hid (ntHas h hn)
  clear h hn
  go_enter Tryz.func51, Tryz.ntmps51
  go_wp2_with (go_at_call 46; refine K.out.mono ?_; rintro e wx ⟨rfl, rfl⟩)
  go_ret
  exact ⟨rfl, rfl⟩
set_option maxHeartbeats 1600000 in
theorem ntWalk {w : World} {v : Value} (h : NoT w v) {n : Int} (hn : (Lit.int .i64 n).wf = true) : Calls Tryz.prog 26 #[v, .int .i64 n] w fun e w' => ∃ B, e = .returned (.func (.func 52) #[] #[ptr B]) ∧ w'.heap[B]? = some (.cells #[.slice none 0 0] 116 (0, 0)) ∧ Fr (fun _ => False) w w' := by
  have K := hid (fun (W : World) (hf : Fr (fun _ => False) w W) => ntwalk (h.kept hf) hn)
  clear h hn
  go_enter Tryz.func26, Tryz.ntmps26
  go_wp2_with (go_at_call 51; refine (K.out _ (by first | exact Fr.refl _ _ | exact Fr.alloc (Fr.refl _ _) _)).mono ?_; rintro e wx ⟨rfl, rfl⟩)
  go_ret
  exact ⟨w.heap.size, rfl, Go.heap_alloc_new w _, Fr.alloc (Fr.refl _ _) _⟩
set_option maxHeartbeats 1600000 in
theorem walk1_none {w : World} {B : Nat} (h : w.heap[B]? = some (.cells #[.slice none 0 0] 116 (0, 0))) (y : Value) : Calls Tryz.prog 52 #[y, ptr B] w fun e w' => (∃ v, e = .returned v) ∧ w = w' := by
  have c0 : w.cell? ⟨B, 0, none⟩ = some (.slice none 0 0) := cellA (j := 0) h rfl
  clear h
  go_enter Tryz.func52, Tryz.ntmps52
  go_wp2
  refine wp_loop_rounds 1 ?_
  rw [rounds_succ]
  go_wp2
  go_end0
  exact ⟨⟨_, rfl⟩, rfl⟩
theorem walk1_seq (n : Nat) {w : World} {B : Nat} (h : w.heap[B]? = some (.cells #[.slice none 0 0] 116 (0, 0))) (V : List Empty → Empty → World → World → Prop) (Kp : World → World → Prop) : SeqV Fence.wide n Tryz.prog 52 #[ptr B] (fun x : Empty => x.elim) V Kp (fun xs => xs = []) (fun _ => False) w := by
  intro l J Jx W hb _ _ _ hJ
  refine (callsIn_wide.2 (walk1_none ((Fr.of_below hb).cells h (fun h => h)) (.func (.yield l) #[] #[]))).mono ?_
  rintro e W' ⟨⟨v, rfl⟩, rfl⟩
  exact ⟨⟨v, rfl⟩, .inl ⟨[], rfl, hJ⟩⟩
end Go.Proofs.YtldldmgpjhokgabGreat

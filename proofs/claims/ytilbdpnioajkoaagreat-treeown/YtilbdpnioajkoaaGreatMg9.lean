/-
  slices.Insert of one number.
  slices.Insert of one number, where there is no room.
-/
import Derived.Test.YtilbdpnioajkoaaGreatTTakeQ
import Derived.Lib.Overlaps
import Derived.Laws.IdiomCopy
import Derived.Laws.CopyRow
import Derived.Lib.AppendZeros
namespace Go.Proofs.YtilbdpnioajkoaaGreat
open Go.RowKit Go.Maps
set_option linter.unusedVariables false
set_option maxRecDepth 100000
set_option linter.unusedSimpArgs false

theorem wpList_copy_t {w w' : World} {ops : Array Oper} {rest : List Oper} {o : Oper} {a : Act} {Q : Exit → Act → World → Prop} {ts : Array TypeId} {v u v' : Value} (hr : (Builtin.copy_ ts o.type #[v, u]).run Tryz.prog w = .ok v' w') (h0 : ∃ d s, o.op = .call { callee := .builtin .copy, args := #[d, s], argTypes := ts } ∧ a.eval d = v ∧ a.eval s = u) (hw : Region.wanted o (yielded ops a.tmps) = true)
    (h : wpList Tryz.prog ops Q rest (a.put o.dst v') w') : wpList Tryz.prog ops Q (o :: rest) a w :=
  wpList_step fun K hK => by
    obtain ⟨d, s, ho, hd, hs⟩ := h0
    rw [if_pos hw]
    unfold Oper.wp execOp
    simp only [ho, resolve, invoke, builtin, Sem.run_bind, Sem.run_pure, Result.andThen_ok, List.map_toArray, List.map_cons, List.map_nil, hd, hs, hr]
    exact hK _ _ h
theorem tstep_copy {o : Oper} {a : Act} {w w' : World} {K : Act → World → Prop} {Q : Exit → Act → World → Prop} {ts : Array TypeId} {v u v' : Value} {c : Bool} {alt : Prop} (hc : c = true) (hr : (Builtin.copy_ ts o.type #[v, u]).run Tryz.prog w = .ok v' w') (h0 : ∃ d s, o.op = .call { callee := .builtin .copy, args := #[d, s], argTypes := ts } ∧ a.eval d = v ∧ a.eval s = u)
    (h : K (a.put o.dst v') w') : if c = true then Oper.wp Tryz.prog o a w K Q else alt := by
  obtain ⟨d, s, ho, hd, hs⟩ := h0
  rw [if_pos hc]
  unfold Oper.wp execOp
  simp only [ho, resolve, invoke, builtin, Sem.run_bind, Sem.run_pure, Result.andThen_ok, List.map_toArray, List.map_cons, List.map_nil, hd, hs, hr]
  exact h
theorem shape_of {w : World} {b : Nat} {cs : Array Value} {t : TypeId} {m : Nat × Nat} (h : w.heap[b]? = some (.cells cs t m)) : w.shape? b = some (t, cs.size) := by
  unfold World.shape?
  rw [h]
theorem tyslice {ops : Array Oper} {S : World → Prop} {o : Oper} {a : Act} {t : TypeId} {u l v : Value} (hw : Region.wanted o (yielded ops a.tmps) = true) (h0 : ∃ x y, o.op = .slice t x (some y) none none ∧ a.eval x = u ∧ a.eval y = l) (hl : ∀ w, S w → (Instr.sliceAt t u (some l) none none).run Tryz.prog w = .ok v w) : YieldsIf Tryz.prog ops S o v a :=
  .inl ⟨hw, fun w hw' => by
    obtain ⟨x, y, ho, hx, hy⟩ := h0
    simp [execOp, ho, hx, hy, hl w hw', Result.andThen]⟩
theorem cutI (w : World) (g o n c l : Nat) (hl : l ≤ n) (hne : c ≠ l) : (Instr.sliceAt 100 (.slice (some ⟨g, o, none⟩) n c) (some (.int .i64 (l : Int))) none none).run Tryz.prog w = .ok (.slice (some ⟨g, o + l, none⟩) (n - l) (c - l)) w := by
  obtain ⟨i0, hi, hp⟩ := Option.map_eq_some_iff.1 infoI
  simp only [Prod.mk.injEq] at hp
  have h1 : (Instr.sliceBound (.int .i64 (l : Int)) n .sliceB).run Tryz.prog w = .ok l w := by
    have : (0 : Int) ≤ (l : Int) ∧ (l : Int) ≤ (n : Int) := by omega
    simp [Instr.sliceBound, asIntOf, this]
  simp [Instr.sliceAt, Instr.slice, Instr.sliceBounds, h1, run_underlying Tryz.underlying100, sizeOf, typeInfo, hi, hp.2.1, hne, Addr.add_lit]
theorem sizeI (w : World) : (Go.sizeOf 2).run Tryz.prog w = .ok 1 w := by kernel_rfl
set_option maxHeartbeats 1600000 in
theorem insert_room (x : Int) (b : Nat) (w : World) (g c : Nat) (P X1 X2 R : List Value) (y r : Value) (tb : TypeId) (hg : w.heap[g]? = some (.cells (P ++ X1 ++ y :: X2 ++ r :: R).toArray 2 (0, 0))) (hb : w.heap[b]? = some (.cells #[.int .i64 x] tb (0, 0))) (hne : b ≠ g) (h1 : ∀ v ∈ y :: X2, v.oneCell' = true) (hc : X1.length + X2.length + 1 + R.length + 1 = c) (hm : c ≤ 9223372036854775807) :
    Calls Tryz.prog 132 #[.slice (some ⟨g, P.length, none⟩) (X1.length + X2.length + 1) c, .int .i64 X1.length, .slice (some ⟨b, 0, none⟩) 1 1] w fun e w' => e = .returned (.slice (some ⟨g, P.length, none⟩) (X1.length + X2.length + 1 + 1) c) ∧ w'.heap[g]? = some (.cells (P ++ X1 ++ .int .i64 x :: y :: X2 ++ R).toArray 2 (0, 0)) ∧ Fr (fun j => j = g) w w' := by
  obtain ⟨o, ho⟩ : ∃ o, P.length = o := ⟨_, rfl⟩
  obtain ⟨i, hi⟩ : ∃ i, X1.length = i := ⟨_, rfl⟩
  obtain ⟨n, hn⟩ : ∃ n, X1.length + X2.length + 1 = n := ⟨_, rfl⟩
  have hX2 : X2.length + 1 = n - i := by omega
  have hR : R.length + 1 = c - n := by omega
  have OV := hid (Lib.run_overlaps_apart (P := Tryz.prog) w 100 4 2 Tryz.underlying100 1 sizeI ⟨b, 0, none⟩ ⟨g, o + (i + 1), none⟩ 1 1 (n - i) (c - (i + 1)) hne tb 2 _ _ (shape_of hb) (shape_of hg) (by simp) (frozen_of_row hb) (frozen_of_row hb))
  have C1 := hid (run_copy_row (P := Tryz.prog) w.drew 100 100 3 2 g (o + (i + 1)) (n + 1 - (i + 1)) (c - (i + 1)) ⟨g, o + i, none⟩ (n + 1 - i) (c - i) _ 2 (y :: X2) Tryz.underlying100 (by kernel_rfl) hg (by show X2.length + 1 = min (n + 1 - i) (n + 1 - (i + 1)); omega) (fun j v hj => by
    rw [Addr.add_lit]
    refine cellA hg ?_
    have hjl : j < X2.length + 1 := by have := (List.getElem?_eq_some_iff.1 hj).1; simpa using this
    simp only [List.getElem?_toArray, List.append_assoc]
    rw [List.getElem?_append_right (by omega), List.getElem?_append_right (by omega), List.getElem?_append_left (by first | (simp; done) | (simp; omega))]
    rw [← hj]
    congr 1
    omega) (by first | (simp; done) | (simp; omega)) h1)
  have e1 : ((P ++ X1 ++ y :: X2 ++ r :: R).toArray.toList.take (o + (i + 1)) ++ (y :: X2) ++ (P ++ X1 ++ y :: X2 ++ r :: R).toArray.toList.drop (o + (i + 1) + (y :: X2).length)) = P ++ X1 ++ y :: y :: X2 ++ R := by
    have a1 : (P ++ X1 ++ y :: X2 ++ r :: R) = (P ++ X1 ++ [y]) ++ (X2 ++ r :: R) := by simp
    have a2 : (P ++ X1 ++ y :: X2 ++ r :: R) = (P ++ X1 ++ y :: X2 ++ [r]) ++ R := by simp
    simp only [List.toList_toArray]
    rw [show (P ++ X1 ++ y :: X2 ++ r :: R).take (o + (i + 1)) = P ++ X1 ++ [y] by rw [a1]; exact List.take_left' (by first | (simp; done) | (simp; omega))]
    rw [show (P ++ X1 ++ y :: X2 ++ r :: R).drop (o + (i + 1) + (y :: X2).length) = R by rw [a2]; exact List.drop_left' (by first | (simp; done) | (simp; omega))]
    simp
  rw [e1] at C1
  obtain ⟨W1, hW1⟩ : ∃ W1, w.drew.setRow g (P ++ X1 ++ y :: y :: X2 ++ R).toArray = W1 := ⟨_, rfl⟩
  rw [hW1] at C1
  have g1 : W1.heap[g]? = some (.cells (P ++ X1 ++ y :: y :: X2 ++ R).toArray 2 (0, 0)) := by rw [← hW1]; exact setRow_heap w.drew g _ _ _ _ hg
  have f1 : Fr (fun j => j = g) w W1 := by rw [← hW1]; exact (Fr.drew (Fr.refl (fun j => j = g) w)).trans ⟨rfl, rfl, rfl, by simp, fun k _ hk => setRow_other w.drew g k _ hk⟩ (fun _ _ h => h)
  have b1 : W1.heap[b]? = some (.cells #[.int .i64 x] tb (0, 0)) := f1.cells hb hne
  have C2 := hid (run_copy_row (P := Tryz.prog) W1 100 100 3 2 g (o + i) (n + 1 - i) (c - i) ⟨b, 0, none⟩ 1 1 _ 2 [.int .i64 x] Tryz.underlying100 (by kernel_rfl) g1 (by show 1 = min 1 (n + 1 - i); omega) (fun j v hj => by
    cases j with
    | zero => cases hj; exact cellA (j := 0) b1 rfl
    | succ j => simp at hj) (by first | (simp; done) | (simp; omega)) (fun v hv => by simp at hv; subst hv; rfl))
  have e2 : ((P ++ X1 ++ y :: y :: X2 ++ R).toArray.toList.take (o + i) ++ [.int .i64 x] ++ (P ++ X1 ++ y :: y :: X2 ++ R).toArray.toList.drop (o + i + [Value.int .i64 x].length)) = P ++ X1 ++ .int .i64 x :: y :: X2 ++ R := by
    have a1 : (P ++ X1 ++ y :: y :: X2 ++ R) = (P ++ X1) ++ (y :: y :: X2 ++ R) := by simp
    have a2 : (P ++ X1 ++ y :: y :: X2 ++ R) = (P ++ X1 ++ [y]) ++ (y :: X2 ++ R) := by simp
    simp only [List.toList_toArray]
    rw [show (P ++ X1 ++ y :: y :: X2 ++ R).take (o + i) = P ++ X1 by rw [a1]; exact List.take_left' (by first | (simp; done) | (simp; omega))]
    rw [show (P ++ X1 ++ y :: y :: X2 ++ R).drop (o + i + [Value.int .i64 x].length) = y :: X2 ++ R by rw [a2]; exact List.drop_left' (by first | (simp; done) | (simp; omega))]
    simp
  rw [e2] at C2
  obtain ⟨W2, hW2⟩ : ∃ W2, W1.setRow g (P ++ X1 ++ .int .i64 x :: y :: X2 ++ R).toArray = W2 := ⟨_, rfl⟩
  rw [hW2] at C2
  have g2 := hid (show W2.heap[g]? = some (.cells (P ++ X1 ++ .int .i64 x :: y :: X2 ++ R).toArray 2 (0, 0)) by rw [← hW2]; exact setRow_heap W1 g _ _ _ _ g1)
  have f2 := hid (show Fr (fun j => j = g) w W2 from f1.trans (by rw [← hW2]; exact ⟨rfl, rfl, rfl, by simp, fun k _ hk => setRow_other W1 g k _ hk⟩) (fun _ _ h => h))
  have F1 := hid f1
  rw [hn, hi, ho]
  have q1 : (i : Int) ≤ n := by omega
  have q2 : ((i : Int) == n) = false := by simp; omega
  have q3 : ¬ (c : Int) < (n : Int) + 1 := by omega
  have q6 : IntKind.i64.wrap ((i : Int) + 1) = ((i + 1 : Nat) : Int) := by simp [IntKind.wrap, IntKind.bits, IntKind.signed]; omega
  have K1 := hid (fun V => cutI V g o (n + 1) c (i + 1) (by omega) (by omega))
  have K2 := hid (fun V => cutI V g o (n + 1) c i (by omega) (by omega))
  have q4 : i < n := by omega
  have q5 : n + 1 ≤ c := by omega
  clear hg hb hne h1 hW1 hW2 g1 f1 b1 e1 e2 ho hi hn hX2 hR hc
  go_enter Tryz.func132, Tryz.ntmps132
  go_wp2_with fail
  rw [run_callFunc_extern Tryz.func160 (by kernel_rfl) (by kernel_rfl) (by kernel_rfl) (e := Extern.SlicesOverlaps.overlaps #[100, 100] #[4]) (by kernel_rfl), OV.out]
  simp only [Result.andThen]
  rw [Oper.upon_value]
  go_wp2_with fail
  have hmx : Tryz.prog.follows .mixedOrders = true := by kernel_rfl
  refine wp_region_held (S := fun V => Fr (fun j => j = g) w V) hmx ?_
  have hS := (Fr.drew (Fr.refl (fun j => j = g) w))
  simp only [List.size_toArray, List.length_cons, List.length_nil, Nat.reduceAdd, Array.replicate_succ, Array.replicate_zero, List.push_toArray, List.nil_append, List.cons_append]
  refine wpAnyH_take (i := 0) (v := ?_) rfl (by kernel_rfl) (by kernel_rfl) (by kernel_rfl) (fun _ _ _ h => h) (Or.inl ⟨by kernel_rfl, ?_⟩) hS ?_
  rotate_left 1
  · (intro w' hS'; clear hS'; go_simp; try with_reducible rfl)
  simp only [List.getElem_toArray, List.getElem_cons_zero, List.getElem_cons_succ, Act.put, List.setIfInBounds_toArray, List.set_cons_zero, List.set_cons_succ]
  refine wpAnyH_take (i := 1) (v := ?_) rfl (by kernel_rfl) (by kernel_rfl) (by kernel_rfl) (fun _ _ _ h => h) (Or.inl ⟨by kernel_rfl, ?_⟩) hS ?_
  rotate_left 1
  · (intro w' hS'; clear hS'; go_simp; try with_reducible rfl)
  simp only [List.getElem_toArray, List.getElem_cons_zero, List.getElem_cons_succ, Act.put, List.setIfInBounds_toArray, List.set_cons_zero, List.set_cons_succ]
  refine wpAnyH_take (i := 2) (v := ?_) rfl (by kernel_rfl) (by kernel_rfl) (by kernel_rfl) (fun _ _ _ h => h) (Or.inl ⟨by kernel_rfl, ?_⟩) hS ?_
  rotate_left 1
  · (intro w' hS'; clear hS'; go_simp; try with_reducible rfl)
  simp only [List.getElem_toArray, List.getElem_cons_zero, List.getElem_cons_succ, Act.put, List.setIfInBounds_toArray, List.set_cons_zero, List.set_cons_succ]
  refine wpAnyH_take (i := 3) (v := .int .i64 ((i + 1 : Nat) : Int)) rfl (by kernel_rfl) (by kernel_rfl) (by kernel_rfl) (fun _ _ _ h => h) (Or.inl ⟨by kernel_rfl, fun w' hS' => by (clear hS'; go_simp; try rw [q6])⟩) hS ?_
  simp only [List.getElem_toArray, List.getElem_cons_zero, List.getElem_cons_succ, Act.put, List.setIfInBounds_toArray, List.set_cons_zero, List.set_cons_succ]
  refine wpAnyH_take (i := 4) rfl (by kernel_rfl) (by kernel_rfl) (by kernel_rfl) (fun _ _ _ h => h) (tyslice (by kernel_rfl) (by exact ⟨_, _, rfl, rfl, rfl⟩) (fun w' hS' => K1.out w')) hS ?_
  simp only [List.getElem_toArray, List.getElem_cons_zero, List.getElem_cons_succ, Act.put, List.setIfInBounds_toArray, List.set_cons_zero, List.set_cons_succ]
  refine wpAnyH_take (i := 5) (v := ?_) rfl (by kernel_rfl) (by kernel_rfl) (by kernel_rfl) (fun _ _ _ h => h) (Or.inl ⟨by kernel_rfl, ?_⟩) hS ?_
  rotate_left 1
  · (intro w' hS'; clear hS'; go_simp; try with_reducible rfl)
  simp only [List.getElem_toArray, List.getElem_cons_zero, List.getElem_cons_succ, Act.put, List.setIfInBounds_toArray, List.set_cons_zero, List.set_cons_succ]
  refine wpAnyH_take (i := 6) (v := ?_) rfl (by kernel_rfl) (by kernel_rfl) (by kernel_rfl) (fun _ _ _ h => h) (Or.inl ⟨by kernel_rfl, ?_⟩) hS ?_
  rotate_left 1
  · (intro w' hS'; clear hS'; go_simp; try with_reducible rfl)
  simp only [List.getElem_toArray, List.getElem_cons_zero, List.getElem_cons_succ, Act.put, List.setIfInBounds_toArray, List.set_cons_zero, List.set_cons_succ]
  refine wpAnyH_take (i := 7) rfl (by kernel_rfl) (by kernel_rfl) (by kernel_rfl) (fun _ _ _ h => h) (tyslice (by kernel_rfl) (by exact ⟨_, _, rfl, rfl, rfl⟩) (fun w' hS' => K2.out w')) hS ?_
  simp only [List.getElem_toArray, List.getElem_cons_zero, List.getElem_cons_succ, Act.put, List.setIfInBounds_toArray, List.set_cons_zero, List.set_cons_succ]
  refine wpAnyH_ready (rs := [8]) (by kernel_rfl) (by simp) ?_
  refine AllReadyH.cons rfl (fun K1 hK1 => ?_) (AllReadyH.nil)
  refine tstep_copy (by kernel_rfl) C1.out (by exact ⟨_, _, rfl, rfl, rfl⟩) ?_
  refine hK1.out _ _ F1.out (fun hS => ?_)
  clear hK1 K1
  simp only [List.getElem_toArray, List.getElem_cons_zero, List.getElem_cons_succ, Act.put, List.setIfInBounds_toArray, List.set_cons_zero, List.set_cons_succ]
  refine wpAnyH_done (by kernel_rfl) ?_ _
  clear hS
  go_wp2_with (refine wpList_copy_t C2.out (by exact ⟨_, _, rfl, rfl, rfl⟩) (by kernel_rfl) ?_)
  go_ret
  exact ⟨rfl, g2.out, f2.out⟩
end Go.Proofs.YtilbdpnioajkoaaGreat

namespace Go.Proofs.YtilbdpnioajkoaaGreat
open Go.RowKit Go.Maps
set_option linter.unusedVariables false
set_option maxRecDepth 100000
set_option linter.unusedSimpArgs false

theorem run_append_zeros_grow {P : Program} (w : World) (t tn ty e : TypeId) (i : TypeInfo) (z : Value) (ht : P.underlying t = some (.slice e)) (htn : P.underlying tn = some (.int .i64)) (hi : P.info? e = some i) (hz : i.zero = some z) (base : Option Addr) (sLen sCap : Nat) (olds : List Value)
    (hold : (Builtin.firstCells i.size sLen (.slice base sLen sCap)).run P w.drew = .ok olds.toArray w.drew) (n : Nat) (h0 : 0 < n) (hs : 0 < i.size) (hg : sCap < sLen + n) (h63 : ((sLen + n : Nat) : Int) ≤ 9223372036854775807) (h48 : n * i.bytes ≤ 281474976710656) (hfit : Builtin.nextslicecap (sLen + n) sCap * i.bytes ≤ 281474976710656) :
    (Builtin.append_ #[t, tn] ty #[.slice base sLen sCap, .int .i64 n]).run P w =
      .ok (.slice (some ⟨w.heap.size, 0, none⟩) (sLen + n) (grownCap w (sLen + n) sCap e)) (w.drew.alloc (.cells (olds.toArray ++ Builtin.zeroCells z.cells n ++ Builtin.zeroCells z.cells (grownCap w (sLen + n) sCap e - (sLen + n))) e)) := by
  have hn : n ≠ 0 := by omega
  have hng : ¬ (sLen + n ≤ sCap) := by omega
  have hw : IntKind.i64.wrap (n : Int) = n := by rw [IntKind.wrap_i64]; omega
  have h63' : ¬ (9223372036854775807 < ((sLen : Int) + (n : Int))) := by omega
  have h48' : ¬ (281474976710656 < Builtin.nextslicecap (sLen + n) sCap * i.bytes) := by omega
  have h48i : ¬ (281474976710656 < (n : Int) * (i.bytes : Int)) := by
    rw [← Int.natCast_mul]
    omega
  have hneg : ¬ ((n : Int) < 0) := by omega
  have h63n : ¬ (9223372036854775807 < (n : Int)) := by omega
  have hns : ¬ (n * i.size = 0) := Nat.mul_ne_zero hn (by omega)
  simp [Builtin.append_, run_underlying ht, run_underlying htn, sizeOf, typeInfo, zeroValue, hi, hz, asInt, asIntOf, hw, hn, hng, hneg, hns, h63', h63n, h48', h48i, Question.forced, hold, newRow, grownCap]
set_option maxHeartbeats 1600000 in
theorem insert_grow (x : Int) (b : Nat) (w : World) (g c : Nat) (P X1 X2 : List Value) (y : Value) (tb : TypeId) (hg : w.heap[g]? = some (.cells (P ++ X1 ++ y :: X2).toArray 2 (0, 0))) (hb : w.heap[b]? = some (.cells #[.int .i64 x] tb (0, 0))) (h1 : ∀ v ∈ y :: X2, v.oneCell' = true) (hc : X1.length + X2.length + 1 = c) (hm : c ≤ 10000000000000) :
    Calls Tryz.prog 132 #[.slice (some ⟨g, P.length, none⟩) (X1.length + X2.length + 1) c, .int .i64 X1.length, .slice (some ⟨b, 0, none⟩) 1 1] w fun e w' => ∃ c' R, e = .returned (.slice (some ⟨w.heap.size, 0, none⟩) (X1.length + X2.length + 1 + 1) c') ∧ w'.heap[w.heap.size]? = some (.cells (X1 ++ .int .i64 x :: y :: X2 ++ R).toArray 2 (0, 0)) ∧ X1.length + X2.length + 2 + R.length = c' ∧ c' ≤ maxLen ∧ Fr (fun _ => False) w w' := by
  obtain ⟨o, ho⟩ : ∃ o, P.length = o := ⟨_, rfl⟩
  obtain ⟨i, hi⟩ : ∃ i, X1.length = i := ⟨_, rfl⟩
  obtain ⟨k, hk⟩ : ∃ k, c + 1 - i = k := ⟨_, rfl⟩
  obtain ⟨inf, hinf, hp⟩ := Option.map_eq_some_iff.1 infoI
  simp only [Prod.mk.injEq] at hp
  have hgl := lt_of_row hg
  have hbl := lt_of_row hb
  have ap := run_append_zeros_grow (P := Tryz.prog) w 100 3 100 2 inf (.int .i64 0) Tryz.underlying100 Tryz.underlying3 hinf hp.1 (some ⟨g, o, none⟩) i c X1 (by
    rw [hp.2.1]
    exact run_firstCells_some w.drew 1 i ⟨g, o, none⟩ i c X1 (by omega) (fun j u hu => by
      rw [Addr.add_lit]
      refine cellA (w := w.drew) hg ?_
      have := (List.getElem?_eq_some_iff.1 hu).1
      simp only [List.getElem?_toArray, List.append_assoc]
      rw [List.getElem?_append_right (by omega), List.getElem?_append_left (by omega), ← hu]
      congr 1
      omega)) k (by omega) (by omega) (by omega) (by omega) (by rw [hp.2.2]; omega) (by rw [hp.2.2]; exact growslice_fits_wide (by omega) (by omega))
  rw [show i + k = c + 1 by omega] at ap
  obtain ⟨c', hc'⟩ : ∃ c', grownCap w (c + 1) c 2 = c' := ⟨_, rfl⟩
  have hge : c + 1 ≤ c' := by rw [← hc']; exact grownCap_ge _ _ _ _
  have hle : c' ≤ maxLen := by rw [← hc']; exact grownCap_le_maxLen _ _ _ _ (by unfold maxLen; omega)
  rw [hc'] at ap
  obtain ⟨Z, hZ⟩ : ∃ Z, (Builtin.zeroCells (Value.int .i64 0).cells k ++ Builtin.zeroCells (Value.int .i64 0).cells (c' - (c + 1))).toList = Z := ⟨_, rfl⟩
  have hZl : Z.length = c' - i := by
    rw [← hZ, Array.length_toList, Array.size_append, size_zeroCells, size_zeroCells]
    show k * 1 + (c' - (c + 1)) * 1 = c' - i
    omega
  have eZ : X1.toArray ++ Builtin.zeroCells (Value.int .i64 0).cells k ++ Builtin.zeroCells (Value.int .i64 0).cells (c' - (c + 1)) = (X1 ++ Z).toArray := by
    rw [← hZ]
    apply Array.toList_inj.1
    simp
  rw [eZ] at ap
  obtain ⟨W1, hW1⟩ : ∃ W1, w.drew.alloc (.cells (X1 ++ Z).toArray 2) = W1 := ⟨_, rfl⟩
  rw [hW1] at ap
  have f1 : Fr (fun _ => False) w W1 := by rw [← hW1]; exact Fr.alloc (Fr.drew (Fr.refl _ _)) _
  have g1 : W1.heap[w.heap.size]? = some (.cells (X1 ++ Z).toArray 2 (0, 0)) := by rw [← hW1]; exact Go.heap_alloc_new w.drew _
  obtain ⟨z0, Z1, hZ1⟩ : ∃ z0 Z1, Z = z0 :: Z1 := by
    cases Z with
    | nil => simp at hZl; omega
    | cons a b => exact ⟨a, b, rfl⟩
  subst hZ1
  simp only [List.length_cons] at hZl
  have b1 : W1.heap[b]? = some (.cells #[.int .i64 x] tb (0, 0)) := f1.cells hb (fun h => h)
  have C1 := fun (V : World) (gv : V.heap = W1.heap) => run_copy_row (P := Tryz.prog) V 100 100 3 2 w.heap.size i (c + 1 - i) (c' - i) ⟨b, 0, none⟩ 1 1 _ 2 [.int .i64 x] Tryz.underlying100 (by kernel_rfl) (by rw [gv]; exact g1) (by show 1 = min 1 (c + 1 - i); omega) (fun j v hj => by
    cases j with
    | zero => cases hj; exact cellA (j := 0) (by rw [gv]; exact b1) rfl
    | succ j => simp at hj) (by simp; omega) (fun v hv => by simp at hv; subst hv; rfl)
  have e1 : ((X1 ++ z0 :: Z1).toArray.toList.take i ++ [.int .i64 x] ++ (X1 ++ z0 :: Z1).toArray.toList.drop (i + [Value.int .i64 x].length)) = X1 ++ .int .i64 x :: Z1 := by
    have a2 : (X1 ++ z0 :: Z1) = (X1 ++ [z0]) ++ Z1 := by simp
    simp only [List.toList_toArray]
    rw [show (X1 ++ z0 :: Z1).take i = X1 from List.take_left' hi]
    rw [show (X1 ++ z0 :: Z1).drop (i + [Value.int .i64 x].length) = Z1 by rw [a2]; exact List.drop_left' (by simp; omega)]
    simp
  rw [e1] at C1
  obtain ⟨W2, hW2⟩ : ∃ W2, W1.setRow w.heap.size (X1 ++ .int .i64 x :: Z1).toArray = W2 := ⟨_, rfl⟩
  have D1 := hid (hW2 ▸ C1 W1 rfl)
  have g2 : W2.heap[w.heap.size]? = some (.cells (X1 ++ .int .i64 x :: Z1).toArray 2 (0, 0)) := by rw [← hW2]; exact setRow_heap W1 _ _ _ _ _ g1
  have f12 : Fr (fun j => j = w.heap.size) W1 W2 := by rw [← hW2]; exact ⟨rfl, rfl, rfl, by simp, fun k _ hk => setRow_other W1 w.heap.size k _ hk⟩
  have f2 : Fr (fun _ => False) w W2 := f1.trans f12 (fun i hi e => by omega)
  have gg : W2.heap[g]? = some (.cells (P ++ X1 ++ y :: X2).toArray 2 (0, 0)) := f2.cells hg (fun h => h)
  have D2 := run_copy_row (P := Tryz.prog) W2.drew 100 100 3 2 w.heap.size (i + 1) (c + 1 - (i + 1)) (c' - (i + 1)) ⟨g, o + i, none⟩ (c - i) (c - i) _ 2 (y :: X2) Tryz.underlying100 (by kernel_rfl) (show W2.drew.heap[w.heap.size]? = _ from g2) (by show X2.length + 1 = min (c - i) (c + 1 - (i + 1)); omega) (fun j v hj => by
    rw [Addr.add_lit]
    refine cellA (w := W2.drew) gg ?_
    have hjl : j < X2.length + 1 := by have := (List.getElem?_eq_some_iff.1 hj).1; simpa using this
    simp only [List.getElem?_toArray, List.append_assoc]
    rw [List.getElem?_append_right (by omega), List.getElem?_append_right (by omega), ← hj]
    congr 1
    omega) (by simp; omega) h1
  obtain ⟨R, hR⟩ : ∃ R, Z1.drop (X2.length + 1) = R := ⟨_, rfl⟩
  have e2 : ((X1 ++ .int .i64 x :: Z1).toArray.toList.take (i + 1) ++ (y :: X2) ++ (X1 ++ .int .i64 x :: Z1).toArray.toList.drop (i + 1 + (y :: X2).length)) = X1 ++ .int .i64 x :: y :: X2 ++ R := by
    have a1 : (X1 ++ .int .i64 x :: Z1) = (X1 ++ [.int .i64 x]) ++ Z1 := by simp
    simp only [List.toList_toArray]
    rw [show (X1 ++ .int .i64 x :: Z1).take (i + 1) = X1 ++ [.int .i64 x] by rw [a1]; exact List.take_left' (by simp; omega)]
    rw [show (X1 ++ .int .i64 x :: Z1).drop (i + 1 + (y :: X2).length) = R by rw [a1, ← List.drop_drop, List.drop_left' (by simp; omega), ← hR]; rfl]
    simp
  rw [e2] at D2
  obtain ⟨W3, hW3⟩ : ∃ W3, W2.drew.setRow w.heap.size (X1 ++ .int .i64 x :: y :: X2 ++ R).toArray = W3 := ⟨_, rfl⟩
  rw [hW3] at D2
  have G3 := hid (show W3.heap[w.heap.size]? = some (.cells (X1 ++ .int .i64 x :: y :: X2 ++ R).toArray 2 (0, 0)) by rw [← hW3]; exact setRow_heap W2.drew _ _ _ _ _ g2)
  have f23 : Fr (fun j => j = w.heap.size) W2 W3 := by rw [← hW3]; exact (Fr.drew (Fr.refl (fun j => j = w.heap.size) W2)).trans ⟨rfl, rfl, rfl, by simp, fun k _ hk => setRow_other W2.drew w.heap.size k _ hk⟩ (fun _ _ h => h)
  have F3 := hid (show Fr (fun _ => False) w W3 from f2.trans f23 (fun i hi e => by omega))
  have F23 := hid f23
  have HRL := hid (show X1.length + X2.length + 2 + R.length = c' by rw [← hR, List.length_drop]; omega)
  have DD2 := hid D2
  have HLE := hid hle
  have K1 := hid (fun V => show (Instr.sliceAt 100 (.slice (some ⟨w.heap.size, 0, none⟩) (c + 1) c') (some (.int .i64 ((i + 1 : Nat) : Int))) none none).run Tryz.prog V = .ok (.slice (some ⟨w.heap.size, i + 1, none⟩) (c + 1 - (i + 1)) (c' - (i + 1))) V by have := cutI V w.heap.size 0 (c + 1) c' (i + 1) (by omega) (by omega); rw [Nat.zero_add] at this; exact this)
  have K2 := hid (fun V => cutI V g o c c i (by omega) (by omega))
  have q6 : IntKind.i64.wrap ((i : Int) + 1) = ((i + 1 : Nat) : Int) := by simp [IntKind.wrap, IntKind.bits, IntKind.signed]; omega
  have q10 : c' ≠ i := by omega
  rw [hc, hi, ho]
  have q1 : (i : Int) ≤ c := by omega
  have q2 : ((i : Int) == c) = false := by simp; omega
  have q3 : (c : Int) < (c : Int) + 1 := by omega
  have q4 : i < c := by omega
  have q7 : (c : Int) + 1 - (i : Int) = (k : Int) := by omega
  have q8 : (0 : Int) ≤ (k : Int) := by omega
  have q9 : c ≠ i := by omega
  have AP := hid ap
  clear ap hg hb h1 ho hk hinf hp hgl hbl hc' hZ eZ hW1 f1 g1 b1 C1 e1 hW2 g2 f2 f12 gg D2 hR e2 hW3 f23 hZl
  go_enter Tryz.func132, Tryz.ntmps132
  go_wp2_with (first
    | (refine wpList_append_eq _ _ rfl _ _ _ rfl _ _ _ rfl rfl AP.out ?_)
    | (refine wpList_copy_t D1.out (by exact ⟨_, _, rfl, rfl, rfl⟩) (by kernel_rfl) ?_))
  have hmx : Tryz.prog.follows .mixedOrders = true := by kernel_rfl
  refine wp_region_held (S := fun V => Fr (fun j => j = w.heap.size) W2 V) hmx ?_
  have hS := (Fr.drew (Fr.refl (fun j => j = w.heap.size) W2))
  simp only [List.size_toArray, List.length_cons, List.length_nil, Nat.reduceAdd, Array.replicate_succ, Array.replicate_zero, List.push_toArray, List.nil_append, List.cons_append]
  refine wpAnyH_take (i := 0) (v := ?_) rfl (by kernel_rfl) (by kernel_rfl) (by kernel_rfl) (fun _ _ _ h => h) (Or.inl ⟨by kernel_rfl, ?_⟩) hS ?_
  rotate_left 1
  · (intro w' hS'; clear hS'; go_simp; try with_reducible rfl)
  simp only [List.getElem_toArray, List.getElem_cons_zero, List.getElem_cons_succ, Act.put, List.setIfInBounds_toArray, List.set_cons_zero, List.set_cons_succ]
  refine wpAnyH_take (i := 1) (v := ?_) rfl (by kernel_rfl) (by kernel_rfl) (by kernel_rfl) (fun _ _ _ h => h) (Or.inl ⟨by kernel_rfl, ?_⟩) hS ?_
  rotate_left 1
  · (intro w' hS'; clear hS'; go_simp; try with_reducible rfl)
  simp only [List.getElem_toArray, List.getElem_cons_zero, List.getElem_cons_succ, Act.put, List.setIfInBounds_toArray, List.set_cons_zero, List.set_cons_succ]
  refine wpAnyH_take (i := 2) (v := ?_) rfl (by kernel_rfl) (by kernel_rfl) (by kernel_rfl) (fun _ _ _ h => h) (Or.inl ⟨by kernel_rfl, ?_⟩) hS ?_
  rotate_left 1
  · (intro w' hS'; clear hS'; go_simp; try with_reducible rfl)
  simp only [List.getElem_toArray, List.getElem_cons_zero, List.getElem_cons_succ, Act.put, List.setIfInBounds_toArray, List.set_cons_zero, List.set_cons_succ]
  refine wpAnyH_take (i := 3) (v := .int .i64 ((i + 1 : Nat) : Int)) rfl (by kernel_rfl) (by kernel_rfl) (by kernel_rfl) (fun _ _ _ h => h) (Or.inl ⟨by kernel_rfl, fun w' hS' => by (clear hS'; go_simp; try rw [q6])⟩) hS ?_
  simp only [List.getElem_toArray, List.getElem_cons_zero, List.getElem_cons_succ, Act.put, List.setIfInBounds_toArray, List.set_cons_zero, List.set_cons_succ]
  refine wpAnyH_take (i := 4) rfl (by kernel_rfl) (by kernel_rfl) (by kernel_rfl) (fun _ _ _ h => h) (tyslice (by kernel_rfl) (by exact ⟨_, _, rfl, rfl, rfl⟩) (fun w' hS' => K1.out w')) hS ?_
  simp only [List.getElem_toArray, List.getElem_cons_zero, List.getElem_cons_succ, Act.put, List.setIfInBounds_toArray, List.set_cons_zero, List.set_cons_succ]
  refine wpAnyH_take (i := 5) (v := ?_) rfl (by kernel_rfl) (by kernel_rfl) (by kernel_rfl) (fun _ _ _ h => h) (Or.inl ⟨by kernel_rfl, ?_⟩) hS ?_
  rotate_left 1
  · (intro w' hS'; clear hS'; go_simp; try with_reducible rfl)
  simp only [List.getElem_toArray, List.getElem_cons_zero, List.getElem_cons_succ, Act.put, List.setIfInBounds_toArray, List.set_cons_zero, List.set_cons_succ]
  refine wpAnyH_take (i := 6) (v := ?_) rfl (by kernel_rfl) (by kernel_rfl) (by kernel_rfl) (fun _ _ _ h => h) (Or.inl ⟨by kernel_rfl, ?_⟩) hS ?_
  rotate_left 1
  · (intro w' hS'; clear hS'; go_simp; try with_reducible rfl)
  simp only [List.getElem_toArray, List.getElem_cons_zero, List.getElem_cons_succ, Act.put, List.setIfInBounds_toArray, List.set_cons_zero, List.set_cons_succ]
  refine wpAnyH_take (i := 7) rfl (by kernel_rfl) (by kernel_rfl) (by kernel_rfl) (fun _ _ _ h => h) (tyslice (by kernel_rfl) (by exact ⟨_, _, rfl, rfl, rfl⟩) (fun w' hS' => K2.out w')) hS ?_
  simp only [List.getElem_toArray, List.getElem_cons_zero, List.getElem_cons_succ, Act.put, List.setIfInBounds_toArray, List.set_cons_zero, List.set_cons_succ]
  refine wpAnyH_ready (rs := [8]) (by kernel_rfl) (by simp) ?_
  refine AllReadyH.cons rfl (fun K1 hK1 => ?_) (AllReadyH.nil)
  refine tstep_copy (by kernel_rfl) DD2.out (by exact ⟨_, _, rfl, rfl, rfl⟩) ?_
  refine hK1.out _ _ F23.out (fun hS => ?_)
  clear hK1 K1
  simp only [List.getElem_toArray, List.getElem_cons_zero, List.getElem_cons_succ, Act.put, List.setIfInBounds_toArray, List.set_cons_zero, List.set_cons_succ]
  refine wpAnyH_done (by kernel_rfl) ?_ _
  clear hS
  go_wp2
  go_ret
  exact ⟨c', R, rfl, G3.out, by rw [← hi] at *; exact HRL.out, HLE.out, F3.out⟩
end Go.Proofs.YtilbdpnioajkoaaGreat

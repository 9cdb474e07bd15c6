/-
  The guard, of any operation.
  The library's contract on a copy of a text, laid at this dump.
  A make is done.
-/
import Derived.Test.YtilbdpnioajkoaaGreatMg12
import Derived.Test.YtilbdpnioajkoaaGreatRows
import Derived.Shelf.LaysM
import Derived.Shelf.Strconv.Clone
import Derived.Ground.NamesProg
import Derived.Test.YtilbdpnioajkoaaGreatMg11
namespace Go.Proofs.YtilbdpnioajkoaaGreat
open Go.RowKit Go.Maps
set_option linter.unusedVariables false
set_option maxRecDepth 100000
set_option linter.unusedSimpArgs false

def T.may2 (t : T.Tr) (K : Nat) (o : S.Op) : Bool := decide (2 < o.n) && ((A.get o.n t).isSome && ((A.get o.p t).isSome && (T.nam o.a && !T.up t K o.p o.n)))
def T.may3 (t : T.Tr) (o : S.Op) : Bool := (A.get o.n t).isSome && (T.txt o.b && decide (o.c.size ≤ 255))
/-- the guard -/
def T.may (t : T.Tr) (K : Nat) (o : S.Op) : Bool := if o.k = 1 then T.may1 t o else if o.k = 2 then T.may2 t K o else if o.k = 3 then T.may3 t o else false
set_option maxHeartbeats 3200000 in
theorem may_any {c : Nat → Option T.Col} {w : World} {bud p : Nat} {dos last : Int} {t : T.Tr} {mb : Nat} {f : Int → Nat} (h : Tf c w bud p dos last t mb f) (hl : Lo c w.heap.size) (hw : ∀ k x, A.get k t = some x → (Lit.int .i64 x.par).wf = true) {K : Nat} (hK : ∀ n, T.ends t K n) (o : S.Op) (hi : o.in64) :
    Calls Tryz.prog 40 #[ptr p, .agg o.cs] w fun e w' => e = .returned (.bool (T.may t K o)) ∧ Fr (fun _ => False) w w' := by
  by_cases k1 : o.k = 1
  · rw [show T.may t K o = T.may1 t o by unfold T.may; rw [if_pos k1]]
    exact may1_any h hl o hi k1
  obtain ⟨W, hW⟩ : ∃ W, w.alloc (.cells o.cs 35) = W := ⟨_, rfl⟩
  have fW : Fr (fun _ => False) w W := by rw [← hW]; exact Fr.alloc (Fr.refl _ _) _
  have hTW := h.kept fW (fun _ _ h => h)
  have K1 := hid (has_any hTW (wfT hi.1.1 hi.1.2))
  have K2 := hid (has_any hTW (wfT hi.2.1 hi.2.2))
  have KN := hid (tname_any o.a)
  have KB := hid (below_any hTW hw hK (wfT hi.2.1 hi.2.2) o.n)
  have KT := hid (isText_any o.b)
  have KF := hid (fits_any o.c)
  have hbx : W.heap[w.heap.size]? = some (.cells o.cs 35 (0, 0)) := by rw [← hW]; exact Go.heap_alloc_new w _
  have c2 : W.cell? ⟨w.heap.size, 2, none⟩ = some (.int .i64 o.k) := cellA (j := 2) hbx rfl
  have c3 : W.cell? ⟨w.heap.size, 3, none⟩ = some (.int .i64 o.n) := cellA (j := 3) hbx rfl
  have c4 : W.cell? ⟨w.heap.size, 4, none⟩ = some (.int .i64 o.p) := cellA (j := 4) hbx rfl
  have c5 : W.cell? ⟨w.heap.size, 5, none⟩ = some (.string o.a) := cellA (j := 5) hbx rfl
  have c6 : W.cell? ⟨w.heap.size, 6, none⟩ = some (.string o.b) := cellA (j := 6) hbx rfl
  have c7 : W.cell? ⟨w.heap.size, 7, none⟩ = some (.string o.c) := cellA (j := 7) hbx rfl
  have FW := hid fW
  have HW := hid hW
  have e1 : (o.k == 1) = false := by simp [k1]
  by_cases k2 : o.k = 2
  · rw [show T.may t K o = T.may2 t K o by unfold T.may; rw [if_neg k1, if_pos k2]]
    clear hw hK h hl hTW hi hbx fW hW KT KF k1 c2 e1 c6 c7
    unfold T.may2
    by_cases h2 : 2 < o.n
    · cases hg : A.get o.n t with
      | none =>
        rw [hg] at K1
        simp only [Option.isSome_none] at K1
        clear K2 KN KB
        go_enter Tryz.func40, Tryz.ntmps40
        go_wp2_with (first
          | (go_at_call 66; rw [HW.out]; refine K1.out.mono ?_; rintro e wx ⟨rfl, rfl⟩))
        go_ret
        exact ⟨by simp [h2], FW.out⟩
      | some x =>
        rw [hg] at K1
        cases hq : A.get o.p t <;> cases hnm : T.nam o.a <;> cases hu : T.up t K o.p o.n <;>
        · rw [hq] at K2
          rw [hnm] at KN
          rw [hu] at KB
          simp only [Option.isSome_none, Option.isSome_some] at K1 K2
          go_enter Tryz.func40, Tryz.ntmps40
          go_wp2_with (first
            | (go_at_call 66; rw [HW.out]; refine K1.out.mono ?_; rintro e wx ⟨rfl, rfl⟩)
            | (go_at_call 66; refine K2.out.mono ?_; rintro e wx ⟨rfl, rfl⟩)
            | (go_at_call 67; refine (KN.out _).mono ?_; rintro e wx ⟨rfl, rfl⟩)
            | (go_at_call 34; refine KB.out.mono ?_; rintro e wx ⟨rfl, rfl⟩))
          go_ret
          exact ⟨by simp [h2], FW.out⟩
    · clear K1 K2 KN KB
      go_enter Tryz.func40, Tryz.ntmps40
      go_wp2
      go_ret
      exact ⟨ret_bool (by rw [decide_eq_false (show ¬ 2 < o.n by omega)]; rfl), by rw [HW.out]; exact FW.out⟩
  · have e2 : (o.k == 2) = false := by simp [k2]
    by_cases k3 : o.k = 3
    · rw [show T.may t K o = T.may3 t o by unfold T.may; rw [if_neg k1, if_neg k2, if_pos k3]]
      clear hw hK h hl hTW hi hbx fW hW K2 KN KB k1 k2 c2 e1 e2 c3 c4 c5
      unfold T.may3
      cases hg : A.get o.n t <;> cases hnm : T.txt o.b <;> cases hu : decide (o.c.size ≤ 255) <;>
      · rw [hg] at K1
        rw [hnm] at KT
        rw [hu] at KF
        simp only [Option.isSome_none, Option.isSome_some] at K1
        go_enter Tryz.func40, Tryz.ntmps40
        go_wp2_with (first
          | (go_at_call 66; rw [HW.out]; refine K1.out.mono ?_; rintro e wx ⟨rfl, rfl⟩)
          | (go_at_call 68; refine (KT.out _).mono ?_; rintro e wx ⟨rfl, rfl⟩)
          | (go_at_call 69; refine (KF.out _).mono ?_; rintro e wx ⟨rfl, rfl⟩))
        go_ret
        exact ⟨by simp, FW.out⟩
    · have e3 : (o.k == 3) = false := by simp [k3]
      rw [show T.may t K o = false by unfold T.may; rw [if_neg k1, if_neg k2, if_neg k3]]
      clear hw hK h hl hTW hi hbx fW hW K1 K2 KN KB KT KF c2 c3 c4 c5 c6 c7
      go_enter Tryz.func40, Tryz.ntmps40
      go_wp2
      go_ret
      exact ⟨rfl, by rw [HW.out]; exact FW.out⟩
end Go.Proofs.YtilbdpnioajkoaaGreat

namespace Go.Proofs.YtilbdpnioajkoaaGreat
open Go.Shelf Go.RowKit
set_option linter.unusedVariables false

def Lcln_ren : Go.Shelf.Ren := ⟨fun | 316 => 106 | n => n, fun | 9 => 9 | 3 => 3 | 4 => 4 | 37 => 188 | 0 => 0 | 127 => 189 | 5 => 5 | n => n, fun | n => n⟩
theorem Lcln : Go.Proofs.LaysM.n316 Tryz.prog Lcln_ren := {
  mixed := by kernel_rfl
  f316 := Tryz.func106.trans (congrArg some (by kernel_rfl))
  t0 := Tryz.underlying0
  a0 := Tryz.isAgg0
  z0 := Tryz.sizeOf0
  v0 := Tryz.zeroValue0
  t3 := Tryz.underlying3
  a3 := Tryz.isAgg3
  z3 := Tryz.sizeOf3
  v3 := Tryz.zeroValue3
  t4 := Tryz.underlying4
  a4 := Tryz.isAgg4
  z4 := Tryz.sizeOf4
  v4 := Tryz.zeroValue4
  t9 := Tryz.underlying9
  a9 := Tryz.isAgg9
  z9 := Tryz.sizeOf9
  v9 := Tryz.zeroValue9
  t37 := Tryz.underlying188
  a37 := Tryz.isAgg188
  z37 := Tryz.sizeOf188
  v37 := Tryz.zeroValue188
  t127 := Tryz.underlying189
  a127 := Tryz.isAgg189
  z127 := Tryz.sizeOf189
  v127 := Tryz.zeroValue189
  t5 := Tryz.underlying5
  a5 := Tryz.isAgg5
  z5 := Tryz.sizeOf5
  v5 := Tryz.zeroValue5
  i0 := by kernel_rfl
  i3 := by kernel_rfl
  i4 := by kernel_rfl
  i5 := by kernel_rfl
  i9 := by kernel_rfl
  i37 := by kernel_rfl
  i127 := by kernel_rfl }

/-- a copy of a text -/
theorem cln_any (s : ByteArray) (w : World) (h : s.size ≤ 281474976710656) : Calls Tryz.prog 106 #[.string s] w fun e w' => e = .returned (.string s) ∧ Below w.heap.size w w' := Any.stringslite_Clone Lcln s w h

end Go.Proofs.YtilbdpnioajkoaaGreat

namespace Go.Proofs.YtilbdpnioajkoaaGreat
open Go.RowKit Go.Maps
set_option linter.unusedVariables false
set_option maxRecDepth 100000
set_option linter.unusedSimpArgs false

theorem sclone_t (s : ByteArray) (hs : s.size ≤ 281474976710656) (w : World) : Calls Tryz.prog 81 #[.string s] w fun e w' => e = .returned (.string s) ∧ Fr (fun _ => False) w w' := by
  have K := hid (cln_any s w hs)
  go_enter Tryz.func81, Tryz.ntmps81
  go_wp2_with (go_at_call 106; refine K.out.mono ?_; rintro e wx ⟨rfl, hb⟩; have HB := hid (Fr.of_below hb); clear hb)
  go_ret
  exact ⟨rfl, HB.out⟩
set_option maxHeartbeats 1600000 in
theorem placeOf_any (o : S.Op) (hs : o.a.size ≤ 281474976710656) (w : World) : Calls Tryz.prog 87 #[.agg o.cs] w fun e w' => e = .returned (.agg #[.int .i64 o.p, .string o.a]) ∧ Fr (fun _ => False) w w' := by
  have K := hid (sclone_t o.a hs)
  obtain ⟨W, hW⟩ : ∃ W, (w.alloc (.cells o.cs 35)).alloc (.cells #[.int .i64 0, .string ⟨#[]⟩] 76) = W := ⟨_, rfl⟩
  have fW : Fr (fun _ => False) w W := by rw [← hW]; exact Fr.alloc (Fr.alloc (Fr.refl _ _) _) _
  have hbx : W.heap[w.heap.size]? = some (.cells o.cs 35 (0, 0)) := by
    rw [← hW]
    exact (Fr.alloc (Fr.refl (fun _ => False) _) _).cells (Go.heap_alloc_new w _) (fun h => h)
  have hbr : W.heap[w.heap.size + 1]? = some (.cells #[.int .i64 0, .string ⟨#[]⟩] 76 (0, 0)) := by
    rw [← hW]
    have := Go.heap_alloc_new (w.alloc (.cells o.cs 35)) (.cells #[.int .i64 0, .string ⟨#[]⟩] 76)
    rw [alloc_size] at this
    exact this
  have HC := hid (show ∀ V, Fr (fun i => i = w.heap.size + 1) W V → V.cell? ⟨w.heap.size, 4, none⟩ = some (.int .i64 o.p) ∧ V.cell? ⟨w.heap.size, 5, none⟩ = some (.string o.a) from fun V hf => ⟨cellA (j := 4) (hf.cells hbx (by omega)) rfl, cellA (j := 5) (hf.cells hbx (by omega)) rfl⟩)
  have ST := hid (show ∀ V, Fr (fun _ => False) W V → ∃ V', (Instr.storeAt 76 (.pointer (some ⟨w.heap.size + 1, 0, none⟩)) (.agg #[.int .i64 o.p, .string o.a])).run Tryz.prog V = .ok () V' ∧ V'.heap[w.heap.size + 1]? = some (.cells #[.int .i64 o.p, .string o.a] 76 (0, 0)) ∧ Fr (fun k => k = w.heap.size + 1) V V' from fun V hf => box_whole (hf.cells hbr (fun h => h)) rfl (by kernel_rfl) (by simp [Value.oneCell']))
  have FW := hid fW
  have HW := hid hW
  clear fW hW hbx hbr
  go_enter Tryz.func87, Tryz.ntmps87
  go_wp2_with fail
  rw [HW.out]
  have hmx : Tryz.prog.follows .mixedOrders = true := by kernel_rfl
  refine wp_region_held (S := fun V => Fr (fun i => i = w.heap.size + 1) W V) hmx ?_
  have hS := (Fr.drew (Fr.refl (fun i => i = w.heap.size + 1) W))
  simp only [List.size_toArray, List.length_cons, List.length_nil, Nat.reduceAdd, Array.replicate_succ, Array.replicate_zero, List.push_toArray, List.nil_append, List.cons_append]
  refine wpAnyH_take (i := 0) (v := ?_) rfl (by kernel_rfl) (by kernel_rfl) (by kernel_rfl) (fun _ _ _ h => h) (Or.inl ⟨by kernel_rfl, ?_⟩) hS ?_
  rotate_left 1
  · (intro w' hS'; clear hS'; go_simp; try with_reducible rfl)
  simp only [List.getElem_toArray, List.getElem_cons_zero, List.getElem_cons_succ, Act.put, List.setIfInBounds_toArray, List.set_cons_zero, List.set_cons_succ]
  refine wpAnyH_take (i := 1) (v := ?_) rfl (by kernel_rfl) (by kernel_rfl) (by kernel_rfl) (fun _ _ _ h => h) (Or.inl ⟨by kernel_rfl, ?_⟩) hS ?_
  rotate_left 1
  · (intro w' hS'; have h1 := (HC.out w' hS').1; clear hS'; go_simp; try with_reducible rfl)
  simp only [List.getElem_toArray, List.getElem_cons_zero, List.getElem_cons_succ, Act.put, List.setIfInBounds_toArray, List.set_cons_zero, List.set_cons_succ]
  refine wpAnyH_take (i := 2) (v := ?_) rfl (by kernel_rfl) (by kernel_rfl) (by kernel_rfl) (fun _ _ _ h => h) (Or.inl ⟨by kernel_rfl, ?_⟩) hS ?_
  rotate_left 1
  · (intro w' hS'; clear hS'; go_simp; try with_reducible rfl)
  simp only [List.getElem_toArray, List.getElem_cons_zero, List.getElem_cons_succ, Act.put, List.setIfInBounds_toArray, List.set_cons_zero, List.set_cons_succ]
  refine wpAnyH_take (i := 3) (v := ?_) rfl (by kernel_rfl) (by kernel_rfl) (by kernel_rfl) (fun _ _ _ h => h) (Or.inl ⟨by kernel_rfl, ?_⟩) hS ?_
  rotate_left 1
  · (intro w' hS'; have h1 := (HC.out w' hS').2; clear hS'; go_simp; try with_reducible rfl)
  simp only [List.getElem_toArray, List.getElem_cons_zero, List.getElem_cons_succ, Act.put, List.setIfInBounds_toArray, List.set_cons_zero, List.set_cons_succ]
  refine wpAnyH_ready (rs := [4]) (by kernel_rfl) (by simp) ?_
  refine AllReadyH.cons rfl (fun K1 hK1 => ?_) (AllReadyH.nil)
  go_simp
  refine (K.out _).mono ?_
  rintro e w4 ⟨rfl, fx⟩
  have F4 := hid ((Fr.drew (Fr.refl (fun _ => False) W)).trans fx (fun _ _ h => h))
  refine hK1.out _ _ (hS.trans fx (fun _ _ h => h.elim)) (fun hS => ?_)
  clear fx
  clear hK1 K1
  simp only [List.getElem_toArray, List.getElem_cons_zero, List.getElem_cons_succ, Act.put, List.setIfInBounds_toArray, List.set_cons_zero, List.set_cons_succ]
  refine wpAnyH_take (i := 5) (v := ?_) rfl (by kernel_rfl) (by kernel_rfl) (by kernel_rfl) (fun _ _ _ h => h) (Or.inl ⟨by kernel_rfl, ?_⟩) hS ?_
  rotate_left 1
  · (intro w' hS'; clear hS'; go_simp; try with_reducible rfl)
  simp only [List.getElem_toArray, List.getElem_cons_zero, List.getElem_cons_succ, Act.put, List.setIfInBounds_toArray, List.set_cons_zero, List.set_cons_succ]
  refine wpAnyH_ready (rs := [6]) (by kernel_rfl) (by simp) ?_
  refine AllReadyH.cons rfl (fun K1 hK1 => ?_) (AllReadyH.nil)
  obtain ⟨w6, st, hb6, f6⟩ := ST.out w4 F4.out
  refine tstep_store (by kernel_rfl) st (by exact ⟨_, _, rfl, rfl, rfl⟩) ?_
  refine hK1.out _ _ (hS.trans f6 (fun _ _ h => h)) (fun hS => ?_)
  clear hK1 K1
  simp only [List.getElem_toArray, List.getElem_cons_zero, List.getElem_cons_succ, Act.put, List.setIfInBounds_toArray, List.set_cons_zero, List.set_cons_succ]
  refine wpAnyH_done (by kernel_rfl) ?_ _
  have LR := hid (loadVar_whole (W := w6) (b := w.heap.size + 1) (ty := 76) hb6 Tryz.underlying76 rfl (by kernel_rfl))
  have FIN := hid (show Fr (fun _ => False) w w6 from (FW.out.trans hS (fun i hi e => by omega)))
  clear hS st hb6 f6
  go_wp2_with fail
  exact bodyPost_ret (v := .agg #[.int .i64 o.p, .string o.a]) (results_cell1 Tryz.results87 _ _ _ _ _ (by rfl) LR.out) rfl ⟨rfl, FIN.out⟩
set_option maxHeartbeats 1600000 in
theorem change1_any {c : Nat → Option T.Col} {w : World} {bud p : Nat} {dos last : Int} {t : T.Tr} {mb : Nat} {f : Int → Nat} (h : Tf c w bud p dos last t mb f) (hl : Lo c w.heap.size) (hb : bud < 8000000000000) (ht : A.Up t) (h0 : A.get 0 t = none) (o : S.Op) (hi : o.in64) (hk : o.k = 1) (hn2 : 2 < o.n) (hs : o.a.size ≤ 255) {y : T.Nd} (hx : A.get o.n t = none) (hfree : ∀ s, T.kids t o.n s = []) (hy : A.get o.p t = some y) :
    Calls Tryz.prog 56 #[ptr p, .agg o.cs] w fun e w' => Fr (fun i => c i ≠ none) w w' ∧ ∃ v c' f', e = .returned v ∧ More c c' w.heap.size ∧ Lo c' w'.heap.size ∧ Tf c' w' (bud + 2) p dos last (A.put o.n ⟨o.p, o.a, []⟩ t) mb f' ∧ T.UndoPut c' w' p o.n v ∧ ∀ k, k ≠ o.n → f' k = f k := by
  obtain ⟨W, hW⟩ : ∃ W, w.alloc (.cells o.cs 35) = W := ⟨_, rfl⟩
  have fW : Fr (fun _ => False) w W := by rw [← hW]; exact Fr.alloc (Fr.refl _ _) _
  have hbx : W.heap[w.heap.size]? = some (.cells o.cs 35 (0, 0)) := by rw [← hW]; exact Go.heap_alloc_new w _
  have hcn : ¬ (c w.heap.size ≠ none) := fun e => by have := hl _ e; omega
  have HC := hid (show ∀ V, Fr (fun i => c i ≠ none) W V → V.cell? ⟨w.heap.size, 3, none⟩ = some (.int .i64 o.n) ∧ (Instr.loadAt 35 (.pointer (some ⟨w.heap.size, 0, none⟩))).run Tryz.prog V = .ok (.agg o.cs) V from fun V hf => ⟨cellA (j := 3) (hf.cells hbx hcn) rfl, load_whole (hf.cells hbx hcn) Tryz.underlying35 rfl (by kernel_rfl)⟩)
  have KP := hid (placeOf_any o (by omega))
  have KQ := hid (show ∀ V, Fr (fun _ => False) W V → _ from fun V hf => put_any (w := V) (h.kept (fW.trans hf (fun _ _ h => h)) (fun _ _ h => h)) (fun i hi => Nat.lt_of_lt_of_le (hl i hi) (fW.trans hf (fun _ _ h => h)).size) hb ht h0 (wfT hi.1.1 hi.1.2) hn2 (wfT hi.2.1 hi.2.2) (show o.a.size ≤ maxLen by unfold maxLen; omega) hx hfree hy)
  have c2 : W.cell? ⟨w.heap.size, 2, none⟩ = some (.int .i64 1) := by rw [← hk]; exact cellA (j := 2) hbx rfl
  have FW := hid fW
  have HW := hid hW
  clear h hl hb ht h0 hi hn2 hs hx hfree hy fW hbx hcn
  clear hW
  go_enter Tryz.func56, Tryz.ntmps56
  go_wp2_with fail
  rw [HW.out]
  clear hk c2
  have hmx : Tryz.prog.follows .mixedOrders = true := by kernel_rfl
  refine wp_region_held (S := fun V => Fr (fun i => c i ≠ none) W V) hmx ?_
  have hS := (Fr.drew (Fr.refl (fun i => c i ≠ none) W))
  simp only [List.size_toArray, List.length_cons, List.length_nil, Nat.reduceAdd, Array.replicate_succ, Array.replicate_zero, List.push_toArray, List.nil_append, List.cons_append]
  refine wpAnyH_take (i := 0) (v := ?_) rfl (by kernel_rfl) (by kernel_rfl) (by kernel_rfl) (fun _ _ _ h => h) (Or.inl ⟨by kernel_rfl, ?_⟩) hS ?_
  rotate_left 1
  · (intro w' hS'; clear hS'; go_simp; try with_reducible rfl)
  simp only [List.getElem_toArray, List.getElem_cons_zero, List.getElem_cons_succ, Act.put, List.setIfInBounds_toArray, List.set_cons_zero, List.set_cons_succ]
  refine wpAnyH_take (i := 1) (v := ?_) rfl (by kernel_rfl) (by kernel_rfl) (by kernel_rfl) (fun _ _ _ h => h) (Or.inl ⟨by kernel_rfl, ?_⟩) hS ?_
  rotate_left 1
  · (intro w' hS'; clear hS'; go_simp; try with_reducible rfl)
  simp only [List.getElem_toArray, List.getElem_cons_zero, List.getElem_cons_succ, Act.put, List.setIfInBounds_toArray, List.set_cons_zero, List.set_cons_succ]
  refine wpAnyH_take (i := 2) (v := ?_) rfl (by kernel_rfl) (by kernel_rfl) (by kernel_rfl) (fun _ _ _ h => h) (Or.inl ⟨by kernel_rfl, ?_⟩) hS ?_
  rotate_left 1
  · (intro w' hS'; have h1 := (HC.out w' hS').1; clear hS'; go_simp; try with_reducible rfl)
  simp only [List.getElem_toArray, List.getElem_cons_zero, List.getElem_cons_succ, Act.put, List.setIfInBounds_toArray, List.set_cons_zero, List.set_cons_succ]
  refine wpAnyH_take (i := 3) rfl (by kernel_rfl) (by kernel_rfl) (by kernel_rfl) (fun _ _ _ h => h) (tyload (by kernel_rfl) (by exact ⟨_, rfl, rfl⟩) (fun w' hS' => (HC.out w' hS').2)) hS ?_
  simp only [List.getElem_toArray, List.getElem_cons_zero, List.getElem_cons_succ, Act.put, List.setIfInBounds_toArray, List.set_cons_zero, List.set_cons_succ]
  refine wpAnyH_ready (rs := [4]) (by kernel_rfl) (by simp) ?_
  refine AllReadyH.cons rfl (fun K1 hK1 => ?_) (AllReadyH.nil)
  go_simp
  refine (KP.out _).mono ?_
  rintro e w4 ⟨rfl, fx⟩
  have F4 := hid ((Fr.drew (Fr.refl (fun _ => False) W)).trans fx (fun _ _ h => h))
  refine hK1.out _ _ (hS.trans fx (fun _ _ h => h.elim)) (fun hS => ?_)
  clear fx
  clear hK1 K1
  simp only [List.getElem_toArray, List.getElem_cons_zero, List.getElem_cons_succ, Act.put, List.setIfInBounds_toArray, List.set_cons_zero, List.set_cons_succ]
  refine wpAnyH_ready (rs := [5]) (by kernel_rfl) (by simp) ?_
  refine AllReadyH.cons rfl (fun K1 hK1 => ?_) (AllReadyH.nil)
  go_simp
  refine (KQ.out w4 F4.out).mono ?_
  rintro e w5 ⟨fx, v, c', f', rfl, k1, k2, k3, k4⟩
  have P1 := hid k1
  have P2 := hid k2
  have P3 := hid k3
  have P4 := hid k4
  have FX := hid fx
  clear k1 k2 k3 k4
  refine hK1.out _ _ (hS.trans fx (fun _ _ h => h)) (fun hS => ?_)
  clear fx
  clear hK1 K1
  simp only [List.getElem_toArray, List.getElem_cons_zero, List.getElem_cons_succ, Act.put, List.setIfInBounds_toArray, List.set_cons_zero, List.set_cons_succ]
  refine wpAnyH_take (i := 6) (v := ?_) rfl (by kernel_rfl) (by kernel_rfl) (by kernel_rfl) (fun _ _ _ h => h) (Or.inl ⟨by kernel_rfl, ?_⟩) hS ?_
  rotate_left 1
  · (intro w' hS'; clear hS'; go_simp; try with_reducible rfl)
  simp only [List.getElem_toArray, List.getElem_cons_zero, List.getElem_cons_succ, Act.put, List.setIfInBounds_toArray, List.set_cons_zero, List.set_cons_succ]
  refine wpAnyH_done (by kernel_rfl) ?_ _
  clear hS
  go_wp2_with fail
  have FIN := hid (show Fr (fun i => c i ≠ none) w w5 from ((FW.out.trans F4.out (fun _ _ h => h)).mono (fun _ _ h => h.elim)).trans FX.out (fun _ _ h => h))
  have M := hid (show More c c' w.heap.size from fun i hi => P1.out i (Nat.lt_of_lt_of_le hi (FW.out.trans F4.out (fun _ _ h => h)).size))
  go_ret
  exact ⟨FIN.out, _, c', f', rfl, M.out, P2.out, P3.out, P4.out⟩
end Go.Proofs.YtilbdpnioajkoaaGreat

/-
  The code's Join, Meet and Above.
-/
import Derived.Test.YtfbpaboakdpceaaSJoin
import Derived.Test.YtfbpaboakdpceaaSEq
import Derived.OrdersHeld
namespace Go.Proofs.Ytfbpaboakdpceaa
open Go.RowKit
set_option linter.unusedVariables false
set_option linter.unusedSimpArgs false

theorem jyload {ops : Array Oper} {S : World → Prop} {o : Oper} {a : Act} {ty : TypeId} {u v : Value} (hw : Region.wanted o (yielded ops a.tmps) = true) (h0 : ∃ x, o.op = .load ty x ∧ a.eval x = u) (hl : ∀ w, S w → (Instr.loadAt ty u).run Try.prog w = .ok v w) : YieldsIf Try.prog ops S o v a :=
  .inl ⟨hw, fun w hw' => by
    obtain ⟨x, ho, hx⟩ := h0
    simp [execOp, ho, hx, hl w hw', Result.andThen]⟩
theorem syeql {ops : Array Oper} {S : World → Prop} {o : Oper} {a : Act} {t : TypeId} {u v r : Value} (hw : Region.wanted o (yielded ops a.tmps) = true) (h0 : ∃ x y ty, o.op = .binOp .eql t x y ty ∧ a.eval x = u ∧ a.eval y = v ∧ ∀ w, (eqGuard .eql t x y u v).run Try.prog w = .ok () w) (hr : ∀ w, S w → (binOp .eql t u v).run Try.prog w = .ok r w) : YieldsIf Try.prog ops S o r a :=
  .inl ⟨hw, fun w hw' => by
    obtain ⟨x, y, ty, ho, hx, hy, hg⟩ := h0
    simp [execOp, ho, hx, hy, hg, hr w hw', Result.andThen]⟩
/-- two vectors -/
def S.pair (f g : Nat → Int) : Nat → Nat → Int := fun i => if i = 0 then f else g
theorem Ri.two {W : World} {b : Nat} {f g : Nat → Int} {t : TypeId} {m : Nat × Nat} (h : W.heap[b]? = some (.cells #[.int .i64 (f 0), .int .i64 (f 1), .int .i64 (f 2), .int .i64 (f 3), .int .i64 (f 4), .int .i64 (f 5), .int .i64 (f 6), .int .i64 (f 7), .int .i64 (g 0), .int .i64 (g 1), .int .i64 (g 2), .int .i64 (g 3), .int .i64 (g 4), .int .i64 (g 5), .int .i64 (g 6), .int .i64 (g 7)] t m)) : Ri W 8 (some ⟨b, 0, none⟩) 2 (S.pair f g) := by
  refine .inr ⟨b, 0, rfl, fun i j hi hj => ?_⟩
  match i, hi, j, hj with
  | 0, _, 0, _ | 0, _, 1, _ | 0, _, 2, _ | 0, _, 3, _ | 0, _, 4, _ | 0, _, 5, _ | 0, _, 6, _ | 0, _, 7, _ => exact cellA h rfl
  | 1, _, 0, _ | 1, _, 1, _ | 1, _, 2, _ | 1, _, 3, _ | 1, _, 4, _ | 1, _, 5, _ | 1, _, 6, _ | 1, _, 7, _ => exact cellA h rfl
set_option maxHeartbeats 1600000 in
theorem sjoin_any {w : World} {a : Option Addr} {n c : Nat} {z : Nat → Nat → Int} (h : Ri w 8 a n z) (hb : n ≤ 140737488355328) (hcap : n ≤ c) : Calls Try.prog 24 #[.slice a n c] w fun e w' => e = .returned (.agg (V8 (fun j => S.fold max z j n))) ∧ Fr (fun _ => False) w w' := by
  have KB := hid (fun (W : World) (hf : Fr (fun _ => False) w W) => sjoin_by (c := c) (h.fr hf) hb hcap)
  clear h hb hcap
  generalize (fun j => S.fold max z j n) = F at KB ⊢
  go_enter Try.func24, Try.ntmps24
  go_wp2_with (first
    | (go_at_call 43; refine (KB.out _ (Fr.alloc (Fr.refl _ _) _)).mono ?_; rintro e w1 ⟨rfl, hf⟩; have b := hf.cells (Go.heap_alloc_new w _) (fun h => h); obtain ⟨V, st, hbV, fV⟩ := box_whole (V := w1) (b := w.heap.size) (c := V8 F) b rfl (by kernel_rfl) (by kernel_rfl); have lr := loadVar_whole (ty := 42) hbV Try.underlying42 rfl (by kernel_rfl); have ST := hid st; have LR := hid lr; have F1 := hid (((Fr.alloc (Fr.refl (fun _ => False) w) _).trans hf (fun _ _ h => h)).trans fV (fun i hi e => by omega)); clear hf b st lr hbV fV)
    | (refine wpList_store_v ST.out (by exact ⟨_, _, rfl, rfl, rfl⟩) (by kernel_rfl) ?_))
  exact bodyPost_ret (v := .agg (V8 F)) (results_cell1 Try.results24 _ _ _ _ _ (by rfl) LR.out) rfl ⟨rfl, F1.out⟩
set_option maxHeartbeats 1600000 in
theorem smeet_any {w : World} {a : Option Addr} {n c : Nat} {z : Nat → Nat → Int} (h : Ri w 8 a n z) (hb : n ≤ 140737488355328) (hcap : n ≤ c) : Calls Try.prog 26 #[.slice a n c] w fun e w' => e = .returned (.agg (V8 (fun j => S.fold min z j n))) ∧ Fr (fun _ => False) w w' := by
  have KB := hid (fun (W : World) (hf : Fr (fun _ => False) w W) => smeet_by (c := c) (h.fr hf) hb hcap)
  clear h hb hcap
  generalize (fun j => S.fold min z j n) = F at KB ⊢
  go_enter Try.func26, Try.ntmps26
  go_wp2_with (first
    | (go_at_call 43; refine (KB.out _ (Fr.alloc (Fr.refl _ _) _)).mono ?_; rintro e w1 ⟨rfl, hf⟩; have b := hf.cells (Go.heap_alloc_new w _) (fun h => h); obtain ⟨V, st, hbV, fV⟩ := box_whole (V := w1) (b := w.heap.size) (c := V8 F) b rfl (by kernel_rfl) (by kernel_rfl); have lr := loadVar_whole (ty := 42) hbV Try.underlying42 rfl (by kernel_rfl); have ST := hid st; have LR := hid lr; have F1 := hid (((Fr.alloc (Fr.refl (fun _ => False) w) _).trans hf (fun _ _ h => h)).trans fV (fun i hi e => by omega)); clear hf b st lr hbV fV)
    | (refine wpList_store_v ST.out (by exact ⟨_, _, rfl, rfl, rfl⟩) (by kernel_rfl) ?_))
  exact bodyPost_ret (v := .agg (V8 F)) (results_cell1 Try.results26 _ _ _ _ _ (by rfl) LR.out) rfl ⟨rfl, F1.out⟩
theorem S.abv_max (f g : Nat → Int) : S.eqv (fun j => S.fold max (S.pair f g) j 2) f = S.abv f g 8 := by
  rw [Bool.eq_iff_iff, S.eqv_iff, S.abv_iff]
  constructor
  · intro h k hk
    have h1 : max (f k) (g k) = f k := h k hk
    omega
  · intro h k hk
    have h1 := h k hk
    show max (f k) (g k) = f k
    omega
set_option maxHeartbeats 1600000 in
theorem sabove_any (f g : Nat → Int) (w : World) : Calls Try.prog 28 #[.agg (V8 f), .agg (V8 g)] w fun e w' => e = .returned (.bool (S.abv f g 8)) ∧ Fr (fun _ => False) w w' := by
  obtain ⟨W, hW⟩ : ∃ W, (w.alloc (.cells (V8 f) 42)).alloc (.cells (V8 g) 42) = W := ⟨_, rfl⟩
  have ba : Vb W w.heap.size f := hW ▸ S.two0 w _ _
  have bb : Vb W (w.heap.size + 1) g := hW ▸ S.two1 w _ _
  have F0 := hid (show Fr (fun _ => False) w W from hW ▸ Fr.alloc (Fr.alloc (Fr.refl _ _) _) _)
  have LA := hid (fun (V : World) (hf : Fr (fun _ => False) W V) => load_whole (ty := 42) (ba.fr hf) Try.underlying42 rfl (by kernel_rfl))
  have LB := hid (fun (V : World) (hf : Fr (fun _ => False) W V) => load_whole (ty := 42) (bb.fr hf) Try.underlying42 rfl (by kernel_rfl))
  have EQ := hid (fun V => eqlV (fun j => S.fold max (S.pair f g) j 2) f V)
  rw [S.abv_max] at EQ
  have KJ := hid (fun (V : World) (b : Nat) (t : TypeId) (m : Nat × Nat) h => sjoin_any (c := 2) (Ri.two (W := V) (b := b) (f := f) (g := g) (t := t) (m := m) h) (by omega) (by omega))
  have HW := hid hW
  clear hW ba bb
  go_enter Try.func28, Try.ntmps28
  go_wp2_with fail
  rw [HW.out]
  have hmx : Try.prog.follows .mixedOrders = true := by kernel_rfl
  refine wp_region_held (S := fun V => Fr (fun _ => False) W V) hmx ?_
  have hS := (show Fr (fun _ => False) W W.drew from Fr.drew (Fr.refl _ _))
  simp only [List.size_toArray, List.length_cons, List.length_nil, Nat.reduceAdd, Array.replicate_succ, Array.replicate_zero, List.push_toArray, List.nil_append, List.cons_append]
  refine wpAnyH_take (i := 0) rfl (by kernel_rfl) (by kernel_rfl) (by kernel_rfl) (fun _ _ _ h => h) (jyload (by kernel_rfl) (by exact ⟨_, rfl, rfl⟩) (fun w' hS' => LA.out w' hS')) hS ?_
  simp only [List.getElem_toArray, List.getElem_cons_zero, List.getElem_cons_succ, Act.put, List.setIfInBounds_toArray, List.set_cons_zero, List.set_cons_succ]
  refine wpAnyH_take (i := 1) rfl (by kernel_rfl) (by kernel_rfl) (by kernel_rfl) (fun _ _ _ h => h) (jyload (by kernel_rfl) (by exact ⟨_, rfl, rfl⟩) (fun w' hS' => LB.out w' hS')) hS ?_
  simp only [List.getElem_toArray, List.getElem_cons_zero, List.getElem_cons_succ, Act.put, List.setIfInBounds_toArray, List.set_cons_zero, List.set_cons_succ]
  refine wpAnyH_take (i := 4) rfl (by kernel_rfl) (by kernel_rfl) (by kernel_rfl) (fun _ _ _ h => h) (jyload (by kernel_rfl) (by exact ⟨_, rfl, rfl⟩) (fun w' hS' => LA.out w' hS')) hS ?_
  simp only [List.getElem_toArray, List.getElem_cons_zero, List.getElem_cons_succ, Act.put, List.setIfInBounds_toArray, List.set_cons_zero, List.set_cons_succ]
  refine wpAnyH_ready (rs := [2]) (by kernel_rfl) (by simp) ?_
  refine AllReadyH.cons rfl (fun K1 hK1 => ?_) AllReadyH.nil
  go_simp
  refine hK1.out _ _ (Fr.alloc hS _) (fun hS => ?_)
  clear hK1 K1
  simp only [List.getElem_toArray, List.getElem_cons_zero, List.getElem_cons_succ, Act.put, List.setIfInBounds_toArray, List.set_cons_zero, List.set_cons_succ]
  refine wpAnyH_ready (rs := [3]) (by kernel_rfl) (by simp) ?_
  refine AllReadyH.cons rfl (fun K1 hK1 => ?_) AllReadyH.nil
  go_simp
  refine (KJ.out _ _ _ _ (by exact Go.heap_alloc_new _ _)).mono ?_
  rintro e w93 ⟨rfl, fx⟩
  refine hK1.out _ _ (hS.trans fx (fun _ _ h => h)) (fun hS => ?_)
  clear fx
  clear hK1 K1
  simp only [List.getElem_toArray, List.getElem_cons_zero, List.getElem_cons_succ, Act.put, List.setIfInBounds_toArray, List.set_cons_zero, List.set_cons_succ]
  refine wpAnyH_take (i := 5) rfl (by kernel_rfl) (by kernel_rfl) (by kernel_rfl) (fun _ _ _ h => h) (syeql (by kernel_rfl) (by exact ⟨_, _, _, rfl, rfl, rfl, fun W => guardV _ _ _ _ W⟩) (fun w' hS' => EQ.out w')) hS ?_
  simp only [List.getElem_toArray, List.getElem_cons_zero, List.getElem_cons_succ, Act.put, List.setIfInBounds_toArray, List.set_cons_zero, List.set_cons_succ]
  refine wpAnyH_take (i := 6) (v := ?_) rfl (by kernel_rfl) (by kernel_rfl) (by kernel_rfl) (fun _ _ _ h => h) (Or.inl ⟨by kernel_rfl, ?_⟩) hS ?_
  rotate_left 1
  · (intro w' hS'; clear hS'; go_simp; try with_reducible rfl)
  simp only [List.getElem_toArray, List.getElem_cons_zero, List.getElem_cons_succ, Act.put, List.setIfInBounds_toArray, List.set_cons_zero, List.set_cons_succ]
  refine wpAnyH_done (by kernel_rfl) ?_ _
  go_wp2
  go_ret
  exact ⟨rfl, F0.out.trans hS (fun _ _ h => h)⟩
end Go.Proofs.Ytfbpaboakdpceaa

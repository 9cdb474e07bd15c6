/-
  The law's told: a table's rows are just some, as far as it is asked, and again.
-/
import Derived.Test.YtffjekhlloippaaYIter
import Derived.Test.YtffjekhlloippaaRound
namespace Go.Proofs.Ytffjekhlloippaa
open Go.RowKit Go.Maps
set_option linter.unusedVariables false
set_option linter.unusedSimpArgs false
set_option maxRecDepth 100000
attribute [local go_sem] Oper.semAt_some
namespace Y
/-- what stays while a table's rows are held against some: the parameters' boxes, the result's, the iterator's rows; all below N -/
structure Ts (w ub : World) (B rc lo : Nat) (ra : Option Addr) (t : Tb) (ln : Nat) (a : Option Addr) (c : Nat) (stop : Int) (N : Nat) (W : World) : Prop where
  fr : Fr (fun _ => False) w W
  fb : Fr (fun i => N ≤ i) ub W
  b0 : W.heap[w.heap.size]? = some (.cells #[.slice a ln c] 26 (0, 0))
  b1 : W.heap[w.heap.size + 1]? = some (.cells #[.int .i64 stop] 3 (0, 0))
  b2 : W.heap[w.heap.size + 1 + 1]? = some (.cells #[.bool false] 4 (0, 0))
  it : Yt W B ra rc t lo
  bt : B < N
  rt : ∀ i, blk ra = some i → i < N
  top : w.heap.size + 1 + 1 < N
variable {w ub : World} {B rc lo : Nat} {ra : Option Addr} {t : Tb} {ln : Nat} {a : Option Addr} {c : Nat} {stop : Int} {N : Nat}
theorem Ts.kept {S : Nat → Prop} {W W' : World} (h : Ts w ub B rc lo ra t ln a c stop N W) (hf : Fr S W W') (hS : ∀ i, S i → N ≤ i) : Ts w ub B rc lo ra t ln a c stop N W' := by
  have h1 := h.top
  refine ⟨h.fr.trans (hf.mono (T := fun i => N ≤ i) (fun i _ e => hS i e)) (fun i hi e => by omega), h.fb.trans (hf.mono (T := fun i => N ≤ i) (fun i _ e => hS i e)) (fun _ _ h => h), hf.cells h.b0 (fun e => by have := hS _ e; omega), hf.cells h.b1 (fun e => by have := hS _ e; omega), hf.cells h.b2 (fun e => by have := hS _ e; omega), ⟨hf.cells h.it.bx (fun e => by have := hS _ e; have := h.bt; omega), h.it.row.kept hf (fun j hj e => by have := hS _ e; have := h.rt j hj; omega), h.it.lb, h.it.lr⟩, h.bt, h.rt, h.top⟩
/-- .. and n, in its box, is how many have been told -/
def Tn (w ub : World) (B rc lo : Nat) (ra : Option Addr) (t : Tb) (ln : Nat) (a : Option Addr) (c : Nat) (stop : Int) (N : Nat) (pre : List El) (W : World) : Prop :=
  Ts w ub B rc lo ra t ln a c stop N W ∧ W.heap[N]? = some (.cells #[.int .i64 pre.length] 3 (0, 0))
theorem Tn.kept {pre : List El} {S : Nat → Prop} {W W' : World} (h : Tn w ub B rc lo ra t ln a c stop N pre W) (hf : Fr S W W') (hS : ∀ i, S i → N < i) : Tn w ub B rc lo ra t ln a c stop N pre W' :=
  ⟨h.1.kept hf (fun i e => Nat.le_of_lt (hS i e)), hf.cells h.2 (fun e => Nat.lt_irrefl _ (hS _ e))⟩
theorem Ts.up {N' : Nat} {W : World} (h : Ts w ub B rc lo ra t ln a c stop N W) (hN : N ≤ N') (hN' : N' = W.heap.size) : Ts w W B rc lo ra t ln a c stop N' W :=
  ⟨h.fr, Fr.refl _ _, h.b0, h.b1, h.b2, h.it, Nat.lt_of_lt_of_le h.bt hN, fun i hi => Nat.lt_of_lt_of_le (h.rt i hi) hN, Nat.lt_of_lt_of_le h.top hN⟩
theorem Tn.own {b : Nat} (hb : b = N + 1) : OwnFrom b (Tn w ub B rc lo ra t ln a c stop N) := fun pre W W' row h hg hr =>
  h.kept (Fr.of_grown hg) (fun i e => by have := (hr i e).1; omega)
/-- .. and one more is at hand, in the block v -/
def Tw (w ub : World) (B rc lo : Nat) (ra : Option Addr) (t : Tb) (ln : Nat) (a : Option Addr) (c : Nat) (stop : Int) (N : Nat) (tm : Array Value) (pre : List El) (x : El) (a1 : Act) (W : World) : Prop :=
  ∃ v, a1 = { tmps := (tm.setIfInBounds 15 (rowv x.1 x.2)).setIfInBounds 9 (ptrY v), defers := [] } ∧ W.heap[v]? = some (.cells (wcells x.1 x.2) 61 (0, 0)) ∧ pre ++ [x] <+: t ∧ Tn w ub B rc lo ra t ln a c stop N pre W
theorem Tw.put {tm : Array Value} {pre : List El} {x : El} {a1 : Act} {W : World} (h : Tw w ub B rc lo ra t ln a c stop N tm pre x a1 W) {l : Nat} {o : Obj} (o' : Obj) (hl : N < l) (ho : W.heap[l]? = some o) (hc : o.isCells = false) : Tw w ub B rc lo ra t ln a c stop N tm pre x a1 (W.putObj l o') := by
  obtain ⟨v, h1, h2, h3, h4⟩ := h
  have hf : Fr (fun i => i = l) W (W.putObj l o') := (Fr.of_grown (grownBy_putObj' W l o')).mono (fun i _ e => by simp at e; exact e.symm)
  refine ⟨v, h1, hf.cells h2 (fun e => ?_), h3, h4.kept hf (fun i e => by omega)⟩
  subst e
  rw [h2] at ho
  cases ho
  cases hc
/-- what the range leaves -/
def Tm (w ub : World) (B rc lo : Nat) (ra : Option Addr) (t : Tb) (ln : Nat) (a : Option Addr) (c : Nat) (stop : Int) (N : Nat) (a0 : Act) (u : World) (e : Exit) (a' : Act) (W' : World) : Prop :=
  (e = .normal ∨ e = .exit 2) ∧ ∃ D xs, a' = { a0 with defers := { target := .collected D, args := #[] } :: a0.defers } ∧ u.heap.size ≤ D ∧ Tn w ub B rc lo ra t ln a c stop N xs W' ∧ (xs.length = ln ∨ (xs.length : Int) = stop) ∧ W'.heap[D]? = some (.deferred (some []))
theorem Tn.start {W u : World} (h : ∀ N, N = W.heap.size → Ts w ub B rc lo ra t ln a c stop N W) {N : Nat} (hN : N = W.heap.size) (hu : u = W.alloc (.cells #[.int .i64 0] 3)) : Tn w ub B rc lo ra t ln a c stop N [] u ∧ u.heap.size = N + 1 := by
  have hf : Fr (fun _ => False) W u := by rw [hu]; exact Fr.alloc (Fr.refl _ _) _
  refine ⟨⟨(h N hN).kept hf (fun _ h => h.elim), ?_⟩, ?_⟩
  · rw [hu, hN]; exact Go.heap_alloc_new W _
  · rw [hu, hN]; simp
end Y
theorem ystore_bool {V : World} {b : Nat} {v0 : Bool} (hb : V.heap[b]? = some (.cells #[.bool v0] 4 (0, 0))) (x : Bool) : (Instr.storeAt 4 (.pointer (some ⟨b, 0, none⟩)) (.bool x)).run Try.prog V = .ok () (V.setCell ⟨b, 0, none⟩ (.bool x)) := by
  have c0 : V.cell? ⟨b, 0, none⟩ = some (.bool v0) := cellA hb rfl
  have z0 := frozen_of_row (j := 0) hb
  first
    | (simp [go_sem, c0, z0]; done)
    | (unfold Instr.storeAt; simp [go_sem, c0, z0]; done)
theorem inBlock_bothY {id : Nat} {Q : Exit → Act → World → Prop} {e : Exit} {a : Act} {W : World} (he : e = .normal ∨ e = .exit id) (h : Q .normal a W) : Exit.inBlock id Q e a W := by
  rcases he with rfl | rfl
  · exact h
  · simp only [Exit.inBlock, if_true]; exact h
set_option maxHeartbeats 8000000 in
theorem ytold_any {w : World} {p mb : Nat} {t : Y.Tb} (h : Ym w p mb t) {I : Nat → Prop} {a : Option Addr} {c : Nat} (hw : Rw I w 6 a t.length (Y.flat t)) (stop : Int) :
    Calls Try.prog 18 #[ptrY p, .slice a t.length c, .int .i64 stop] w fun e w' => e = .returned (.bool true) ∧ Fr (fun _ => False) w w' := by
  obtain ⟨ln, hln⟩ : ∃ ln, t.length = ln := ⟨_, rfl⟩
  have f3 : Fr (fun _ => False) w (((w.alloc (.cells #[.slice a t.length c] 26)).alloc (.cells #[.int .i64 stop] 3)).alloc (.cells #[.bool false] 4)) := Fr.alloc (Fr.alloc (Fr.alloc (Fr.refl _ _) _) _) _
  have b0 : (((w.alloc (.cells #[.slice a t.length c] 26)).alloc (.cells #[.int .i64 stop] 3)).alloc (.cells #[.bool false] 4)).heap[w.heap.size]? = some (.cells #[.slice a t.length c] 26 (0, 0)) :=
    (Fr.alloc (Fr.alloc (Fr.refl (fun _ => False) _) _) _).cells (Go.heap_alloc_new w _) (fun h => h)
  have b1 : (((w.alloc (.cells #[.slice a t.length c] 26)).alloc (.cells #[.int .i64 stop] 3)).alloc (.cells #[.bool false] 4)).heap[w.heap.size + 1]? = some (.cells #[.int .i64 stop] 3 (0, 0)) := by
    have := Go.heap_alloc_new (w.alloc (.cells #[.slice a t.length c] 26)) (.cells #[.int .i64 stop] 3 (0, 0))
    rw [World.size_alloc] at this
    exact (Fr.alloc (Fr.refl (fun _ => False) _) _).cells this (fun h => h)
  have b2 : (((w.alloc (.cells #[.slice a t.length c] 26)).alloc (.cells #[.int .i64 stop] 3)).alloc (.cells #[.bool false] 4)).heap[w.heap.size + 1 + 1]? = some (.cells #[.bool false] 4 (0, 0)) := by
    have := Go.heap_alloc_new ((w.alloc (.cells #[.slice a t.length c] 26)).alloc (.cells #[.int .i64 stop] 3)) (.cells #[.bool false] 4 (0, 0))
    rw [World.size_alloc, World.size_alloc] at this
    exact this
  have KR := hid (fun (W : World) (hf : Fr (fun _ => False) w W) => yrows_any (h.kept hf (fun h => h) (fun h => h)))
  have KL := hid (fun (W : World) (hf : Fr (fun _ => False) w W) => ylen_any (h.kept hf (fun h => h) (fun h => h)))
  have H3 := hid (And.intro f3 (And.intro b0 (And.intro b1 b2)))
  have HW := hid hw
  clear f3 b0 b1 b2 hw
  rw [hln] at H3 HW KL
  rw [hln]
  have HLN := hid hln
  have H64 := hid h.ok.few
  clear h hln
  refine (callsIn_wide (n := 9)).1 ?_
  have hf0 : Fence.wide.fn 22 := trivial
  have hf1 : Fence.wide.fn 21 := trivial
  refine callsIn_of_wp_marks Try.func18 rfl trivial ?_ rfl
  simp only [Try.ntmps18, List.size_toArray, List.length_cons, List.length_nil, Nat.reduceAdd, Nat.reduceSub, Array.replicate_succ, Array.replicate_zero, List.push_toArray, List.append_toArray, List.nil_append, List.cons_append]
  gi_wp2_with fail
  obtain ⟨W3, hW3⟩ : ∃ W3, ((w.alloc (.cells #[.slice a ln c] 26)).alloc (.cells #[.int .i64 stop] 3)).alloc (.cells #[.bool false] 4) = W3 := ⟨_, rfl⟩
  rw [hW3] at H3 ⊢
  clear hW3
  refine ((callsIn_wide (n := 8)).2 (KR.out _ H3.out.1)).mono ?_
  rintro e w1 ⟨B, ra, rc, rfl, hit, hf⟩
  have Hw1 := hid (fun (N : Nat) (hN : N = w1.heap.size) => show Y.Ts w w1 B rc W3.heap.size ra t ln a c stop N w1 from
    ⟨H3.out.1.trans hf (fun _ _ h => h), Fr.refl _ _, hf.cells H3.out.2.1 (fun h => h), hf.cells H3.out.2.2.1 (fun h => h), hf.cells H3.out.2.2.2 (fun h => h), hit, by rw [hN]; exact lt_of_row hit.bx, fun i hi => by rw [hN]; exact hit.row.lt i hi, by rw [hN]; exact Nat.lt_of_lt_of_le (lt_of_row H3.out.2.2.2) hf.size⟩)
  have HW := hid HW.out
  obtain ⟨lo, hlo⟩ : ∃ lo, W3.heap.size = lo := ⟨_, rfl⟩
  rw [hlo] at Hw1
  clear hit hf KR H3 hlo
  gi_wp2_with fail
  refine wpIn_loop_rounds 3 ?_
  rw [roundsIn_succ]
  gi_wp2_with fail
  obtain ⟨N1, hN1⟩ : ∃ n, n = w1.heap.size := ⟨_, rfl⟩
  obtain ⟨u1, hu1⟩ : ∃ u, u = w1.alloc (.cells #[.int .i64 0] 3) := ⟨_, rfl⟩
  rw [← hu1, ← hN1]
  have TN := Y.Tn.start Hw1.out hN1 hu1
  have TN2 := hid TN.2
  have TN1 := TN.1
  clear TN
  have HN1 := hid hN1
  clear hN1 hu1 Hw1
  refine wp_of_actC (fun a0 ha0 => ?_)
  refine wpIn_mono (Q := Y.Tm w w1 B rc lo ra t ln a c stop N1 a0 u1) ?rng ?rest
  case rng =>
    refine wpIn_rangeV (w := u1) rfl (by omega) (gf := 31) (lb := #[ptrY B]) (by rw [ha0]; rfl) trivial (enters_of Try.func31 (by kernel_rfl) rfl)
      (yiter_seq 8 (by omega) B rc lo ra t (fun k => k = N1) u1 TN1.1.it (fun e => by have := TN1.1.bt; omega) (fun i hi e => by have := TN1.1.rt i hi; omega) (by have := H64.out; have := HLN.out; omega)) (Below.refl _ _) (fun _ => rfl) (fun h k => h.trans k) (fun W l o o' hl hW hc _ => Kz.putObj o' hW hc)
      (Y.Tn w w1 B rc lo ra t ln a c stop N1) (fun c' pre W => c' = .exit 2 ∧ (pre.length : Int) = stop ∧ Y.Tn w w1 B rc lo ra t ln a c stop N1 pre W) (Y.Tw w w1 B rc lo ra t ln a c stop N1 a0.tmps) (Y.Tn.own TN2.out) (fun c pre W W' row h hg hr => ⟨h.1, h.2.1, Y.Tn.own TN2.out pre W W' row h.2.2 hg hr⟩) TN1
      (fun pre x a1 W l o o' hl hW hc _ h => h.put o' (by have := TN2.out; omega) hW hc) ?assign ?body ?done ?stop
    case assign =>
      subst ha0
      rintro l pre x W0 W Kn hn hfW hv hK
      have fA : Fr (fun _ => False) W (W.alloc (.cells (Y.wcells x.1 x.2) 61)) := Fr.alloc (Fr.refl _ _) _
      have fin : KeepsFrom u1.heap.size W (W.alloc (.cells (Y.wcells x.1 x.2) 61)) ∧ Kz (fun k => k = N1) W (W.alloc (.cells (Y.wcells x.1 x.2) 61)) ∧ ∀ t', Y.Tw w w1 B rc lo ra t ln a c stop N1 t' pre x { tmps := (t'.setIfInBounds 15 (Y.rowv x.1 x.2)).setIfInBounds 9 (ptrY W.heap.size), defers := [] } (W.alloc (.cells (Y.wcells x.1 x.2) 61)) :=
        ⟨⟨fA.size, fun k o _ hk _ => fA.cells hk (fun h => h)⟩, Kz.of_fr fA, fun t' => ⟨W.heap.size, rfl, Go.heap_alloc_new W _, hv, hn.kept (hfW.trans fA (fun _ _ h => h)) (fun _ h => h.elim)⟩⟩
      have FIN := hid fin
      have HK2 := hid hK
      clear hn hfW hv fA fin hK
      gi_wp2
      exact HK2.out _ _ FIN.out.1 FIN.out.2.1 (FIN.out.2.2 _)
    case body =>
      subst ha0
      rintro l pre x a1 W ⟨v, rfl, hv, hpf, hn⟩
      obtain ⟨k, hk⟩ : ∃ k, pre.length = k := ⟨_, rfl⟩
      have hkl : k < ln := by
        have h1 := hpf.length_le
        rw [List.length_append, HLN.out] at h1
        simp only [List.length_cons, List.length_nil] at h1
        omega
      have hx : t[k]? = some x := by
        obtain ⟨r, rfl⟩ := hpf
        rw [← hk, List.append_assoc, List.getElem?_append_right (Nat.le_refl _)]
        simp
      have hnN := hn.2
      rw [hk] at hnN
      obtain ⟨g, o, rfl, hg6⟩ : ∃ g o, a = some ⟨g, o, none⟩ ∧ ∀ (V : World), Fr (fun _ => False) W V → (Instr.loadAt 61 (.pointer (some ⟨g, o + k * 6, none⟩))).run Try.prog V = .ok (Y.rowv x.1 x.2) V := by
        rcases HW.out.2 with h0 | ⟨g, o, rfl, _, hc⟩
        · omega
        · refine ⟨g, o, rfl, fun V hV => ?_⟩
          refine run_loadAt_mid (P := Try.prog) V g (o + k * 6) 61 (Y.wcells x.1 x.2).toList _ (fun j u hu => ?_) Try.underlying61 rfl (by kernel_rfl)
          have hj : j < 6 := by have := (List.getElem?_eq_some_iff.1 hu).1; simpa using this
          rw [Nat.add_assoc]
          refine cellFr ((hn.1.fr).trans hV (fun _ _ h => h)) (fun h => h) (hc (k * 6 + j) u ?_)
          rw [Y.flat_get hx hj, ← Array.getElem?_toList]
          exact hu
      have HC := hid (fun (V : World) (hV : Fr (fun _ => False) W V) => show V.cell? ⟨N1, 0, none⟩ = some (.int .i64 k) ∧ V.cell? ⟨w.heap.size, 0, none⟩ = some (.slice (some ⟨g, o, none⟩) ln c) ∧ (Instr.loadAt 61 (.pointer (some ⟨v, 0, none⟩))).run Try.prog V = .ok (Y.rowv x.1 x.2) V ∧ (Instr.loadAt 61 (.pointer (some ⟨g, o + k * 6, none⟩))).run Try.prog V = .ok (Y.rowv x.1 x.2) V from
        ⟨cellA (hV.cells hnN (fun h => h)) rfl, cellA (hV.cells hn.1.b0 (fun h => h)) rfl, load_whole (hV.cells hv (fun h => h)) Try.underlying61 rfl (by kernel_rfl), hg6 V hV⟩)
      have b1 : ¬ (ln : Int) ≤ (k : Int) := by omega
      have b1n : ¬ ln ≤ k := by omega
      have b1d : decide (ln ≤ k) = false := by simp; omega
      have i0 : (0 : Int) ≤ (k : Int) := by omega
      have i1 : (k : Int) < (ln : Int) := by omega
      have z0 := frozen_of_row (j := 0) hnN
      have hk1 : ((pre ++ [x]).length : Int) = (k : Int) + 1 := by rw [List.length_append, hk]; simp
      have fs : Fr (fun i => i = N1) W (W.setCell ⟨N1, 0, none⟩ (.int .i64 ((k : Int) + 1))) := Fr.setCell (p := ⟨N1, 0, none⟩) (S := fun i => i = N1) (Fr.refl _ _) (fun _ => rfl) _
      have fin : ∀ V, Fr (fun _ => False) W V → KeepsFrom u1.heap.size W (V.setCell ⟨N1, 0, none⟩ (.int .i64 ((k : Int) + 1))) ∧ Kz (fun i => i = N1) W (V.setCell ⟨N1, 0, none⟩ (.int .i64 ((k : Int) + 1))) ∧ Y.Tn w w1 B rc lo ra t ln (some ⟨g, o, none⟩) c stop N1 (pre ++ [x]) (V.setCell ⟨N1, 0, none⟩ (.int .i64 ((k : Int) + 1))) := by
        intro V hV
        have fs : Fr (fun i => i = N1) W (V.setCell ⟨N1, 0, none⟩ (.int .i64 ((k : Int) + 1))) := Fr.setCell (p := ⟨N1, 0, none⟩) (S := fun i => i = N1) (hV.mono (fun _ _ h => h.elim)) (fun _ => rfl) _
        refine ⟨⟨fs.size, fun i ob hi h1 hc => fs.cells h1 (fun e => ?_)⟩, Kz.of_fr' fs, (hn.1.kept fs (fun i e => by omega)), ?_⟩
        · have := TN2.out; omega
        · rw [hk1, setCell_row (hV.cells hnN (fun h => h))]; rfl
      have FIN := hid fin
      have HK1 := hid hk1
      have c0 : W.cell? ⟨N1, 0, none⟩ = some (.int .i64 k) := cellA hnN rfl
      have c1 : W.cell? ⟨w.heap.size + 1, 0, none⟩ = some (.int .i64 stop) := cellA hn.1.b1 rfl
      clear hv hpf hk hx hg6 hk1 fs fin
      have ne1 := hid (show w.heap.size + 1 ≠ N1 by have := hn.1.top; omega)
      clear hn
      have hkb : k < 64 := by have := H64.out; have := HLN.out; omega
      gi_wp2_with fail
      have hmx : Try.prog.follows .mixedOrders = true := by kernel_rfl
      refine region_round (fun V => Fr (fun _ => False) W V) l _ hmx (noDefer_of (by kernel_rfl)) (fun ⟨_, _, h⟩ => h) ?_
      have hS := (Fr.drew (Fr.refl (fun _ => False) W))
      simp only [List.size_toArray, List.length_cons, List.length_nil, Nat.reduceAdd, Array.replicate_succ, Array.replicate_zero, List.push_toArray, List.nil_append, List.cons_append]
      refine wpAnyH_take (i := 0) (v := ?_) rfl (by kernel_rfl) (by kernel_rfl) (by kernel_rfl) (fun _ _ _ h => h) (Or.inl ⟨by kernel_rfl, ?_⟩) hS ?_
      rotate_left 1
      · (intro w' hS'; obtain ⟨d1, d2, d3, d4⟩ := HC.out w' hS'; clear hS'; go_simp; try with_reducible rfl)
      simp only [List.getElem_toArray, List.getElem_cons_zero, List.getElem_cons_succ, Act.put, List.setIfInBounds_toArray, List.set_cons_zero, List.set_cons_succ]
      refine wpAnyH_take (i := 1) (v := ?_) rfl (by kernel_rfl) (by kernel_rfl) (by kernel_rfl) (fun _ _ _ h => h) (Or.inl ⟨by kernel_rfl, ?_⟩) hS ?_
      rotate_left 1
      · (intro w' hS'; obtain ⟨d1, d2, d3, d4⟩ := HC.out w' hS'; clear hS'; go_simp; try with_reducible rfl)
      simp only [List.getElem_toArray, List.getElem_cons_zero, List.getElem_cons_succ, Act.put, List.setIfInBounds_toArray, List.set_cons_zero, List.set_cons_succ]
      refine wpAnyH_take (i := 2) (v := ?_) rfl (by kernel_rfl) (by kernel_rfl) (by kernel_rfl) (fun _ _ _ h => h) (Or.inl ⟨by kernel_rfl, ?_⟩) hS ?_
      rotate_left 1
      · (intro w' hS'; clear hS'; go_simp; try with_reducible rfl)
      simp only [List.getElem_toArray, List.getElem_cons_zero, List.getElem_cons_succ, Act.put, List.setIfInBounds_toArray, List.set_cons_zero, List.set_cons_succ]
      refine wpAnyH_take (i := 3) (v := .bool false) rfl (by kernel_rfl) (by kernel_rfl) (by kernel_rfl) (fun _ _ _ h => h) (Or.inl ⟨by kernel_rfl, fun w' hS' => by clear hS'; go_simp⟩) hS ?_
      simp only [List.getElem_toArray, List.getElem_cons_zero, List.getElem_cons_succ, Act.put, List.setIfInBounds_toArray, List.set_cons_zero, List.set_cons_succ]
      refine wpAnyH_take (i := 4) (v := ?_) rfl (by kernel_rfl) (by kernel_rfl) (by kernel_rfl) (fun _ _ _ h => h) (Or.inl ⟨by kernel_rfl, ?_⟩) hS ?_
      rotate_left 1
      · (intro w' hS'; clear hS'; go_simp; try with_reducible rfl)
      simp only [List.getElem_toArray, List.getElem_cons_zero, List.getElem_cons_succ, Act.put, List.setIfInBounds_toArray, List.set_cons_zero, List.set_cons_succ]
      refine wpAnyH_take (i := 5) rfl (by kernel_rfl) (by kernel_rfl) (by kernel_rfl) (fun _ _ _ h => h) (tyload (by kernel_rfl) (by exact ⟨_, rfl, rfl⟩) (fun w' hS' => (HC.out w' hS').2.2.1)) hS ?_
      simp only [List.getElem_toArray, List.getElem_cons_zero, List.getElem_cons_succ, Act.put, List.setIfInBounds_toArray, List.set_cons_zero, List.set_cons_succ]
      refine wpAnyH_take (i := 6) (v := ?_) rfl (by kernel_rfl) (by kernel_rfl) (by kernel_rfl) (fun _ _ _ h => h) (Or.inl ⟨by kernel_rfl, ?_⟩) hS ?_
      rotate_left 1
      · (intro w' hS'; obtain ⟨d1, d2, d3, d4⟩ := HC.out w' hS'; clear hS'; go_simp; try with_reducible rfl)
      simp only [List.getElem_toArray, List.getElem_cons_zero, List.getElem_cons_succ, Act.put, List.setIfInBounds_toArray, List.set_cons_zero, List.set_cons_succ]
      refine wpAnyH_take (i := 7) (v := ?_) rfl (by kernel_rfl) (by kernel_rfl) (by kernel_rfl) (fun _ _ _ h => h) (Or.inl ⟨by kernel_rfl, ?_⟩) hS ?_
      rotate_left 1
      · (intro w' hS'; obtain ⟨d1, d2, d3, d4⟩ := HC.out w' hS'; clear hS'; go_simp; try with_reducible rfl)
      simp only [List.getElem_toArray, List.getElem_cons_zero, List.getElem_cons_succ, Act.put, List.setIfInBounds_toArray, List.set_cons_zero, List.set_cons_succ]
      refine wpAnyH_take (i := 8) (v := ?_) rfl (by kernel_rfl) (by kernel_rfl) (by kernel_rfl) (fun _ _ _ h => h) (Or.inl ⟨by kernel_rfl, ?_⟩) hS ?_
      rotate_left 1
      · (intro w' hS'; clear hS'; go_simp; try with_reducible rfl)
      simp only [List.getElem_toArray, List.getElem_cons_zero, List.getElem_cons_succ, Act.put, List.setIfInBounds_toArray, List.set_cons_zero, List.set_cons_succ]
      refine wpAnyH_take (i := 9) rfl (by kernel_rfl) (by kernel_rfl) (by kernel_rfl) (fun _ _ _ h => h) (tyload (by kernel_rfl) (by exact ⟨_, rfl, rfl⟩) (fun w' hS' => (HC.out w' hS').2.2.2)) hS ?_
      simp only [List.getElem_toArray, List.getElem_cons_zero, List.getElem_cons_succ, Act.put, List.setIfInBounds_toArray, List.set_cons_zero, List.set_cons_succ]
      refine wpAnyH_take (i := 10) (v := ?_) rfl (by kernel_rfl) (by kernel_rfl) (by kernel_rfl) (fun _ _ _ h => h) (Or.inl ⟨by kernel_rfl, ?_⟩) hS ?_
      rotate_left 1
      · (intro w' hS'; clear hS'; go_simp; try with_reducible rfl)
      simp only [List.getElem_toArray, List.getElem_cons_zero, List.getElem_cons_succ, Act.put, List.setIfInBounds_toArray, List.set_cons_zero, List.set_cons_succ]
      refine wpAnyH_take (i := 11) (v := ?_) rfl (by kernel_rfl) (by kernel_rfl) (by kernel_rfl) (fun _ _ _ h => h) (Or.inl ⟨by kernel_rfl, ?_⟩) hS ?_
      rotate_left 1
      · (intro w' hS'; clear hS'; go_simp; try with_reducible rfl)
      simp only [List.getElem_toArray, List.getElem_cons_zero, List.getElem_cons_succ, Act.put, List.setIfInBounds_toArray, List.set_cons_zero, List.set_cons_succ]
      refine wpAnyH_done (by kernel_rfl) ?_ _

      clear hS
      have n1 : w.heap.size + 1 ≠ N1 := ne1.out
      by_cases hms : (k : Int) + 1 = stop
      · have HMS := hid hms
        subst hms
        gi_wp2
        exact ⟨(FIN.out _ (Fr.drew (Fr.refl _ W))).1, rfl, HK1.out, (FIN.out _ (Fr.drew (Fr.refl _ W))).2.2⟩
      · gi_wp2
        exact FIN.out _ (Fr.drew (Fr.refl _ W))
    case done =>
      rintro D0 xs W0 hD hxs hga hK0
      exact ⟨.inl rfl, D0, xs, rfl, hD, hga, .inl (by rw [hxs, HLN.out]), hK0⟩
    case stop =>
      rintro D0 c' pre W0 hD hsp ⟨rfl, hst, hga⟩ hK0
      gi_wp2
      exact ⟨.inr rfl, D0, pre, rfl, hD, hga, .inr hst, hK0⟩
  case rest =>
    subst ha0
    rintro e a1 W1 ⟨he, D1, xs, rfl, hD1, hga, hend, hK1⟩
    refine inBlock_bothY he ?_
    have HG1 := hid hga.1
    have HK1 := hid hK1
    have HD1 := hid (show N1 < D1 by have := TN2.out; omega)
    have cN := cellA (j := 0) hga.2 rfl
    have cw := cellA (j := 0) hga.1.b0 rfl
    have cs := cellA (j := 0) hga.1.b1 rfl
    obtain ⟨m, hm⟩ : ∃ m, xs.length = m := ⟨_, rfl⟩
    rw [hm] at cN hend
    have HNs1 := hid (show N1 < W1.heap.size from lt_of_row hga.2)
    clear hD1 hK1 hga hm he TN1 TN2
    have hs2 : m = ln ∨ (m ≠ ln ∧ (m : Int) = stop) := by omega
    clear hend
    rcases hs2 with hm1 | ⟨hm1, hm2⟩
    · rw [hm1] at cN
      clear hm1
      gi_wp2
      have Hw2 := hid (fun (N : Nat) (hN : N = W1.heap.size) => HG1.out.up (N' := N) (by have := HNs1.out; omega) hN)
      rw [roundsIn_succ]
      gi_wp2_with fail
      obtain ⟨N2, hN2⟩ : ∃ n, n = W1.heap.size := ⟨_, rfl⟩
      obtain ⟨u2, hu2⟩ : ∃ u, u = W1.alloc (.cells #[.int .i64 0] 3) := ⟨_, rfl⟩
      rw [← hu2, ← hN2]
      have TN := Y.Tn.start Hw2.out hN2 hu2
      have TN2 := hid TN.2
      have TN1 := TN.1
      clear TN
      have HN2 := hid hN2
      clear hN2 hu2 Hw2
      refine wp_of_actC (fun a0 ha0 => ?_)
      refine wpIn_mono (Q := Y.Tm w W1 B rc lo ra t ln a c stop N2 a0 u2) ?rng ?rest
      case rng =>
        refine wpIn_rangeV (w := u2) rfl (by omega) (gf := 31) (lb := #[ptrY B]) (by rw [ha0]; rfl) trivial (enters_of Try.func31 (by kernel_rfl) rfl)
          (yiter_seq 8 (by omega) B rc lo ra t (fun k => k = N2) u2 TN1.1.it (fun e => by have := TN1.1.bt; omega) (fun i hi e => by have := TN1.1.rt i hi; omega) (by have := H64.out; have := HLN.out; omega)) (Below.refl _ _) (fun _ => rfl) (fun h k => h.trans k) (fun W l o o' hl hW hc _ => Kz.putObj o' hW hc)
          (Y.Tn w W1 B rc lo ra t ln a c stop N2) (fun c' pre W => c' = .exit 2 ∧ (pre.length : Int) = stop ∧ Y.Tn w W1 B rc lo ra t ln a c stop N2 pre W) (Y.Tw w W1 B rc lo ra t ln a c stop N2 a0.tmps) (Y.Tn.own TN2.out) (fun c pre W W' row h hg hr => ⟨h.1, h.2.1, Y.Tn.own TN2.out pre W W' row h.2.2 hg hr⟩) TN1
          (fun pre x a1 W l o o' hl hW hc _ h => h.put o' (by have := TN2.out; omega) hW hc) ?assign ?body ?done ?stop
        case assign =>
          subst ha0
          rintro l pre x W0 W Kn hn hfW hv hK
          have fA : Fr (fun _ => False) W (W.alloc (.cells (Y.wcells x.1 x.2) 61)) := Fr.alloc (Fr.refl _ _) _
          have fin : KeepsFrom u2.heap.size W (W.alloc (.cells (Y.wcells x.1 x.2) 61)) ∧ Kz (fun k => k = N2) W (W.alloc (.cells (Y.wcells x.1 x.2) 61)) ∧ ∀ t', Y.Tw w W1 B rc lo ra t ln a c stop N2 t' pre x { tmps := (t'.setIfInBounds 15 (Y.rowv x.1 x.2)).setIfInBounds 9 (ptrY W.heap.size), defers := [] } (W.alloc (.cells (Y.wcells x.1 x.2) 61)) :=
            ⟨⟨fA.size, fun k o _ hk _ => fA.cells hk (fun h => h)⟩, Kz.of_fr fA, fun t' => ⟨W.heap.size, rfl, Go.heap_alloc_new W _, hv, hn.kept (hfW.trans fA (fun _ _ h => h)) (fun _ h => h.elim)⟩⟩
          have FIN := hid fin
          have HK2 := hid hK
          clear hn hfW hv fA fin hK
          gi_wp2
          exact HK2.out _ _ FIN.out.1 FIN.out.2.1 (FIN.out.2.2 _)
        case body =>
          subst ha0
          rintro l pre x a1 W ⟨v, rfl, hv, hpf, hn⟩
          obtain ⟨k, hk⟩ : ∃ k, pre.length = k := ⟨_, rfl⟩
          have hkl : k < ln := by
            have h1 := hpf.length_le
            rw [List.length_append, HLN.out] at h1
            simp only [List.length_cons, List.length_nil] at h1
            omega
          have hx : t[k]? = some x := by
            obtain ⟨r, rfl⟩ := hpf
            rw [← hk, List.append_assoc, List.getElem?_append_right (Nat.le_refl _)]
            simp
          have hnN := hn.2
          rw [hk] at hnN
          obtain ⟨g, o, rfl, hg6⟩ : ∃ g o, a = some ⟨g, o, none⟩ ∧ ∀ (V : World), Fr (fun _ => False) W V → (Instr.loadAt 61 (.pointer (some ⟨g, o + k * 6, none⟩))).run Try.prog V = .ok (Y.rowv x.1 x.2) V := by
            rcases HW.out.2 with h0 | ⟨g, o, rfl, _, hc⟩
            · omega
            · refine ⟨g, o, rfl, fun V hV => ?_⟩
              refine run_loadAt_mid (P := Try.prog) V g (o + k * 6) 61 (Y.wcells x.1 x.2).toList _ (fun j u hu => ?_) Try.underlying61 rfl (by kernel_rfl)
              have hj : j < 6 := by have := (List.getElem?_eq_some_iff.1 hu).1; simpa using this
              rw [Nat.add_assoc]
              refine cellFr ((hn.1.fr).trans hV (fun _ _ h => h)) (fun h => h) (hc (k * 6 + j) u ?_)
              rw [Y.flat_get hx hj, ← Array.getElem?_toList]
              exact hu
          have HC := hid (fun (V : World) (hV : Fr (fun _ => False) W V) => show V.cell? ⟨N2, 0, none⟩ = some (.int .i64 k) ∧ V.cell? ⟨w.heap.size, 0, none⟩ = some (.slice (some ⟨g, o, none⟩) ln c) ∧ (Instr.loadAt 61 (.pointer (some ⟨v, 0, none⟩))).run Try.prog V = .ok (Y.rowv x.1 x.2) V ∧ (Instr.loadAt 61 (.pointer (some ⟨g, o + k * 6, none⟩))).run Try.prog V = .ok (Y.rowv x.1 x.2) V from
            ⟨cellA (hV.cells hnN (fun h => h)) rfl, cellA (hV.cells hn.1.b0 (fun h => h)) rfl, load_whole (hV.cells hv (fun h => h)) Try.underlying61 rfl (by kernel_rfl), hg6 V hV⟩)
          have b1 : ¬ (ln : Int) ≤ (k : Int) := by omega
          have b1n : ¬ ln ≤ k := by omega
          have b1d : decide (ln ≤ k) = false := by simp; omega
          have i0 : (0 : Int) ≤ (k : Int) := by omega
          have i1 : (k : Int) < (ln : Int) := by omega
          have z0 := frozen_of_row (j := 0) hnN
          have hk1 : ((pre ++ [x]).length : Int) = (k : Int) + 1 := by rw [List.length_append, hk]; simp
          have fs : Fr (fun i => i = N2) W (W.setCell ⟨N2, 0, none⟩ (.int .i64 ((k : Int) + 1))) := Fr.setCell (p := ⟨N2, 0, none⟩) (S := fun i => i = N2) (Fr.refl _ _) (fun _ => rfl) _
          have fin : ∀ V, Fr (fun _ => False) W V → KeepsFrom u2.heap.size W (V.setCell ⟨N2, 0, none⟩ (.int .i64 ((k : Int) + 1))) ∧ Kz (fun i => i = N2) W (V.setCell ⟨N2, 0, none⟩ (.int .i64 ((k : Int) + 1))) ∧ Y.Tn w W1 B rc lo ra t ln (some ⟨g, o, none⟩) c stop N2 (pre ++ [x]) (V.setCell ⟨N2, 0, none⟩ (.int .i64 ((k : Int) + 1))) := by
            intro V hV
            have fs : Fr (fun i => i = N2) W (V.setCell ⟨N2, 0, none⟩ (.int .i64 ((k : Int) + 1))) := Fr.setCell (p := ⟨N2, 0, none⟩) (S := fun i => i = N2) (hV.mono (fun _ _ h => h.elim)) (fun _ => rfl) _
            refine ⟨⟨fs.size, fun i ob hi h1 hc => fs.cells h1 (fun e => ?_)⟩, Kz.of_fr' fs, (hn.1.kept fs (fun i e => by omega)), ?_⟩
            · have := TN2.out; omega
            · rw [hk1, setCell_row (hV.cells hnN (fun h => h))]; rfl
          have FIN := hid fin
          have HK1 := hid hk1
          have c0 : W.cell? ⟨N2, 0, none⟩ = some (.int .i64 k) := cellA hnN rfl
          have c1 : W.cell? ⟨w.heap.size + 1, 0, none⟩ = some (.int .i64 stop) := cellA hn.1.b1 rfl
          clear hv hpf hk hx hg6 hk1 fs fin
          have ne1 := hid (show w.heap.size + 1 ≠ N2 by have := hn.1.top; omega)
          clear hn
          have hkb : k < 64 := by have := H64.out; have := HLN.out; omega
          gi_wp2_with fail
          have hmx : Try.prog.follows .mixedOrders = true := by kernel_rfl
          refine region_round (fun V => Fr (fun _ => False) W V) l _ hmx (noDefer_of (by kernel_rfl)) (fun ⟨_, _, h⟩ => h) ?_
          have hS := (Fr.drew (Fr.refl (fun _ => False) W))
          simp only [List.size_toArray, List.length_cons, List.length_nil, Nat.reduceAdd, Array.replicate_succ, Array.replicate_zero, List.push_toArray, List.nil_append, List.cons_append]
          refine wpAnyH_take (i := 0) (v := ?_) rfl (by kernel_rfl) (by kernel_rfl) (by kernel_rfl) (fun _ _ _ h => h) (Or.inl ⟨by kernel_rfl, ?_⟩) hS ?_
          rotate_left 1
          · (intro w' hS'; obtain ⟨d1, d2, d3, d4⟩ := HC.out w' hS'; clear hS'; go_simp; try with_reducible rfl)
          simp only [List.getElem_toArray, List.getElem_cons_zero, List.getElem_cons_succ, Act.put, List.setIfInBounds_toArray, List.set_cons_zero, List.set_cons_succ]
          refine wpAnyH_take (i := 1) (v := ?_) rfl (by kernel_rfl) (by kernel_rfl) (by kernel_rfl) (fun _ _ _ h => h) (Or.inl ⟨by kernel_rfl, ?_⟩) hS ?_
          rotate_left 1
          · (intro w' hS'; obtain ⟨d1, d2, d3, d4⟩ := HC.out w' hS'; clear hS'; go_simp; try with_reducible rfl)
          simp only [List.getElem_toArray, List.getElem_cons_zero, List.getElem_cons_succ, Act.put, List.setIfInBounds_toArray, List.set_cons_zero, List.set_cons_succ]
          refine wpAnyH_take (i := 2) (v := ?_) rfl (by kernel_rfl) (by kernel_rfl) (by kernel_rfl) (fun _ _ _ h => h) (Or.inl ⟨by kernel_rfl, ?_⟩) hS ?_
          rotate_left 1
          · (intro w' hS'; clear hS'; go_simp; try with_reducible rfl)
          simp only [List.getElem_toArray, List.getElem_cons_zero, List.getElem_cons_succ, Act.put, List.setIfInBounds_toArray, List.set_cons_zero, List.set_cons_succ]
          refine wpAnyH_take (i := 3) (v := .bool false) rfl (by kernel_rfl) (by kernel_rfl) (by kernel_rfl) (fun _ _ _ h => h) (Or.inl ⟨by kernel_rfl, fun w' hS' => by clear hS'; go_simp⟩) hS ?_
          simp only [List.getElem_toArray, List.getElem_cons_zero, List.getElem_cons_succ, Act.put, List.setIfInBounds_toArray, List.set_cons_zero, List.set_cons_succ]
          refine wpAnyH_take (i := 4) (v := ?_) rfl (by kernel_rfl) (by kernel_rfl) (by kernel_rfl) (fun _ _ _ h => h) (Or.inl ⟨by kernel_rfl, ?_⟩) hS ?_
          rotate_left 1
          · (intro w' hS'; clear hS'; go_simp; try with_reducible rfl)
          simp only [List.getElem_toArray, List.getElem_cons_zero, List.getElem_cons_succ, Act.put, List.setIfInBounds_toArray, List.set_cons_zero, List.set_cons_succ]
          refine wpAnyH_take (i := 5) rfl (by kernel_rfl) (by kernel_rfl) (by kernel_rfl) (fun _ _ _ h => h) (tyload (by kernel_rfl) (by exact ⟨_, rfl, rfl⟩) (fun w' hS' => (HC.out w' hS').2.2.1)) hS ?_
          simp only [List.getElem_toArray, List.getElem_cons_zero, List.getElem_cons_succ, Act.put, List.setIfInBounds_toArray, List.set_cons_zero, List.set_cons_succ]
          refine wpAnyH_take (i := 6) (v := ?_) rfl (by kernel_rfl) (by kernel_rfl) (by kernel_rfl) (fun _ _ _ h => h) (Or.inl ⟨by kernel_rfl, ?_⟩) hS ?_
          rotate_left 1
          · (intro w' hS'; obtain ⟨d1, d2, d3, d4⟩ := HC.out w' hS'; clear hS'; go_simp; try with_reducible rfl)
          simp only [List.getElem_toArray, List.getElem_cons_zero, List.getElem_cons_succ, Act.put, List.setIfInBounds_toArray, List.set_cons_zero, List.set_cons_succ]
          refine wpAnyH_take (i := 7) (v := ?_) rfl (by kernel_rfl) (by kernel_rfl) (by kernel_rfl) (fun _ _ _ h => h) (Or.inl ⟨by kernel_rfl, ?_⟩) hS ?_
          rotate_left 1
          · (intro w' hS'; obtain ⟨d1, d2, d3, d4⟩ := HC.out w' hS'; clear hS'; go_simp; try with_reducible rfl)
          simp only [List.getElem_toArray, List.getElem_cons_zero, List.getElem_cons_succ, Act.put, List.setIfInBounds_toArray, List.set_cons_zero, List.set_cons_succ]
          refine wpAnyH_take (i := 8) (v := ?_) rfl (by kernel_rfl) (by kernel_rfl) (by kernel_rfl) (fun _ _ _ h => h) (Or.inl ⟨by kernel_rfl, ?_⟩) hS ?_
          rotate_left 1
          · (intro w' hS'; clear hS'; go_simp; try with_reducible rfl)
          simp only [List.getElem_toArray, List.getElem_cons_zero, List.getElem_cons_succ, Act.put, List.setIfInBounds_toArray, List.set_cons_zero, List.set_cons_succ]
          refine wpAnyH_take (i := 9) rfl (by kernel_rfl) (by kernel_rfl) (by kernel_rfl) (fun _ _ _ h => h) (tyload (by kernel_rfl) (by exact ⟨_, rfl, rfl⟩) (fun w' hS' => (HC.out w' hS').2.2.2)) hS ?_
          simp only [List.getElem_toArray, List.getElem_cons_zero, List.getElem_cons_succ, Act.put, List.setIfInBounds_toArray, List.set_cons_zero, List.set_cons_succ]
          refine wpAnyH_take (i := 10) (v := ?_) rfl (by kernel_rfl) (by kernel_rfl) (by kernel_rfl) (fun _ _ _ h => h) (Or.inl ⟨by kernel_rfl, ?_⟩) hS ?_
          rotate_left 1
          · (intro w' hS'; clear hS'; go_simp; try with_reducible rfl)
          simp only [List.getElem_toArray, List.getElem_cons_zero, List.getElem_cons_succ, Act.put, List.setIfInBounds_toArray, List.set_cons_zero, List.set_cons_succ]
          refine wpAnyH_take (i := 11) (v := ?_) rfl (by kernel_rfl) (by kernel_rfl) (by kernel_rfl) (fun _ _ _ h => h) (Or.inl ⟨by kernel_rfl, ?_⟩) hS ?_
          rotate_left 1
          · (intro w' hS'; clear hS'; go_simp; try with_reducible rfl)
          simp only [List.getElem_toArray, List.getElem_cons_zero, List.getElem_cons_succ, Act.put, List.setIfInBounds_toArray, List.set_cons_zero, List.set_cons_succ]
          refine wpAnyH_done (by kernel_rfl) ?_ _

          clear hS
          have n1 : w.heap.size + 1 ≠ N2 := ne1.out
          by_cases hms : (k : Int) + 1 = stop
          · have HMS := hid hms
            subst hms
            gi_wp2
            exact ⟨(FIN.out _ (Fr.drew (Fr.refl _ W))).1, rfl, HK1.out, (FIN.out _ (Fr.drew (Fr.refl _ W))).2.2⟩
          · gi_wp2
            exact FIN.out _ (Fr.drew (Fr.refl _ W))
        case done =>
          rintro D0 xs W0 hD hxs hga hK0
          exact ⟨.inl rfl, D0, xs, rfl, hD, hga, .inl (by rw [hxs, HLN.out]), hK0⟩
        case stop =>
          rintro D0 c' pre W0 hD hsp ⟨rfl, hst, hga⟩ hK0
          gi_wp2
          exact ⟨.inr rfl, D0, pre, rfl, hD, hga, .inr hst, hK0⟩
      case rest =>
        subst ha0
        rintro e a1 W2 ⟨he, D2, xs, rfl, hD2, hga, hend, hK2⟩
        refine inBlock_bothY he ?_
        have HG2 := hid hga.1
        have HK2 := hid hK2
        have HD2 := hid (show N2 < D2 by have := TN2.out; omega)
        have cN := cellA (j := 0) hga.2 rfl
        have cw := cellA (j := 0) hga.1.b0 rfl
        have cs := cellA (j := 0) hga.1.b1 rfl
        obtain ⟨m, hm⟩ : ∃ m, xs.length = m := ⟨_, rfl⟩
        rw [hm] at cN hend
        have HNs2 := hid (show N2 < W2.heap.size from lt_of_row hga.2)
        clear hD2 hK2 hga hm he TN1 TN2
        have hs2 : m = ln ∨ (m ≠ ln ∧ (m : Int) = stop) := by omega
        clear hend
        rcases hs2 with hm1 | ⟨hm1, hm2⟩
        · rw [hm1] at cN
          clear hm1
          gi_wp2
          rw [roundsIn_succ]
          gi_wp2_with fail
          have hbr := HG2.out.b2
          have HC := hid (fun (V : World) (hV : Fr (fun i => i = w.heap.size + 1 + 1) W2 V) => show V.cell? ⟨w.heap.size, 0, none⟩ = some (.slice a ln c) ∧ True from
            ⟨cellA (hV.cells HG2.out.b0 (fun h => by omega)) rfl, trivial⟩)
          have hmx : Try.prog.follows .mixedOrders = true := by kernel_rfl
          refine wpIn_wide.2 ?_
          refine wp_region_noPanic ?_
          refine wp_region_held (S := fun V => Fr (fun i => i = w.heap.size + 1 + 1) W2 V) hmx ?_
          have hS := (Fr.drew (Fr.refl (fun i => i = w.heap.size + 1 + 1) W2))
          simp only [List.size_toArray, List.length_cons, List.length_nil, Nat.reduceAdd, Array.replicate_succ, Array.replicate_zero, List.push_toArray, List.nil_append, List.cons_append]
          refine wpAnyH_take (i := 0) (v := ?_) rfl (by kernel_rfl) (by kernel_rfl) (by kernel_rfl) (fun _ _ _ h => h) (Or.inl ⟨by kernel_rfl, ?_⟩) hS ?_
          rotate_left 1
          · (intro w' hS'; clear hS'; go_simp; try with_reducible rfl)
          simp only [List.getElem_toArray, List.getElem_cons_zero, List.getElem_cons_succ, Act.put, List.setIfInBounds_toArray, List.set_cons_zero, List.set_cons_succ]
          refine wpAnyH_take (i := 2) (v := ?_) rfl (by kernel_rfl) (by kernel_rfl) (by kernel_rfl) (fun _ _ _ h => h) (Or.inl ⟨by kernel_rfl, ?_⟩) hS ?_
          rotate_left 1
          · (intro w' hS'; have d2 := (HC.out w' hS').1; clear hS'; go_simp; try with_reducible rfl)
          simp only [List.getElem_toArray, List.getElem_cons_zero, List.getElem_cons_succ, Act.put, List.setIfInBounds_toArray, List.set_cons_zero, List.set_cons_succ]
          refine wpAnyH_take (i := 3) (v := ?_) rfl (by kernel_rfl) (by kernel_rfl) (by kernel_rfl) (fun _ _ _ h => h) (Or.inl ⟨by kernel_rfl, ?_⟩) hS ?_
          rotate_left 1
          · (intro w' hS'; clear hS'; go_simp; try with_reducible rfl)
          simp only [List.getElem_toArray, List.getElem_cons_zero, List.getElem_cons_succ, Act.put, List.setIfInBounds_toArray, List.set_cons_zero, List.set_cons_succ]
          refine wpAnyH_ready (rs := [1]) (by kernel_rfl) (by simp) ?_
          refine AllReadyH.cons rfl (fun K1 hK1 => ?_) (AllReadyH.nil)
          go_simp
          refine (KL.out _ ((HG2.out.fr).trans (Fr.drew (Fr.refl (fun _ => False) W2)) (fun _ _ h => h))).mono ?_
          rintro e wx ⟨rfl, rfl⟩
          refine hK1.out _ _ hS (fun hS => ?_)
          clear hK1 K1
          simp only [List.getElem_toArray, List.getElem_cons_zero, List.getElem_cons_succ, Act.put, List.setIfInBounds_toArray, List.set_cons_zero, List.set_cons_succ]
          refine wpAnyH_take (i := 4) (v := ?_) rfl (by kernel_rfl) (by kernel_rfl) (by kernel_rfl) (fun _ _ _ h => h) (Or.inl ⟨by kernel_rfl, ?_⟩) hS ?_
          rotate_left 1
          · (intro w' hS'; clear hS'; go_simp; try with_reducible rfl)
          simp only [List.getElem_toArray, List.getElem_cons_zero, List.getElem_cons_succ, Act.put, List.setIfInBounds_toArray, List.set_cons_zero, List.set_cons_succ]
          refine wpAnyH_ready (rs := [5]) (by kernel_rfl) (by simp) ?_
          refine AllReadyH.cons rfl (fun K1 hK1 => ?_) (AllReadyH.nil)
          have st := ystore_bool (V := W2.drew) HG2.out.b2 true
          refine tstep_store (by kernel_rfl) st (by exact ⟨_, _, rfl, rfl, rfl⟩) ?_
          refine hK1.out _ _ (hS.trans (Fr.setCell (p := ⟨w.heap.size + 1 + 1, 0, none⟩) (S := fun i => i = w.heap.size + 1 + 1) (Fr.refl _ _) (fun _ => rfl) _) (fun _ _ h => h)) (fun hS => ?_)
          clear st
          clear hK1 K1
          simp only [List.getElem_toArray, List.getElem_cons_zero, List.getElem_cons_succ, Act.put, List.setIfInBounds_toArray, List.set_cons_zero, List.set_cons_succ]
          refine wpAnyH_done (by kernel_rfl) ?_ _
          refine NoPanic.normal ?_
          clear hS
          gi_wp2
          have h12 : D1 < W1.heap.size := lt_of_row HK1.out
          have hN12 : N2 = W1.heap.size := HN2.out
          have n12 : D1 ≠ D2 := by have := HD2.out; omega
          have hb1 : D1 ≠ w.heap.size + 1 + 1 := by have := HD1.out; have := HG1.out.top; omega
          have hb2 : D2 ≠ w.heap.size + 1 + 1 := by have := HD2.out; have := HG2.out.top; omega
          have k1 : W2.heap[D1]? = some (.deferred (some [])) := HG2.out.fb.cells HK1.out (fun h => by omega)
          have q2 : (W2.drew.setCell ⟨w.heap.size + 1 + 1, 0, none⟩ (.bool true)).heap[D2]? = some (.deferred (some [])) := (Below.heap_setCell _ _ _ _ hb2).trans HK2.out
          have q1 : ((W2.drew.setCell ⟨w.heap.size + 1 + 1, 0, none⟩ (.bool true)).putObj D2 (.deferred none)).heap[D1]? = some (.deferred (some [])) := (World.putObj_heap_other n12).trans ((Below.heap_setCell _ _ _ _ hb1).trans k1)
          have qr : (((W2.drew.setCell ⟨w.heap.size + 1 + 1, 0, none⟩ (.bool true)).putObj D2 (.deferred none)).putObj D1 (.deferred none)).heap[w.heap.size + 1 + 1]? = some (.cells #[.bool true] 4 (0, 0)) := by
            rw [World.putObj_heap_other hb1.symm, World.putObj_heap_other hb2.symm, setCell_row (w := W2.drew) HG2.out.b2]; rfl
          have qc : ((((W2.setCell ⟨w.heap.size + 1 + 1, 0, none⟩ (.bool true)).drew).putObj D2 (.deferred none)).putObj D1 (.deferred none)).cell? ⟨w.heap.size + 1 + 1, 0, none⟩ = some (.bool true) := cellA qr rfl
          refine ⟨by simp, .inl ⟨_, _, rfl, run_takeDeferred q2, ?_⟩⟩
          refine ⟨by simp, .inl ⟨_, _, rfl, run_takeDeferred q1, ?_⟩⟩
          refine ⟨.bool true, ?_, rfl, ?_⟩
          · simp [results, Try.f18, go_sem, qc]
          · have f1 : Fr (fun _ => False) w (W2.drew.setCell ⟨w.heap.size + 1 + 1, 0, none⟩ (.bool true)) := Fr.setCell (p := ⟨w.heap.size + 1 + 1, 0, none⟩) (Fr.drew HG2.out.fr) (fun h => by simp only at h; omega) _
            have ht1 := HG1.out.top
            have hd1 := HD1.out
            have hd2 := HD2.out
            exact (f1.trans (Fr.of_grown (grownBy_putObj' _ D2 _)) (fun i hi e => by simp at e; omega)).trans (Fr.of_grown (grownBy_putObj' _ D1 _)) (fun i hi e => by simp at e; omega)
        · have hm3 : ¬ (m : Int) = (ln : Int) := by omega
          rw [hm2] at cN
          have hm4 : ¬ stop = (ln : Int) := by omega
          clear hm1
          gi_wp2
          rw [roundsIn_succ]
          gi_wp2_with fail
          have hbr := HG2.out.b2
          have HC := hid (fun (V : World) (hV : Fr (fun i => i = w.heap.size + 1 + 1) W2 V) => show V.cell? ⟨w.heap.size, 0, none⟩ = some (.slice a ln c) ∧ True from
            ⟨cellA (hV.cells HG2.out.b0 (fun h => by omega)) rfl, trivial⟩)
          have hmx : Try.prog.follows .mixedOrders = true := by kernel_rfl
          refine wpIn_wide.2 ?_
          refine wp_region_noPanic ?_
          refine wp_region_held (S := fun V => Fr (fun i => i = w.heap.size + 1 + 1) W2 V) hmx ?_
          have hS := (Fr.drew (Fr.refl (fun i => i = w.heap.size + 1 + 1) W2))
          simp only [List.size_toArray, List.length_cons, List.length_nil, Nat.reduceAdd, Array.replicate_succ, Array.replicate_zero, List.push_toArray, List.nil_append, List.cons_append]
          refine wpAnyH_take (i := 0) (v := ?_) rfl (by kernel_rfl) (by kernel_rfl) (by kernel_rfl) (fun _ _ _ h => h) (Or.inl ⟨by kernel_rfl, ?_⟩) hS ?_
          rotate_left 1
          · (intro w' hS'; clear hS'; go_simp; try with_reducible rfl)
          simp only [List.getElem_toArray, List.getElem_cons_zero, List.getElem_cons_succ, Act.put, List.setIfInBounds_toArray, List.set_cons_zero, List.set_cons_succ]
          refine wpAnyH_take (i := 2) (v := ?_) rfl (by kernel_rfl) (by kernel_rfl) (by kernel_rfl) (fun _ _ _ h => h) (Or.inl ⟨by kernel_rfl, ?_⟩) hS ?_
          rotate_left 1
          · (intro w' hS'; have d2 := (HC.out w' hS').1; clear hS'; go_simp; try with_reducible rfl)
          simp only [List.getElem_toArray, List.getElem_cons_zero, List.getElem_cons_succ, Act.put, List.setIfInBounds_toArray, List.set_cons_zero, List.set_cons_succ]
          refine wpAnyH_take (i := 3) (v := ?_) rfl (by kernel_rfl) (by kernel_rfl) (by kernel_rfl) (fun _ _ _ h => h) (Or.inl ⟨by kernel_rfl, ?_⟩) hS ?_
          rotate_left 1
          · (intro w' hS'; clear hS'; go_simp; try with_reducible rfl)
          simp only [List.getElem_toArray, List.getElem_cons_zero, List.getElem_cons_succ, Act.put, List.setIfInBounds_toArray, List.set_cons_zero, List.set_cons_succ]
          refine wpAnyH_ready (rs := [1]) (by kernel_rfl) (by simp) ?_
          refine AllReadyH.cons rfl (fun K1 hK1 => ?_) (AllReadyH.nil)
          go_simp
          refine (KL.out _ ((HG2.out.fr).trans (Fr.drew (Fr.refl (fun _ => False) W2)) (fun _ _ h => h))).mono ?_
          rintro e wx ⟨rfl, rfl⟩
          refine hK1.out _ _ hS (fun hS => ?_)
          clear hK1 K1
          simp only [List.getElem_toArray, List.getElem_cons_zero, List.getElem_cons_succ, Act.put, List.setIfInBounds_toArray, List.set_cons_zero, List.set_cons_succ]
          refine wpAnyH_take (i := 4) (v := ?_) rfl (by kernel_rfl) (by kernel_rfl) (by kernel_rfl) (fun _ _ _ h => h) (Or.inl ⟨by kernel_rfl, ?_⟩) hS ?_
          rotate_left 1
          · (intro w' hS'; clear hS'; go_simp; try with_reducible rfl)
          simp only [List.getElem_toArray, List.getElem_cons_zero, List.getElem_cons_succ, Act.put, List.setIfInBounds_toArray, List.set_cons_zero, List.set_cons_succ]
          refine wpAnyH_ready (rs := [5]) (by kernel_rfl) (by simp) ?_
          refine AllReadyH.cons rfl (fun K1 hK1 => ?_) (AllReadyH.nil)
          have st := ystore_bool (V := W2.drew) HG2.out.b2 true
          refine tstep_store (by kernel_rfl) st (by exact ⟨_, _, rfl, rfl, rfl⟩) ?_
          refine hK1.out _ _ (hS.trans (Fr.setCell (p := ⟨w.heap.size + 1 + 1, 0, none⟩) (S := fun i => i = w.heap.size + 1 + 1) (Fr.refl _ _) (fun _ => rfl) _) (fun _ _ h => h)) (fun hS => ?_)
          clear st
          clear hK1 K1
          simp only [List.getElem_toArray, List.getElem_cons_zero, List.getElem_cons_succ, Act.put, List.setIfInBounds_toArray, List.set_cons_zero, List.set_cons_succ]
          refine wpAnyH_done (by kernel_rfl) ?_ _
          refine NoPanic.normal ?_
          clear hS
          gi_wp2
          have h12 : D1 < W1.heap.size := lt_of_row HK1.out
          have hN12 : N2 = W1.heap.size := HN2.out
          have n12 : D1 ≠ D2 := by have := HD2.out; omega
          have hb1 : D1 ≠ w.heap.size + 1 + 1 := by have := HD1.out; have := HG1.out.top; omega
          have hb2 : D2 ≠ w.heap.size + 1 + 1 := by have := HD2.out; have := HG2.out.top; omega
          have k1 : W2.heap[D1]? = some (.deferred (some [])) := HG2.out.fb.cells HK1.out (fun h => by omega)
          have q2 : (W2.drew.setCell ⟨w.heap.size + 1 + 1, 0, none⟩ (.bool true)).heap[D2]? = some (.deferred (some [])) := (Below.heap_setCell _ _ _ _ hb2).trans HK2.out
          have q1 : ((W2.drew.setCell ⟨w.heap.size + 1 + 1, 0, none⟩ (.bool true)).putObj D2 (.deferred none)).heap[D1]? = some (.deferred (some [])) := (World.putObj_heap_other n12).trans ((Below.heap_setCell _ _ _ _ hb1).trans k1)
          have qr : (((W2.drew.setCell ⟨w.heap.size + 1 + 1, 0, none⟩ (.bool true)).putObj D2 (.deferred none)).putObj D1 (.deferred none)).heap[w.heap.size + 1 + 1]? = some (.cells #[.bool true] 4 (0, 0)) := by
            rw [World.putObj_heap_other hb1.symm, World.putObj_heap_other hb2.symm, setCell_row (w := W2.drew) HG2.out.b2]; rfl
          have qc : ((((W2.setCell ⟨w.heap.size + 1 + 1, 0, none⟩ (.bool true)).drew).putObj D2 (.deferred none)).putObj D1 (.deferred none)).cell? ⟨w.heap.size + 1 + 1, 0, none⟩ = some (.bool true) := cellA qr rfl
          refine ⟨by simp, .inl ⟨_, _, rfl, run_takeDeferred q2, ?_⟩⟩
          refine ⟨by simp, .inl ⟨_, _, rfl, run_takeDeferred q1, ?_⟩⟩
          refine ⟨.bool true, ?_, rfl, ?_⟩
          · simp [results, Try.f18, go_sem, qc]
          · have f1 : Fr (fun _ => False) w (W2.drew.setCell ⟨w.heap.size + 1 + 1, 0, none⟩ (.bool true)) := Fr.setCell (p := ⟨w.heap.size + 1 + 1, 0, none⟩) (Fr.drew HG2.out.fr) (fun h => by simp only at h; omega) _
            have ht1 := HG1.out.top
            have hd1 := HD1.out
            have hd2 := HD2.out
            exact (f1.trans (Fr.of_grown (grownBy_putObj' _ D2 _)) (fun i hi e => by simp at e; omega)).trans (Fr.of_grown (grownBy_putObj' _ D1 _)) (fun i hi e => by simp at e; omega)
    · have hm3 : ¬ (m : Int) = (ln : Int) := by omega
      rw [hm2] at cN
      have hm4 : ¬ stop = (ln : Int) := by omega
      clear hm1
      gi_wp2
      have Hw2 := hid (fun (N : Nat) (hN : N = W1.heap.size) => HG1.out.up (N' := N) (by have := HNs1.out; omega) hN)
      rw [roundsIn_succ]
      gi_wp2_with fail
      obtain ⟨N2, hN2⟩ : ∃ n, n = W1.heap.size := ⟨_, rfl⟩
      obtain ⟨u2, hu2⟩ : ∃ u, u = W1.alloc (.cells #[.int .i64 0] 3) := ⟨_, rfl⟩
      rw [← hu2, ← hN2]
      have TN := Y.Tn.start Hw2.out hN2 hu2
      have TN2 := hid TN.2
      have TN1 := TN.1
      clear TN
      have HN2 := hid hN2
      clear hN2 hu2 Hw2
      refine wp_of_actC (fun a0 ha0 => ?_)
      refine wpIn_mono (Q := Y.Tm w W1 B rc lo ra t ln a c stop N2 a0 u2) ?rng ?rest
      case rng =>
        refine wpIn_rangeV (w := u2) rfl (by omega) (gf := 31) (lb := #[ptrY B]) (by rw [ha0]; rfl) trivial (enters_of Try.func31 (by kernel_rfl) rfl)
          (yiter_seq 8 (by omega) B rc lo ra t (fun k => k = N2) u2 TN1.1.it (fun e => by have := TN1.1.bt; omega) (fun i hi e => by have := TN1.1.rt i hi; omega) (by have := H64.out; have := HLN.out; omega)) (Below.refl _ _) (fun _ => rfl) (fun h k => h.trans k) (fun W l o o' hl hW hc _ => Kz.putObj o' hW hc)
          (Y.Tn w W1 B rc lo ra t ln a c stop N2) (fun c' pre W => c' = .exit 2 ∧ (pre.length : Int) = stop ∧ Y.Tn w W1 B rc lo ra t ln a c stop N2 pre W) (Y.Tw w W1 B rc lo ra t ln a c stop N2 a0.tmps) (Y.Tn.own TN2.out) (fun c pre W W' row h hg hr => ⟨h.1, h.2.1, Y.Tn.own TN2.out pre W W' row h.2.2 hg hr⟩) TN1
          (fun pre x a1 W l o o' hl hW hc _ h => h.put o' (by have := TN2.out; omega) hW hc) ?assign ?body ?done ?stop
        case assign =>
          subst ha0
          rintro l pre x W0 W Kn hn hfW hv hK
          have fA : Fr (fun _ => False) W (W.alloc (.cells (Y.wcells x.1 x.2) 61)) := Fr.alloc (Fr.refl _ _) _
          have fin : KeepsFrom u2.heap.size W (W.alloc (.cells (Y.wcells x.1 x.2) 61)) ∧ Kz (fun k => k = N2) W (W.alloc (.cells (Y.wcells x.1 x.2) 61)) ∧ ∀ t', Y.Tw w W1 B rc lo ra t ln a c stop N2 t' pre x { tmps := (t'.setIfInBounds 15 (Y.rowv x.1 x.2)).setIfInBounds 9 (ptrY W.heap.size), defers := [] } (W.alloc (.cells (Y.wcells x.1 x.2) 61)) :=
            ⟨⟨fA.size, fun k o _ hk _ => fA.cells hk (fun h => h)⟩, Kz.of_fr fA, fun t' => ⟨W.heap.size, rfl, Go.heap_alloc_new W _, hv, hn.kept (hfW.trans fA (fun _ _ h => h)) (fun _ h => h.elim)⟩⟩
          have FIN := hid fin
          have HK2 := hid hK
          clear hn hfW hv fA fin hK
          gi_wp2
          exact HK2.out _ _ FIN.out.1 FIN.out.2.1 (FIN.out.2.2 _)
        case body =>
          subst ha0
          rintro l pre x a1 W ⟨v, rfl, hv, hpf, hn⟩
          obtain ⟨k, hk⟩ : ∃ k, pre.length = k := ⟨_, rfl⟩
          have hkl : k < ln := by
            have h1 := hpf.length_le
            rw [List.length_append, HLN.out] at h1
            simp only [List.length_cons, List.length_nil] at h1
            omega
          have hx : t[k]? = some x := by
            obtain ⟨r, rfl⟩ := hpf
            rw [← hk, List.append_assoc, List.getElem?_append_right (Nat.le_refl _)]
            simp
          have hnN := hn.2
          rw [hk] at hnN
          obtain ⟨g, o, rfl, hg6⟩ : ∃ g o, a = some ⟨g, o, none⟩ ∧ ∀ (V : World), Fr (fun _ => False) W V → (Instr.loadAt 61 (.pointer (some ⟨g, o + k * 6, none⟩))).run Try.prog V = .ok (Y.rowv x.1 x.2) V := by
            rcases HW.out.2 with h0 | ⟨g, o, rfl, _, hc⟩
            · omega
            · refine ⟨g, o, rfl, fun V hV => ?_⟩
              refine run_loadAt_mid (P := Try.prog) V g (o + k * 6) 61 (Y.wcells x.1 x.2).toList _ (fun j u hu => ?_) Try.underlying61 rfl (by kernel_rfl)
              have hj : j < 6 := by have := (List.getElem?_eq_some_iff.1 hu).1; simpa using this
              rw [Nat.add_assoc]
              refine cellFr ((hn.1.fr).trans hV (fun _ _ h => h)) (fun h => h) (hc (k * 6 + j) u ?_)
              rw [Y.flat_get hx hj, ← Array.getElem?_toList]
              exact hu
          have HC := hid (fun (V : World) (hV : Fr (fun _ => False) W V) => show V.cell? ⟨N2, 0, none⟩ = some (.int .i64 k) ∧ V.cell? ⟨w.heap.size, 0, none⟩ = some (.slice (some ⟨g, o, none⟩) ln c) ∧ (Instr.loadAt 61 (.pointer (some ⟨v, 0, none⟩))).run Try.prog V = .ok (Y.rowv x.1 x.2) V ∧ (Instr.loadAt 61 (.pointer (some ⟨g, o + k * 6, none⟩))).run Try.prog V = .ok (Y.rowv x.1 x.2) V from
            ⟨cellA (hV.cells hnN (fun h => h)) rfl, cellA (hV.cells hn.1.b0 (fun h => h)) rfl, load_whole (hV.cells hv (fun h => h)) Try.underlying61 rfl (by kernel_rfl), hg6 V hV⟩)
          have b1 : ¬ (ln : Int) ≤ (k : Int) := by omega
          have b1n : ¬ ln ≤ k := by omega
          have b1d : decide (ln ≤ k) = false := by simp; omega
          have i0 : (0 : Int) ≤ (k : Int) := by omega
          have i1 : (k : Int) < (ln : Int) := by omega
          have z0 := frozen_of_row (j := 0) hnN
          have hk1 : ((pre ++ [x]).length : Int) = (k : Int) + 1 := by rw [List.length_append, hk]; simp
          have fs : Fr (fun i => i = N2) W (W.setCell ⟨N2, 0, none⟩ (.int .i64 ((k : Int) + 1))) := Fr.setCell (p := ⟨N2, 0, none⟩) (S := fun i => i = N2) (Fr.refl _ _) (fun _ => rfl) _
          have fin : ∀ V, Fr (fun _ => False) W V → KeepsFrom u2.heap.size W (V.setCell ⟨N2, 0, none⟩ (.int .i64 ((k : Int) + 1))) ∧ Kz (fun i => i = N2) W (V.setCell ⟨N2, 0, none⟩ (.int .i64 ((k : Int) + 1))) ∧ Y.Tn w W1 B rc lo ra t ln (some ⟨g, o, none⟩) c stop N2 (pre ++ [x]) (V.setCell ⟨N2, 0, none⟩ (.int .i64 ((k : Int) + 1))) := by
            intro V hV
            have fs : Fr (fun i => i = N2) W (V.setCell ⟨N2, 0, none⟩ (.int .i64 ((k : Int) + 1))) := Fr.setCell (p := ⟨N2, 0, none⟩) (S := fun i => i = N2) (hV.mono (fun _ _ h => h.elim)) (fun _ => rfl) _
            refine ⟨⟨fs.size, fun i ob hi h1 hc => fs.cells h1 (fun e => ?_)⟩, Kz.of_fr' fs, (hn.1.kept fs (fun i e => by omega)), ?_⟩
            · have := TN2.out; omega
            · rw [hk1, setCell_row (hV.cells hnN (fun h => h))]; rfl
          have FIN := hid fin
          have HK1 := hid hk1
          have c0 : W.cell? ⟨N2, 0, none⟩ = some (.int .i64 k) := cellA hnN rfl
          have c1 : W.cell? ⟨w.heap.size + 1, 0, none⟩ = some (.int .i64 stop) := cellA hn.1.b1 rfl
          clear hv hpf hk hx hg6 hk1 fs fin
          have ne1 := hid (show w.heap.size + 1 ≠ N2 by have := hn.1.top; omega)
          clear hn
          have hkb : k < 64 := by have := H64.out; have := HLN.out; omega
          gi_wp2_with fail
          have hmx : Try.prog.follows .mixedOrders = true := by kernel_rfl
          refine region_round (fun V => Fr (fun _ => False) W V) l _ hmx (noDefer_of (by kernel_rfl)) (fun ⟨_, _, h⟩ => h) ?_
          have hS := (Fr.drew (Fr.refl (fun _ => False) W))
          simp only [List.size_toArray, List.length_cons, List.length_nil, Nat.reduceAdd, Array.replicate_succ, Array.replicate_zero, List.push_toArray, List.nil_append, List.cons_append]
          refine wpAnyH_take (i := 0) (v := ?_) rfl (by kernel_rfl) (by kernel_rfl) (by kernel_rfl) (fun _ _ _ h => h) (Or.inl ⟨by kernel_rfl, ?_⟩) hS ?_
          rotate_left 1
          · (intro w' hS'; obtain ⟨d1, d2, d3, d4⟩ := HC.out w' hS'; clear hS'; go_simp; try with_reducible rfl)
          simp only [List.getElem_toArray, List.getElem_cons_zero, List.getElem_cons_succ, Act.put, List.setIfInBounds_toArray, List.set_cons_zero, List.set_cons_succ]
          refine wpAnyH_take (i := 1) (v := ?_) rfl (by kernel_rfl) (by kernel_rfl) (by kernel_rfl) (fun _ _ _ h => h) (Or.inl ⟨by kernel_rfl, ?_⟩) hS ?_
          rotate_left 1
          · (intro w' hS'; obtain ⟨d1, d2, d3, d4⟩ := HC.out w' hS'; clear hS'; go_simp; try with_reducible rfl)
          simp only [List.getElem_toArray, List.getElem_cons_zero, List.getElem_cons_succ, Act.put, List.setIfInBounds_toArray, List.set_cons_zero, List.set_cons_succ]
          refine wpAnyH_take (i := 2) (v := ?_) rfl (by kernel_rfl) (by kernel_rfl) (by kernel_rfl) (fun _ _ _ h => h) (Or.inl ⟨by kernel_rfl, ?_⟩) hS ?_
          rotate_left 1
          · (intro w' hS'; clear hS'; go_simp; try with_reducible rfl)
          simp only [List.getElem_toArray, List.getElem_cons_zero, List.getElem_cons_succ, Act.put, List.setIfInBounds_toArray, List.set_cons_zero, List.set_cons_succ]
          refine wpAnyH_take (i := 3) (v := .bool false) rfl (by kernel_rfl) (by kernel_rfl) (by kernel_rfl) (fun _ _ _ h => h) (Or.inl ⟨by kernel_rfl, fun w' hS' => by clear hS'; go_simp⟩) hS ?_
          simp only [List.getElem_toArray, List.getElem_cons_zero, List.getElem_cons_succ, Act.put, List.setIfInBounds_toArray, List.set_cons_zero, List.set_cons_succ]
          refine wpAnyH_take (i := 4) (v := ?_) rfl (by kernel_rfl) (by kernel_rfl) (by kernel_rfl) (fun _ _ _ h => h) (Or.inl ⟨by kernel_rfl, ?_⟩) hS ?_
          rotate_left 1
          · (intro w' hS'; clear hS'; go_simp; try with_reducible rfl)
          simp only [List.getElem_toArray, List.getElem_cons_zero, List.getElem_cons_succ, Act.put, List.setIfInBounds_toArray, List.set_cons_zero, List.set_cons_succ]
          refine wpAnyH_take (i := 5) rfl (by kernel_rfl) (by kernel_rfl) (by kernel_rfl) (fun _ _ _ h => h) (tyload (by kernel_rfl) (by exact ⟨_, rfl, rfl⟩) (fun w' hS' => (HC.out w' hS').2.2.1)) hS ?_
          simp only [List.getElem_toArray, List.getElem_cons_zero, List.getElem_cons_succ, Act.put, List.setIfInBounds_toArray, List.set_cons_zero, List.set_cons_succ]
          refine wpAnyH_take (i := 6) (v := ?_) rfl (by kernel_rfl) (by kernel_rfl) (by kernel_rfl) (fun _ _ _ h => h) (Or.inl ⟨by kernel_rfl, ?_⟩) hS ?_
          rotate_left 1
          · (intro w' hS'; obtain ⟨d1, d2, d3, d4⟩ := HC.out w' hS'; clear hS'; go_simp; try with_reducible rfl)
          simp only [List.getElem_toArray, List.getElem_cons_zero, List.getElem_cons_succ, Act.put, List.setIfInBounds_toArray, List.set_cons_zero, List.set_cons_succ]
          refine wpAnyH_take (i := 7) (v := ?_) rfl (by kernel_rfl) (by kernel_rfl) (by kernel_rfl) (fun _ _ _ h => h) (Or.inl ⟨by kernel_rfl, ?_⟩) hS ?_
          rotate_left 1
          · (intro w' hS'; obtain ⟨d1, d2, d3, d4⟩ := HC.out w' hS'; clear hS'; go_simp; try with_reducible rfl)
          simp only [List.getElem_toArray, List.getElem_cons_zero, List.getElem_cons_succ, Act.put, List.setIfInBounds_toArray, List.set_cons_zero, List.set_cons_succ]
          refine wpAnyH_take (i := 8) (v := ?_) rfl (by kernel_rfl) (by kernel_rfl) (by kernel_rfl) (fun _ _ _ h => h) (Or.inl ⟨by kernel_rfl, ?_⟩) hS ?_
          rotate_left 1
          · (intro w' hS'; clear hS'; go_simp; try with_reducible rfl)
          simp only [List.getElem_toArray, List.getElem_cons_zero, List.getElem_cons_succ, Act.put, List.setIfInBounds_toArray, List.set_cons_zero, List.set_cons_succ]
          refine wpAnyH_take (i := 9) rfl (by kernel_rfl) (by kernel_rfl) (by kernel_rfl) (fun _ _ _ h => h) (tyload (by kernel_rfl) (by exact ⟨_, rfl, rfl⟩) (fun w' hS' => (HC.out w' hS').2.2.2)) hS ?_
          simp only [List.getElem_toArray, List.getElem_cons_zero, List.getElem_cons_succ, Act.put, List.setIfInBounds_toArray, List.set_cons_zero, List.set_cons_succ]
          refine wpAnyH_take (i := 10) (v := ?_) rfl (by kernel_rfl) (by kernel_rfl) (by kernel_rfl) (fun _ _ _ h => h) (Or.inl ⟨by kernel_rfl, ?_⟩) hS ?_
          rotate_left 1
          · (intro w' hS'; clear hS'; go_simp; try with_reducible rfl)
          simp only [List.getElem_toArray, List.getElem_cons_zero, List.getElem_cons_succ, Act.put, List.setIfInBounds_toArray, List.set_cons_zero, List.set_cons_succ]
          refine wpAnyH_take (i := 11) (v := ?_) rfl (by kernel_rfl) (by kernel_rfl) (by kernel_rfl) (fun _ _ _ h => h) (Or.inl ⟨by kernel_rfl, ?_⟩) hS ?_
          rotate_left 1
          · (intro w' hS'; clear hS'; go_simp; try with_reducible rfl)
          simp only [List.getElem_toArray, List.getElem_cons_zero, List.getElem_cons_succ, Act.put, List.setIfInBounds_toArray, List.set_cons_zero, List.set_cons_succ]
          refine wpAnyH_done (by kernel_rfl) ?_ _

          clear hS
          have n1 : w.heap.size + 1 ≠ N2 := ne1.out
          by_cases hms : (k : Int) + 1 = stop
          · have HMS := hid hms
            subst hms
            gi_wp2
            exact ⟨(FIN.out _ (Fr.drew (Fr.refl _ W))).1, rfl, HK1.out, (FIN.out _ (Fr.drew (Fr.refl _ W))).2.2⟩
          · gi_wp2
            exact FIN.out _ (Fr.drew (Fr.refl _ W))
        case done =>
          rintro D0 xs W0 hD hxs hga hK0
          exact ⟨.inl rfl, D0, xs, rfl, hD, hga, .inl (by rw [hxs, HLN.out]), hK0⟩
        case stop =>
          rintro D0 c' pre W0 hD hsp ⟨rfl, hst, hga⟩ hK0
          gi_wp2
          exact ⟨.inr rfl, D0, pre, rfl, hD, hga, .inr hst, hK0⟩
      case rest =>
        subst ha0
        rintro e a1 W2 ⟨he, D2, xs, rfl, hD2, hga, hend, hK2⟩
        refine inBlock_bothY he ?_
        have HG2 := hid hga.1
        have HK2 := hid hK2
        have HD2 := hid (show N2 < D2 by have := TN2.out; omega)
        have cN := cellA (j := 0) hga.2 rfl
        have cw := cellA (j := 0) hga.1.b0 rfl
        have cs := cellA (j := 0) hga.1.b1 rfl
        obtain ⟨m, hm⟩ : ∃ m, xs.length = m := ⟨_, rfl⟩
        rw [hm] at cN hend
        have HNs2 := hid (show N2 < W2.heap.size from lt_of_row hga.2)
        clear hD2 hK2 hga hm he TN1 TN2
        have hs2 : m = ln ∨ (m ≠ ln ∧ (m : Int) = stop) := by omega
        clear hend
        rcases hs2 with hm1 | ⟨hm1, hm2⟩
        · rw [hm1] at cN
          clear hm1
          gi_wp2
          rw [roundsIn_succ]
          gi_wp2_with fail
          have hbr := HG2.out.b2
          have HC := hid (fun (V : World) (hV : Fr (fun i => i = w.heap.size + 1 + 1) W2 V) => show V.cell? ⟨w.heap.size, 0, none⟩ = some (.slice a ln c) ∧ True from
            ⟨cellA (hV.cells HG2.out.b0 (fun h => by omega)) rfl, trivial⟩)
          have hmx : Try.prog.follows .mixedOrders = true := by kernel_rfl
          refine wpIn_wide.2 ?_
          refine wp_region_noPanic ?_
          refine wp_region_held (S := fun V => Fr (fun i => i = w.heap.size + 1 + 1) W2 V) hmx ?_
          have hS := (Fr.drew (Fr.refl (fun i => i = w.heap.size + 1 + 1) W2))
          simp only [List.size_toArray, List.length_cons, List.length_nil, Nat.reduceAdd, Array.replicate_succ, Array.replicate_zero, List.push_toArray, List.nil_append, List.cons_append]
          refine wpAnyH_take (i := 0) (v := ?_) rfl (by kernel_rfl) (by kernel_rfl) (by kernel_rfl) (fun _ _ _ h => h) (Or.inl ⟨by kernel_rfl, ?_⟩) hS ?_
          rotate_left 1
          · (intro w' hS'; clear hS'; go_simp; try with_reducible rfl)
          simp only [List.getElem_toArray, List.getElem_cons_zero, List.getElem_cons_succ, Act.put, List.setIfInBounds_toArray, List.set_cons_zero, List.set_cons_succ]
          refine wpAnyH_take (i := 2) (v := ?_) rfl (by kernel_rfl) (by kernel_rfl) (by kernel_rfl) (fun _ _ _ h => h) (Or.inl ⟨by kernel_rfl, ?_⟩) hS ?_
          rotate_left 1
          · (intro w' hS'; have d2 := (HC.out w' hS').1; clear hS'; go_simp; try with_reducible rfl)
          simp only [List.getElem_toArray, List.getElem_cons_zero, List.getElem_cons_succ, Act.put, List.setIfInBounds_toArray, List.set_cons_zero, List.set_cons_succ]
          refine wpAnyH_take (i := 3) (v := ?_) rfl (by kernel_rfl) (by kernel_rfl) (by kernel_rfl) (fun _ _ _ h => h) (Or.inl ⟨by kernel_rfl, ?_⟩) hS ?_
          rotate_left 1
          · (intro w' hS'; clear hS'; go_simp; try with_reducible rfl)
          simp only [List.getElem_toArray, List.getElem_cons_zero, List.getElem_cons_succ, Act.put, List.setIfInBounds_toArray, List.set_cons_zero, List.set_cons_succ]
          refine wpAnyH_ready (rs := [1]) (by kernel_rfl) (by simp) ?_
          refine AllReadyH.cons rfl (fun K1 hK1 => ?_) (AllReadyH.nil)
          go_simp
          refine (KL.out _ ((HG2.out.fr).trans (Fr.drew (Fr.refl (fun _ => False) W2)) (fun _ _ h => h))).mono ?_
          rintro e wx ⟨rfl, rfl⟩
          refine hK1.out _ _ hS (fun hS => ?_)
          clear hK1 K1
          simp only [List.getElem_toArray, List.getElem_cons_zero, List.getElem_cons_succ, Act.put, List.setIfInBounds_toArray, List.set_cons_zero, List.set_cons_succ]
          refine wpAnyH_take (i := 4) (v := ?_) rfl (by kernel_rfl) (by kernel_rfl) (by kernel_rfl) (fun _ _ _ h => h) (Or.inl ⟨by kernel_rfl, ?_⟩) hS ?_
          rotate_left 1
          · (intro w' hS'; clear hS'; go_simp; try with_reducible rfl)
          simp only [List.getElem_toArray, List.getElem_cons_zero, List.getElem_cons_succ, Act.put, List.setIfInBounds_toArray, List.set_cons_zero, List.set_cons_succ]
          refine wpAnyH_ready (rs := [5]) (by kernel_rfl) (by simp) ?_
          refine AllReadyH.cons rfl (fun K1 hK1 => ?_) (AllReadyH.nil)
          have st := ystore_bool (V := W2.drew) HG2.out.b2 true
          refine tstep_store (by kernel_rfl) st (by exact ⟨_, _, rfl, rfl, rfl⟩) ?_
          refine hK1.out _ _ (hS.trans (Fr.setCell (p := ⟨w.heap.size + 1 + 1, 0, none⟩) (S := fun i => i = w.heap.size + 1 + 1) (Fr.refl _ _) (fun _ => rfl) _) (fun _ _ h => h)) (fun hS => ?_)
          clear st
          clear hK1 K1
          simp only [List.getElem_toArray, List.getElem_cons_zero, List.getElem_cons_succ, Act.put, List.setIfInBounds_toArray, List.set_cons_zero, List.set_cons_succ]
          refine wpAnyH_done (by kernel_rfl) ?_ _
          refine NoPanic.normal ?_
          clear hS
          gi_wp2
          have h12 : D1 < W1.heap.size := lt_of_row HK1.out
          have hN12 : N2 = W1.heap.size := HN2.out
          have n12 : D1 ≠ D2 := by have := HD2.out; omega
          have hb1 : D1 ≠ w.heap.size + 1 + 1 := by have := HD1.out; have := HG1.out.top; omega
          have hb2 : D2 ≠ w.heap.size + 1 + 1 := by have := HD2.out; have := HG2.out.top; omega
          have k1 : W2.heap[D1]? = some (.deferred (some [])) := HG2.out.fb.cells HK1.out (fun h => by omega)
          have q2 : (W2.drew.setCell ⟨w.heap.size + 1 + 1, 0, none⟩ (.bool true)).heap[D2]? = some (.deferred (some [])) := (Below.heap_setCell _ _ _ _ hb2).trans HK2.out
          have q1 : ((W2.drew.setCell ⟨w.heap.size + 1 + 1, 0, none⟩ (.bool true)).putObj D2 (.deferred none)).heap[D1]? = some (.deferred (some [])) := (World.putObj_heap_other n12).trans ((Below.heap_setCell _ _ _ _ hb1).trans k1)
          have qr : (((W2.drew.setCell ⟨w.heap.size + 1 + 1, 0, none⟩ (.bool true)).putObj D2 (.deferred none)).putObj D1 (.deferred none)).heap[w.heap.size + 1 + 1]? = some (.cells #[.bool true] 4 (0, 0)) := by
            rw [World.putObj_heap_other hb1.symm, World.putObj_heap_other hb2.symm, setCell_row (w := W2.drew) HG2.out.b2]; rfl
          have qc : ((((W2.setCell ⟨w.heap.size + 1 + 1, 0, none⟩ (.bool true)).drew).putObj D2 (.deferred none)).putObj D1 (.deferred none)).cell? ⟨w.heap.size + 1 + 1, 0, none⟩ = some (.bool true) := cellA qr rfl
          refine ⟨by simp, .inl ⟨_, _, rfl, run_takeDeferred q2, ?_⟩⟩
          refine ⟨by simp, .inl ⟨_, _, rfl, run_takeDeferred q1, ?_⟩⟩
          refine ⟨.bool true, ?_, rfl, ?_⟩
          · simp [results, Try.f18, go_sem, qc]
          · have f1 : Fr (fun _ => False) w (W2.drew.setCell ⟨w.heap.size + 1 + 1, 0, none⟩ (.bool true)) := Fr.setCell (p := ⟨w.heap.size + 1 + 1, 0, none⟩) (Fr.drew HG2.out.fr) (fun h => by simp only at h; omega) _
            have ht1 := HG1.out.top
            have hd1 := HD1.out
            have hd2 := HD2.out
            exact (f1.trans (Fr.of_grown (grownBy_putObj' _ D2 _)) (fun i hi e => by simp at e; omega)).trans (Fr.of_grown (grownBy_putObj' _ D1 _)) (fun i hi e => by simp at e; omega)
        · have hm3 : ¬ (m : Int) = (ln : Int) := by omega
          rw [hm2] at cN
          have hm4 : ¬ stop = (ln : Int) := by omega
          clear hm1
          gi_wp2
          rw [roundsIn_succ]
          gi_wp2_with fail
          have hbr := HG2.out.b2
          have HC := hid (fun (V : World) (hV : Fr (fun i => i = w.heap.size + 1 + 1) W2 V) => show V.cell? ⟨w.heap.size, 0, none⟩ = some (.slice a ln c) ∧ True from
            ⟨cellA (hV.cells HG2.out.b0 (fun h => by omega)) rfl, trivial⟩)
          have hmx : Try.prog.follows .mixedOrders = true := by kernel_rfl
          refine wpIn_wide.2 ?_
          refine wp_region_noPanic ?_
          refine wp_region_held (S := fun V => Fr (fun i => i = w.heap.size + 1 + 1) W2 V) hmx ?_
          have hS := (Fr.drew (Fr.refl (fun i => i = w.heap.size + 1 + 1) W2))
          simp only [List.size_toArray, List.length_cons, List.length_nil, Nat.reduceAdd, Array.replicate_succ, Array.replicate_zero, List.push_toArray, List.nil_append, List.cons_append]
          refine wpAnyH_take (i := 0) (v := ?_) rfl (by kernel_rfl) (by kernel_rfl) (by kernel_rfl) (fun _ _ _ h => h) (Or.inl ⟨by kernel_rfl, ?_⟩) hS ?_
          rotate_left 1
          · (intro w' hS'; clear hS'; go_simp; try with_reducible rfl)
          simp only [List.getElem_toArray, List.getElem_cons_zero, List.getElem_cons_succ, Act.put, List.setIfInBounds_toArray, List.set_cons_zero, List.set_cons_succ]
          refine wpAnyH_take (i := 2) (v := ?_) rfl (by kernel_rfl) (by kernel_rfl) (by kernel_rfl) (fun _ _ _ h => h) (Or.inl ⟨by kernel_rfl, ?_⟩) hS ?_
          rotate_left 1
          · (intro w' hS'; have d2 := (HC.out w' hS').1; clear hS'; go_simp; try with_reducible rfl)
          simp only [List.getElem_toArray, List.getElem_cons_zero, List.getElem_cons_succ, Act.put, List.setIfInBounds_toArray, List.set_cons_zero, List.set_cons_succ]
          refine wpAnyH_take (i := 3) (v := ?_) rfl (by kernel_rfl) (by kernel_rfl) (by kernel_rfl) (fun _ _ _ h => h) (Or.inl ⟨by kernel_rfl, ?_⟩) hS ?_
          rotate_left 1
          · (intro w' hS'; clear hS'; go_simp; try with_reducible rfl)
          simp only [List.getElem_toArray, List.getElem_cons_zero, List.getElem_cons_succ, Act.put, List.setIfInBounds_toArray, List.set_cons_zero, List.set_cons_succ]
          refine wpAnyH_ready (rs := [1]) (by kernel_rfl) (by simp) ?_
          refine AllReadyH.cons rfl (fun K1 hK1 => ?_) (AllReadyH.nil)
          go_simp
          refine (KL.out _ ((HG2.out.fr).trans (Fr.drew (Fr.refl (fun _ => False) W2)) (fun _ _ h => h))).mono ?_
          rintro e wx ⟨rfl, rfl⟩
          refine hK1.out _ _ hS (fun hS => ?_)
          clear hK1 K1
          simp only [List.getElem_toArray, List.getElem_cons_zero, List.getElem_cons_succ, Act.put, List.setIfInBounds_toArray, List.set_cons_zero, List.set_cons_succ]
          refine wpAnyH_take (i := 4) (v := ?_) rfl (by kernel_rfl) (by kernel_rfl) (by kernel_rfl) (fun _ _ _ h => h) (Or.inl ⟨by kernel_rfl, ?_⟩) hS ?_
          rotate_left 1
          · (intro w' hS'; clear hS'; go_simp; try with_reducible rfl)
          simp only [List.getElem_toArray, List.getElem_cons_zero, List.getElem_cons_succ, Act.put, List.setIfInBounds_toArray, List.set_cons_zero, List.set_cons_succ]
          refine wpAnyH_ready (rs := [5]) (by kernel_rfl) (by simp) ?_
          refine AllReadyH.cons rfl (fun K1 hK1 => ?_) (AllReadyH.nil)
          have st := ystore_bool (V := W2.drew) HG2.out.b2 true
          refine tstep_store (by kernel_rfl) st (by exact ⟨_, _, rfl, rfl, rfl⟩) ?_
          refine hK1.out _ _ (hS.trans (Fr.setCell (p := ⟨w.heap.size + 1 + 1, 0, none⟩) (S := fun i => i = w.heap.size + 1 + 1) (Fr.refl _ _) (fun _ => rfl) _) (fun _ _ h => h)) (fun hS => ?_)
          clear st
          clear hK1 K1
          simp only [List.getElem_toArray, List.getElem_cons_zero, List.getElem_cons_succ, Act.put, List.setIfInBounds_toArray, List.set_cons_zero, List.set_cons_succ]
          refine wpAnyH_done (by kernel_rfl) ?_ _
          refine NoPanic.normal ?_
          clear hS
          gi_wp2
          have h12 : D1 < W1.heap.size := lt_of_row HK1.out
          have hN12 : N2 = W1.heap.size := HN2.out
          have n12 : D1 ≠ D2 := by have := HD2.out; omega
          have hb1 : D1 ≠ w.heap.size + 1 + 1 := by have := HD1.out; have := HG1.out.top; omega
          have hb2 : D2 ≠ w.heap.size + 1 + 1 := by have := HD2.out; have := HG2.out.top; omega
          have k1 : W2.heap[D1]? = some (.deferred (some [])) := HG2.out.fb.cells HK1.out (fun h => by omega)
          have q2 : (W2.drew.setCell ⟨w.heap.size + 1 + 1, 0, none⟩ (.bool true)).heap[D2]? = some (.deferred (some [])) := (Below.heap_setCell _ _ _ _ hb2).trans HK2.out
          have q1 : ((W2.drew.setCell ⟨w.heap.size + 1 + 1, 0, none⟩ (.bool true)).putObj D2 (.deferred none)).heap[D1]? = some (.deferred (some [])) := (World.putObj_heap_other n12).trans ((Below.heap_setCell _ _ _ _ hb1).trans k1)
          have qr : (((W2.drew.setCell ⟨w.heap.size + 1 + 1, 0, none⟩ (.bool true)).putObj D2 (.deferred none)).putObj D1 (.deferred none)).heap[w.heap.size + 1 + 1]? = some (.cells #[.bool true] 4 (0, 0)) := by
            rw [World.putObj_heap_other hb1.symm, World.putObj_heap_other hb2.symm, setCell_row (w := W2.drew) HG2.out.b2]; rfl
          have qc : ((((W2.setCell ⟨w.heap.size + 1 + 1, 0, none⟩ (.bool true)).drew).putObj D2 (.deferred none)).putObj D1 (.deferred none)).cell? ⟨w.heap.size + 1 + 1, 0, none⟩ = some (.bool true) := cellA qr rfl
          refine ⟨by simp, .inl ⟨_, _, rfl, run_takeDeferred q2, ?_⟩⟩
          refine ⟨by simp, .inl ⟨_, _, rfl, run_takeDeferred q1, ?_⟩⟩
          refine ⟨.bool true, ?_, rfl, ?_⟩
          · simp [results, Try.f18, go_sem, qc]
          · have f1 : Fr (fun _ => False) w (W2.drew.setCell ⟨w.heap.size + 1 + 1, 0, none⟩ (.bool true)) := Fr.setCell (p := ⟨w.heap.size + 1 + 1, 0, none⟩) (Fr.drew HG2.out.fr) (fun h => by simp only at h; omega) _
            have ht1 := HG1.out.top
            have hd1 := HD1.out
            have hd2 := HD2.out
            exact (f1.trans (Fr.of_grown (grownBy_putObj' _ D2 _)) (fun i hi e => by simp at e; omega)).trans (Fr.of_grown (grownBy_putObj' _ D1 _)) (fun i hi e => by simp at e; omega)
end Go.Proofs.Ytffjekhlloippaa

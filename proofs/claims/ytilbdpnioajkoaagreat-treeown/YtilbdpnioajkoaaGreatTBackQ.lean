/-
  What was done is taken back.
-/
import Derived.Test.YtilbdpnioajkoaaGreatTDo2Q
namespace Go.Proofs.YtilbdpnioajkoaaGreat
open Go.RowKit Go.Maps
set_option linter.unusedVariables false
set_option maxRecDepth 100000
set_option linter.unusedSimpArgs false

namespace A
theorem del_put {α : Type} {l : List (Int × α)} (h : Up l) (k : Int) (v : α) : del k (put k v l) = del k l :=
  up_ext ((h.put k v).del k) (h.del k) (fun p => by
    rw [mem_del, mem_put, mem_del]
    constructor
    · rintro ⟨rfl | h1, h2⟩
      · exact absurd rfl h2
      · exact h1
    · rintro ⟨h1, h2⟩
      exact ⟨.inr ⟨h1, h2⟩, h2⟩)
end A
theorem tstep_del {o : Oper} {a : Act} {w w' : World} {K : Act → World → Prop} {Q : Exit → Act → World → Prop} {ts : Array TypeId} {m k : Value} {c : Bool} {alt : Prop} (hc : c = true) (hl : (Builtin.delete_ ts o.type #[m, k]).run Tryz.prog w = .ok (.tuple #[]) w') (h0 : ∃ x y, o.op = .call { callee := .builtin .delete, args := #[x, y], argTypes := ts } ∧ a.eval x = m ∧ a.eval y = k)
    (h : K (a.put o.dst (.tuple #[])) w') : if c = true then Oper.wp Tryz.prog o a w K Q else alt := by
  obtain ⟨x, y, ho, hx, hy⟩ := h0
  rw [if_pos hc]
  unfold Oper.wp execOp
  simp only [ho, resolve, invoke, builtin, Sem.run_bind, Sem.run_pure, Result.andThen_ok, List.map_toArray, List.map_cons, List.map_nil, hx, hy, hl]
  exact h
/-- a node that stands nowhere, and under which none stands, is gone -/
theorem Tf.removed {c : Nat → Option T.Col} {w w' : World} {bud p : Nat} {dos last : Int} {t : T.Tr} {mb : Nat} {f : Int → Nat} (h : Tf c w bud p dos last t mb f) (ht : A.Up t) (h0 : A.get 0 t = none) {n : Int} {x : T.Nd} (hx : A.get n t = some x) (hx0 : x.par = 0) (hf : Fr (fun i => i = mb) w w') (hm : Mp 2 litI w' mb (at_ (fun k => (A.get k t).map (fun _ => ptr (f k))) n none) (t.length - 1)) : Tf c w' bud p dos last (A.del n t) mb f := by
  have hpm : p ≠ mb := fun e => by have := h.cp; rw [e, h.cm] at this; cases this
  have hlen := A.length_del ht hx
  refine ⟨hf.cells h.cells hpm, h.cp, h.cm, ?_, ?_, fun k z hz => ?_⟩
  · have e : (fun k => (A.get k (A.del n t)).map (fun _ => ptr (f k))) = at_ (fun k => (A.get k t).map (fun _ => ptr (f k))) n none := by
      funext k
      unfold at_
      by_cases e : k = n
      · subst e
        rw [A.get_del_same, if_pos rfl]
        rfl
      · rw [A.get_del_other ht e, if_neg e]
    rw [e, show (A.del n t).length = t.length - 1 by omega]
    exact hm
  · have := h.few
    omega
  · have hkn : k ≠ n := fun e => by rw [e, A.get_del_same] at hz; cases hz
    rw [A.get_del_other ht hkn] at hz
    have hk0 : k ≠ 0 := fun e => by rw [e, h0] at hz; cases hz
    refine ((h.node k z hz).kept hf (fun i col e1 e2 e3 => by rw [e3, h.cm] at e1; cases e1; cases e2)).kids (fun s => ?_)
    refine T.rise_ext (T.rise_kids (ht.del n) k s) (T.rise_kids ht k s) (fun j => ?_)
    rw [T.mem_kids (ht.del n), T.mem_kids ht]
    by_cases e : j = n
    · subst e
      rw [A.get_del_same, hx]
      constructor
      · rintro ⟨_, y, h2, _⟩
        cases h2
      · rintro ⟨_, y, h2, h3, _⟩
        cases h2
        exact absurd (hx0.symm.trans h3).symm hk0
    · rw [A.get_del_other ht e]
set_option maxHeartbeats 1600000 in
theorem put1_any {c : Nat → Option T.Col} {w : World} {bud p : Nat} {dos last : Int} {t : T.Tr} {mb : Nat} {f : Int → Nat} (h : Tf c w bud p dos last t mb f) (hb : bud < 9000000000000) (ht : A.Up t) (h0 : A.get 0 t = none) {n : Int} (hn : (Lit.int .i64 n).wf = true) (hn2 : 2 < n) {x y : T.Nd} (hx : A.get n t = some x) (hp : (Lit.int .i64 x.par).wf = true) (hpn : x.par ≠ n) (hs : x.nm.size ≤ maxLen) (hy : A.get x.par t = some y) {bt bn : Nat} (h1 : T.Box c w bt (ptr p)) (h2 : T.Box c w bn (.int .i64 n)) :
    Calls Tryz.prog 109 #[ptr bt, ptr bn] w fun e w' => e = .returned (.tuple #[]) ∧ Fr (fun i => c i ≠ none) w w' ∧ Tf c w' bud p dos last (A.del n t) mb f := by
  obtain ⟨⟨ty1, b1⟩, n1⟩ := h1
  obtain ⟨⟨ty2, b2⟩, n2⟩ := h2
  have HC := hid (show ∀ V, Fr (fun i => c i ≠ none) w V → V.cell? ⟨bt, 0, none⟩ = some (ptr p) ∧ V.cell? ⟨bn, 0, none⟩ = some (.int .i64 n) from fun V hf => ⟨cellA (j := 0) (hf.cells b1 (fun e => e n1)) rfl, cellA (j := 0) (hf.cells b2 (fun e => e n2)) rfl⟩)
  obtain ⟨e1, e2⟩ := HC.out w (Fr.refl _ _)
  have KL := hid (leave_any h hb ht h0 hn hn2 hx hp hpn hs hy)
  have HD := hid (show ∀ V, Tf c V bud p dos last (A.put n ⟨0, ⟨#[]⟩, x.ats⟩ t) mb f → ∃ V', (Builtin.delete_ #[81, 2] 0 #[.map (some mb), .int .i64 n]).run Tryz.prog V = .ok (.tuple #[]) V' ∧ Fr (fun i => i = mb) V V' ∧ Tf c V' bud p dos last (A.del n t) mb f from fun V hT => by
    obtain ⟨V', r, mp, fr⟩ := Mp.drop hT.map litI_inj keyI Tryz.underlying81 (keyOfI hn) 0
    rw [A.get_put_same ht] at mp
    refine ⟨V', r, fr, ?_⟩
    have := hT.removed (ht.put n _) (by rw [A.get_put_other ht (by omega)]; exact h0) (A.get_put_same ht n _) rfl fr mp
    rw [A.del_put ht] at this
    exact this)
  clear h hb ht h0 hn hn2 hx hp hpn hs hy b1 n1 b2 n2
  go_enter Tryz.func109, Tryz.ntmps109
  go_wp2_with (first
    | (go_at_call 110; refine KL.out.mono ?_; rintro e w1 ⟨rfl, fx, hT⟩; have F1 := hid fx; have HT := hid hT; clear fx hT))
  have hpm : p ≠ mb := fun e => by have := HT.out.cp; rw [e, HT.out.cm] at this; cases this
  have HC1 := hid (show ∀ V, Fr (fun i => i = mb) w1 V → V.cell? ⟨bt, 0, none⟩ = some (ptr p) ∧ V.cell? ⟨bn, 0, none⟩ = some (.int .i64 n) ∧ V.cell? ⟨p, 0, none⟩ = some (.map (some mb)) from fun V hf => by
    obtain ⟨g1, g2⟩ := HC.out V (F1.out.trans hf (fun i _ e => by rw [e, HT.out.cm]; simp))
    exact ⟨g1, g2, cellA (j := 0) (hf.cells HT.out.cells hpm) rfl⟩)
  obtain ⟨w2, r2, f2, t2⟩ := HD.out w1.drew (HT.out.kept (Fr.drew (Fr.refl (fun _ => False) w1)) (fun _ _ h => h))
  have R2 := hid r2
  have F2 := hid f2
  have T2 := hid t2
  have F12 := hid (show Fr (fun i => c i ≠ none) w1 w2 from ((Fr.drew (Fr.refl (fun i => i = mb) w1)).trans f2 (fun _ _ h => h)).mono (fun i _ e => by rw [e, HT.out.cm]; simp))
  clear r2 f2 t2 hpm
  have hmx : Tryz.prog.follows .mixedOrders = true := by kernel_rfl
  refine wp_region_held (S := fun V => Fr (fun i => i = mb) w1 V) hmx ?_
  have hS := (Fr.drew (Fr.refl (fun i => i = mb) w1))
  simp only [List.size_toArray, List.length_cons, List.length_nil, Nat.reduceAdd, Array.replicate_succ, Array.replicate_zero, List.push_toArray, List.nil_append, List.cons_append]
  refine wpAnyH_take (i := 0) (v := ?_) rfl (by kernel_rfl) (by kernel_rfl) (by kernel_rfl) (fun _ _ _ h => h) (Or.inl ⟨by kernel_rfl, ?_⟩) hS ?_
  rotate_left 1
  · (intro w' hS'; have h1 := (HC1.out w' hS').1; clear hS'; go_simp; try with_reducible rfl)
  simp only [List.getElem_toArray, List.getElem_cons_zero, List.getElem_cons_succ, Act.put, List.setIfInBounds_toArray, List.set_cons_zero, List.set_cons_succ]
  refine wpAnyH_take (i := 1) (v := ?_) rfl (by kernel_rfl) (by kernel_rfl) (by kernel_rfl) (fun _ _ _ h => h) (Or.inl ⟨by kernel_rfl, ?_⟩) hS ?_
  rotate_left 1
  · (intro w' hS'; clear hS'; go_simp; try with_reducible rfl)
  simp only [List.getElem_toArray, List.getElem_cons_zero, List.getElem_cons_succ, Act.put, List.setIfInBounds_toArray, List.set_cons_zero, List.set_cons_succ]
  refine wpAnyH_take (i := 2) (v := ?_) rfl (by kernel_rfl) (by kernel_rfl) (by kernel_rfl) (fun _ _ _ h => h) (Or.inl ⟨by kernel_rfl, ?_⟩) hS ?_
  rotate_left 1
  · (intro w' hS'; clear hS'; go_simp; try with_reducible rfl)
  simp only [List.getElem_toArray, List.getElem_cons_zero, List.getElem_cons_succ, Act.put, List.setIfInBounds_toArray, List.set_cons_zero, List.set_cons_succ]
  refine wpAnyH_take (i := 3) (v := ?_) rfl (by kernel_rfl) (by kernel_rfl) (by kernel_rfl) (fun _ _ _ h => h) (Or.inl ⟨by kernel_rfl, ?_⟩) hS ?_
  rotate_left 1
  · (intro w' hS'; have h1 := (HC1.out w' hS').2.2; clear hS'; go_simp; try with_reducible rfl)
  simp only [List.getElem_toArray, List.getElem_cons_zero, List.getElem_cons_succ, Act.put, List.setIfInBounds_toArray, List.set_cons_zero, List.set_cons_succ]
  refine wpAnyH_take (i := 4) (v := ?_) rfl (by kernel_rfl) (by kernel_rfl) (by kernel_rfl) (fun _ _ _ h => h) (Or.inl ⟨by kernel_rfl, ?_⟩) hS ?_
  rotate_left 1
  · (intro w' hS'; have h1 := (HC1.out w' hS').2.1; clear hS'; go_simp; try with_reducible rfl)
  simp only [List.getElem_toArray, List.getElem_cons_zero, List.getElem_cons_succ, Act.put, List.setIfInBounds_toArray, List.set_cons_zero, List.set_cons_succ]
  refine wpAnyH_ready (rs := [5]) (by kernel_rfl) (by simp) ?_
  refine AllReadyH.cons rfl (fun K1 hK1 => ?_) (AllReadyH.nil)
  refine tstep_del (by kernel_rfl) R2.out (by exact ⟨_, _, rfl, rfl, rfl⟩) ?_
  refine hK1.out _ _ (hS.trans F2.out (fun _ _ h => h)) (fun hS => ?_)
  clear hK1 K1
  simp only [List.getElem_toArray, List.getElem_cons_zero, List.getElem_cons_succ, Act.put, List.setIfInBounds_toArray, List.set_cons_zero, List.set_cons_succ]
  refine wpAnyH_done (by kernel_rfl) ?_ _
  clear hS
  go_wp2
  go_end0
  exact ⟨rfl, F1.out.trans F12.out (fun _ _ h => h), T2.out⟩
set_option maxHeartbeats 1600000 in
theorem move1_any {c : Nat → Option T.Col} {w : World} {bud p : Nat} {dos last : Int} {t : T.Tr} {mb : Nat} {f : Int → Nat} (h : Tf c w bud p dos last t mb f) (hl : Lo c w.heap.size) (hb : bud < 8000000000000) (ht : A.Up t) (h0 : A.get 0 t = none) {n par : Int} (hn : (Lit.int .i64 n).wf = true) (hn2 : 2 < n) (hp : (Lit.int .i64 par).wf = true) {nm : ByteArray} (hs : nm.size ≤ maxLen) {x y y0 : T.Nd} (hx : A.get n t = some x) (hxp : (Lit.int .i64 x.par).wf = true) (hxn : x.par ≠ n) (hxs : x.nm.size ≤ maxLen) (hx0 : A.get x.par t = some y0) (hpn : par ≠ n) (hy : A.get par t = some y) {bt bn bf : Nat} {tf : TypeId} (h1 : T.Box c w bt (ptr p)) (h2 : T.Box c w bn (.int .i64 n)) (h3 : w.heap[bf]? = some (.cells #[.int .i64 par, .string nm] tf (0, 0))) (n3 : c bf = none) :
    Calls Tryz.prog 111 #[ptr bt, ptr bn, ptr bf] w fun e w' => e = .returned (.tuple #[]) ∧ Fr (fun i => c i ≠ none) w w' ∧ ∃ c', More c c' w.heap.size ∧ Lo c' w'.heap.size ∧ Tf c' w' (bud + 1) p dos last (A.put n ⟨par, nm, x.ats⟩ t) mb f := by
  obtain ⟨⟨ty1, b1⟩, n1⟩ := h1
  obtain ⟨⟨ty2, b2⟩, n2⟩ := h2
  have HC := hid (show ∀ V, Fr (fun i => c i ≠ none) w V → V.cell? ⟨bt, 0, none⟩ = some (ptr p) ∧ V.cell? ⟨bn, 0, none⟩ = some (.int .i64 n) ∧ (Instr.loadAt 76 (.pointer (some ⟨bf, 0, none⟩))).run Tryz.prog V = .ok (.agg #[.int .i64 par, .string nm]) V from fun V hf => ⟨cellA (j := 0) (hf.cells b1 (fun e => e n1)) rfl, cellA (j := 0) (hf.cells b2 (fun e => e n2)) rfl, load_whole (hf.cells h3 (fun e => e n3)) Tryz.underlying76 rfl (by kernel_rfl)⟩)
  obtain ⟨e1, e2, _⟩ := HC.out w (Fr.refl _ _)
  have KL := hid (leave_any h (by omega) ht h0 hn hn2 hx hxp hxn hxs hx0)
  have KE := hid (show ∀ V, Fr (fun i => c i ≠ none) w V → Tf c V bud p dos last (A.put n ⟨0, ⟨#[]⟩, x.ats⟩ t) mb f → _ from fun V hf hT => enter_any (nm := nm) hT (fun i hi => Nat.lt_of_lt_of_le (hl i hi) hf.size) (by omega) (ht.put n _) (by rw [A.get_put_other ht (by omega)]; exact h0) hn hn2 hp hs (x := ⟨0, ⟨#[]⟩, x.ats⟩) (A.get_put_same ht n _) rfl (y := y) (by rw [A.get_put_other ht hpn]; exact hy))
  rw [A.put_put ht] at KE
  clear h hl hb ht h0 hn hn2 hp hs hx hxp hxn hxs hx0 hpn hy b1 n1 b2 n2 h3 n3
  go_enter Tryz.func111, Tryz.ntmps111
  go_wp2_with (first
    | (go_at_call 110; refine KL.out.mono ?_; rintro e w1 ⟨rfl, fx, hT⟩; have F1 := hid fx; have KE1 := hid (KE.out w1 fx hT); obtain ⟨g1, g2, lp⟩ := HC.out w1 fx; have LP := hid lp; clear fx hT lp)
    | (refine wpList_load_v LP.out (by exact ⟨_, rfl, rfl⟩) (by kernel_rfl) ?_)
    | (go_at_call 83; refine KE1.out.mono ?_; rintro e w2 ⟨rfl, fx, hfin⟩; have F2 := hid fx; have HFIN := hid hfin; clear fx hfin))
  obtain ⟨c', k1, k2, k3⟩ := HFIN.out
  have FIN := hid (show ∃ c', More c c' w.heap.size ∧ Lo c' w2.heap.size ∧ Tf c' w2 (bud + 1) p dos last (A.put n ⟨par, nm, x.ats⟩ t) mb f from ⟨c', fun i hi => k1 i (Nat.lt_of_lt_of_le hi F1.out.size), k2, k3⟩)
  clear k1 k2 k3
  go_end0
  exact ⟨rfl, F1.out.trans F2.out (fun _ _ h => h), FIN.out⟩
theorem alter1_any {c : Nat → Option T.Col} {w : World} {bud b : Nat} {n : Int} {x : T.Nd} {ks : ByteArray → List Int} (h : Nm c w bud b n x ks) (hl : Lo c w.heap.size) {k v : ByteArray} (hk : k.size ≤ maxLen) (hA : T.Ak x.ats) (hb : x.ats.length < 1000000000000000000) {bx bk bb : Nat} (h1 : T.Box c w bx (ptr b)) (h2 : T.Box c w bk (.string k)) (h3 : T.Box c w bb (.string v)) :
    Calls Tryz.prog 112 #[ptr bx, ptr bk, ptr bb] w fun e w' => e = .returned (.tuple #[]) ∧ Fr (T.Mine c n) w w' ∧ ∃ c', More c c' w.heap.size ∧ Lo c' w'.heap.size ∧ Nm c' w' bud b n ⟨x.par, x.nm, T.aset k v x.ats⟩ ks := by
  have KS := hid (set_any (v := v) h hl hk hA hb)
  obtain ⟨⟨_, b1⟩, _⟩ := h1
  obtain ⟨⟨_, b2⟩, _⟩ := h2
  obtain ⟨⟨_, b3⟩, _⟩ := h3
  have c1 : w.cell? ⟨bx, 0, none⟩ = some (ptr b) := cellA (j := 0) b1 rfl
  have c2 : w.cell? ⟨bk, 0, none⟩ = some (.string k) := cellA (j := 0) b2 rfl
  have c3 : w.cell? ⟨bb, 0, none⟩ = some (.string v) := cellA (j := 0) b3 rfl
  clear h hl hk hA hb b1 b2 b3
  go_enter Tryz.func112, Tryz.ntmps112
  go_wp2_with (go_at_call 80; refine KS.out.mono ?_; rintro e w1 ⟨rfl, hfin⟩; have HFIN := hid hfin; clear hfin)
  go_end0
  exact ⟨rfl, HFIN.out⟩
end Go.Proofs.YtilbdpnioajkoaaGreat

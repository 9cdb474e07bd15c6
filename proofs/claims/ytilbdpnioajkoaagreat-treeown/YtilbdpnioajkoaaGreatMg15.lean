/-
  A node stands nowhere: leave.
  A node is moved: move.
-/
import Derived.Test.YtilbdpnioajkoaaGreatMg14
import Derived.Test.YtilbdpnioajkoaaGreatTEnterQ
import Derived.Test.YtilbdpnioajkoaaGreatMg12
namespace Go.Proofs.YtilbdpnioajkoaaGreat
open Go.RowKit Go.Maps
set_option linter.unusedVariables false
set_option maxRecDepth 100000
set_option linter.unusedSimpArgs false
set_option maxHeartbeats 1600000 in
theorem leave_any {c : Nat → Option T.Col} {w : World} {bud p : Nat} {dos last : Int} {t : T.Tr} {mb : Nat} {f : Int → Nat} (h : Tf c w bud p dos last t mb f) (hb : bud < 9000000000000) (ht : A.Up t) (h0 : A.get 0 t = none) {n : Int} (hn : (Lit.int .i64 n).wf = true) (hn2 : 2 < n) {x y : T.Nd} (hx : A.get n t = some x) (hp : (Lit.int .i64 x.par).wf = true) (hpn : x.par ≠ n) (hs : x.nm.size ≤ maxLen) (hy : A.get x.par t = some y) :
    Calls Tryz.prog 110 #[ptr p, .int .i64 n] w fun e w' => e = .returned (.tuple #[]) ∧ Fr (fun i => c i ≠ none) w w' ∧ Tf c w' bud p dos last (A.put n ⟨0, ⟨#[]⟩, x.ats⟩ t) mb f := by
  obtain ⟨av, uv, g, m, hN⟩ := h.node n x hx
  have L1 := hid (h.look hn)
  rw [T.loc_some hx] at L1
  have c0 : w.cell? ⟨p, 0, none⟩ = some (.map (some mb)) := cellA (j := 0) h.cells rfl
  have n1 : p ≠ f n := fun e => by have := hN.cb; rw [← e, h.cp] at this; cases this
  have n2 : mb ≠ f n := fun e => by have := hN.cb; rw [← e, h.cm] at this; cases this
  have hmp : ¬ T.Mine c x.par p := fun ⟨col, e1, e2⟩ => by rw [h.cp] at e1; cases e1; cases e2
  have hmm : ¬ T.Mine c x.par mb := fun ⟨col, e1, e2⟩ => by rw [h.cm] at e1; cases e1; cases e2
  have hmn : ¬ T.Mine c x.par (f n) := fun ⟨col, e1, e2⟩ => by rw [hN.cb] at e1; cases e1; cases e2; exact hpn rfl
  have D0 := hid (show ∀ V, Fr (T.Mine c x.par) w V → V.cell? ⟨p, 0, none⟩ = some (.map (some mb)) from fun V hf => cellA (j := 0) (hf.cells h.cells hmp) rfl)
  have DB := hid (show ∀ V, Fr (T.Mine c x.par) w V → V.cell? ⟨f n, 0, none⟩ = some (.int .i64 x.par) ∧ V.cell? ⟨f n, 1, none⟩ = some (.string x.nm) from fun V hf => ⟨cellA (j := 0) (hf.cells hN.cells hmn) rfl, cellA (j := 1) (hf.cells hN.cells hmn) rfl⟩)
  have L2 := hid (show ∀ V, Fr (T.Mine c x.par) w V → (Instr.lookup 81 (.map (some mb)) (.int .i64 x.par) false).run Tryz.prog V = .ok (ptr (f x.par)) V from fun V hf => by
    have := (h.map.kept hf hmm).look keyI Tryz.underlying81 (zeroNd V) (keyOfI hp)
    rw [hy] at this
    exact this)
  have hmem : n ∈ T.kids t x.par x.nm := (T.mem_kids ht).2 ⟨hn2, x, hx, rfl, rfl⟩
  have KT := hid (lose_any (w := w.drew) ((h.node x.par y hy).kept (Fr.drew (Fr.refl (fun _ => False) w)) (fun _ _ _ _ h => h)) (by omega) n hs (T.rise_kids ht _ _) hmem (by have := T.kids_len t x.par x.nm; have := h.few; omega))
  have ST := hid (show ∀ V, Fr (T.Mine c x.par) w.drew V → ∃ V', (Instr.storeAt 76 (ptr (f n)) (.agg #[.int .i64 0, .string ⟨#[]⟩])).run Tryz.prog V = .ok () V' ∧ V'.heap[f n]? = some (.cells #[.int .i64 0, .string ⟨#[]⟩, .map av, .map uv] 80 (0, 0)) ∧ Fr (fun k => k = f n) V V' from fun V hf => store_place (hf.cells (show w.drew.heap[f n]? = _ from hN.cells) hmn) 0 ⟨#[]⟩)
  have HEND : Hid (∀ w2 w3, Fr (T.Mine c x.par) w.drew w2 → Nm c w2 bud (f x.par) x.par y (fun s => if s = x.nm then T.delI n (T.kids t x.par x.nm) else T.kids t x.par s) → Fr (fun k => k = f n) w2 w3 → w3.heap[f n]? = some (.cells #[.int .i64 0, .string ⟨#[]⟩, .map av, .map uv] 80 (0, 0)) → Fr (fun i => c i ≠ none) w w3 ∧ Tf c w3 bud p dos last (A.put n ⟨0, ⟨#[]⟩, x.ats⟩ t) mb f) := hid (fun w2 w3 fx k3 f3 b3 => by
    have fx2 : Fr (T.Mine c x.par) w w2 := (Fr.drew (Fr.refl (T.Mine c x.par) w)).trans fx (fun _ _ h => h)
    have f03 : Fr (fun i => T.Mine c x.par i ∨ i = f n) w w3 := (fx2.mono (fun _ _ h => .inl h)).trans f3 (fun _ _ h => .inr h)
    refine ⟨f03.mono (fun i _ e => ?_), ?_⟩
    · rcases e with ⟨col, e, _⟩ | e
      · rw [e]; simp
      · rw [e, hN.cb]; simp
    · refine ⟨f03.cells h.cells (fun e => e.elim hmp n1), h.cp, h.cm, ?_, ?_, fun k z hz => ?_⟩
      · have := h.map.kept f03 (fun e => e.elim hmm n2)
        rw [A.length_put_same ht hx]
        have e : (fun k => (A.get k (A.put n ⟨0, ⟨#[]⟩, x.ats⟩ t)).map (fun _ => ptr (f k))) = fun k => (A.get k t).map (fun _ => ptr (f k)) := by
          funext k
          have h1 := A.isSome_put ht hx ⟨0, ⟨#[]⟩, x.ats⟩ k
          cases h2 : A.get k t <;> cases h3 : A.get k (A.put n ⟨0, ⟨#[]⟩, x.ats⟩ t) <;> rw [h2, h3] at h1 <;> first | rfl | cases h1
        rw [e]
        exact this
      · rw [A.length_put_same ht hx]
        exact h.few
      · have hk0 : k ≠ 0 := fun e => by
          have := A.isSome_put ht hx ⟨0, ⟨#[]⟩, x.ats⟩ k
          rw [hz, e, h0] at this
          cases this
        have hkids : ∀ s, T.kids (A.put n ⟨0, ⟨#[]⟩, x.ats⟩ t) k s = T.delI n (T.kids t k s) := fun s => T.kids_loose ht hx rfl hk0 s
        by_cases e : k = x.par
        · subst e
          rw [A.get_put_other ht hpn, hy] at hz
          cases hz
          refine (k3.kept f3 (fun i col e1 e2 e3 => by rw [e3, hN.cb] at e1; cases e1; cases e2; exact hpn rfl)).kids (fun s => ?_)
          rw [hkids s]
          by_cases es : s = x.nm
          · subst es
            rw [if_pos rfl]
          · rw [if_neg es]
            exact T.filter_not_mem (fun hm => by
              obtain ⟨_, z, hz1, _, hz3⟩ := (T.mem_kids ht).1 hm
              rw [hx] at hz1; cases hz1; exact es hz3.symm)
        · have hnot : ∀ s, T.delI n (T.kids t k s) = T.kids t k s := fun s => T.filter_not_mem (fun hm => by
            obtain ⟨_, z, hz1, hz2, _⟩ := (T.mem_kids ht).1 hm
            rw [hx] at hz1; cases hz1; exact e hz2.symm)
          by_cases en : k = n
          · subst en
            rw [A.get_put_same ht] at hz
            cases hz
            have kap : ∀ i col, c i = some col → col.own = some k → col ≠ .node k → ¬ (T.Mine c x.par i ∨ i = f k) := fun i col e1 e2 e3 e4 => by
              rcases e4 with ⟨col', e5, e6⟩ | e4
              · rw [e1] at e5; cases e5; rw [e2] at e6; cases e6; exact hpn rfl
              · rw [e4, hN.cb] at e1; cases e1; exact e3 rfl
            have hav : ∀ i, av = some i → ¬ (T.Mine c x.par i ∨ i = f k) := fun i e => kap i _ (hN.ca i e) rfl (by simp)
            have huv : ∀ i, uv = some i → ¬ (T.Mine c x.par i ∨ i = f k) := fun i e => kap i _ (hN.cu i e) rfl (by simp)
            refine Nm.kids ⟨av, uv, g, m, b3, hN.cb, hN.ca, hN.cu, hN.att.kept f03 hav, hN.und.kept f03 huv, hN.few, fun s => (hN.row s).kept f03 (fun i e => kap i _ e rfl (by simp))⟩ (fun s => ?_)
            rw [hkids s, hnot s]
          · rw [A.get_put_other ht en] at hz
            refine ((h.node k z hz).kept f03 (fun i col e1 e2 e3 => ?_)).kids (fun s => ?_)
            · rcases e3 with ⟨col', e5, e6⟩ | e3
              · rw [e1] at e5; cases e5; rw [e2] at e6; cases e6; exact e rfl
              · rw [e3, hN.cb] at e1; cases e1; cases e2; exact en rfl
            · rw [hkids s, hnot s])
  clear h hb ht h0 hn hn2 hx hp hs hy n1 n2 hmp hmm hmn hmem hN hpn
  go_enter Tryz.func110, Tryz.ntmps110
  go_wp2_with (refine wpList_look_v L1.out (by exact ⟨_, _, rfl, rfl, rfl⟩) (by kernel_rfl) ?_)
  have hmx : Tryz.prog.follows .mixedOrders = true := by kernel_rfl
  refine wp_region_held (S := fun V => Fr (T.Mine c x.par) w V) hmx ?_
  have hS := (Fr.drew (Fr.refl (T.Mine c x.par) w))
  simp only [List.size_toArray, List.length_cons, List.length_nil, Nat.reduceAdd, Array.replicate_succ, Array.replicate_zero, List.push_toArray, List.nil_append, List.cons_append]
  refine wpAnyH_take (i := 0) (v := ?_) rfl (by kernel_rfl) (by kernel_rfl) (by kernel_rfl) (fun _ _ _ h => h) (Or.inl ⟨by kernel_rfl, ?_⟩) hS ?_
  rotate_left 1
  · (intro w' hS'; clear hS'; go_simp; try with_reducible rfl)
  simp only [List.getElem_toArray, List.getElem_cons_zero, List.getElem_cons_succ, Act.put, List.setIfInBounds_toArray, List.set_cons_zero, List.set_cons_succ]
  refine wpAnyH_take (i := 1) (v := ?_) rfl (by kernel_rfl) (by kernel_rfl) (by kernel_rfl) (fun _ _ _ h => h) (Or.inl ⟨by kernel_rfl, ?_⟩) hS ?_
  rotate_left 1
  · (intro w' hS'; clear hS'; go_simp; try with_reducible rfl)
  simp only [List.getElem_toArray, List.getElem_cons_zero, List.getElem_cons_succ, Act.put, List.setIfInBounds_toArray, List.set_cons_zero, List.set_cons_succ]
  refine wpAnyH_take (i := 2) (v := ?_) rfl (by kernel_rfl) (by kernel_rfl) (by kernel_rfl) (fun _ _ _ h => h) (Or.inl ⟨by kernel_rfl, ?_⟩) hS ?_
  rotate_left 1
  · (intro w' hS'; clear hS'; go_simp; try with_reducible rfl)
  simp only [List.getElem_toArray, List.getElem_cons_zero, List.getElem_cons_succ, Act.put, List.setIfInBounds_toArray, List.set_cons_zero, List.set_cons_succ]
  refine wpAnyH_take (i := 3) (v := ?_) rfl (by kernel_rfl) (by kernel_rfl) (by kernel_rfl) (fun _ _ _ h => h) (Or.inl ⟨by kernel_rfl, ?_⟩) hS ?_
  rotate_left 1
  · (intro w' hS'; have h1 := D0.out w' hS'; clear hS'; go_simp; try with_reducible rfl)
  simp only [List.getElem_toArray, List.getElem_cons_zero, List.getElem_cons_succ, Act.put, List.setIfInBounds_toArray, List.set_cons_zero, List.set_cons_succ]
  refine wpAnyH_take (i := 4) (v := ?_) rfl (by kernel_rfl) (by kernel_rfl) (by kernel_rfl) (fun _ _ _ h => h) (Or.inl ⟨by kernel_rfl, ?_⟩) hS ?_
  rotate_left 1
  · (intro w' hS'; clear hS'; go_simp; try with_reducible rfl)
  simp only [List.getElem_toArray, List.getElem_cons_zero, List.getElem_cons_succ, Act.put, List.setIfInBounds_toArray, List.set_cons_zero, List.set_cons_succ]
  refine wpAnyH_take (i := 5) (v := ?_) rfl (by kernel_rfl) (by kernel_rfl) (by kernel_rfl) (fun _ _ _ h => h) (Or.inl ⟨by kernel_rfl, ?_⟩) hS ?_
  rotate_left 1
  · (intro w' hS'; clear hS'; go_simp; try with_reducible rfl)
  simp only [List.getElem_toArray, List.getElem_cons_zero, List.getElem_cons_succ, Act.put, List.setIfInBounds_toArray, List.set_cons_zero, List.set_cons_succ]
  refine wpAnyH_take (i := 6) (v := ?_) rfl (by kernel_rfl) (by kernel_rfl) (by kernel_rfl) (fun _ _ _ h => h) (Or.inl ⟨by kernel_rfl, ?_⟩) hS ?_
  rotate_left 1
  · (intro w' hS'; clear hS'; go_simp; try with_reducible rfl)
  simp only [List.getElem_toArray, List.getElem_cons_zero, List.getElem_cons_succ, Act.put, List.setIfInBounds_toArray, List.set_cons_zero, List.set_cons_succ]
  refine wpAnyH_take (i := 7) (v := ?_) rfl (by kernel_rfl) (by kernel_rfl) (by kernel_rfl) (fun _ _ _ h => h) (Or.inl ⟨by kernel_rfl, ?_⟩) hS ?_
  rotate_left 1
  · (intro w' hS'; clear hS'; go_simp; try with_reducible rfl)
  simp only [List.getElem_toArray, List.getElem_cons_zero, List.getElem_cons_succ, Act.put, List.setIfInBounds_toArray, List.set_cons_zero, List.set_cons_succ]
  refine wpAnyH_take (i := 8) (v := ?_) rfl (by kernel_rfl) (by kernel_rfl) (by kernel_rfl) (fun _ _ _ h => h) (Or.inl ⟨by kernel_rfl, ?_⟩) hS ?_
  rotate_left 1
  · (intro w' hS'; have h1 := (DB.out w' hS').1; clear hS'; go_simp; try with_reducible rfl)
  simp only [List.getElem_toArray, List.getElem_cons_zero, List.getElem_cons_succ, Act.put, List.setIfInBounds_toArray, List.set_cons_zero, List.set_cons_succ]
  refine wpAnyH_take (i := 9) rfl (by kernel_rfl) (by kernel_rfl) (by kernel_rfl) (fun _ _ _ h => h) (tylook (by kernel_rfl) (by exact ⟨_, _, rfl, rfl, rfl⟩) (fun w' hS' => L2.out w' hS')) hS ?_
  simp only [List.getElem_toArray, List.getElem_cons_zero, List.getElem_cons_succ, Act.put, List.setIfInBounds_toArray, List.set_cons_zero, List.set_cons_succ]
  refine wpAnyH_take (i := 10) (v := ?_) rfl (by kernel_rfl) (by kernel_rfl) (by kernel_rfl) (fun _ _ _ h => h) (Or.inl ⟨by kernel_rfl, ?_⟩) hS ?_
  rotate_left 1
  · (intro w' hS'; clear hS'; go_simp; try with_reducible rfl)
  simp only [List.getElem_toArray, List.getElem_cons_zero, List.getElem_cons_succ, Act.put, List.setIfInBounds_toArray, List.set_cons_zero, List.set_cons_succ]
  refine wpAnyH_take (i := 11) (v := ?_) rfl (by kernel_rfl) (by kernel_rfl) (by kernel_rfl) (fun _ _ _ h => h) (Or.inl ⟨by kernel_rfl, ?_⟩) hS ?_
  rotate_left 1
  · (intro w' hS'; clear hS'; go_simp; try with_reducible rfl)
  simp only [List.getElem_toArray, List.getElem_cons_zero, List.getElem_cons_succ, Act.put, List.setIfInBounds_toArray, List.set_cons_zero, List.set_cons_succ]
  refine wpAnyH_take (i := 12) (v := ?_) rfl (by kernel_rfl) (by kernel_rfl) (by kernel_rfl) (fun _ _ _ h => h) (Or.inl ⟨by kernel_rfl, ?_⟩) hS ?_
  rotate_left 1
  · (intro w' hS'; clear hS'; go_simp; try with_reducible rfl)
  simp only [List.getElem_toArray, List.getElem_cons_zero, List.getElem_cons_succ, Act.put, List.setIfInBounds_toArray, List.set_cons_zero, List.set_cons_succ]
  refine wpAnyH_take (i := 13) (v := ?_) rfl (by kernel_rfl) (by kernel_rfl) (by kernel_rfl) (fun _ _ _ h => h) (Or.inl ⟨by kernel_rfl, ?_⟩) hS ?_
  rotate_left 1
  · (intro w' hS'; clear hS'; go_simp; try with_reducible rfl)
  simp only [List.getElem_toArray, List.getElem_cons_zero, List.getElem_cons_succ, Act.put, List.setIfInBounds_toArray, List.set_cons_zero, List.set_cons_succ]
  refine wpAnyH_take (i := 14) (v := ?_) rfl (by kernel_rfl) (by kernel_rfl) (by kernel_rfl) (fun _ _ _ h => h) (Or.inl ⟨by kernel_rfl, ?_⟩) hS ?_
  rotate_left 1
  · (intro w' hS'; clear hS'; go_simp; try with_reducible rfl)
  simp only [List.getElem_toArray, List.getElem_cons_zero, List.getElem_cons_succ, Act.put, List.setIfInBounds_toArray, List.set_cons_zero, List.set_cons_succ]
  refine wpAnyH_take (i := 15) (v := ?_) rfl (by kernel_rfl) (by kernel_rfl) (by kernel_rfl) (fun _ _ _ h => h) (Or.inl ⟨by kernel_rfl, ?_⟩) hS ?_
  rotate_left 1
  · (intro w' hS'; have h1 := (DB.out w' hS').2; clear hS'; go_simp; try with_reducible rfl)
  simp only [List.getElem_toArray, List.getElem_cons_zero, List.getElem_cons_succ, Act.put, List.setIfInBounds_toArray, List.set_cons_zero, List.set_cons_succ]
  refine wpAnyH_ready (rs := [16]) (by kernel_rfl) (by simp) ?_
  refine AllReadyH.cons rfl (fun K1 hK1 => ?_) (AllReadyH.nil)
  go_simp
  refine KT.out.mono ?_
  rintro e w2 ⟨rfl, fx, hfin⟩
  have FX := hid fx
  have HFIN := hid hfin
  clear hfin
  refine hK1.out _ _ (hS.trans fx (fun _ _ h => h)) (fun hS => ?_)
  clear fx
  clear hK1 K1
  simp only [List.getElem_toArray, List.getElem_cons_zero, List.getElem_cons_succ, Act.put, List.setIfInBounds_toArray, List.set_cons_zero, List.set_cons_succ]
  refine wpAnyH_done (by kernel_rfl) ?_ _
  clear hS
  obtain ⟨w3, st, hb3, f3⟩ := ST.out w2 FX.out
  have STH := hid st
  have B3 := hid hb3
  have F3 := hid f3
  clear st hb3 f3
  go_wp2_with (refine wpList_store_v STH.out (by exact ⟨_, _, rfl, rfl, rfl⟩) (by kernel_rfl) ?_)
  go_end0
  exact ⟨rfl, HEND.out _ _ FX.out HFIN.out F3.out B3.out⟩
end Go.Proofs.YtilbdpnioajkoaaGreat

namespace Go.Proofs.YtilbdpnioajkoaaGreat
open Go.RowKit Go.Maps
set_option linter.unusedVariables false
set_option maxRecDepth 100000
set_option linter.unusedSimpArgs false

/-- what takes a move back -/
def T.UndoMove (c : Nat → Option T.Col) (w : World) (p : Nat) (n par : Int) (nm : ByteArray) (v : Value) : Prop := ∃ bt bn bf, v = .func (.func 111) #[] #[ptr bt, ptr bn, ptr bf] ∧ T.Box c w bt (ptr p) ∧ T.Box c w bn (.int .i64 n) ∧ (∃ ty, w.heap[bf]? = some (.cells #[.int .i64 par, .string nm] ty (0, 0))) ∧ c bf = none
set_option maxHeartbeats 1600000 in
theorem move_any {c : Nat → Option T.Col} {w : World} {bud p : Nat} {dos last : Int} {t : T.Tr} {mb : Nat} {f : Int → Nat} (h : Tf c w bud p dos last t mb f) (hl : Lo c w.heap.size) (hb : bud < 8000000000000) (ht : A.Up t) (h0 : A.get 0 t = none) {n par : Int} (hn : (Lit.int .i64 n).wf = true) (hn2 : 2 < n) (hp : (Lit.int .i64 par).wf = true) {nm : ByteArray} (hs : nm.size ≤ maxLen) {x y y0 : T.Nd} (hx : A.get n t = some x) (hxp : (Lit.int .i64 x.par).wf = true) (hxn : x.par ≠ n) (hxs : x.nm.size ≤ maxLen) (hx0 : A.get x.par t = some y0) (hpn : par ≠ n) (hy : A.get par t = some y) :
    Calls Tryz.prog 88 #[ptr p, .int .i64 n, .agg #[.int .i64 par, .string nm]] w fun e w' => Fr (fun i => c i ≠ none) w w' ∧ ∃ v c', e = .returned v ∧ More c c' w.heap.size ∧ Lo c' w'.heap.size ∧ Tf c' w' (bud + 1) p dos last (A.put n ⟨par, nm, x.ats⟩ t) mb f ∧ T.UndoMove c' w' p n x.par x.nm v := by
  obtain ⟨W, hW⟩ : ∃ W, ((w.alloc (.cells #[ptr p] 24)).alloc (.cells #[.int .i64 n] 2)).alloc (.cells #[.int .i64 par, .string nm] 76) = W := ⟨_, rfl⟩
  have fW : Fr (fun _ => False) w W := by rw [← hW]; exact Fr.alloc (Fr.alloc (Fr.alloc (Fr.refl _ _) _) _) _
  have b0 : W.heap[w.heap.size]? = some (.cells #[ptr p] 24 (0, 0)) := by
    rw [← hW]
    exact (Fr.alloc (Fr.alloc (Fr.refl (fun _ => False) _) _) _).cells (Go.heap_alloc_new w _) (fun h => h)
  have b1 : W.heap[w.heap.size + 1]? = some (.cells #[.int .i64 n] 2 (0, 0)) := by
    rw [← hW]
    have := (Fr.alloc (Fr.refl (fun _ => False) _) (.cells #[.int .i64 par, .string nm] 76)).cells (Go.heap_alloc_new (w.alloc (.cells #[ptr p] 24)) (.cells #[.int .i64 n] 2)) (fun h => h)
    rw [alloc_size] at this
    exact this
  have b2 : W.heap[w.heap.size + 1 + 1]? = some (.cells #[.int .i64 par, .string nm] 76 (0, 0)) := by
    rw [← hW]
    have := Go.heap_alloc_new ((w.alloc (.cells #[ptr p] 24)).alloc (.cells #[.int .i64 n] 2)) (.cells #[.int .i64 par, .string nm] 76)
    rw [alloc_size, alloc_size] at this
    exact this
  have zW : W.heap.size = w.heap.size + 3 := by rw [← hW, alloc_size, alloc_size, alloc_size]
  obtain ⟨av, uv, g, m, hN⟩ := h.node n x hx
  have C0 := hid (show ∀ V, Fr (fun _ => False) W V → V.cell? ⟨w.heap.size, 0, none⟩ = some (ptr p) ∧ V.cell? ⟨w.heap.size + 1, 0, none⟩ = some (.int .i64 n) ∧ V.cell? ⟨p, 0, none⟩ = some (.map (some mb)) from fun V hf => ⟨cellA (j := 0) (hf.cells b0 (fun h => h)) rfl, cellA (j := 0) (hf.cells b1 (fun h => h)) rfl, cellA (j := 0) (hf.cells (fW.cells h.cells (fun h => h)) (fun h => h)) rfl⟩)
  have L1 := hid (show ∀ V, Fr (fun _ => False) W V → (Instr.lookup 81 (.map (some mb)) (.int .i64 n) false).run Tryz.prog V = .ok (ptr (f n)) V from fun V hf => by
    have := (h.kept (fW.trans hf (fun _ _ h => h)) (fun _ _ h => h)).look hn
    rw [T.loc_some hx] at this
    exact this)
  have LF := hid (show ∀ V, Fr (fun _ => False) W V → (Instr.loadAt 76 (.pointer (some ⟨f n, 0, none⟩))).run Tryz.prog V = .ok (.agg #[.int .i64 x.par, .string x.nm]) V from fun V hf =>
    run_loadAt_mid (P := Tryz.prog) V (f n) 0 76 [.int .i64 x.par, .string x.nm] _ (rangeAt_of (hf.cells (fW.cells hN.cells (fun h => h)) (fun h => h)) 0 _ rfl) Tryz.underlying76 rfl (by kernel_rfl))
  obtain ⟨w10, st, b10, f10⟩ := box_whole (V := (W.alloc (.cells #[.int .i64 0, .string ⟨#[]⟩] 76)).drew) (b := W.heap.size) (ty := 76) (c := #[.int .i64 x.par, .string x.nm]) (show (W.alloc _).drew.heap[W.heap.size]? = _ from Go.heap_alloc_new W _) rfl (by kernel_rfl) (by simp [Value.oneCell'])
  have fW10 : Fr (fun _ => False) W w10 := (Fr.drew (Fr.alloc (Fr.refl (fun _ => False) W) _)).trans f10 (fun i hi e => by omega)
  have fw10 : Fr (fun _ => False) w w10 := fW.trans fW10 (fun _ _ h => h)
  have z10 := fW10.size
  have z10b := lt_of_row b10
  have hT10 := h.kept fw10 (fun _ _ h => h)
  have KL := hid (leave_any hT10 (by omega) ht h0 hn hn2 hx hxp hxn hxs hx0)
  have lo10 : Lo c w10.heap.size := fun i hi => by have := hl i hi; omega
  have hcn : ∀ i, w.heap.size ≤ i → c i = none := fun i hi => by
    cases hc : c i with
    | none => rfl
    | some col => have := hl i (by rw [hc]; simp); omega
  have C1 := hid (show ∀ V, Fr (fun i => c i ≠ none) w10 V → V.heap[w.heap.size]? = some (.cells #[ptr p] 24 (0, 0)) ∧ V.heap[w.heap.size + 1]? = some (.cells #[.int .i64 n] 2 (0, 0)) ∧ V.heap[W.heap.size]? = some (.cells #[.int .i64 x.par, .string x.nm] 76 (0, 0)) ∧ (Instr.loadAt 76 (.pointer (some ⟨w.heap.size + 1 + 1, 0, none⟩))).run Tryz.prog V = .ok (.agg #[.int .i64 par, .string nm]) V from fun V hf => ⟨hf.cells (fW10.cells b0 (fun h => h)) (fun e => e (hcn _ (by omega))), hf.cells (fW10.cells b1 (fun h => h)) (fun e => e (hcn _ (by omega))), hf.cells b10 (fun e => e (hcn _ (by omega))), load_whole (hf.cells (fW10.cells b2 (fun h => h)) (fun e => e (hcn _ (by omega)))) Tryz.underlying76 rfl (by kernel_rfl)⟩)
  have KE := hid (show ∀ V, Fr (fun i => c i ≠ none) w10 V → Tf c V bud p dos last (A.put n ⟨0, ⟨#[]⟩, x.ats⟩ t) mb f → _ from fun V hf hT => enter_any (nm := nm) hT (fun i hi => Nat.lt_of_lt_of_le (lo10 i hi) hf.size) (by omega) (ht.put n _) (by rw [A.get_put_other ht (by omega)]; exact h0) hn hn2 hp hs (x := ⟨0, ⟨#[]⟩, x.ats⟩) (A.get_put_same ht n _) rfl (y := y) (by rw [A.get_put_other ht hpn]; exact hy))
  rw [A.put_put ht] at KE
  have HEND : Hid (∀ w11 w12, Fr (fun i => c i ≠ none) w10 w11 → Fr (fun i => c i ≠ none) w11 w12 → (∃ c', More c c' w11.heap.size ∧ Lo c' w12.heap.size ∧ Tf c' w12 (bud + 1) p dos last (A.put n ⟨par, nm, x.ats⟩ t) mb f) → Fr (fun i => c i ≠ none) w w12 ∧ ∃ v c', Ending.returned (.func (.func 111) #[] #[ptr w.heap.size, ptr (w.heap.size + 1), ptr W.heap.size]) = .returned v ∧ More c c' w.heap.size ∧ Lo c' w12.heap.size ∧ Tf c' w12 (bud + 1) p dos last (A.put n ⟨par, nm, x.ats⟩ t) mb f ∧ T.UndoMove c' w12 p n x.par x.nm v) := hid (fun w11 w12 f11 f12 ⟨c', k1, k2, k3⟩ => by
    have g1 := f11.size
    have hcc : ∀ i, w.heap.size ≤ i → i < w10.heap.size → c' i = none := fun i h1 h2 => by rw [k1 i (by omega)]; exact hcn i h1
    obtain ⟨m0, m1, m2, _⟩ := C1.out w12 (f11.trans f12 (fun _ _ h => h))
    exact ⟨((fw10.mono (fun _ _ h => h.elim)).trans f11 (fun _ _ h => h)).trans f12 (fun _ _ h => h), _, c', rfl, fun i hi => k1 i (by omega), k2, k3, _, _, _, rfl, ⟨⟨_, m0⟩, hcc _ (by omega) (by omega)⟩, ⟨⟨_, m1⟩, hcc _ (by omega) (by omega)⟩, ⟨_, m2⟩, hcc _ (by omega) (by omega)⟩)
  have ST := hid st
  have F10 := hid fW10
  have HW := hid hW
  clear h hl hb ht h0 hn hn2 hp hs hx hxp hxn hxs hx0 hpn hy fW b0 b1 b2 zW hN st b10 f10 fW10 fw10 z10 z10b hT10 lo10 hcn hW
  go_enter Tryz.func88, Tryz.ntmps88
  go_wp2_with fail
  rw [HW.out]
  have hmx : Tryz.prog.follows .mixedOrders = true := by kernel_rfl
  refine wp_region_held (S := fun V => Fr (fun _ => False) W V) hmx ?_
  have hS := (Fr.drew (Fr.refl (fun _ => False) W))
  simp only [List.size_toArray, List.length_cons, List.length_nil, Nat.reduceAdd, Array.replicate_succ, Array.replicate_zero, List.push_toArray, List.nil_append, List.cons_append]
  refine wpAnyH_take (i := 0) (v := ?_) rfl (by kernel_rfl) (by kernel_rfl) (by kernel_rfl) (fun _ _ _ h => h) (Or.inl ⟨by kernel_rfl, ?_⟩) hS ?_
  rotate_left 1
  · (intro w' hS'; have h1 := (C0.out w' hS').1; clear hS'; go_simp; try with_reducible rfl)
  simp only [List.getElem_toArray, List.getElem_cons_zero, List.getElem_cons_succ, Act.put, List.setIfInBounds_toArray, List.set_cons_zero, List.set_cons_succ]
  refine wpAnyH_take (i := 1) (v := ?_) rfl (by kernel_rfl) (by kernel_rfl) (by kernel_rfl) (fun _ _ _ h => h) (Or.inl ⟨by kernel_rfl, ?_⟩) hS ?_
  rotate_left 1
  · (intro w' hS'; clear hS'; go_simp; try with_reducible rfl)
  simp only [List.getElem_toArray, List.getElem_cons_zero, List.getElem_cons_succ, Act.put, List.setIfInBounds_toArray, List.set_cons_zero, List.set_cons_succ]
  refine wpAnyH_take (i := 2) (v := ?_) rfl (by kernel_rfl) (by kernel_rfl) (by kernel_rfl) (fun _ _ _ h => h) (Or.inl ⟨by kernel_rfl, ?_⟩) hS ?_
  rotate_left 1
  · (intro w' hS'; clear hS'; go_simp; try with_reducible rfl)
  simp only [List.getElem_toArray, List.getElem_cons_zero, List.getElem_cons_succ, Act.put, List.setIfInBounds_toArray, List.set_cons_zero, List.set_cons_succ]
  refine wpAnyH_take (i := 3) (v := ?_) rfl (by kernel_rfl) (by kernel_rfl) (by kernel_rfl) (fun _ _ _ h => h) (Or.inl ⟨by kernel_rfl, ?_⟩) hS ?_
  rotate_left 1
  · (intro w' hS'; have h1 := (C0.out w' hS').2.2; clear hS'; go_simp; try with_reducible rfl)
  simp only [List.getElem_toArray, List.getElem_cons_zero, List.getElem_cons_succ, Act.put, List.setIfInBounds_toArray, List.set_cons_zero, List.set_cons_succ]
  refine wpAnyH_take (i := 4) (v := ?_) rfl (by kernel_rfl) (by kernel_rfl) (by kernel_rfl) (fun _ _ _ h => h) (Or.inl ⟨by kernel_rfl, ?_⟩) hS ?_
  rotate_left 1
  · (intro w' hS'; have h1 := (C0.out w' hS').2.1; clear hS'; go_simp; try with_reducible rfl)
  simp only [List.getElem_toArray, List.getElem_cons_zero, List.getElem_cons_succ, Act.put, List.setIfInBounds_toArray, List.set_cons_zero, List.set_cons_succ]
  refine wpAnyH_take (i := 5) rfl (by kernel_rfl) (by kernel_rfl) (by kernel_rfl) (fun _ _ _ h => h) (tylook (by kernel_rfl) (by exact ⟨_, _, rfl, rfl, rfl⟩) (fun w' hS' => L1.out w' hS')) hS ?_
  simp only [List.getElem_toArray, List.getElem_cons_zero, List.getElem_cons_succ, Act.put, List.setIfInBounds_toArray, List.set_cons_zero, List.set_cons_succ]
  refine wpAnyH_take (i := 6) (v := ?_) rfl (by kernel_rfl) (by kernel_rfl) (by kernel_rfl) (fun _ _ _ h => h) (Or.inl ⟨by kernel_rfl, ?_⟩) hS ?_
  rotate_left 1
  · (intro w' hS'; clear hS'; go_simp; try with_reducible rfl)
  simp only [List.getElem_toArray, List.getElem_cons_zero, List.getElem_cons_succ, Act.put, List.setIfInBounds_toArray, List.set_cons_zero, List.set_cons_succ]
  refine wpAnyH_take (i := 7) (v := ?_) rfl (by kernel_rfl) (by kernel_rfl) (by kernel_rfl) (fun _ _ _ h => h) (Or.inl ⟨by kernel_rfl, ?_⟩) hS ?_
  rotate_left 1
  · (intro w' hS'; clear hS'; go_simp; try with_reducible rfl)
  simp only [List.getElem_toArray, List.getElem_cons_zero, List.getElem_cons_succ, Act.put, List.setIfInBounds_toArray, List.set_cons_zero, List.set_cons_succ]
  refine wpAnyH_take (i := 8) rfl (by kernel_rfl) (by kernel_rfl) (by kernel_rfl) (fun _ _ _ h => h) (tyload (by kernel_rfl) (by exact ⟨_, rfl, rfl⟩) (fun w' hS' => LF.out w' hS')) hS ?_
  simp only [List.getElem_toArray, List.getElem_cons_zero, List.getElem_cons_succ, Act.put, List.setIfInBounds_toArray, List.set_cons_zero, List.set_cons_succ]
  refine wpAnyH_ready (rs := [9]) (by kernel_rfl) (by simp) ?_
  refine AllReadyH.cons rfl (fun K1 hK1 => ?_) (AllReadyH.nil)
  go_simp
  refine hK1.out _ _ (by first | exact Fr.drew (Fr.alloc (Fr.refl _ _) _) | exact Fr.alloc hS _) (fun hS => ?_)
  clear hK1 K1
  simp only [List.getElem_toArray, List.getElem_cons_zero, List.getElem_cons_succ, Act.put, List.setIfInBounds_toArray, List.set_cons_zero, List.set_cons_succ]
  refine wpAnyH_ready (rs := [10]) (by kernel_rfl) (by simp) ?_
  refine AllReadyH.cons rfl (fun K1 hK1 => ?_) (AllReadyH.nil)
  refine tstep_store (by kernel_rfl) ST.out (by exact ⟨_, _, rfl, rfl, rfl⟩) ?_
  refine hK1.out _ _ F10.out (fun hS => ?_)
  clear hK1 K1
  simp only [List.getElem_toArray, List.getElem_cons_zero, List.getElem_cons_succ, Act.put, List.setIfInBounds_toArray, List.set_cons_zero, List.set_cons_succ]
  refine wpAnyH_done (by kernel_rfl) ?_ _
  clear hS
  obtain ⟨m0, m1, _, _⟩ := C1.out w10 (Fr.refl _ _)
  have e0 : w10.cell? ⟨w.heap.size, 0, none⟩ = some (ptr p) := cellA (j := 0) m0 rfl
  have e1 : w10.cell? ⟨w.heap.size + 1, 0, none⟩ = some (.int .i64 n) := cellA (j := 0) m1 rfl
  clear m0 m1
  go_wp2_with (first
    | (go_at_call 110; refine KL.out.mono ?_; rintro e w11 ⟨rfl, fx, hT⟩; have F11 := hid fx; have KE1 := hid (KE.out w11 fx hT); obtain ⟨m0, m1, _, lp⟩ := C1.out w11 fx; have g0 : w11.cell? ⟨w.heap.size, 0, none⟩ = some (ptr p) := cellA (j := 0) m0 rfl; have g1 : w11.cell? ⟨w.heap.size + 1, 0, none⟩ = some (.int .i64 n) := cellA (j := 0) m1 rfl; have LP := hid lp; clear fx hT m0 m1 lp)
    | (refine wpList_load_v LP.out (by exact ⟨_, rfl, rfl⟩) (by kernel_rfl) ?_)
    | (go_at_call 83; refine KE1.out.mono ?_; rintro e w12 ⟨rfl, fx, hfin⟩; have F12 := hid fx; have HFIN := hid hfin; clear fx hfin))
  go_ret
  exact HEND.out _ _ F11.out F12.out HFIN.out
end Go.Proofs.YtilbdpnioajkoaaGreat

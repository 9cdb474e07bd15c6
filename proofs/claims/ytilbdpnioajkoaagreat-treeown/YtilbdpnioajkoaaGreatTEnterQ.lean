/-
  A node that stands nowhere comes to stand under another one: enter.
-/
import Derived.Test.YtilbdpnioajkoaaGreatMg10
import Derived.Test.YtilbdpnioajkoaaGreatMg6
namespace Go.Proofs.YtilbdpnioajkoaaGreat
open Go.RowKit Go.Maps
set_option linter.unusedVariables false
set_option maxRecDepth 100000
set_option linter.unusedSimpArgs false

/-- a place is stored into a node -/
theorem store_place {V : World} {b : Nat} {q s av uv : Value} (hb : V.heap[b]? = some (.cells #[q, s, av, uv] 80 (0, 0))) (par : Int) (nm : ByteArray) :
    ∃ V', (Instr.storeAt 76 (ptr b) (.agg #[.int .i64 par, .string nm])).run Tryz.prog V = .ok () V' ∧ V'.heap[b]? = some (.cells #[.int .i64 par, .string nm, av, uv] 80 (0, 0)) ∧ Fr (fun k => k = b) V V' := by
  have th : V.there b 0 2 := there_of hb (by simp)
  refine ⟨_, run_storeAt_mid (P := Tryz.prog) V b 0 76 #[.int .i64 par, .string nm] th (by kernel_rfl) (by simp [Value.oneCell']), ?_, Fr.setCells _ _ _ _⟩
  exact setCell_row (j := 1) (setCell_row (j := 0) hb _) _
set_option maxHeartbeats 1600000 in
theorem enter_any {c : Nat → Option T.Col} {w : World} {bud p : Nat} {dos last : Int} {t : T.Tr} {mb : Nat} {f : Int → Nat} (h : Tf c w bud p dos last t mb f) (hl : Lo c w.heap.size) (hb : bud < 9000000000000) (ht : A.Up t) (h0 : A.get 0 t = none) {n par : Int} (hn : (Lit.int .i64 n).wf = true) (hn2 : 2 < n) (hp : (Lit.int .i64 par).wf = true) {nm : ByteArray} (hs : nm.size ≤ maxLen) {x y : T.Nd} (hx : A.get n t = some x) (hx0 : x.par = 0) (hy : A.get par t = some y) :
    Calls Tryz.prog 83 #[ptr p, .int .i64 n, .agg #[.int .i64 par, .string nm]] w fun e w' => e = .returned (.tuple #[]) ∧ Fr (fun i => c i ≠ none) w w' ∧ ∃ c', More c c' w.heap.size ∧ Lo c' w'.heap.size ∧ Tf c' w' (bud + 1) p dos last (A.put n ⟨par, nm, x.ats⟩ t) mb f := by
  obtain ⟨av, uv, g, m, hN⟩ := h.node n x hx
  have hfn : f n < w.heap.size := hl _ (by rw [hN.cb]; simp)
  have hpl : p < w.heap.size := hl _ (by rw [h.cp]; simp)
  have hml : mb < w.heap.size := hl _ (by rw [h.cm]; simp)
  have n1 : p ≠ f n := fun e => by have := hN.cb; rw [← e, h.cp] at this; cases this
  have n2 : mb ≠ f n := fun e => by have := hN.cb; rw [← e, h.cm] at this; cases this
  have fW : Fr (fun i => i = f n) w (w.alloc (.cells #[.int .i64 par, .string nm] 76)) := Fr.alloc (Fr.refl _ _) _
  have C0 := hid (show ∀ V, Fr (fun i => i = f n) (w.alloc (.cells #[.int .i64 par, .string nm] 76)) V → V.cell? ⟨p, 0, none⟩ = some (.map (some mb)) from fun V hf => cellA (j := 0) ((fW.trans hf (fun _ _ h => h)).cells h.cells n1) rfl)
  have LK : ∀ k y, (Lit.int .i64 k).wf = true → A.get k t = some y → ∀ V, Fr (fun i => i = f n) (w.alloc (.cells #[.int .i64 par, .string nm] 76)) V → (Instr.lookup 81 (.map (some mb)) (.int .i64 k) false).run Tryz.prog V = .ok (ptr (f k)) V := fun k y hk hy V hf => by
    have := (h.map.kept (fW.trans hf (fun _ _ h => h)) n2).look keyI Tryz.underlying81 (zeroNd V) (keyOfI hk)
    rw [hy] at this
    exact this
  have L1 := hid (LK n x hn hx)
  clear LK
  have LP := hid (show ∀ V, Fr (fun i => i = f n) (w.alloc (.cells #[.int .i64 par, .string nm] 76)) V → (Instr.loadAt 76 (.pointer (some ⟨w.heap.size, 0, none⟩))).run Tryz.prog V = .ok (.agg #[.int .i64 par, .string nm]) V from fun V hf => load_whole (hf.cells (Go.heap_alloc_new w _) (by omega)) Tryz.underlying76 rfl (by kernel_rfl))
  obtain ⟨w9, st, hb9, f9⟩ := store_place (V := (w.alloc (.cells #[.int .i64 par, .string nm] 76)).drew) (b := f n) ((Fr.alloc (Fr.refl (fun _ => False) w) _).cells hN.cells (fun h => h)) par nm
  have F9 := hid f9
  have B9 := hid hb9
  clear f9 hb9
  have f09 : Fr (fun i => i = f n) w w9 := (fW.trans (Fr.drew (Fr.refl (fun i => i = f n) _)) (fun _ _ h => h)).trans F9.out (fun _ _ h => h)
  have hz9 : w.heap.size ≤ w9.heap.size := f09.size
  have hbox : w9.heap[w.heap.size]? = some (.cells #[.int .i64 par, .string nm] 76 (0, 0)) := F9.out.cells (show (w.alloc (.cells #[.int .i64 par, .string nm] 76)).drew.heap[w.heap.size]? = _ from Go.heap_alloc_new w _) (by omega)
  have hN9 : ∀ k z, A.get k (A.put n ⟨par, nm, x.ats⟩ t) = some z → Nm c w9 bud (f k) k z (T.kids t k) := fun k z hz => by
    by_cases e : k = n
    · subst e
      rw [A.get_put_same ht] at hz
      cases hz
      have hav : ∀ i, av = some i → ¬ (i = f k) := fun i e e2 => by have := hN.ca i e; rw [e2, hN.cb] at this; cases this
      have huv : ∀ i, uv = some i → ¬ (i = f k) := fun i e e2 => by have := hN.cu i e; rw [e2, hN.cb] at this; cases this
      exact ⟨av, uv, g, m, B9.out, hN.cb, hN.ca, hN.cu, hN.att.kept f09 hav, hN.und.kept f09 huv, hN.few, fun s => (hN.row s).kept f09 (fun i e e2 => by rw [e2, hN.cb] at e; cases e)⟩
    · rw [A.get_put_other ht e] at hz
      exact (h.node k z hz).kept f09 (fun i col e1 e2 e3 => by rw [e3, hN.cb] at e1; cases e1; cases e2; exact e rfl)
  obtain ⟨y', hy'⟩ : ∃ y', A.get par (A.put n ⟨par, nm, x.ats⟩ t) = some y' := by
    have := A.isSome_put ht hx ⟨par, nm, x.ats⟩ par
    rw [hy] at this
    exact Option.isSome_iff_exists.1 this
  have hmp : ¬ T.Mine c par p := fun ⟨col, e1, e2⟩ => by rw [h.cp] at e1; cases e1; cases e2
  have hmm : ¬ T.Mine c par mb := fun ⟨col, e1, e2⟩ => by rw [h.cm] at e1; cases e1; cases e2
  have hmb : ¬ T.Mine c par w.heap.size := fun ⟨col, e1, e2⟩ => by have := hl _ (by rw [e1]; simp); omega
  have D0 := hid (show ∀ V, Fr (T.Mine c par) w9 V → V.cell? ⟨p, 0, none⟩ = some (.map (some mb)) from fun V hf => cellA (j := 0) (hf.cells (f09.cells h.cells n1) hmp) rfl)
  have DB := hid (show ∀ V, Fr (T.Mine c par) w9 V → V.cell? ⟨w.heap.size, 0, none⟩ = some (.int .i64 par) ∧ V.cell? ⟨w.heap.size, 1, none⟩ = some (.string nm) from fun V hf => ⟨cellA (j := 0) (hf.cells hbox hmb) rfl, cellA (j := 1) (hf.cells hbox hmb) rfl⟩)
  have L2 := hid (show ∀ V, Fr (T.Mine c par) w9 V → (Instr.lookup 81 (.map (some mb)) (.int .i64 par) false).run Tryz.prog V = .ok (ptr (f par)) V from fun V hf => by
    have := ((h.map.kept f09 n2).kept hf hmm).look keyI Tryz.underlying81 (zeroNd V) (keyOfI hp)
    rw [hy] at this
    exact this)
  have lo9 : Lo c w9.drew.heap.size := fun i hi => Nat.lt_of_lt_of_le (hl i hi) hz9
  have hp0 : par ≠ 0 := fun e => by rw [e, h0] at hy; cases hy
  have hnk : n ∉ T.kids t par nm := fun hm => by
    obtain ⟨_, z, hz1, hz2, _⟩ := (T.mem_kids ht).1 hm
    rw [hx] at hz1; cases hz1; omega
  have KT := hid (take_any (w := w9.drew) ((hN9 par y' hy').kept (Fr.drew (Fr.refl (fun _ => False) w9)) (fun _ _ _ _ h => h)) lo9 (by omega) n hs (T.rise_kids ht par nm) hnk (by have := T.kids_len t par nm; have := h.few; omega))
  have HEND : Hid (∀ w10, Fr (T.Mine c par) w9.drew w10 → (∃ c', More c c' w9.drew.heap.size ∧ Lo c' w10.heap.size ∧ Nm c' w10 (bud + 1) (f par) par y' (fun y => if y = nm then T.insI n (T.kids t par nm) else T.kids t par y)) → Fr (fun i => c i ≠ none) w w10 ∧ ∃ c', More c c' w.heap.size ∧ Lo c' w10.heap.size ∧ Tf c' w10 (bud + 1) p dos last (A.put n ⟨par, nm, x.ats⟩ t) mb f) := hid (fun w10 fx ⟨c', k1, k2, k3⟩ => by
    have fx9 : Fr (T.Mine c par) w9 w10 := (Fr.drew (Fr.refl (T.Mine c par) w9)).trans fx (fun _ _ h => h)
    have f10 : Fr (fun i => i = f n ∨ T.Mine c par i) w w10 := (f09.mono (fun _ _ h => .inl h)).trans fx9 (fun _ _ h => .inr h)
    have hc := k1.keeps lo9
    refine ⟨f10.mono (fun i _ e => ?_), c', fun i hi => k1 i (Nat.lt_of_lt_of_le hi hz9), k2, ?_⟩
    · rcases e with e | ⟨col, e, _⟩
      · rw [e, hN.cb]; simp
      · rw [e]; simp
    · refine ⟨f10.cells h.cells (fun e => e.elim n1 hmp), hc _ _ h.cp, hc _ _ h.cm, ?_, ?_, fun k z hz => ?_⟩
      · have := h.map.kept f10 (fun e => e.elim n2 hmm)
        rw [A.length_put_same ht hx]
        have e : (fun k => (A.get k (A.put n ⟨par, nm, x.ats⟩ t)).map (fun _ => ptr (f k))) = fun k => (A.get k t).map (fun _ => ptr (f k)) := by
          funext k
          have h1 := A.isSome_put ht hx ⟨par, nm, x.ats⟩ k
          cases h2 : A.get k t <;> cases h3 : A.get k (A.put n ⟨par, nm, x.ats⟩ t) <;> rw [h2, h3] at h1 <;> first | rfl | cases h1
        rw [e]
        exact this
      · rw [A.length_put_same ht hx]
        have := h.few
        omega
      · have hk0 : k ≠ 0 := fun e => by
          have := A.isSome_put ht hx ⟨par, nm, x.ats⟩ k
          rw [hz, e, h0] at this
          cases this
        have hkids : ∀ s, T.kids (A.put n ⟨par, nm, x.ats⟩ t) k s = if k = par ∧ s = nm then T.insI n (T.kids t k s) else T.kids t k s := fun s => T.kids_put ht hn2 ⟨par, nm, x.ats⟩ s (fun z hz2 e => by rw [hx] at hz2; cases hz2; omega)
        by_cases e : k = par
        · subst e
          rw [hz] at hy'
          cases hy'
          refine k3.kids (fun s => ?_)
          rw [hkids s]
          by_cases es : s = nm
          · subst es
            rw [if_pos ⟨rfl, rfl⟩, if_pos rfl]
          · rw [if_neg (fun h => es h.2), if_neg es]
        · refine (((hN9 k z hz).kept fx9 (fun i col e1 e2 ⟨col', e3, e4⟩ => ?_)).ext hc (Nat.le_succ _)).kids (fun s => ?_)
          · rw [e1] at e3; cases e3; rw [e2] at e4; cases e4; exact e rfl
          · rw [hkids s, if_neg (fun h => e h.1)])
  clear h hl hb ht h0 hn hn2 hp hs hx hx0 hy hp0 hnk hN hfn hpl hml n1 n2 fW f09 hz9 hbox hN9 hy' hmp hmm hmb lo9
  go_enter Tryz.func83, Tryz.ntmps83
  go_wp2_with fail
  have hmx : Tryz.prog.follows .mixedOrders = true := by kernel_rfl
  refine wp_region_held (S := fun V => Fr (fun i => i = f n) (w.alloc (.cells #[.int .i64 par, .string nm] 76)) V) hmx ?_
  have hS := (Fr.drew (Fr.refl (fun i => i = f n) (w.alloc (.cells #[.int .i64 par, .string nm] 76))))
  simp only [List.size_toArray, List.length_cons, List.length_nil, Nat.reduceAdd, Array.replicate_succ, Array.replicate_zero, List.push_toArray, List.nil_append, List.cons_append]
  refine wpAnyH_take (i := 0) (v := ?_) rfl (by kernel_rfl) (by kernel_rfl) (by kernel_rfl) (fun _ _ _ h => h) (Or.inl ⟨by kernel_rfl, ?_⟩) hS ?_
  rotate_left 1
  · (intro w' hS'; clear hS'; go_simp; try with_reducible rfl)
  simp only [List.getElem_toArray, List.getElem_cons_zero, List.getElem_cons_succ, Act.put, List.setIfInBounds_toArray, List.set_cons_zero, List.set_cons_succ]
  refine wpAnyH_take (i := 1) (v := ?_) rfl (by kernel_rfl) (by kernel_rfl) (by kernel_rfl) (fun _ _ _ h => h) (Or.inl ⟨by kernel_rfl, ?_⟩) hS ?_
  rotate_left 1
  · (intro w' hS'; clear hS'; go_simp; try with_reducible rfl)
  simp only [List.getElem_toArray, List.getElem_cons_zero, List.getElem_cons_succ, Act.put, List.setIfInBounds_toArray, List.set_cons_zero, List.set_cons_succ]
  refine wpAnyH_take (i := 2) (v := ?_) rfl (by kernel_rfl) (by kernel_rfl) (by kernel_rfl) (fun _ _ _ h => h) (Or.inl ⟨by kernel_rfl, ?_⟩) hS ?_
  rotate_left 1
  · (intro w' hS'; clear hS'; go_simp; try with_reducible rfl)
  simp only [List.getElem_toArray, List.getElem_cons_zero, List.getElem_cons_succ, Act.put, List.setIfInBounds_toArray, List.set_cons_zero, List.set_cons_succ]
  refine wpAnyH_take (i := 3) (v := ?_) rfl (by kernel_rfl) (by kernel_rfl) (by kernel_rfl) (fun _ _ _ h => h) (Or.inl ⟨by kernel_rfl, ?_⟩) hS ?_
  rotate_left 1
  · (intro w' hS'; have h1 := C0.out w' hS'; clear hS'; go_simp; try with_reducible rfl)
  simp only [List.getElem_toArray, List.getElem_cons_zero, List.getElem_cons_succ, Act.put, List.setIfInBounds_toArray, List.set_cons_zero, List.set_cons_succ]
  refine wpAnyH_take (i := 4) (v := ?_) rfl (by kernel_rfl) (by kernel_rfl) (by kernel_rfl) (fun _ _ _ h => h) (Or.inl ⟨by kernel_rfl, ?_⟩) hS ?_
  rotate_left 1
  · (intro w' hS'; clear hS'; go_simp; try with_reducible rfl)
  simp only [List.getElem_toArray, List.getElem_cons_zero, List.getElem_cons_succ, Act.put, List.setIfInBounds_toArray, List.set_cons_zero, List.set_cons_succ]
  refine wpAnyH_take (i := 5) rfl (by kernel_rfl) (by kernel_rfl) (by kernel_rfl) (fun _ _ _ h => h) (tylook (by kernel_rfl) (by exact ⟨_, _, rfl, rfl, rfl⟩) (fun w' hS' => L1.out w' hS')) hS ?_
  simp only [List.getElem_toArray, List.getElem_cons_zero, List.getElem_cons_succ, Act.put, List.setIfInBounds_toArray, List.set_cons_zero, List.set_cons_succ]
  refine wpAnyH_take (i := 6) rfl (by kernel_rfl) (by kernel_rfl) (by kernel_rfl) (fun _ _ _ h => h) (tyload (by kernel_rfl) (by exact ⟨_, rfl, rfl⟩) (fun w' hS' => LP.out w' hS')) hS ?_
  simp only [List.getElem_toArray, List.getElem_cons_zero, List.getElem_cons_succ, Act.put, List.setIfInBounds_toArray, List.set_cons_zero, List.set_cons_succ]
  refine wpAnyH_take (i := 7) (v := ?_) rfl (by kernel_rfl) (by kernel_rfl) (by kernel_rfl) (fun _ _ _ h => h) (Or.inl ⟨by kernel_rfl, ?_⟩) hS ?_
  rotate_left 1
  · (intro w' hS'; clear hS'; go_simp; try with_reducible rfl)
  simp only [List.getElem_toArray, List.getElem_cons_zero, List.getElem_cons_succ, Act.put, List.setIfInBounds_toArray, List.set_cons_zero, List.set_cons_succ]
  refine wpAnyH_take (i := 8) (v := ?_) rfl (by kernel_rfl) (by kernel_rfl) (by kernel_rfl) (fun _ _ _ h => h) (Or.inl ⟨by kernel_rfl, ?_⟩) hS ?_
  rotate_left 1
  · (intro w' hS'; clear hS'; go_simp; try with_reducible rfl)
  simp only [List.getElem_toArray, List.getElem_cons_zero, List.getElem_cons_succ, Act.put, List.setIfInBounds_toArray, List.set_cons_zero, List.set_cons_succ]
  refine wpAnyH_ready (rs := [9]) (by kernel_rfl) (by simp) ?_
  refine AllReadyH.cons rfl (fun K1 hK1 => ?_) (AllReadyH.nil)
  refine tstep_store (by kernel_rfl) st (by exact ⟨_, _, rfl, rfl, rfl⟩) ?_
  refine hK1.out _ _ (hS.trans F9.out (fun _ _ h => h)) (fun hS => ?_)
  clear hK1 K1
  simp only [List.getElem_toArray, List.getElem_cons_zero, List.getElem_cons_succ, Act.put, List.setIfInBounds_toArray, List.set_cons_zero, List.set_cons_succ]
  refine wpAnyH_done (by kernel_rfl) ?_ _
  clear hS
  go_wp2_with fail
  have hmx : Tryz.prog.follows .mixedOrders = true := by kernel_rfl
  refine wp_region_held (S := fun V => Fr (T.Mine c par) w9 V) hmx ?_
  have hS := (Fr.drew (Fr.refl (T.Mine c par) w9))
  simp only [List.size_toArray, List.length_cons, List.length_nil, Nat.reduceAdd, Array.replicate_succ, Array.replicate_zero, List.push_toArray, List.nil_append, List.cons_append]
  refine wpAnyH_take (i := 0) (v := ?_) rfl (by kernel_rfl) (by kernel_rfl) (by kernel_rfl) (fun _ _ _ h => h) (Or.inl ⟨by kernel_rfl, ?_⟩) hS ?_
  rotate_left 1
  · (intro w' hS'; clear hS'; go_simp; try with_reducible rfl)
  simp only [List.getElem_toArray, List.getElem_cons_zero, List.getElem_cons_succ, Act.put, List.setIfInBounds_toArray, List.set_cons_zero, List.set_cons_succ]
  refine wpAnyH_take (i := 1) (v := ?_) rfl (by kernel_rfl) (by kernel_rfl) (by kernel_rfl) (fun _ _ _ h => h) (Or.inl ⟨by kernel_rfl, ?_⟩) hS ?_
  rotate_left 1
  · (intro w' hS'; clear hS'; go_simp; try with_reducible rfl)
  simp only [List.getElem_toArray, List.getElem_cons_zero, List.getElem_cons_succ, Act.put, List.setIfInBounds_toArray, List.set_cons_zero, List.set_cons_succ]
  refine wpAnyH_take (i := 2) (v := ?_) rfl (by kernel_rfl) (by kernel_rfl) (by kernel_rfl) (fun _ _ _ h => h) (Or.inl ⟨by kernel_rfl, ?_⟩) hS ?_
  rotate_left 1
  · (intro w' hS'; clear hS'; go_simp; try with_reducible rfl)
  simp only [List.getElem_toArray, List.getElem_cons_zero, List.getElem_cons_succ, Act.put, List.setIfInBounds_toArray, List.set_cons_zero, List.set_cons_succ]
  refine wpAnyH_take (i := 3) (v := ?_) rfl (by kernel_rfl) (by kernel_rfl) (by kernel_rfl) (fun _ _ _ h => h) (Or.inl ⟨by kernel_rfl, ?_⟩) hS ?_
  rotate_left 1
  · (intro w' hS'; have h1 := D0.out w' hS'; clear hS'; go_simp; try with_reducible rfl)
  simp only [List.getElem_toArray, List.getElem_cons_zero, List.getElem_cons_succ, Act.put, List.setIfInBounds_toArray, List.set_cons_zero, List.set_cons_succ]
  refine wpAnyH_take (i := 4) (v := ?_) rfl (by kernel_rfl) (by kernel_rfl) (by kernel_rfl) (fun _ _ _ h => h) (Or.inl ⟨by kernel_rfl, ?_⟩) hS ?_
  rotate_left 1
  · (intro w' hS'; clear hS'; go_simp; try with_reducible rfl)
  simp only [List.getElem_toArray, List.getElem_cons_zero, List.getElem_cons_succ, Act.put, List.setIfInBounds_toArray, List.set_cons_zero, List.set_cons_succ]
  refine wpAnyH_take (i := 5) (v := ?_) rfl (by kernel_rfl) (by kernel_rfl) (by kernel_rfl) (fun _ _ _ h => h) (Or.inl ⟨by kernel_rfl, ?_⟩) hS ?_
  rotate_left 1
  · (intro w' hS'; have h1 := (DB.out w' hS').1; clear hS'; go_simp; try with_reducible rfl)
  simp only [List.getElem_toArray, List.getElem_cons_zero, List.getElem_cons_succ, Act.put, List.setIfInBounds_toArray, List.set_cons_zero, List.set_cons_succ]
  refine wpAnyH_take (i := 6) rfl (by kernel_rfl) (by kernel_rfl) (by kernel_rfl) (fun _ _ _ h => h) (tylook (by kernel_rfl) (by exact ⟨_, _, rfl, rfl, rfl⟩) (fun w' hS' => L2.out w' hS')) hS ?_
  simp only [List.getElem_toArray, List.getElem_cons_zero, List.getElem_cons_succ, Act.put, List.setIfInBounds_toArray, List.set_cons_zero, List.set_cons_succ]
  refine wpAnyH_take (i := 7) (v := ?_) rfl (by kernel_rfl) (by kernel_rfl) (by kernel_rfl) (fun _ _ _ h => h) (Or.inl ⟨by kernel_rfl, ?_⟩) hS ?_
  rotate_left 1
  · (intro w' hS'; clear hS'; go_simp; try with_reducible rfl)
  simp only [List.getElem_toArray, List.getElem_cons_zero, List.getElem_cons_succ, Act.put, List.setIfInBounds_toArray, List.set_cons_zero, List.set_cons_succ]
  refine wpAnyH_take (i := 8) (v := ?_) rfl (by kernel_rfl) (by kernel_rfl) (by kernel_rfl) (fun _ _ _ h => h) (Or.inl ⟨by kernel_rfl, ?_⟩) hS ?_
  rotate_left 1
  · (intro w' hS'; clear hS'; go_simp; try with_reducible rfl)
  simp only [List.getElem_toArray, List.getElem_cons_zero, List.getElem_cons_succ, Act.put, List.setIfInBounds_toArray, List.set_cons_zero, List.set_cons_succ]
  refine wpAnyH_take (i := 9) (v := ?_) rfl (by kernel_rfl) (by kernel_rfl) (by kernel_rfl) (fun _ _ _ h => h) (Or.inl ⟨by kernel_rfl, ?_⟩) hS ?_
  rotate_left 1
  · (intro w' hS'; have h1 := (DB.out w' hS').2; clear hS'; go_simp; try with_reducible rfl)
  simp only [List.getElem_toArray, List.getElem_cons_zero, List.getElem_cons_succ, Act.put, List.setIfInBounds_toArray, List.set_cons_zero, List.set_cons_succ]
  refine wpAnyH_ready (rs := [10]) (by kernel_rfl) (by simp) ?_
  refine AllReadyH.cons rfl (fun K1 hK1 => ?_) (AllReadyH.nil)
  go_simp
  refine KT.out.mono ?_
  rintro e w10 ⟨rfl, fx, hfin⟩
  have FX := hid fx
  have HFIN := hid hfin
  clear hfin
  refine hK1.out _ _ (hS.trans fx (fun _ _ h => h)) (fun hS => ?_)
  clear fx
  clear hK1 K1
  simp only [List.getElem_toArray, List.getElem_cons_zero, List.getElem_cons_succ, Act.put, List.setIfInBounds_toArray, List.set_cons_zero, List.set_cons_succ]
  refine wpAnyH_done (by kernel_rfl) ?_ _
  clear hS
  go_wp2
  go_end0
  exact ⟨rfl, HEND.out _ FX.out HFIN.out⟩
end Go.Proofs.YtilbdpnioajkoaaGreat

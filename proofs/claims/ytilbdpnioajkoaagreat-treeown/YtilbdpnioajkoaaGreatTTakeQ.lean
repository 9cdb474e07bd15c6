/-
  A node comes under another one: take, where none of that name is there yet.
-/
import Derived.Test.YtilbdpnioajkoaaGreatMg6
namespace Go.Proofs.YtilbdpnioajkoaaGreat
open Go.RowKit Go.Maps
set_option linter.unusedVariables false
set_option maxRecDepth 100000
set_option linter.unusedSimpArgs false

theorem search_nil (n : Int) (w : World) : Calls Tryz.prog 131 #[.slice none 0 0, .int .i64 n] w fun e w' => e = .returned (.tuple #[.int .i64 0, .bool false]) ∧ w = w' := by
  go_enter Tryz.func131, Tryz.ntmps131
  go_wp2
  refine wp_loop_rounds 1 ?_
  rw [rounds_succ]
  go_wp2
  go_ret2
  exact ⟨rfl, rfl⟩
theorem infoI : (Tryz.prog.info? 2).map (fun i => (i.zero, i.size, i.bytes)) = some (some (.int .i64 0), 1, 8) := by kernel_rfl
/-- append onto a row of numbers -/
theorem append_i (w : World) (ty : TypeId) (a : Option Addr) (n c : Nat) (xs : List Value) (hown : Ro w 2 1 a n c xs) (b o m sc : Nat) (news : List Value) (hl : news.length = m) (hnews : ∀ j u, news[j]? = some u → w.cell? ⟨b, o + j, none⟩ = some u) (h1 : ∀ u ∈ news, u.oneCell' = true) (hm : 0 < m) (h63 : n + m ≤ 20000000000000) :
    ∃ a' c' w', (Builtin.append_ #[100, 100] ty #[.slice a n c, .slice (some ⟨b, o, none⟩) m sc]).run Tryz.prog w = .ok (.slice a' (n + m) c') w' ∧ Ro w' 2 1 a' (n + m) c' (xs ++ news) ∧ Fr (fun i => blk a = some i) w w' ∧
      ((a' = a ∧ c' = c) ∨ (a' = some ⟨w.heap.size, 0, none⟩ ∧ Fr (fun _ => False) w w')) := by
  obtain ⟨i, hi, hp⟩ := Option.map_eq_some_iff.1 infoI
  simp only [Prod.mk.injEq] at hp
  obtain ⟨a', c', w', r, ro, gr, wh⟩ := run_append_o w 100 ty 2 i (.int .i64 0) 1 8 Tryz.underlying100 hi hp.1 hp.2.1 hp.2.2 rfl (by decide) a n c xs hown ⟨b, o, none⟩ m sc news (by omega) (fun j u hu => by rw [Addr.add_lit]; exact hnews j u hu) h1 hm (by omega) (by omega)
  refine ⟨a', c', w', r, ro, Fr.of_grown gr, ?_⟩
  rcases wh with h | ⟨h, g⟩
  · exact .inl h
  · exact .inr ⟨h, (Fr.of_grown g).mono (fun _ _ h => by cases h)⟩
theorem insert_nil (n : Int) (b : Nat) (w : World) (hb : w.cell? ⟨b, 0, none⟩ = some (.int .i64 n)) : Calls Tryz.prog 132 #[.slice none 0 0, .int .i64 0, .slice (some ⟨b, 0, none⟩) 1 1] w fun e w' => ∃ r cap, e = .returned (.slice (some ⟨r, 0, none⟩) 1 cap) ∧ w.heap.size ≤ r ∧ Ro w' 2 1 (some ⟨r, 0, none⟩) 1 cap [.int .i64 n] ∧ Fr (fun _ => False) w w' := by
  obtain ⟨a', c', w', r, ro, fr, wh⟩ := append_i w 100 none 0 0 [] (Ro.nil _ _ _) b 0 1 1 [.int .i64 n] rfl (fun j u hu => by
    cases j with
    | zero => cases hu; exact hb
    | succ j => simp at hu) (fun u hu => by simp at hu; subst hu; rfl) (by decide) (by decide)
  have wh : a' = some ⟨w.heap.size, 0, none⟩ ∧ Fr (fun _ => False) w w' := by
    rcases wh with ⟨h, h2⟩ | h
    · subst h
      rcases ro.2 with ⟨_, h, _⟩ | ⟨g, o, cur, h, _⟩
      · cases h
      · cases h
    · exact h
  obtain ⟨rfl, hf⟩ := wh
  have R := hid r
  have RO := hid ro
  have F1 := hid hf
  clear r ro fr hf
  go_enter Tryz.func132, Tryz.ntmps132
  go_wp2_with (refine wpList_append_eq _ _ rfl _ _ _ rfl _ _ _ rfl rfl R.out ?_)
  go_ret
  exact ⟨_, _, rfl, Nat.le_refl _, RO.out, F1.out⟩
theorem take_done {c : Nat → Option T.Col} {w W w9 w10 : World} {bud b ub : Nat} {k : Int} {x : T.Nd} {ks : ByteArray → List Int} {av : Option Nat} {g : ByteArray → Option Value} {m r cap : Nat} {n : Int} {s : ByteArray} (hN : Nf c W bud b k x ks av (some ub) g m) (hl : Lo c W.heap.size) (hw : w.heap.size ≤ W.heap.size)
    (F9 : Fr (fun _ => False) W w9) (f10 : Fr (fun i => i = ub) w9 w10) (ro : Ro w9 2 1 (some ⟨r, 0, none⟩) 1 cap [.int .i64 n]) (hr : W.heap.size ≤ r) (mp : Mp 9 litS w10 ub (at_ g s (some (.slice (some ⟨r, 0, none⟩) 1 cap))) (if (g s).isSome then m else m + 1)) :
    ∃ c', More c c' W.heap.size ∧ Lo c' w10.heap.size ∧ Nm c' w10 (bud + 1) b k x (fun y => if y = s then [n] else ks y) := by
  have hub : ub < W.heap.size := hl ub (by rw [hN.cu ub rfl]; simp)
  have hrl : r < w9.heap.size := ro.lt r rfl
  have hc : ∀ i col, c i = some col → (fun i => if i = r then some (T.Col.row k s) else c i) i = some col := fun i col e => by
    have : i ≠ r := fun e2 => by have := hl i (by rw [e]; simp); omega
    simp only [if_neg this]
    exact e
  refine ⟨fun i => if i = r then some (.row k s) else c i, fun i hi => ?_, fun i hi => ?_, av, some ub, _, _, hN.turned rfl (S := fun i => i = ub) (l := [n]) (o := some (.slice (some ⟨r, 0, none⟩) 1 cap)) ((F9.mono (fun _ _ h => h.elim)).trans f10 (fun _ _ h => h)) (fun i col e _ hne _ e2 => ?_) hc mp ?_ ?_⟩
  · have : i ≠ r := by omega
    simp only [if_neg this]
  · by_cases e : i = r
    · have := f10.size; omega
    · simp only [if_neg e] at hi
      have h1 := hl i hi
      have h2 := F9.size
      have h3 := f10.size
      omega
  · subst e2
    rw [hN.cu i rfl] at e
    cases e
    exact hne rfl
  · have := hN.few
    split <;> omega
  · refine .inr ⟨by simp, _, _, rfl, ro.kept f10 (fun j hj e => ?_), fun i hi => ?_⟩
    · have e3 : r = ub := by cases hj; exact e
      omega
    · cases hi
      simp
set_option maxHeartbeats 3200000 in
theorem take_first {c : Nat → Option T.Col} {w : World} {bud b : Nat} {k : Int} {x : T.Nd} {ks : ByteArray → List Int} (h : Nm c w bud b k x ks) (hl : Lo c w.heap.size) (hb : bud < 1000000000000000000) (n : Int) {s : ByteArray} (hs : s.size ≤ maxLen) (hk : ks s = []) :
    Calls Tryz.prog 107 #[ptr b, .int .i64 n, .string s] w fun e w' => e = .returned (.tuple #[]) ∧ Fr (T.Mine c k) w w' ∧ ∃ c', More c c' w.heap.size ∧ Lo c' w'.heap.size ∧ Nm c' w' (bud + 1) b k x (fun y => if y = s then [n] else ks y) := by
  obtain ⟨av, uv, g, m, hN⟩ := h
  have hg : g s = none := by
    rcases hN.row s with h | h
    · exact h.2
    · exact absurd hk h.1
  have HM := hid (show m ≤ 1000000000000000000 by have := hN.few; omega)
  have hmm := @run_makeMap Tryz.prog
  have q : ∀ r : Option Nat, ∀ w, (binOp .eql 78 (.map r) (.map none)).run Tryz.prog w = .ok (.bool r.isNone) w := fun r w => run_eql_map_nil w _ _ _ r Tryz.underlying78
  have KS := hid (search_nil n)
  have KI := hid (insert_nil n)
  cases uv with
  | some ub =>
    have hne : b ≠ ub := fun e => by have := hN.cb; rw [e, hN.cu ub rfl] at this; cases this
    have HC := hid (show ∀ V, Fr (fun i => i = ub) w V → V.cell? ⟨b, 3, none⟩ = some (.map (some ub)) from fun V hf => cellA (j := 3) (hf.cells hN.cells hne) rfl)
    have c3 := HC.out w (Fr.refl _ _)
    have MP : Hid (Mp 9 litS w ub g m) := hid hN.und
    have HL := hid (hN.und.look keyS Tryz.underlying78 (zeroRow w) (keyOfS hs))
    rw [hg] at HL
    simp only [Option.getD_none] at HL
    have HN := hid hN
    have HLO := hid hl
    clear hN hl hg hk hb
    go_enter Tryz.func107, Tryz.ntmps107
    go_wp2_with (first
      | (refine wpList_look_v HL.out (by exact ⟨_, _, rfl, rfl, rfl⟩) (by kernel_rfl) ?_)
      | (go_at_call 131; refine (KS.out _).mono ?_; rintro e wx ⟨rfl, rfl⟩))
    have hmx : Tryz.prog.follows .mixedOrders = true := by kernel_rfl
    refine wp_region_held (S := fun V => Fr (fun i => i = ub) w V) hmx ?_
    have hS := (Fr.drew (Fr.refl (fun i => i = ub) w))
    simp only [List.size_toArray, List.length_cons, List.length_nil, Nat.reduceAdd, Array.replicate_succ, Array.replicate_zero, List.push_toArray, List.nil_append, List.cons_append]
    refine wpAnyH_take (i := 0) (v := ?_) rfl (by kernel_rfl) (by kernel_rfl) (by kernel_rfl) (fun _ _ _ h => h) (Or.inl ⟨by kernel_rfl, ?_⟩) hS ?_
    rotate_left 1
    · (intro w' hS'; clear hS'; go_simp; try with_reducible rfl)
    simp only [List.getElem_toArray, List.getElem_cons_zero, List.getElem_cons_succ, Act.put, List.setIfInBounds_toArray, List.set_cons_zero, List.set_cons_succ]
    refine wpAnyH_take (i := 1) (v := ?_) rfl (by kernel_rfl) (by kernel_rfl) (by kernel_rfl) (fun _ _ _ h => h) (Or.inl ⟨by kernel_rfl, ?_⟩) hS ?_
    rotate_left 1
    · (intro w' hS'; clear hS'; go_simp; try with_reducible rfl)
    simp only [List.getElem_toArray, List.getElem_cons_zero, List.getElem_cons_succ, Act.put, List.setIfInBounds_toArray, List.set_cons_zero, List.set_cons_succ]
    refine wpAnyH_take (i := 2) (v := ?_) rfl (by kernel_rfl) (by kernel_rfl) (by kernel_rfl) (fun _ _ _ h => h) (Or.inl ⟨by kernel_rfl, ?_⟩) hS ?_
    rotate_left 1
    · (intro w' hS'; clear hS'; go_simp; try with_reducible rfl)
    simp only [List.getElem_toArray, List.getElem_cons_zero, List.getElem_cons_succ, Act.put, List.setIfInBounds_toArray, List.set_cons_zero, List.set_cons_succ]
    refine wpAnyH_take (i := 3) (v := ?_) rfl (by kernel_rfl) (by kernel_rfl) (by kernel_rfl) (fun _ _ _ h => h) (Or.inl ⟨by kernel_rfl, ?_⟩) hS ?_
    rotate_left 1
    · (intro w' hS'; have h1 := HC.out w' hS'; clear hS'; go_simp; try with_reducible rfl)
    simp only [List.getElem_toArray, List.getElem_cons_zero, List.getElem_cons_succ, Act.put, List.setIfInBounds_toArray, List.set_cons_zero, List.set_cons_succ]
    refine wpAnyH_take (i := 4) (v := ?_) rfl (by kernel_rfl) (by kernel_rfl) (by kernel_rfl) (fun _ _ _ h => h) (Or.inl ⟨by kernel_rfl, ?_⟩) hS ?_
    rotate_left 1
    · (intro w' hS'; clear hS'; go_simp; try with_reducible rfl)
    simp only [List.getElem_toArray, List.getElem_cons_zero, List.getElem_cons_succ, Act.put, List.setIfInBounds_toArray, List.set_cons_zero, List.set_cons_succ]
    refine wpAnyH_take (i := 5) (v := ?_) rfl (by kernel_rfl) (by kernel_rfl) (by kernel_rfl) (fun _ _ _ h => h) (Or.inl ⟨by kernel_rfl, ?_⟩) hS ?_
    rotate_left 1
    · (intro w' hS'; clear hS'; go_simp; try with_reducible rfl)
    simp only [List.getElem_toArray, List.getElem_cons_zero, List.getElem_cons_succ, Act.put, List.setIfInBounds_toArray, List.set_cons_zero, List.set_cons_succ]
    refine wpAnyH_take (i := 6) (v := ?_) rfl (by kernel_rfl) (by kernel_rfl) (by kernel_rfl) (fun _ _ _ h => h) (Or.inl ⟨by kernel_rfl, ?_⟩) hS ?_
    rotate_left 1
    · (intro w' hS'; clear hS'; go_simp; try with_reducible rfl)
    simp only [List.getElem_toArray, List.getElem_cons_zero, List.getElem_cons_succ, Act.put, List.setIfInBounds_toArray, List.set_cons_zero, List.set_cons_succ]
    refine wpAnyH_take (i := 7) (v := ?_) rfl (by kernel_rfl) (by kernel_rfl) (by kernel_rfl) (fun _ _ _ h => h) (Or.inl ⟨by kernel_rfl, ?_⟩) hS ?_
    rotate_left 1
    · (intro w' hS'; clear hS'; go_simp; try with_reducible rfl)
    simp only [List.getElem_toArray, List.getElem_cons_zero, List.getElem_cons_succ, Act.put, List.setIfInBounds_toArray, List.set_cons_zero, List.set_cons_succ]
    refine wpAnyH_ready (rs := [8]) (by kernel_rfl) (by simp) ?_
    refine AllReadyH.cons rfl (fun K1 hK1 => ?_) AllReadyH.nil
    go_simp
    refine hK1.out _ _ (Fr.alloc hS _) (fun hS => ?_)
    clear hK1 K1
    simp only [List.getElem_toArray, List.getElem_cons_zero, List.getElem_cons_succ, Act.put, List.setIfInBounds_toArray, List.set_cons_zero, List.set_cons_succ]
    refine wpAnyH_ready (rs := [9]) (by kernel_rfl) (by simp) ?_
    refine AllReadyH.cons rfl (fun K1 hK1 => ?_) AllReadyH.nil
    go_simp
    refine (KI.out _ _ (by exact cellA (j := 0) (Go.heap_alloc_new _ _) rfl)).mono ?_
    rintro e w9 ⟨r, cap, rfl, hr, ro, fx⟩
    have F9 : Hid (Fr (fun _ => False) w w9) := hid ((by first | exact Fr.drew (Fr.alloc (Fr.refl (fun _ => False) _) _) | exact Fr.alloc (Fr.drew (Fr.refl (fun _ => False) _)) _ : Fr (fun _ => False) w _).trans fx (fun _ _ h => h))
    have HR : Hid (w.heap.size ≤ r) := hid (Nat.le_trans (by first | exact (Fr.drew (Fr.alloc (Fr.refl (fun _ => False) _) _)).size | exact (Fr.alloc (Fr.drew (Fr.refl (fun _ => False) _)) _).size) hr)
    have RO := hid ro
    clear ro hr
    refine hK1.out _ _ (hS.trans fx (fun _ _ h => h.elim)) (fun hS => ?_)
    clear fx
    clear hK1 K1
    simp only [List.getElem_toArray, List.getElem_cons_zero, List.getElem_cons_succ, Act.put, List.setIfInBounds_toArray, List.set_cons_zero, List.set_cons_succ]
    refine wpAnyH_ready (rs := [10]) (by kernel_rfl) (by simp) ?_
    refine AllReadyH.cons rfl (fun K1 hK1 => ?_) AllReadyH.nil
    obtain ⟨w10, r10, mp, f10⟩ := Mp.store (MP.out.kept F9.out (fun h => h)) litS_inj keyS Tryz.underlying78 (Nat.lt_of_le_of_lt HM.out (by decide)) (keyOfS hs) (.slice (some ⟨r, 0, none⟩) 1 cap)
    refine tstep_upd (by kernel_rfl) r10 (by exact ⟨_, _, _, rfl, rfl, rfl, rfl⟩) ?_
    refine hK1.out _ _ (hS.trans f10 (fun _ _ h => h)) (fun hS => ?_)
    clear hK1 K1
    simp only [List.getElem_toArray, List.getElem_cons_zero, List.getElem_cons_succ, Act.put, List.setIfInBounds_toArray, List.set_cons_zero, List.set_cons_succ]
    refine wpAnyH_done (by kernel_rfl) ?_ _
    have FIN := hid (take_done (w := w) HN.out HLO.out (Nat.le_refl _) F9.out f10 RO.out HR.out mp)
    have FFR := hid (show Fr (T.Mine c k) w w10 from hS.mono (fun i _ e => ⟨.under k, by rw [e]; exact HN.out.cu ub rfl, rfl⟩))
    clear hS f10 mp r10
    go_wp2
    go_end0
    exact ⟨rfl, FFR.out, FIN.out⟩
  | none =>
    obtain ⟨W, hW⟩ : ∃ W, (w.setCell ⟨b, 3, none⟩ (.map (some w.heap.size))).alloc (.map #[] 0) = W := ⟨_, rfl⟩
    obtain ⟨ub, hub⟩ : ∃ ub, w.heap.size = ub := ⟨_, rfl⟩
    have hbl : b < w.heap.size := hl b (by rw [hN.cb]; simp)
    have c3 : w.cell? ⟨b, 3, none⟩ = some (.map none) := cellA (j := 3) hN.cells rfl
    have f0 : Fr (fun i => i = b) w W := by
      rw [← hW]
      exact Fr.alloc (Fr.setCell (p := ⟨b, 3, none⟩) (Fr.refl (fun i => i = b) _) (fun _ => rfl) _) _
    have hbW : W.heap[b]? = some (.cells #[.int .i64 x.par, .string x.nm, .map av, .map (some ub)] 80 (0, 0)) := by
      rw [← hW, ← hub]
      exact (Fr.alloc (Fr.refl (fun _ => False) _) _).cells (setCell_row (j := 3) hN.cells (.map (some w.heap.size))) (fun h => h)
    have hsz : W.heap.size = ub + 1 := by rw [← hW, alloc_size, setCell_size, hub]
    have mpW : Mp 9 litS W ub (fun _ => none) 0 := by
      have := Mp.made (κ := ByteArray) 9 litS (w.setCell ⟨b, 3, none⟩ (.map (some w.heap.size)))
      rw [setCell_size, hub, ← hub, hW, hub] at this
      exact this
    have hg0 : g = fun _ => none := funext hN.und.1
    have hm0 : m = 0 := hN.und.2
    subst hg0 hm0
    have hNW : Nf (fun i => if i = ub then some (.under k) else c i) W bud b k x ks av (some ub) (fun _ => none) 0 := by
      have hc : ∀ i col, c i = some col → (fun i => if i = ub then some (T.Col.under k) else c i) i = some col := fun i col e => by
        have : i ≠ ub := fun e2 => by have := hl i (by rw [e]; simp); omega
        simp only [if_neg this]
        exact e
      refine ⟨hbW, hc _ _ hN.cb, fun i e => hc _ _ (hN.ca i e), fun i e => by cases e; simp, hN.att.kept f0 (fun i e e2 => ?_), mpW, hN.few, fun s => ?_⟩
      · have := hN.ca i e
        rw [e2, hN.cb] at this
        cases this
      · rcases hN.row s with h | ⟨h, a, cap, e, _⟩
        · exact .inl h
        · cases e
    have hlW : Lo (fun i => if i = ub then some (.under k) else c i) W.heap.size := fun i hi => by
      by_cases e : i = ub
      · omega
      · simp only [if_neg e] at hi
        have := hl i hi
        omega
    have hne : b ≠ ub := by omega
    have HC := hid (show ∀ V, Fr (fun i => i = ub) W V → V.cell? ⟨b, 3, none⟩ = some (.map (some ub)) from fun V hf => cellA (j := 3) (hf.cells hbW hne) rfl)
    have c4 := HC.out W (Fr.refl _ _)
    have fz : (w.alloc (.map #[] 0)).frozen? ⟨b, 3, none⟩ = false := frozen_of_row ((Fr.alloc (Fr.refl (fun _ => False) w) (.map #[] 0)).cells hN.cells (fun h => h))
    have c5 : (w.alloc (.map #[] 0)).cell? ⟨b, 3, none⟩ = some (.map none) := cellA (j := 3) ((Fr.alloc (Fr.refl (fun _ => False) w) (.map #[] 0)).cells hN.cells (fun h => h)) rfl
    have MP : Hid (Mp 9 litS W ub (fun _ => none) 0) := hid mpW
    have HL := hid (mpW.look keyS Tryz.underlying78 (zeroRow W) (keyOfS hs))
    simp only [Option.getD_none] at HL
    have HN := hid hNW
    have HLO := hid hlW
    have HF0 := hid f0
    have HCB := hid hN.cb
    have HSZ := hid hsz
    have HUB := hid hub
    have HW := hid hW
    clear hN hl hg hk hb hNW hlW hbW mpW f0 hsz hub hW
    go_enter Tryz.func107, Tryz.ntmps107
    go_wp2_with (first
      | (rw [HW.out, HUB.out]; refine wpList_look_v HL.out (by exact ⟨_, _, rfl, rfl, rfl⟩) (by kernel_rfl) ?_)
      | (go_at_call 131; refine (KS.out _).mono ?_; rintro e wx ⟨rfl, rfl⟩))
    have hmx : Tryz.prog.follows .mixedOrders = true := by kernel_rfl
    refine wp_region_held (S := fun V => Fr (fun i => i = ub) W V) hmx ?_
    have hS := (Fr.drew (Fr.refl (fun i => i = ub) W))
    simp only [List.size_toArray, List.length_cons, List.length_nil, Nat.reduceAdd, Array.replicate_succ, Array.replicate_zero, List.push_toArray, List.nil_append, List.cons_append]
    refine wpAnyH_take (i := 0) (v := ?_) rfl (by kernel_rfl) (by kernel_rfl) (by kernel_rfl) (fun _ _ _ h => h) (Or.inl ⟨by kernel_rfl, ?_⟩) hS ?_
    rotate_left 1
    · (intro w' hS'; clear hS'; go_simp; try with_reducible rfl)
    simp only [List.getElem_toArray, List.getElem_cons_zero, List.getElem_cons_succ, Act.put, List.setIfInBounds_toArray, List.set_cons_zero, List.set_cons_succ]
    refine wpAnyH_take (i := 1) (v := ?_) rfl (by kernel_rfl) (by kernel_rfl) (by kernel_rfl) (fun _ _ _ h => h) (Or.inl ⟨by kernel_rfl, ?_⟩) hS ?_
    rotate_left 1
    · (intro w' hS'; clear hS'; go_simp; try with_reducible rfl)
    simp only [List.getElem_toArray, List.getElem_cons_zero, List.getElem_cons_succ, Act.put, List.setIfInBounds_toArray, List.set_cons_zero, List.set_cons_succ]
    refine wpAnyH_take (i := 2) (v := ?_) rfl (by kernel_rfl) (by kernel_rfl) (by kernel_rfl) (fun _ _ _ h => h) (Or.inl ⟨by kernel_rfl, ?_⟩) hS ?_
    rotate_left 1
    · (intro w' hS'; clear hS'; go_simp; try with_reducible rfl)
    simp only [List.getElem_toArray, List.getElem_cons_zero, List.getElem_cons_succ, Act.put, List.setIfInBounds_toArray, List.set_cons_zero, List.set_cons_succ]
    refine wpAnyH_take (i := 3) (v := ?_) rfl (by kernel_rfl) (by kernel_rfl) (by kernel_rfl) (fun _ _ _ h => h) (Or.inl ⟨by kernel_rfl, ?_⟩) hS ?_
    rotate_left 1
    · (intro w' hS'; have h1 := HC.out w' hS'; clear hS'; go_simp; try with_reducible rfl)
    simp only [List.getElem_toArray, List.getElem_cons_zero, List.getElem_cons_succ, Act.put, List.setIfInBounds_toArray, List.set_cons_zero, List.set_cons_succ]
    refine wpAnyH_take (i := 4) (v := ?_) rfl (by kernel_rfl) (by kernel_rfl) (by kernel_rfl) (fun _ _ _ h => h) (Or.inl ⟨by kernel_rfl, ?_⟩) hS ?_
    rotate_left 1
    · (intro w' hS'; clear hS'; go_simp; try with_reducible rfl)
    simp only [List.getElem_toArray, List.getElem_cons_zero, List.getElem_cons_succ, Act.put, List.setIfInBounds_toArray, List.set_cons_zero, List.set_cons_succ]
    refine wpAnyH_take (i := 5) (v := ?_) rfl (by kernel_rfl) (by kernel_rfl) (by kernel_rfl) (fun _ _ _ h => h) (Or.inl ⟨by kernel_rfl, ?_⟩) hS ?_
    rotate_left 1
    · (intro w' hS'; clear hS'; go_simp; try with_reducible rfl)
    simp only [List.getElem_toArray, List.getElem_cons_zero, List.getElem_cons_succ, Act.put, List.setIfInBounds_toArray, List.set_cons_zero, List.set_cons_succ]
    refine wpAnyH_take (i := 6) (v := ?_) rfl (by kernel_rfl) (by kernel_rfl) (by kernel_rfl) (fun _ _ _ h => h) (Or.inl ⟨by kernel_rfl, ?_⟩) hS ?_
    rotate_left 1
    · (intro w' hS'; clear hS'; go_simp; try with_reducible rfl)
    simp only [List.getElem_toArray, List.getElem_cons_zero, List.getElem_cons_succ, Act.put, List.setIfInBounds_toArray, List.set_cons_zero, List.set_cons_succ]
    refine wpAnyH_take (i := 7) (v := ?_) rfl (by kernel_rfl) (by kernel_rfl) (by kernel_rfl) (fun _ _ _ h => h) (Or.inl ⟨by kernel_rfl, ?_⟩) hS ?_
    rotate_left 1
    · (intro w' hS'; clear hS'; go_simp; try with_reducible rfl)
    simp only [List.getElem_toArray, List.getElem_cons_zero, List.getElem_cons_succ, Act.put, List.setIfInBounds_toArray, List.set_cons_zero, List.set_cons_succ]
    refine wpAnyH_ready (rs := [8]) (by kernel_rfl) (by simp) ?_
    refine AllReadyH.cons rfl (fun K1 hK1 => ?_) AllReadyH.nil
    go_simp
    refine hK1.out _ _ (Fr.alloc hS _) (fun hS => ?_)
    clear hK1 K1
    simp only [List.getElem_toArray, List.getElem_cons_zero, List.getElem_cons_succ, Act.put, List.setIfInBounds_toArray, List.set_cons_zero, List.set_cons_succ]
    refine wpAnyH_ready (rs := [9]) (by kernel_rfl) (by simp) ?_
    refine AllReadyH.cons rfl (fun K1 hK1 => ?_) AllReadyH.nil
    go_simp
    refine (KI.out _ _ (by exact cellA (j := 0) (Go.heap_alloc_new _ _) rfl)).mono ?_
    rintro e w9 ⟨r, cap, rfl, hr, ro, fx⟩
    have F9 : Hid (Fr (fun _ => False) W w9) := hid ((by first | exact Fr.drew (Fr.alloc (Fr.refl (fun _ => False) _) _) | exact Fr.alloc (Fr.drew (Fr.refl (fun _ => False) _)) _ : Fr (fun _ => False) W _).trans fx (fun _ _ h => h))
    have HR : Hid (W.heap.size ≤ r) := hid (Nat.le_trans (by first | exact (Fr.drew (Fr.alloc (Fr.refl (fun _ => False) _) _)).size | exact (Fr.alloc (Fr.drew (Fr.refl (fun _ => False) _)) _).size) hr)
    have RO := hid ro
    clear ro hr
    refine hK1.out _ _ (hS.trans fx (fun _ _ h => h.elim)) (fun hS => ?_)
    clear fx
    clear hK1 K1
    simp only [List.getElem_toArray, List.getElem_cons_zero, List.getElem_cons_succ, Act.put, List.setIfInBounds_toArray, List.set_cons_zero, List.set_cons_succ]
    refine wpAnyH_ready (rs := [10]) (by kernel_rfl) (by simp) ?_
    refine AllReadyH.cons rfl (fun K1 hK1 => ?_) AllReadyH.nil
    obtain ⟨w10, r10, mp, f10⟩ := Mp.store (MP.out.kept F9.out (fun h => h)) litS_inj keyS Tryz.underlying78 (Nat.lt_of_le_of_lt HM.out (by decide)) (keyOfS hs) (.slice (some ⟨r, 0, none⟩) 1 cap)
    refine tstep_upd (by kernel_rfl) r10 (by exact ⟨_, _, _, rfl, rfl, rfl, rfl⟩) ?_
    refine hK1.out _ _ (hS.trans f10 (fun _ _ h => h)) (fun hS => ?_)
    clear hK1 K1
    simp only [List.getElem_toArray, List.getElem_cons_zero, List.getElem_cons_succ, Act.put, List.setIfInBounds_toArray, List.set_cons_zero, List.set_cons_succ]
    refine wpAnyH_done (by kernel_rfl) ?_ _
    obtain ⟨c', k1, k2, k3⟩ := take_done (w := w) HN.out HLO.out (by rw [HSZ.out, HUB.out]; exact Nat.le_succ _) F9.out f10 RO.out HR.out mp
    have FIN := hid (show ∃ c', More c c' w.heap.size ∧ Lo c' w10.heap.size ∧ Nm c' w10 (bud + 1) b k x (fun y => if y = s then [n] else ks y) from ⟨c', fun i hi => by
      have h1 := HSZ.out
      have h2 := HUB.out
      rw [k1 i (by omega)]
      simp only [if_neg (show i ≠ ub by omega)], k2, k3⟩)
    have FFR := hid (show Fr (T.Mine c k) w w10 from (HF0.out.mono (fun i _ e => ⟨.node k, by rw [e]; exact HCB.out, rfl⟩)).trans hS (fun i hi e => absurd e (by have := HUB.out; omega)))
    clear hS f10 mp r10 k1 k2 k3
    go_wp2
    go_end0
    exact ⟨rfl, FFR.out, FIN.out⟩
end Go.Proofs.YtilbdpnioajkoaaGreat

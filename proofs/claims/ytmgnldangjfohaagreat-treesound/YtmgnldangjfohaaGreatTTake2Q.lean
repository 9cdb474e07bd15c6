/-
  A node comes under another one: take.
-/
import Derived.Test.YtmgnldangjfohaaGreatMg15
namespace Go.Proofs.YtmgnldangjfohaaGreat
open Go.RowKit Go.Maps
set_option linter.unusedVariables false
set_option maxRecDepth 100000
set_option linter.unusedSimpArgs false

theorem take_done2 {c : Nat → Option T.Col} {W w9 w10 : World} {bud b ub : Nat} {k : Int} {x : T.Nd} {ks : ByteArray → List Int} {av : Option Nat} {g : ByteArray → Option Value} {m cap : Nat} {a a' : Option Addr} {l : List Int} {s : ByteArray} (hN : Nf c W bud b k x ks av (some ub) g m) (hl : Lo c W.heap.size) (hl0 : l ≠ []) (hca : ∀ i, blk a = some i → c i = some (.row k s))
    (F9 : Fr (fun i => blk a = some i) W w9) (f10 : Fr (fun i => i = ub) w9 w10) (ro : Ro w9 2 1 a' l.length cap (l.map (Value.int .i64))) (hr : blk a' = blk a ∨ ∃ r, blk a' = some r ∧ W.heap.size ≤ r) (mp : Mp 9 litS w10 ub (at_ g s (some (.slice a' l.length cap))) (if (g s).isSome then m else m + 1)) :
    ∃ c', More c c' W.heap.size ∧ Lo c' w10.heap.size ∧ Nm c' w10 (bud + 1) b k x (fun y => if y = s then l else ks y) := by
  have hub : ub < W.heap.size := hl ub (by rw [hN.cu ub rfl]; simp)
  obtain ⟨r, hr1⟩ : ∃ r, blk a' = some r := by
    obtain ⟨g, fo, e⟩ := ro.some_of (by cases l with | nil => exact absurd rfl hl0 | cons a b => simp)
    rw [e]
    exact ⟨g, rfl⟩
  have hrl : r < w9.heap.size := ro.lt r hr1
  have hrc : c r = some (.row k s) ∨ W.heap.size ≤ r := by
    rcases hr with h | ⟨r', h, h2⟩
    · exact .inl (hca r (by rw [← h]; exact hr1))
    · rw [hr1] at h; cases h; exact .inr h2
  have hru : r ≠ ub := fun e => by
    rcases hrc with h | h
    · rw [e, hN.cu ub rfl] at h; cases h
    · omega
  have hc : ∀ i col, c i = some col → (fun i => if i = r then some (T.Col.row k s) else c i) i = some col := fun i col e => by
    by_cases e2 : i = r
    · simp only [if_pos e2]
      rcases hrc with h | h
      · rw [e2, h] at e; exact e
      · have := hl i (by rw [e]; simp); omega
    · simp only [if_neg e2]
      exact e
  have fW : Fr (fun i => i = ub ∨ blk a = some i) W w10 := (F9.mono (fun _ _ h => .inr h)).trans f10 (fun _ _ h => .inl h)
  refine ⟨fun i => if i = r then some (.row k s) else c i, fun i hi => ?_, fun i hi => ?_, av, some ub, _, _, hN.turned rfl (l := l) (o := some (.slice a' l.length cap)) fW (fun i col e _ hne hne2 e2 => ?_) hc mp ?_ ?_⟩
  · by_cases e : i = r
    · simp only [if_pos e]
      rcases hrc with h | h
      · rw [e, h]
      · omega
    · simp only [if_neg e]
  · by_cases e : i = r
    · have := f10.size; omega
    · simp only [if_neg e] at hi
      have h1 := hl i hi
      have h2 := F9.size
      have h3 := f10.size
      omega
  · rcases e2 with e2 | e2
    · subst e2
      rw [hN.cu i rfl] at e
      cases e
      exact hne rfl
    · rw [hca i e2] at e
      cases e
      exact hne2 rfl
  · have := hN.few
    split <;> omega
  · refine .inr ⟨hl0, _, _, rfl, ro.kept f10 (fun j hj e => ?_), fun i hi => ?_⟩
    · rw [hr1] at hj; cases hj; exact hru e
    · rw [hr1] at hi; cases hi
      simp
set_option maxHeartbeats 3200000 in
theorem take_any {c : Nat → Option T.Col} {w : World} {bud b : Nat} {k : Int} {x : T.Nd} {ks : ByteArray → List Int} (h : Nm c w bud b k x ks) (hl : Lo c w.heap.size) (hb : bud < 1000000000000000000) (n : Int) {s : ByteArray} (hs : s.size ≤ maxLen) (hr : T.Rise (ks s)) (hn : n ∉ ks s) (hlen : (ks s).length < 10000000000000) :
    Calls Tryz.prog 109 #[ptr b, .int .i64 n, .string s] w fun e w' => e = .returned (.tuple #[]) ∧ Fr (T.Mine c k) w w' ∧ ∃ c', More c c' w.heap.size ∧ Lo c' w'.heap.size ∧ Nm c' w' (bud + 1) b k x (fun y => if y = s then T.insI n (ks s) else ks y) := by
  by_cases hk : ks s = []
  · have := take_first h hl hb n hs hk
    rw [hk]
    exact this
  obtain ⟨av, uv, g, m, hN⟩ := h
  obtain ⟨a, cap, hga, hRo, hca⟩ : ∃ a cap, (g s).getD (.slice none 0 0) = .slice a (ks s).length cap ∧ Ro w 2 1 a (ks s).length cap ((ks s).map (Value.int .i64)) ∧ ∀ i, blk a = some i → c i = some (.row k s) := by
    rcases hN.row s with ⟨h1, h2⟩ | ⟨h1, a, cap, h2, h3, h4⟩
    · exact ⟨none, 0, by rw [h2, h1]; rfl, by rw [h1]; exact Ro.nil _ _ _, fun i e => by cases e⟩
    · exact ⟨a, cap, by rw [h2]; rfl, h3, h4⟩
  have hins := T.insI_low hr hn
  have hne0 : T.insI n (ks s) ≠ [] := fun e => by have := T.length_insI n (ks s); rw [e] at this; simp at this
  have hil := T.length_insI n (ks s)
  have HM := hid (show m ≤ 1000000000000000000 by have := hN.few; omega)
  have hmm := @run_makeMap Tryz.prog
  have q : ∀ r : Option Nat, ∀ w, (binOp .eql 85 (.map r) (.map none)).run Tryz.prog w = .ok (.bool r.isNone) w := fun r w => run_eql_map_nil w _ _ _ r Tryz.underlying85
  cases uv with
  | some ub =>
    have hne : b ≠ ub := fun e => by have := hN.cb; rw [e, hN.cu ub rfl] at this; cases this
    have hba : blk a ≠ some b := fun e => by have := hca b e; rw [hN.cb] at this; cases this
    have HUA := hid (show ¬ (blk a = some ub) from fun e => by have := hca ub e; rw [hN.cu ub rfl] at this; cases this)
    have HC := hid (show ∀ V, Fr (fun i => i = ub ∨ blk a = some i) w V → V.cell? ⟨b, 3, none⟩ = some (.map (some ub)) from fun V hf => cellA (j := 3) (hf.cells hN.cells (fun e => e.elim hne hba)) rfl)
    have c3 := HC.out w (Fr.refl _ _)
    have MP : Hid (Mp 9 litS w ub g m) := hid hN.und
    have HL := hid (hN.und.look keyS Tryz.underlying85 (zeroRow w) (keyOfS hs))
    rw [hga] at HL
    have KS := hid (tsearch_any w a cap (ks s) n hRo hr (by omega))
    have halt : ∀ i, blk a = some i → i < w.heap.size := hRo.lt
    have KI := hid (fun (w1 : World) (f1 : Fr (fun _ => False) w w1) => fun (V : World) (fV : Fr (fun _ => False) w1 V) (B : Nat) (hB : V.heap[B]? = some (.cells #[.int .i64 n] 2 (0, 0))) (hBa : blk a ≠ some B) => insert_any n B V a cap (ks s) (hRo.kept (f1.trans fV (fun _ _ h => h)) (fun _ _ h => h)) 2 hB hBa (T.low n (ks s)) (T.low_le _ _) hlen)
    have HN := hid hN
    have HLO := hid hl
    have HIL := hid hil
    have HINS := hid hins
    have HNE := hid hne0
    have HCA := hid hca
    have HALT := hid halt
    have HLEN := hid hlen
    clear hN hl hb hk hil hins hne0 hca halt hRo hga hr hn hne hba hlen
    go_enter Tryz.func109, Tryz.ntmps109
    go_wp2_with (first
      | (refine wpList_look_v HL.out (by exact ⟨_, _, rfl, rfl, rfl⟩) (by kernel_rfl) ?_)
      | (go_at_call 133; refine KS.out.mono ?_; rintro e w1 ⟨rfl, fx1⟩; have FX1 := hid fx1; clear fx1))
    have HN1 := hid (HN.out.kept FX1.out (fun _ _ _ _ h => h))
    have HLO1 := hid (show Lo c w1.heap.size from fun i hi => Nat.lt_of_lt_of_le (HLO.out i hi) FX1.out.size)
    have HC1 := hid (show ∀ V, Fr (fun i => i = ub ∨ blk a = some i) w1 V → V.cell? ⟨b, 3, none⟩ = some (.map (some ub)) from fun V hf => HC.out V ((FX1.out.mono (fun _ _ h => h.elim)).trans hf (fun _ _ h => h)))
    have MP1 := hid (MP.out.kept FX1.out (fun h => h))
    have KI1 := hid (KI.out w1 FX1.out)
    have c3 := HC1.out w1 (Fr.refl _ _)
    have hmx : Tryz.prog.follows .mixedOrders = true := by kernel_rfl
    refine wp_region_held (S := fun V => Fr (fun i => i = ub ∨ blk a = some i) w1 V) hmx ?_
    have hS := (Fr.drew (Fr.refl (fun i => i = ub ∨ blk a = some i) w1))
    simp only [List.size_toArray, List.length_cons, List.length_nil, Nat.reduceAdd, Array.replicate_succ, Array.replicate_zero, List.push_toArray, List.nil_append, List.cons_append]
    refine wpAnyH_take (i := 0) (v := ?_) rfl (by kernel_rfl) (by kernel_rfl) (by kernel_rfl) (fun _ _ _ h => h) (Or.inl ⟨by kernel_rfl, ?_⟩) hS ?_
    rotate_left 1
    · (intro w' hS'; clear hS'; go_simp; try with_reducible rfl)
    simp only [List.getElem_toArray, List.getElem_cons_zero, List.getElem_cons_succ, Act.put, List.setIfInBounds_toArray, List.set_cons_zero, List.set_cons_succ]
    refine wpAnyH_take (i := 1) (v := ?_) rfl (by kernel_rfl) (by kernel_rfl) (by kernel_rfl) (fun _ _ _ h => h) (Or.inl ⟨by kernel_rfl, ?_⟩) hS ?_
    rotate_left 1
    · (intro w' hS'; clear hS'; go_simp; try with_reducible rfl)
    simp only [List.getElem_toArray, List.getElem_cons_zero, List.getElem_cons_succ, Act.put, List.setIfInBounds_toArray, List.set_cons_zero, List.set_cons_succ]
    refine wpAnyH_take (i := 2) (v := ?_) rfl (by kernel_rfl) (by kernel_rfl) (by kernel_rfl) (fun _ _ _ h => h) (Or.inl ⟨by kernel_rfl, ?_⟩) hS ?_
    rotate_left 1
    · (intro w' hS'; clear hS'; go_simp; try with_reducible rfl)
    simp only [List.getElem_toArray, List.getElem_cons_zero, List.getElem_cons_succ, Act.put, List.setIfInBounds_toArray, List.set_cons_zero, List.set_cons_succ]
    refine wpAnyH_take (i := 3) (v := ?_) rfl (by kernel_rfl) (by kernel_rfl) (by kernel_rfl) (fun _ _ _ h => h) (Or.inl ⟨by kernel_rfl, ?_⟩) hS ?_
    rotate_left 1
    · (intro w' hS'; have h1 := HC1.out w' hS'; clear hS'; go_simp; try with_reducible rfl)
    simp only [List.getElem_toArray, List.getElem_cons_zero, List.getElem_cons_succ, Act.put, List.setIfInBounds_toArray, List.set_cons_zero, List.set_cons_succ]
    refine wpAnyH_take (i := 4) (v := ?_) rfl (by kernel_rfl) (by kernel_rfl) (by kernel_rfl) (fun _ _ _ h => h) (Or.inl ⟨by kernel_rfl, ?_⟩) hS ?_
    rotate_left 1
    · (intro w' hS'; clear hS'; go_simp; try with_reducible rfl)
    simp only [List.getElem_toArray, List.getElem_cons_zero, List.getElem_cons_succ, Act.put, List.setIfInBounds_toArray, List.set_cons_zero, List.set_cons_succ]
    refine wpAnyH_take (i := 5) (v := ?_) rfl (by kernel_rfl) (by kernel_rfl) (by kernel_rfl) (fun _ _ _ h => h) (Or.inl ⟨by kernel_rfl, ?_⟩) hS ?_
    rotate_left 1
    · (intro w' hS'; clear hS'; go_simp; try with_reducible rfl)
    simp only [List.getElem_toArray, List.getElem_cons_zero, List.getElem_cons_succ, Act.put, List.setIfInBounds_toArray, List.set_cons_zero, List.set_cons_succ]
    refine wpAnyH_take (i := 6) (v := ?_) rfl (by kernel_rfl) (by kernel_rfl) (by kernel_rfl) (fun _ _ _ h => h) (Or.inl ⟨by kernel_rfl, ?_⟩) hS ?_
    rotate_left 1
    · (intro w' hS'; clear hS'; go_simp; try with_reducible rfl)
    simp only [List.getElem_toArray, List.getElem_cons_zero, List.getElem_cons_succ, Act.put, List.setIfInBounds_toArray, List.set_cons_zero, List.set_cons_succ]
    refine wpAnyH_take (i := 7) (v := ?_) rfl (by kernel_rfl) (by kernel_rfl) (by kernel_rfl) (fun _ _ _ h => h) (Or.inl ⟨by kernel_rfl, ?_⟩) hS ?_
    rotate_left 1
    · (intro w' hS'; clear hS'; go_simp; try with_reducible rfl)
    simp only [List.getElem_toArray, List.getElem_cons_zero, List.getElem_cons_succ, Act.put, List.setIfInBounds_toArray, List.set_cons_zero, List.set_cons_succ]
    refine wpAnyH_ready (rs := [8]) (by kernel_rfl) (by simp) ?_
    refine AllReadyH.cons rfl (fun K1 hK1 => ?_) (AllReadyH.nil)
    go_simp
    refine hK1.out _ _ (by first | exact Fr.drew (Fr.alloc (Fr.refl _ _) _) | exact Fr.alloc hS _) (fun hS => ?_)
    clear hK1 K1
    simp only [List.getElem_toArray, List.getElem_cons_zero, List.getElem_cons_succ, Act.put, List.setIfInBounds_toArray, List.set_cons_zero, List.set_cons_succ]
    refine wpAnyH_ready (rs := [9]) (by kernel_rfl) (by simp) ?_
    refine AllReadyH.cons rfl (fun K1 hK1 => ?_) (AllReadyH.nil)
    go_simp
    refine (KI1.out _ (by first | exact Fr.drew (Fr.alloc (Fr.refl _ _) _) | exact Fr.alloc (Fr.drew (Fr.refl _ _)) _) _ (by exact Go.heap_alloc_new _ _) (by intro e; have h1 := HALT.out _ e; have h2 := FX1.out.size; first | omega | (simp only [World.size_alloc] at h1 h2; omega))).mono ?_
    rintro e w9 ⟨a', cap', rfl, ro, fx, hw⟩
    have F9 : Hid (Fr (fun i => blk a = some i) w1 w9) := hid ((by first | exact Fr.drew (Fr.alloc (Fr.refl (fun i => blk a = some i) _) _) | exact Fr.alloc (Fr.drew (Fr.refl (fun i => blk a = some i) _)) _ : Fr (fun i => blk a = some i) w1 _).trans fx (fun _ _ h => h))
    have HR : Hid (blk a' = blk a ∨ ∃ r, blk a' = some r ∧ w1.heap.size ≤ r) := hid (hw.imp id (fun ⟨r, h1, h2⟩ => ⟨r, h1, Nat.le_trans (by first | exact (Fr.drew (Fr.alloc (Fr.refl (fun _ => False) _) _)).size | exact (Fr.alloc (Fr.drew (Fr.refl (fun _ => False) _)) _).size) h2⟩))
    have RO := hid ro
    clear ro hw
    refine hK1.out _ _ (hS.trans fx (fun _ _ h => .inr h)) (fun hS => ?_)
    clear fx
    clear hK1 K1
    simp only [List.getElem_toArray, List.getElem_cons_zero, List.getElem_cons_succ, Act.put, List.setIfInBounds_toArray, List.set_cons_zero, List.set_cons_succ]
    refine wpAnyH_ready (rs := [10]) (by kernel_rfl) (by simp) ?_
    refine AllReadyH.cons rfl (fun K1 hK1 => ?_) (AllReadyH.nil)
    obtain ⟨w10, r10, mp, f10⟩ := Mp.store (MP1.out.kept F9.out HUA.out) litS_inj keyS Tryz.underlying85 (Nat.lt_of_le_of_lt HM.out (by decide)) (keyOfS hs) (.slice a' ((ks s).length + 1) cap')
    refine tstep_upd (by kernel_rfl) r10 (by exact ⟨_, _, _, rfl, rfl, rfl, rfl⟩) ?_
    refine hK1.out _ _ (hS.trans f10 (fun _ _ h => .inl h)) (fun hS => ?_)
    clear hK1 K1
    simp only [List.getElem_toArray, List.getElem_cons_zero, List.getElem_cons_succ, Act.put, List.setIfInBounds_toArray, List.set_cons_zero, List.set_cons_succ]
    refine wpAnyH_done (by kernel_rfl) ?_ _
    have RO2 := hid (show Ro w9 2 1 a' (T.insI n (ks s)).length cap' ((T.insI n (ks s)).map (Value.int .i64)) by rw [HIL.out, HINS.out]; exact RO.out)
    rw [← HIL.out] at mp
    obtain ⟨c', k1, k2, k3⟩ := take_done2 HN1.out HLO1.out HNE.out HCA.out F9.out f10 RO2.out HR.out mp
    have FIN := hid (show ∃ c', More c c' w.heap.size ∧ Lo c' w10.heap.size ∧ Nm c' w10 (bud + 1) b k x (fun y => if y = s then T.insI n (ks s) else ks y) from ⟨c', fun i hi => k1 i (Nat.lt_of_lt_of_le hi FX1.out.size), k2, k3⟩)
    have FFR := hid (show Fr (T.Mine c k) w w10 from (FX1.out.mono (fun _ _ h => h.elim)).trans hS (fun i _ e => e.elim (fun e => ⟨.under k, by rw [e]; exact HN.out.cu ub rfl, rfl⟩) (fun e => ⟨.row k s, HCA.out i e, rfl⟩)))
    clear hS f10 mp r10 k1 k2 k3
    go_wp2
    go_end0
    exact ⟨rfl, FFR.out, FIN.out⟩
  | none =>
    exfalso
    rcases hN.row s with ⟨h1, _⟩ | ⟨_, a, cap, h2, _⟩
    · exact hk h1
    · rw [hN.und.1 s] at h2
      cases h2
end Go.Proofs.YtmgnldangjfohaaGreat

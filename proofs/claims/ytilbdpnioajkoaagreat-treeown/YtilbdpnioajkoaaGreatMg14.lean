/-
  slices.Delete of one number; a node goes from under another one: lose.
  A node goes from under another one: lose.
-/
import Derived.Test.YtilbdpnioajkoaaGreatMg10
import Derived.Lib.RowBridge
namespace Go.Proofs.YtilbdpnioajkoaaGreat
open Go.RowKit Go.Maps
set_option linter.unusedVariables false
set_option maxRecDepth 100000
set_option linter.unusedSimpArgs false

theorem setCells_row {b : Nat} {t : TypeId} {m : Nat × Nat} : ∀ (vs : List Value) (V : World) (o : Nat) (z : Array Value), V.heap[b]? = some (.cells z t m) → o + vs.length ≤ z.size → (V.setCells b o vs).heap[b]? = some (.cells (z.toList.take o ++ vs ++ z.toList.drop (o + vs.length)).toArray t m)
  | [], V, o, z, hz, ho => by
    simp only [World.setCells, List.length_nil, Nat.add_zero, List.append_nil, List.take_append_drop]
    exact hz
  | v :: r, V, o, z, hz, ho => by
    simp only [List.length_cons] at ho
    simp only [World.setCells]
    rw [setCells_row r _ (o + 1) _ (setCell_row hz v) (by simp; omega)]
    congr 3
    rw [Array.toList_setIfInBounds]
    have h1 : (z.toList.set o v).take (o + 1) = z.toList.take o ++ [v] := by
      rw [List.take_add_one, List.take_set, List.set_eq_of_length_le (by rw [List.length_take]; omega), List.getElem?_set]
      simp
      omega
    have h2 : (z.toList.set o v).drop (o + 1 + r.length) = z.toList.drop (o + (v :: r).length) := by
      rw [List.drop_set_of_lt (by omega)]
      congr 1
      simp
      omega
    rw [h1, h2]
    simp
namespace T
def delI (n : Int) (l : List Int) : List Int := l.filter (fun k => !(k == n))
theorem mem_delI {n k : Int} {l : List Int} : k ∈ delI n l ↔ k ∈ l ∧ k ≠ n := by simp [delI, List.mem_filter]
theorem delI_low {n : Int} : ∀ {l : List Int}, Rise l → n ∈ l → delI n l = l.take (low n l) ++ l.drop (low n l + 1)
  | [], _, h => by cases h
  | y :: r, h, hn => by
    unfold Rise at h
    rw [List.pairwise_cons] at h
    by_cases e : y = n
    · subst e
      have h0 : low y (y :: r) = 0 := by
        unfold low
        rw [List.countP_cons_of_neg (by simp)]
        exact low_all h.1
      rw [h0]
      simp only [List.take_zero, List.nil_append, Nat.zero_add, List.drop_succ_cons, List.drop_zero]
      unfold delI
      rw [List.filter_cons_of_neg (by simp)]
      exact List.filter_eq_self.2 (fun k hk => by have := h.1 k hk; simp; omega)
    · have hr : n ∈ r := by
        rcases List.mem_cons.1 hn with h1 | h1
        · exact absurd h1.symm e
        · exact h1
      have hy := h.1 n hr
      have h0 : low n (y :: r) = low n r + 1 := by
        unfold low
        rw [List.countP_cons_of_pos (by simp; omega)]
      rw [h0]
      simp only [List.take_succ_cons, List.cons_append, List.drop_succ_cons]
      rw [← delI_low h.2 hr]
      unfold delI
      rw [List.filter_cons_of_pos (by simp; omega)]
theorem low_lt {n : Int} : ∀ {l : List Int}, Rise l → n ∈ l → low n l < l.length
  | [], _, h => by cases h
  | y :: r, h, hn => by
    unfold Rise at h
    rw [List.pairwise_cons] at h
    by_cases e : y = n
    · subst e
      unfold low
      rw [List.countP_cons_of_neg (by simp)]
      have := low_all h.1
      unfold low at this
      rw [this]
      simp
    · have hr : n ∈ r := by
        rcases List.mem_cons.1 hn with h1 | h1
        · exact absurd h1.symm e
        · exact h1
      have := low_lt h.2 hr
      have hc := List.countP_le_length (p := fun k => decide (k < n)) (l := r)
      unfold low at this ⊢
      rw [List.countP_cons_of_pos (by have := h.1 n hr; simp; omega)]
      simp
      omega
theorem length_delI {n : Int} {l : List Int} (h : Rise l) (hn : n ∈ l) : (delI n l).length + 1 = l.length := by
  have h1 := low_lt h hn
  rw [delI_low h hn, List.length_append, List.length_take, List.length_drop]
  omega
end T
theorem delete_any (w : World) (a : Option Addr) (c : Nat) (l : List Int) (h : Ro w 2 1 a l.length c (l.map (Value.int .i64))) (i : Nat) (hi : i < l.length) :
    Calls Tryz.prog 162 #[.slice a l.length c, .int .i64 i, .int .i64 ((i + 1 : Nat) : Int)] w fun e w' => e = .returned (.slice a (l.length - 1) c) ∧ Ro w' 2 1 a (l.length - 1) c ((l.take i ++ l.drop (i + 1)).map (Value.int .i64)) ∧ Fr (fun j => blk a = some j) w w' := by
  rcases h.2 with ⟨rfl, h0, _⟩ | ⟨g, o, cur, rfl, hg, hn, hmx, hcs, htk⟩
  · omega
  · simp only [Nat.mul_one] at hcs htk ⊢
    have hH : Sort.Holds (Value.int .i64) w g o l.toArray := fun j hj => by
      simp only [List.size_toArray] at hj
      refine ⟨?_, frozen_of_row hg⟩
      have := getD_cell (by rw [Nat.mul_one] at h; exact h) j hj
      rw [this]
      congr 2
      simp [List.getD, hj]
    have key := AnyG.slices_Delete_int Ldelt g o c i (i + 1) l w hH (by omega) (by unfold maxLen at hmx; omega) (by omega) (by omega)
    rw [show i + 1 - i = 1 by omega] at key
    refine (show Calls Tryz.prog 162 _ _ _ from key).mono ?_
    rintro e w' ⟨h1, q, h2⟩
    have hlen : (l.take i ++ l.drop (i + 1) ++ List.replicate 1 0).length = l.toArray.size := by simp; omega
    rw [Lib.putRow_eq_setCells (Value.int .i64) w g o l.toArray (l.take i ++ l.drop (i + 1) ++ List.replicate 1 0) q hH hlen] at h2
    have hY : (l.take i ++ l.drop (i + 1)).length = l.length - 1 := by simp; omega
    generalize l.take i ++ l.drop (i + 1) = Y at h2 hlen hY ⊢
    have hys : ((Y ++ List.replicate 1 0).map (Value.int .i64)).length = l.length := by rw [List.length_map, hlen]; simp
    have hrow := setCells_row ((Y ++ List.replicate 1 0).map (Value.int .i64)) (w.drewN q) o cur (show (w.drewN q).heap[g]? = _ from hg) (by rw [hys]; omega)
    rw [← h2] at hrow
    have hf : Fr (fun j => j = g) w w' := by rw [h2]; exact (Fr.drewN w q).trans (Fr.setCells _ _ _ _) (fun _ _ h => h)
    refine ⟨h1, ⟨by rw [List.length_map, hY, Nat.mul_one], .inr ⟨g, o, _, by rw [Nat.mul_one], hrow, by omega, hmx, ?_, ?_⟩⟩, hf.mono (fun j _ e => by rw [e]; rfl)⟩
    · simp only [List.size_toArray, List.length_append, List.length_take, List.length_drop, Array.length_toList, hys, Nat.mul_one]
      omega
    · simp only [Nat.mul_one, List.toList_toArray, List.append_assoc]
      rw [List.drop_left' (by rw [List.length_take, Array.length_toList]; omega), List.map_append, List.append_assoc]
      exact List.take_left' (by rw [List.length_map, hY])
end Go.Proofs.YtilbdpnioajkoaaGreat

namespace Go.Proofs.YtilbdpnioajkoaaGreat
open Go.RowKit Go.Maps
set_option linter.unusedVariables false
set_option maxRecDepth 100000
set_option linter.unusedSimpArgs false

set_option maxHeartbeats 3200000 in
theorem lose_any {c : Nat → Option T.Col} {w : World} {bud b : Nat} {k : Int} {x : T.Nd} {ks : ByteArray → List Int} (h : Nm c w bud b k x ks) (hb : bud < 1000000000000000000) (n : Int) {s : ByteArray} (hs : s.size ≤ maxLen) (hr : T.Rise (ks s)) (hn : n ∈ ks s) (hlen : (ks s).length < 10000000000000) :
    Calls Tryz.prog 134 #[ptr b, .int .i64 n, .string s] w fun e w' => e = .returned (.tuple #[]) ∧ Fr (T.Mine c k) w w' ∧ Nm c w' bud b k x (fun y => if y = s then T.delI n (ks s) else ks y) := by
  obtain ⟨av, uv, g, m, hN⟩ := h
  have hne0 : ks s ≠ [] := fun e => by rw [e] at hn; cases hn
  obtain ⟨a, cap, hga, hRo, hca⟩ : ∃ a cap, g s = some (.slice a (ks s).length cap) ∧ Ro w 2 1 a (ks s).length cap ((ks s).map (Value.int .i64)) ∧ ∀ i, blk a = some i → c i = some (.row k s) := by
    rcases hN.row s with ⟨h1, h2⟩ | ⟨h1, a, cap, h2, h3, h4⟩
    · exact absurd h1 hne0
    · exact ⟨a, cap, h2, h3, h4⟩
  obtain ⟨ub, rfl⟩ : ∃ ub, uv = some ub := by
    cases uv with
    | none => rw [hN.und.1 s] at hga; cases hga
    | some ub => exact ⟨ub, rfl⟩
  have hm : m ≤ 1000000000000000000 := by have := hN.few; omega
  have hne : b ≠ ub := fun e => by have := hN.cb; rw [e, hN.cu ub rfl] at this; cases this
  have hba : blk a ≠ some b := fun e => by have := hca b e; rw [hN.cb] at this; cases this
  have hua : ¬ (blk a = some ub) := fun e => by have := hca ub e; rw [hN.cu ub rfl] at this; cases this
  have HC := hid (show ∀ V, Fr (fun i => i = ub ∨ blk a = some i) w V → V.cell? ⟨b, 3, none⟩ = some (.map (some ub)) from fun V hf => cellA (j := 3) (hf.cells hN.cells (fun e => e.elim hne hba)) rfl)
  have c3 := HC.out w (Fr.refl _ _)
  have MP : Mp 9 litS w ub g m := hN.und
  have HL := hid (hN.und.look keyS Tryz.underlying78 (zeroRow w) (keyOfS hs))
  rw [hga] at HL
  simp only [Option.getD_some] at HL
  have hdl := T.length_delI hr hn
  have hMine : ∀ i, i = ub ∨ blk a = some i → T.Mine c k i := fun i e => e.elim (fun e => ⟨.under k, by rw [e]; exact hN.cu ub rfl, rfl⟩) (fun e => ⟨.row k s, hca i e, rfl⟩)
  have hKeep : ∀ i col, c i = some col → col.own = some k → col ≠ .under k → col ≠ .row k s → ¬ (i = ub ∨ blk a = some i) := fun i col e1 _ e3 e4 e => by
    rcases e with e | e
    · rw [e, hN.cu ub rfl] at e1; cases e1; exact e3 rfl
    · rw [hca i e] at e1; cases e1; exact e4 rfl
  by_cases h1 : (ks s).length = 1
  · obtain ⟨w4, r4, mp, f4⟩ := Mp.drop MP litS_inj keyS Tryz.underlying78 (keyOfS hs) 0
    have hd0 : T.delI n (ks s) = [] := List.eq_nil_of_length_eq_zero (by omega)
    have FIN := hid (show Fr (T.Mine c k) w w4 ∧ Nm c w4 bud b k x (fun y => if y = s then T.delI n (ks s) else ks y) from ⟨f4.mono (fun i _ e => hMine i (.inl e)), av, some ub, _, _, hN.turned rfl (S := fun i => i = ub ∨ blk a = some i) (f4.mono (fun _ _ h => .inl h)) hKeep (fun _ _ h => h) mp (by have := hN.few; split <;> omega) (.inl ⟨hd0, rfl⟩)⟩)
    have R4 := hid r4
    have hl1 : (((ks s).length : Int) == 1) = true := by rw [h1]; rfl
    clear hN hne0 hga hRo hca hm hne hba hua MP hdl hMine hKeep hd0 r4 mp f4 hb hr hn hlen
    generalize (ks s).length = ln at *
    subst h1
    go_enter Tryz.func134, Tryz.ntmps134
    go_wp2_with (first
      | (refine wpList_look_v HL.out (by exact ⟨_, _, rfl, rfl, rfl⟩) (by kernel_rfl) ?_)
      | (refine wpList_del_v R4.out (by exact ⟨_, _, rfl, rfl, rfl⟩) (by kernel_rfl) ?_))
    exact bodyPost_ret (v := .tuple #[]) (results_none Tryz.results134 _ _ _) rfl ⟨rfl, FIN.out⟩
  · have hlt := T.low_lt hr hn
    have KS := hid (tsearch_any w a cap (ks s) n hRo hr (by omega))
    have KD := hid (fun (V : World) (fV : Fr (fun _ => False) w V) => delete_any V a cap (ks s) (hRo.kept fV (fun _ _ h => h)) (T.low n (ks s)) hlt)
    rw [← T.delI_low hr hn] at KD
    have q1 : (((ks s).length : Int) == 1) = false := by simp; omega
    have hd1 : T.delI n (ks s) ≠ [] := fun e => by rw [e] at hdl; simp at hdl; omega
    have hd2 : (ks s).length - 1 = (T.delI n (ks s)).length := by omega
    have q6 : IntKind.i64.wrap ((T.low n (ks s) : Int) + 1) = ((T.low n (ks s) + 1 : Nat) : Int) := by simp [IntKind.wrap, IntKind.bits, IntKind.signed]; omega
    have HEND := hid (fun (w9 w10 : World) (F9 : Fr (fun i => blk a = some i) w w9) (f10 : Fr (fun i => i = ub) w9 w10) (ro : Ro w9 2 1 a ((ks s).length - 1) cap ((T.delI n (ks s)).map (Value.int .i64))) (mp : Mp 9 litS w10 ub (at_ g s (some (.slice a ((ks s).length - 1) cap))) (if (g s).isSome then m else m + 1)) => show Fr (T.Mine c k) w w10 ∧ Nm c w10 bud b k x (fun y => if y = s then T.delI n (ks s) else ks y) from by
      have fW : Fr (fun i => i = ub ∨ blk a = some i) w w10 := (F9.mono (fun _ _ h => .inr h)).trans f10 (fun _ _ h => .inl h)
      rw [hd2] at mp ro
      refine ⟨fW.mono (fun i _ e => hMine i e), av, some ub, _, _, hN.turned rfl fW hKeep (fun _ _ h => h) mp (by rw [hga]; exact hN.few) (.inr ⟨hd1, a, cap, rfl, ro.kept f10 (fun j hj e => hua (by rw [hj, e])), hca⟩)⟩)
    have MPH := hid MP
    have HUA := hid hua
    have HM := hid hm
    clear hN hne0 hga hRo hca hm hne hba hua MP hdl hMine hKeep hb hr hn hlen hd1 hd2 hlt
    generalize (ks s).length = ln at *
    generalize T.low n (ks s) = lo at *
    go_enter Tryz.func134, Tryz.ntmps134
    go_wp2_with (first
      | (refine wpList_look_v HL.out (by exact ⟨_, _, rfl, rfl, rfl⟩) (by kernel_rfl) ?_)
      | (go_at_call 131; refine KS.out.mono ?_; rintro e w1 ⟨rfl, fx1⟩; have FX1 := hid fx1; clear fx1))
    have HC1 := hid (show ∀ V, Fr (fun i => i = ub ∨ blk a = some i) w1 V → V.cell? ⟨b, 3, none⟩ = some (.map (some ub)) from fun V hf => HC.out V ((FX1.out.mono (fun _ _ h => h.elim)).trans hf (fun _ _ h => h)))
    have c3 := HC1.out w1 (Fr.refl _ _)
    have hmx : Tryz.prog.follows .mixedOrders = true := by kernel_rfl
    refine wp_region_held (S := fun V => Fr (fun i => i = ub ∨ blk a = some i) w1 V) hmx ?_
    have hS := (Fr.drew (Fr.refl (fun i => i = ub ∨ blk a = some i) w1))
    simp only [List.size_toArray, List.length_cons, List.length_nil, Nat.reduceAdd, Array.replicate_succ, Array.replicate_zero, List.push_toArray, List.nil_append, List.cons_append]
    refine wpAnyH_take (i := 0) (v := ?_) rfl (by kernel_rfl) (by kernel_rfl) (by kernel_rfl) (fun _ _ _ h => h) (Or.inl ⟨by kernel_rfl, ?_⟩) hS ?_
    rotate_left 1
    · (intro w' hS'; clear hS'; go_simp; try with_reducible rfl)
    simp only [List.getElem_toArray, List.getElem_cons_zero, List.getElem_cons_succ, Act.put, List.setIfInBounds_toArray, List.set_cons_zero, List.set_cons_succ]
    refine wpAnyH_take (i := 1) (v := ?_) rfl (by kernel_rfl) (by kernel_rfl) (by kernel_rfl) (fun _ _ _ h => h) (Or.inl ⟨by kernel_rfl, ?_⟩) hS ?_
    rotate_left 1
    · (intro w' hS'; clear hS'; go_simp; try with_reducible rfl)
    simp only [List.getElem_toArray, List.getElem_cons_zero, List.getElem_cons_succ, Act.put, List.setIfInBounds_toArray, List.set_cons_zero, List.set_cons_succ]
    refine wpAnyH_take (i := 2) (v := ?_) rfl (by kernel_rfl) (by kernel_rfl) (by kernel_rfl) (fun _ _ _ h => h) (Or.inl ⟨by kernel_rfl, ?_⟩) hS ?_
    rotate_left 1
    · (intro w' hS'; clear hS'; go_simp; try with_reducible rfl)
    simp only [List.getElem_toArray, List.getElem_cons_zero, List.getElem_cons_succ, Act.put, List.setIfInBounds_toArray, List.set_cons_zero, List.set_cons_succ]
    refine wpAnyH_take (i := 3) (v := ?_) rfl (by kernel_rfl) (by kernel_rfl) (by kernel_rfl) (fun _ _ _ h => h) (Or.inl ⟨by kernel_rfl, ?_⟩) hS ?_
    rotate_left 1
    · (intro w' hS'; have h1 := HC1.out w' hS'; clear hS'; go_simp; try with_reducible rfl)
    simp only [List.getElem_toArray, List.getElem_cons_zero, List.getElem_cons_succ, Act.put, List.setIfInBounds_toArray, List.set_cons_zero, List.set_cons_succ]
    refine wpAnyH_take (i := 4) (v := ?_) rfl (by kernel_rfl) (by kernel_rfl) (by kernel_rfl) (fun _ _ _ h => h) (Or.inl ⟨by kernel_rfl, ?_⟩) hS ?_
    rotate_left 1
    · (intro w' hS'; clear hS'; go_simp; try with_reducible rfl)
    simp only [List.getElem_toArray, List.getElem_cons_zero, List.getElem_cons_succ, Act.put, List.setIfInBounds_toArray, List.set_cons_zero, List.set_cons_succ]
    refine wpAnyH_take (i := 5) (v := ?_) rfl (by kernel_rfl) (by kernel_rfl) (by kernel_rfl) (fun _ _ _ h => h) (Or.inl ⟨by kernel_rfl, ?_⟩) hS ?_
    rotate_left 1
    · (intro w' hS'; clear hS'; go_simp; try with_reducible rfl)
    simp only [List.getElem_toArray, List.getElem_cons_zero, List.getElem_cons_succ, Act.put, List.setIfInBounds_toArray, List.set_cons_zero, List.set_cons_succ]
    refine wpAnyH_take (i := 6) (v := ?_) rfl (by kernel_rfl) (by kernel_rfl) (by kernel_rfl) (fun _ _ _ h => h) (Or.inl ⟨by kernel_rfl, ?_⟩) hS ?_
    rotate_left 1
    · (intro w' hS'; clear hS'; go_simp; try with_reducible rfl)
    simp only [List.getElem_toArray, List.getElem_cons_zero, List.getElem_cons_succ, Act.put, List.setIfInBounds_toArray, List.set_cons_zero, List.set_cons_succ]
    refine wpAnyH_take (i := 7) (v := ?_) rfl (by kernel_rfl) (by kernel_rfl) (by kernel_rfl) (fun _ _ _ h => h) (Or.inl ⟨by kernel_rfl, ?_⟩) hS ?_
    rotate_left 1
    · (intro w' hS'; clear hS'; go_simp; try with_reducible rfl)
    simp only [List.getElem_toArray, List.getElem_cons_zero, List.getElem_cons_succ, Act.put, List.setIfInBounds_toArray, List.set_cons_zero, List.set_cons_succ]
    refine wpAnyH_take (i := 8) (v := .int .i64 ((lo + 1 : Nat) : Int)) rfl (by kernel_rfl) (by kernel_rfl) (by kernel_rfl) (fun _ _ _ h => h) (Or.inl ⟨by kernel_rfl, fun w' hS' => by (clear hS'; go_simp; try rw [q6])⟩) hS ?_
    simp only [List.getElem_toArray, List.getElem_cons_zero, List.getElem_cons_succ, Act.put, List.setIfInBounds_toArray, List.set_cons_zero, List.set_cons_succ]
    refine wpAnyH_ready (rs := [9]) (by kernel_rfl) (by simp) ?_
    refine AllReadyH.cons rfl (fun K1 hK1 => ?_) (AllReadyH.nil)
    go_simp
    refine (KD.out _ (FX1.out.trans (Fr.drew (Fr.refl (fun _ => False) w1)) (fun _ _ h => h))).mono ?_
    rintro e w9 ⟨rfl, ro, fx⟩
    have F9 := hid ((FX1.out.mono (fun _ _ h => h.elim)).trans ((Fr.drew (Fr.refl (fun i => blk a = some i) w1)).trans fx (fun _ _ h => h)) (fun _ _ h => h))
    have RO := hid ro
    clear ro
    refine hK1.out _ _ (hS.trans fx (fun _ _ h => .inr h)) (fun hS => ?_)
    clear fx
    clear hK1 K1
    simp only [List.getElem_toArray, List.getElem_cons_zero, List.getElem_cons_succ, Act.put, List.setIfInBounds_toArray, List.set_cons_zero, List.set_cons_succ]
    refine wpAnyH_ready (rs := [10]) (by kernel_rfl) (by simp) ?_
    refine AllReadyH.cons rfl (fun K1 hK1 => ?_) (AllReadyH.nil)
    obtain ⟨w10, r10, mp, f10⟩ := Mp.store (MPH.out.kept F9.out HUA.out) litS_inj keyS Tryz.underlying78 (Nat.lt_of_le_of_lt HM.out (by decide)) (keyOfS hs) (.slice a (ln - 1) cap)
    refine tstep_upd (by kernel_rfl) r10 (by exact ⟨_, _, _, rfl, rfl, rfl, rfl⟩) ?_
    refine hK1.out _ _ (hS.trans f10 (fun _ _ h => .inl h)) (fun hS => ?_)
    clear hK1 K1
    simp only [List.getElem_toArray, List.getElem_cons_zero, List.getElem_cons_succ, Act.put, List.setIfInBounds_toArray, List.set_cons_zero, List.set_cons_succ]
    refine wpAnyH_done (by kernel_rfl) ?_ _
    have FIN := hid (HEND.out w9 w10 F9.out f10 RO.out mp)
    clear hS f10 mp r10
    go_wp2
    go_end0
    exact ⟨rfl, FIN.out⟩
end Go.Proofs.YtilbdpnioajkoaaGreat

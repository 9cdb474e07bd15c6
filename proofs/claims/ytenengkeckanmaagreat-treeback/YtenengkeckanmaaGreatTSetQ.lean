/-
  A key of a node gets a value: set.
-/
import Derived.Test.YtenengkeckanmaaGreatTAttrQ
import Derived.Test.YtenengkeckanmaaGreatTMoveQ
namespace Go.Proofs.YtenengkeckanmaaGreat
open Go.RowKit Go.Maps
set_option linter.unusedVariables false
set_option maxRecDepth 100000
set_option linter.unusedSimpArgs false

/-- a node's attributes have changed -/
theorem Nf.attrs {S : Nat → Prop} {c c' : Nat → Option T.Col} {w w' : World} {bud b : Nat} {n : Int} {x : T.Nd} {ks : ByteArray → List Int} {av av' uv : Option Nat} {g : ByteArray → Option Value} {m : Nat} {l : T.At} (h : Nf c w bud b n x ks av uv g m) (hf : Fr S w w') (hS : ∀ i col, c i = some col → col.own = some n → col ≠ .node n → col ≠ .attrs n → ¬ S i) (hc : ∀ i col, c i = some col → c' i = some col)
    (hb : w'.heap[b]? = some (.cells #[.int .i64 x.par, .string x.nm, .map av', .map uv] 89 (0, 0))) (ha : ∀ i, av' = some i → c' i = some (.attrs n)) (hm : Mo 9 litS w' av' (fun s => (T.aget s l).map (fun v => .agg #[.string s, .string v])) l.length) : Nf c' w' bud b n ⟨x.par, x.nm, l⟩ ks av' uv g m :=
  ⟨hb, hc _ _ h.cb, ha, fun i e => hc _ _ (h.cu i e), hm, h.und.kept hf (fun i e => hS _ _ (h.cu i e) rfl (by simp) (by simp)), h.few, fun s => ((h.row s).kept hf (fun i e => hS _ _ e rfl (by simp) (by simp))).ext hc⟩
theorem at_eq {α : Type} [DecidableEq α] (g : α → Option Value) (x : α) (o : Option Value) (g' : α → Option Value) (h : ∀ y, g' y = if y = x then o else g y) : g' = at_ g x o := funext h
set_option maxHeartbeats 3200000 in
theorem set_any {c : Nat → Option T.Col} {w : World} {bud b : Nat} {n : Int} {x : T.Nd} {ks : ByteArray → List Int} (h : Nm c w bud b n x ks) (hl : Lo c w.heap.size) {k v : ByteArray} (hk : k.size ≤ maxLen) (hA : T.Ak x.ats) (hb : x.ats.length < 1000000000000000000) :
    Calls Tryz.prog 85 #[ptr b, .string k, .string v] w fun e w' => e = .returned (.tuple #[]) ∧ Fr (T.Mine c n) w w' ∧ ∃ c', More c c' w.heap.size ∧ Lo c' w'.heap.size ∧ Nm c' w' bud b n ⟨x.par, x.nm, T.aset k v x.ats⟩ ks := by
  obtain ⟨av, uv, g, m, hN⟩ := h
  have hlen := T.length_aset (k := k) (v := v) hA
  have hget : ∀ s, (T.aget s (T.aset k v x.ats)).map (fun v => Value.agg #[.string s, .string v]) = if s = k then (if v.toList.isEmpty = true then none else some (.agg #[.string k, .string v])) else (T.aget s x.ats).map (fun v => .agg #[.string s, .string v]) := fun s => by
    rw [T.aget_aset]
    by_cases e : s = k
    · rw [if_pos e, if_pos e, e]
      split <;> rfl
    · rw [if_neg e, if_neg e]
  have hmm := @run_makeMap Tryz.prog
  have q : ∀ r : Option Nat, ∀ w, (binOp .eql 86 (.map r) (.map none)).run Tryz.prog w = .ok (.bool r.isNone) w := fun r w => run_eql_map_nil w _ _ _ r Tryz.underlying86
  have c2 : w.cell? ⟨b, 2, none⟩ = some (.map av) := cellA (j := 2) hN.cells rfl
  by_cases hv : v.toList.isEmpty = true
  · have hnil : v.toList = [] := by simpa using hv
    cases av with
    | none =>
      have D := hid (Maps.drop_nil (w := w) keyS Tryz.underlying86 (keyOfS hk) 0)
      have FIN := hid (show Fr (T.Mine c n) w w ∧ ∃ c', More c c' w.heap.size ∧ Lo c' w.heap.size ∧ Nm c' w bud b n ⟨x.par, x.nm, T.aset k v x.ats⟩ ks from ⟨Fr.refl _ _, c, fun _ _ => rfl, hl, none, uv, g, m, hN.attrs (S := fun _ => False) (Fr.refl _ _) (fun _ _ _ _ _ _ h => h) (fun _ _ h => h) hN.cells (fun _ e => by cases e) (by
        obtain ⟨h1, h2⟩ := hN.att
        refine ⟨fun s => ?_, ?_⟩
        · show (T.aget s (T.aset k v x.ats)).map _ = none
          rw [hget s]
          split
          · first | rfl | rw [if_pos hv]
          · exact h1 s
        · rw [hlen, if_pos hv]
          have h3 : (T.aget k x.ats).map (fun v => Value.agg #[.string k, .string v]) = none := h1 k
          cases hg : T.aget k x.ats with
          | none => exact h2
          | some z => rw [hg] at h3; cases h3)⟩)
      clear hN hl hA hb hlen hget hk
      go_enter Tryz.func85, Tryz.ntmps85
      go_wp2_with (refine wpList_del_v D.out (by exact ⟨_, _, rfl, rfl, rfl⟩) (by kernel_rfl) ?_)
      exact bodyPost_ret (v := .tuple #[]) (results_none Tryz.results85 _ _ _) rfl ⟨rfl, FIN.out⟩
    | some ab =>
      obtain ⟨w4, r4, mp, f4⟩ := Mp.drop (show Mp 9 litS w ab _ _ from hN.att) litS_inj keyS Tryz.underlying86 (keyOfS hk) 0
      have FIN := hid (show Fr (T.Mine c n) w w4 ∧ ∃ c', More c c' w.heap.size ∧ Lo c' w4.heap.size ∧ Nm c' w4 bud b n ⟨x.par, x.nm, T.aset k v x.ats⟩ ks from ⟨f4.mono (fun i _ e => ⟨.attrs n, by rw [e]; exact hN.ca ab rfl, rfl⟩), c, fun _ _ => rfl, fun i hi => Nat.lt_of_lt_of_le (hl i hi) f4.size, some ab, uv, g, m, hN.attrs f4 (fun i col e1 e2 e3 e4 e => by rw [e, hN.ca ab rfl] at e1; cases e1; exact e4 rfl) (fun _ _ h => h) (f4.cells hN.cells (fun e => by have := hN.cb; rw [e, hN.ca ab rfl] at this; cases this)) hN.ca (by
        have e1 : (fun s => (T.aget s (T.aset k v x.ats)).map (fun v => Value.agg #[.string s, .string v])) = at_ (fun s => (T.aget s x.ats).map (fun v => Value.agg #[.string s, .string v])) k none := at_eq _ k none _ (fun s => by rw [hget s, if_pos hv])
        rw [e1, hlen, if_pos hv]
        rw [Option.isSome_map] at mp
        exact mp)⟩)
      have R4 := hid r4
      clear hN hl hA hb hlen hget hk r4 mp f4
      go_enter Tryz.func85, Tryz.ntmps85
      go_wp2_with (refine wpList_del_v R4.out (by exact ⟨_, _, rfl, rfl, rfl⟩) (by kernel_rfl) ?_)
      exact bodyPost_ret (v := .tuple #[]) (results_none Tryz.results85 _ _ _) rfl ⟨rfl, FIN.out⟩
  · have hv1 : v.toList.isEmpty = false := by simpa using hv
    cases av with
    | some ab =>
      obtain ⟨w4, r4, mp, f4⟩ := Mp.store (show Mp 9 litS w ab _ _ from hN.att) litS_inj keyS Tryz.underlying86 (by unfold maxLen; omega) (keyOfS hk) (.agg #[.string k, .string v])
      have FIN := hid (show Fr (T.Mine c n) w w4 ∧ ∃ c', More c c' w.heap.size ∧ Lo c' w4.heap.size ∧ Nm c' w4 bud b n ⟨x.par, x.nm, T.aset k v x.ats⟩ ks from ⟨f4.mono (fun i _ e => ⟨.attrs n, by rw [e]; exact hN.ca ab rfl, rfl⟩), c, fun _ _ => rfl, fun i hi => Nat.lt_of_lt_of_le (hl i hi) f4.size, some ab, uv, g, m, hN.attrs f4 (fun i col e1 e2 e3 e4 e => by rw [e, hN.ca ab rfl] at e1; cases e1; exact e4 rfl) (fun _ _ h => h) (f4.cells hN.cells (fun e => by have := hN.cb; rw [e, hN.ca ab rfl] at this; cases this)) hN.ca (by
        have e1 : (fun s => (T.aget s (T.aset k v x.ats)).map (fun v => Value.agg #[.string s, .string v])) = at_ (fun s => (T.aget s x.ats).map (fun v => Value.agg #[.string s, .string v])) k (some (.agg #[.string k, .string v])) := at_eq _ k _ _ (fun s => by rw [hget s, if_neg hv])
        rw [e1, hlen, if_neg hv]
        rw [Option.isSome_map] at mp
        exact mp)⟩)
      have R4 := hid r4
      clear hN hl hA hb hlen hget hk r4 mp f4
      go_enter Tryz.func85, Tryz.ntmps85
      go_wp2_with (refine wpList_upd_v R4.out (by exact ⟨_, _, _, rfl, rfl, rfl, rfl⟩) (by kernel_rfl) ?_)
      go_end0
      exact ⟨rfl, FIN.out⟩
    | none =>
      obtain ⟨W, hW⟩ : ∃ W, (w.alloc (.map #[] 0)).setCell ⟨b, 2, none⟩ (.map (some w.heap.size)) = W := ⟨_, rfl⟩
      obtain ⟨ab, hab⟩ : ∃ ab, w.heap.size = ab := ⟨_, rfl⟩
      have hbl : b < w.heap.size := hl b (by rw [hN.cb]; simp)
      have f0 : Fr (fun i => i = b) w W := by
        rw [← hW]
        exact Fr.setCell (p := ⟨b, 2, none⟩) (Fr.alloc (Fr.refl (fun i => i = b) _) _) (fun _ => rfl) _
      have hbW : W.heap[b]? = some (.cells #[.int .i64 x.par, .string x.nm, .map (some ab), .map uv] 89 (0, 0)) := by
        rw [← hW, ← hab]
        exact setCell_row (j := 2) ((Fr.alloc (Fr.refl (fun _ => False) w) (.map #[] 0)).cells hN.cells (fun h => h)) (.map (some w.heap.size))
      have hsz : W.heap.size = ab + 1 := by rw [← hW, setCell_size, alloc_size, hab]
      have mpW : Mp 9 litS W ab (fun _ => none) 0 := by
        have f1 : Fr (fun i => i = b) (w.alloc (.map #[] 0)) W := by rw [← hW]; exact Fr.setCell (p := ⟨b, 2, none⟩) (Fr.refl (fun i => i = b) _) (fun _ => rfl) _
        have := (Mp.made (κ := ByteArray) 9 litS w).kept f1 (by omega)
        rw [hab] at this
        exact this
      obtain ⟨w4, r4, mp, f4⟩ := Mp.store mpW litS_inj keyS Tryz.underlying86 (by decide) (keyOfS hk) (.agg #[.string k, .string v])
      have hnone : ∀ s, (T.aget s x.ats).map (fun v => Value.agg #[.string s, .string v]) = none := hN.att.1
      have hl0 : x.ats.length = 0 := hN.att.2
      have f04 : Fr (fun i => i = b) w w4 := f0.trans f4 (fun i hi e => by omega)
      have hc : ∀ i col, c i = some col → (fun i => if i = ab then some (T.Col.attrs n) else c i) i = some col := fun i col e => by
        have : i ≠ ab := fun e2 => by have := hl i (by rw [e]; simp); omega
        simp only [if_neg this]
        exact e
      have FIN := hid (show Fr (T.Mine c n) w w4 ∧ ∃ c', More c c' w.heap.size ∧ Lo c' w4.heap.size ∧ Nm c' w4 bud b n ⟨x.par, x.nm, T.aset k v x.ats⟩ ks from ⟨f04.mono (fun i _ e => ⟨.node n, by rw [e]; exact hN.cb, rfl⟩), fun i => if i = ab then some (.attrs n) else c i, fun i hi => by simp only [if_neg (show i ≠ ab by omega)], fun i hi => by
          have h4 := f4.size
          by_cases e : i = ab
          · omega
          · simp only [if_neg e] at hi
            have := hl i hi
            omega, some ab, uv, g, m, hN.attrs f04 (fun i col e1 e2 e3 e4 e => by rw [e, hN.cb] at e1; cases e1; exact e3 rfl) hc (f4.cells hbW (by omega)) (fun i e => by cases e; simp) (by
        have e1 : (fun s => (T.aget s (T.aset k v x.ats)).map (fun v => Value.agg #[.string s, .string v])) = at_ (fun _ => none) k (some (.agg #[.string k, .string v])) := at_eq _ k _ _ (fun s => by rw [hget s, if_neg hv, hnone s])
        rw [e1, hlen, if_neg hv, hl0]
        have h5 : (T.aget k x.ats).isSome = false := by
          have := hnone k
          cases hg : T.aget k x.ats with
          | none => rfl
          | some z => rw [hg] at this; cases this
        rw [h5]
        exact mp)⟩)
      have R4 := hid r4
      have HW := hid hW
      have HAB := hid hab
      have c5 : W.cell? ⟨b, 2, none⟩ = some (.map (some ab)) := cellA (j := 2) hbW rfl
      have c6 : (w.alloc (.map #[] 0)).cell? ⟨b, 2, none⟩ = some (.map none) := cellA (j := 2) ((Fr.alloc (Fr.refl (fun _ => False) w) (.map #[] 0)).cells hN.cells (fun h => h)) rfl
      have fz : (w.alloc (.map #[] 0)).frozen? ⟨b, 2, none⟩ = false := frozen_of_row ((Fr.alloc (Fr.refl (fun _ => False) w) (.map #[] 0)).cells hN.cells (fun h => h))
      clear hN hl hA hb hlen hget hk r4 mp f4 hW hab hbl f0 hbW hsz mpW hnone hl0 f04 hc
      go_enter Tryz.func85, Tryz.ntmps85
      go_wp2_with (first
        | (rw [HW.out, HAB.out]; refine wpList_upd_v R4.out (by exact ⟨_, _, _, rfl, rfl, rfl, rfl⟩) (by kernel_rfl) ?_))
      go_end0
      exact ⟨rfl, FIN.out⟩
end Go.Proofs.YtenengkeckanmaaGreat

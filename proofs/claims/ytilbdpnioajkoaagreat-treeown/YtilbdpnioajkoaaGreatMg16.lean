/-
  A key of a node gets a value: set.
  A key of a node gets a value, and what takes it back: alter.
-/
import Derived.Test.YtilbdpnioajkoaaGreatMg4
import Derived.Test.YtilbdpnioajkoaaGreatMg15
namespace Go.Proofs.YtilbdpnioajkoaaGreat
open Go.RowKit Go.Maps
set_option linter.unusedVariables false
set_option maxRecDepth 100000
set_option linter.unusedSimpArgs false

/-- a node's attributes have changed -/
theorem Nf.attrs {S : Nat → Prop} {c c' : Nat → Option T.Col} {w w' : World} {bud b : Nat} {n : Int} {x : T.Nd} {ks : ByteArray → List Int} {av av' uv : Option Nat} {g : ByteArray → Option Value} {m : Nat} {l : T.At} (h : Nf c w bud b n x ks av uv g m) (hf : Fr S w w') (hS : ∀ i col, c i = some col → col.own = some n → col ≠ .node n → col ≠ .attrs n → ¬ S i) (hc : ∀ i col, c i = some col → c' i = some col)
    (hb : w'.heap[b]? = some (.cells #[.int .i64 x.par, .string x.nm, .map av', .map uv] 80 (0, 0))) (ha : ∀ i, av' = some i → c' i = some (.attrs n)) (hm : Mo 9 litS w' av' (fun s => (T.aget s l).map (fun v => .agg #[.string s, .string v])) l.length) : Nf c' w' bud b n ⟨x.par, x.nm, l⟩ ks av' uv g m :=
  ⟨hb, hc _ _ h.cb, ha, fun i e => hc _ _ (h.cu i e), hm, h.und.kept hf (fun i e => hS _ _ (h.cu i e) rfl (by simp) (by simp)), h.few, fun s => ((h.row s).kept hf (fun i e => hS _ _ e rfl (by simp) (by simp))).ext hc⟩
theorem at_eq {α : Type} [DecidableEq α] (g : α → Option Value) (x : α) (o : Option Value) (g' : α → Option Value) (h : ∀ y, g' y = if y = x then o else g y) : g' = at_ g x o := funext h
set_option maxHeartbeats 3200000 in
theorem set_any {c : Nat → Option T.Col} {w : World} {bud b : Nat} {n : Int} {x : T.Nd} {ks : ByteArray → List Int} (h : Nm c w bud b n x ks) (hl : Lo c w.heap.size) {k v : ByteArray} (hk : k.size ≤ maxLen) (hA : T.Ak x.ats) (hb : x.ats.length < 1000000000000000000) :
    Calls Tryz.prog 80 #[ptr b, .string k, .string v] w fun e w' => e = .returned (.tuple #[]) ∧ Fr (T.Mine c n) w w' ∧ ∃ c', More c c' w.heap.size ∧ Lo c' w'.heap.size ∧ Nm c' w' bud b n ⟨x.par, x.nm, T.aset k v x.ats⟩ ks := by
  obtain ⟨av, uv, g, m, hN⟩ := h
  have hlen := T.length_aset (k := k) (v := v) hA
  have hget : ∀ s, (T.aget s (T.aset k v x.ats)).map (fun v => Value.agg #[.string s, .string v]) = if s = k then (if v.toList.isEmpty = true then none else some (.agg #[.string k, .string v])) else (T.aget s x.ats).map (fun v => .agg #[.string s, .string v]) := fun s => by
    rw [T.aget_aset]
    by_cases e : s = k
    · rw [if_pos e, if_pos e, e]
      split <;> rfl
    · rw [if_neg e, if_neg e]
  have hmm := @run_makeMap Tryz.prog
  have q : ∀ r : Option Nat, ∀ w, (binOp .eql 77 (.map r) (.map none)).run Tryz.prog w = .ok (.bool r.isNone) w := fun r w => run_eql_map_nil w _ _ _ r Tryz.underlying77
  have c2 : w.cell? ⟨b, 2, none⟩ = some (.map av) := cellA (j := 2) hN.cells rfl
  by_cases hv : v.toList.isEmpty = true
  · have hnil : v.toList = [] := by simpa using hv
    cases av with
    | none =>
      have D := hid (Maps.drop_nil (w := w) keyS Tryz.underlying77 (keyOfS hk) 0)
      have FIN := hid (show Fr (T.Mine c n) w w ∧ ∃ c', More c c' w.heap.size ∧ Lo c' w.heap.size ∧ Nm c' w bud b n ⟨x.par, x.nm, T.aset k v x.ats⟩ ks from ⟨Fr.refl _ _, c, fun _ _ => rfl, hl, none, uv, g, m, hN.attrs (S := fun _ => False) (Fr.refl _ _) (fun _ _ _ _ _ _ h => h) (fun _ _ h => h) hN.cells (fun _ e => by cases e) (by
        obtain ⟨h1, h2⟩ := hN.att
        refine ⟨fun s => ?_, ?_⟩
        · show (T.aget s (T.aset k v x.ats)).map _ = none
          rw [hget s]
          split
          · first | rfl | rw [if_pos hv]
          · exact h1 s
        · rw [hlen, if_pos hv]
          have h3 : (T.aget k x.ats).map (fun v => Value.agg #[.string k, .string v]) = none := h1 k
          cases hg : T.aget k x.ats with
          | none => exact h2
          | some z => rw [hg] at h3; cases h3)⟩)
      clear hN hl hA hb hlen hget hk
      go_enter Tryz.func80, Tryz.ntmps80
      go_wp2_with (refine wpList_del_v D.out (by exact ⟨_, _, rfl, rfl, rfl⟩) (by kernel_rfl) ?_)
      exact bodyPost_ret (v := .tuple #[]) (results_none Tryz.results80 _ _ _) rfl ⟨rfl, FIN.out⟩
    | some ab =>
      obtain ⟨w4, r4, mp, f4⟩ := Mp.drop (show Mp 9 litS w ab _ _ from hN.att) litS_inj keyS Tryz.underlying77 (keyOfS hk) 0
      have FIN := hid (show Fr (T.Mine c n) w w4 ∧ ∃ c', More c c' w.heap.size ∧ Lo c' w4.heap.size ∧ Nm c' w4 bud b n ⟨x.par, x.nm, T.aset k v x.ats⟩ ks from ⟨f4.mono (fun i _ e => ⟨.attrs n, by rw [e]; exact hN.ca ab rfl, rfl⟩), c, fun _ _ => rfl, fun i hi => Nat.lt_of_lt_of_le (hl i hi) f4.size, some ab, uv, g, m, hN.attrs f4 (fun i col e1 e2 e3 e4 e => by rw [e, hN.ca ab rfl] at e1; cases e1; exact e4 rfl) (fun _ _ h => h) (f4.cells hN.cells (fun e => by have := hN.cb; rw [e, hN.ca ab rfl] at this; cases this)) hN.ca (by
        have e1 : (fun s => (T.aget s (T.aset k v x.ats)).map (fun v => Value.agg #[.string s, .string v])) = at_ (fun s => (T.aget s x.ats).map (fun v => Value.agg #[.string s, .string v])) k none := at_eq _ k none _ (fun s => by rw [hget s, if_pos hv])
        rw [e1, hlen, if_pos hv]
        rw [Option.isSome_map] at mp
        exact mp)⟩)
      have R4 := hid r4
      clear hN hl hA hb hlen hget hk r4 mp f4
      go_enter Tryz.func80, Tryz.ntmps80
      go_wp2_with (refine wpList_del_v R4.out (by exact ⟨_, _, rfl, rfl, rfl⟩) (by kernel_rfl) ?_)
      exact bodyPost_ret (v := .tuple #[]) (results_none Tryz.results80 _ _ _) rfl ⟨rfl, FIN.out⟩
  · have hv1 : v.toList.isEmpty = false := by simpa using hv
    cases av with
    | some ab =>
      obtain ⟨w4, r4, mp, f4⟩ := Mp.store (show Mp 9 litS w ab _ _ from hN.att) litS_inj keyS Tryz.underlying77 (by unfold maxLen; omega) (keyOfS hk) (.agg #[.string k, .string v])
      have FIN := hid (show Fr (T.Mine c n) w w4 ∧ ∃ c', More c c' w.heap.size ∧ Lo c' w4.heap.size ∧ Nm c' w4 bud b n ⟨x.par, x.nm, T.aset k v x.ats⟩ ks from ⟨f4.mono (fun i _ e => ⟨.attrs n, by rw [e]; exact hN.ca ab rfl, rfl⟩), c, fun _ _ => rfl, fun i hi => Nat.lt_of_lt_of_le (hl i hi) f4.size, some ab, uv, g, m, hN.attrs f4 (fun i col e1 e2 e3 e4 e => by rw [e, hN.ca ab rfl] at e1; cases e1; exact e4 rfl) (fun _ _ h => h) (f4.cells hN.cells (fun e => by have := hN.cb; rw [e, hN.ca ab rfl] at this; cases this)) hN.ca (by
        have e1 : (fun s => (T.aget s (T.aset k v x.ats)).map (fun v => Value.agg #[.string s, .string v])) = at_ (fun s => (T.aget s x.ats).map (fun v => Value.agg #[.string s, .string v])) k (some (.agg #[.string k, .string v])) := at_eq _ k _ _ (fun s => by rw [hget s, if_neg hv])
        rw [e1, hlen, if_neg hv]
        rw [Option.isSome_map] at mp
        exact mp)⟩)
      have R4 := hid r4
      clear hN hl hA hb hlen hget hk r4 mp f4
      go_enter Tryz.func80, Tryz.ntmps80
      go_wp2_with (refine wpList_upd_v R4.out (by exact ⟨_, _, _, rfl, rfl, rfl, rfl⟩) (by kernel_rfl) ?_)
      go_end0
      exact ⟨rfl, FIN.out⟩
    | none =>
      obtain ⟨W, hW⟩ : ∃ W, (w.alloc (.map #[] 0)).setCell ⟨b, 2, none⟩ (.map (some w.heap.size)) = W := ⟨_, rfl⟩
      obtain ⟨ab, hab⟩ : ∃ ab, w.heap.size = ab := ⟨_, rfl⟩
      have hbl : b < w.heap.size := hl b (by rw [hN.cb]; simp)
      have f0 : Fr (fun i => i = b) w W := by
        rw [← hW]
        exact Fr.setCell (p := ⟨b, 2, none⟩) (Fr.alloc (Fr.refl (fun i => i = b) _) _) (fun _ => rfl) _
      have hbW : W.heap[b]? = some (.cells #[.int .i64 x.par, .string x.nm, .map (some ab), .map uv] 80 (0, 0)) := by
        rw [← hW, ← hab]
        exact setCell_row (j := 2) ((Fr.alloc (Fr.refl (fun _ => False) w) (.map #[] 0)).cells hN.cells (fun h => h)) (.map (some w.heap.size))
      have hsz : W.heap.size = ab + 1 := by rw [← hW, setCell_size, alloc_size, hab]
      have mpW : Mp 9 litS W ab (fun _ => none) 0 := by
        have f1 : Fr (fun i => i = b) (w.alloc (.map #[] 0)) W := by rw [← hW]; exact Fr.setCell (p := ⟨b, 2, none⟩) (Fr.refl (fun i => i = b) _) (fun _ => rfl) _
        have := (Mp.made (κ := ByteArray) 9 litS w).kept f1 (by omega)
        rw [hab] at this
        exact this
      obtain ⟨w4, r4, mp, f4⟩ := Mp.store mpW litS_inj keyS Tryz.underlying77 (by decide) (keyOfS hk) (.agg #[.string k, .string v])
      have hnone : ∀ s, (T.aget s x.ats).map (fun v => Value.agg #[.string s, .string v]) = none := hN.att.1
      have hl0 : x.ats.length = 0 := hN.att.2
      have f04 : Fr (fun i => i = b) w w4 := f0.trans f4 (fun i hi e => by omega)
      have hc : ∀ i col, c i = some col → (fun i => if i = ab then some (T.Col.attrs n) else c i) i = some col := fun i col e => by
        have : i ≠ ab := fun e2 => by have := hl i (by rw [e]; simp); omega
        simp only [if_neg this]
        exact e
      have FIN := hid (show Fr (T.Mine c n) w w4 ∧ ∃ c', More c c' w.heap.size ∧ Lo c' w4.heap.size ∧ Nm c' w4 bud b n ⟨x.par, x.nm, T.aset k v x.ats⟩ ks from ⟨f04.mono (fun i _ e => ⟨.node n, by rw [e]; exact hN.cb, rfl⟩), fun i => if i = ab then some (.attrs n) else c i, fun i hi => by simp only [if_neg (show i ≠ ab by omega)], fun i hi => by
          have h4 := f4.size
          by_cases e : i = ab
          · omega
          · simp only [if_neg e] at hi
            have := hl i hi
            omega, some ab, uv, g, m, hN.attrs f04 (fun i col e1 e2 e3 e4 e => by rw [e, hN.cb] at e1; cases e1; exact e3 rfl) hc (f4.cells hbW (by omega)) (fun i e => by cases e; simp) (by
        have e1 : (fun s => (T.aget s (T.aset k v x.ats)).map (fun v => Value.agg #[.string s, .string v])) = at_ (fun _ => none) k (some (.agg #[.string k, .string v])) := at_eq _ k _ _ (fun s => by rw [hget s, if_neg hv, hnone s])
        rw [e1, hlen, if_neg hv, hl0]
        have h5 : (T.aget k x.ats).isSome = false := by
          have := hnone k
          cases hg : T.aget k x.ats with
          | none => rfl
          | some z => rw [hg] at this; cases this
        rw [h5]
        exact mp)⟩)
      have R4 := hid r4
      have HW := hid hW
      have HAB := hid hab
      have c5 : W.cell? ⟨b, 2, none⟩ = some (.map (some ab)) := cellA (j := 2) hbW rfl
      have c6 : (w.alloc (.map #[] 0)).cell? ⟨b, 2, none⟩ = some (.map none) := cellA (j := 2) ((Fr.alloc (Fr.refl (fun _ => False) w) (.map #[] 0)).cells hN.cells (fun h => h)) rfl
      have fz : (w.alloc (.map #[] 0)).frozen? ⟨b, 2, none⟩ = false := frozen_of_row ((Fr.alloc (Fr.refl (fun _ => False) w) (.map #[] 0)).cells hN.cells (fun h => h))
      clear hN hl hA hb hlen hget hk r4 mp f4 hW hab hbl f0 hbW hsz mpW hnone hl0 f04 hc
      go_enter Tryz.func80, Tryz.ntmps80
      go_wp2_with (first
        | (rw [HW.out, HAB.out]; refine wpList_upd_v R4.out (by exact ⟨_, _, _, rfl, rfl, rfl, rfl⟩) (by kernel_rfl) ?_))
      go_end0
      exact ⟨rfl, FIN.out⟩
end Go.Proofs.YtilbdpnioajkoaaGreat

namespace Go.Proofs.YtilbdpnioajkoaaGreat
open Go.RowKit Go.Maps
set_option linter.unusedVariables false
set_option maxRecDepth 100000
set_option linter.unusedSimpArgs false

/-- what takes an attribute back -/
def T.UndoAttr (c : Nat → Option T.Col) (w : World) (b : Nat) (k bf : ByteArray) (v : Value) : Prop := ∃ bx bk bb, v = .func (.func 112) #[] #[ptr bx, ptr bk, ptr bb] ∧ T.Box c w bx (ptr b) ∧ T.Box c w bk (.string k) ∧ T.Box c w bb (.string bf)
set_option maxHeartbeats 1600000 in
theorem alter_any {c : Nat → Option T.Col} {w : World} {bud b : Nat} {n : Int} {x : T.Nd} {ks : ByteArray → List Int} (h : Nm c w bud b n x ks) (hl : Lo c w.heap.size) {k v : ByteArray} (hk : k.size ≤ maxLen) (hA : T.Ak x.ats) (hb : x.ats.length < 1000000000000000000) :
    Calls Tryz.prog 89 #[ptr b, .string k, .string v] w fun e w' => Fr (T.Mine c n) w w' ∧ ∃ u c', e = .returned u ∧ More c c' w.heap.size ∧ Lo c' w'.heap.size ∧ Nm c' w' bud b n ⟨x.par, x.nm, T.aset k v x.ats⟩ ks ∧ T.UndoAttr c' w' b k ((T.aget k x.ats).getD ⟨#[]⟩) u := by
  obtain ⟨W, hW⟩ : ∃ W, (w.alloc (.cells #[ptr b] 74)).alloc (.cells #[.string k] 9) = W := ⟨_, rfl⟩
  have fW : Fr (fun _ => False) w W := by rw [← hW]; exact Fr.alloc (Fr.alloc (Fr.refl _ _) _) _
  have b0 : W.heap[w.heap.size]? = some (.cells #[ptr b] 74 (0, 0)) := by
    rw [← hW]
    exact (Fr.alloc (Fr.refl (fun _ => False) _) _).cells (Go.heap_alloc_new w _) (fun h => h)
  have b1 : W.heap[w.heap.size + 1]? = some (.cells #[.string k] 9 (0, 0)) := by
    rw [← hW]
    have := Go.heap_alloc_new (w.alloc (.cells #[ptr b] 74)) (.cells #[.string k] 9)
    rw [alloc_size] at this
    exact this
  have zW : W.heap.size = w.heap.size + 2 := by rw [← hW, alloc_size, alloc_size]
  obtain ⟨av, uv, g, m, hN⟩ := h
  obtain ⟨bf, hbf⟩ : ∃ bf, (T.aget k x.ats).getD ⟨#[]⟩ = bf := ⟨_, rfl⟩
  rw [hbf]
  obtain ⟨kk, hkk⟩ : ∃ kk, ((T.aget k x.ats).map (fun v => Value.agg #[.string k, .string v])).getD (.agg #[.string ⟨#[]⟩, .string ⟨#[]⟩]) = .agg #[.string kk, .string bf] := by
    cases hg : T.aget k x.ats with
    | none => rw [hg] at hbf; exact ⟨⟨#[]⟩, by rw [← hbf]; rfl⟩
    | some z => rw [hg] at hbf; exact ⟨k, by rw [← hbf]; rfl⟩
  have C0 := hid (show ∀ V, Fr (fun _ => False) W V → V.cell? ⟨w.heap.size, 0, none⟩ = some (ptr b) ∧ V.cell? ⟨w.heap.size + 1, 0, none⟩ = some (.string k) ∧ V.cell? ⟨b, 2, none⟩ = some (.map av) from fun V hf => ⟨cellA (j := 0) (hf.cells b0 (fun h => h)) rfl, cellA (j := 0) (hf.cells b1 (fun h => h)) rfl, cellA (j := 2) (hf.cells (fW.cells hN.cells (fun h => h)) (fun h => h)) rfl⟩)
  have L1 := hid (show ∀ V, Fr (fun _ => False) W V → (Instr.lookup 77 (.map av) (.string k) false).run Tryz.prog V = .ok (.agg #[.string kk, .string bf]) V from fun V hf => by
    have := (hN.att.kept (fW.trans hf (fun _ _ h => h)) (fun _ _ h => h)).look keyS Tryz.underlying77 (zeroAttr V) (keyOfS hk)
    rw [this, hkk])
  obtain ⟨W8, hW8⟩ : ∃ W8, (W.alloc (.cells #[.string bf] 9)).drew = W8 := ⟨_, rfl⟩
  have f8 : Fr (fun _ => False) W W8 := by rw [← hW8]; exact Fr.drew (Fr.alloc (Fr.refl _ _) _)
  have b8 : W8.heap[w.heap.size + 2]? = some (.cells #[.string bf] 9 (0, 0)) := by
    rw [← hW8, ← zW]
    exact Go.heap_alloc_new W _
  have z8 : W8.heap.size = w.heap.size + 3 := by rw [← hW8]; show (W.alloc _).heap.size = _; rw [alloc_size, zW]
  have fw8 : Fr (fun _ => False) w W8 := fW.trans f8 (fun _ _ h => h)
  have hcn : ∀ i, w.heap.size ≤ i → c i = none := fun i hi => by
    cases hc : c i with
    | none => rfl
    | some col => have := hl i (by rw [hc]; simp); omega
  have hnm : ∀ i, w.heap.size ≤ i → ¬ T.Mine c n i := fun i hi ⟨col, e, _⟩ => by rw [hcn i hi] at e; cases e
  have KS := hid (set_any (w := W8) (v := v) (show Nm c W8 bud b n x ks from ⟨av, uv, g, m, hN.kept fw8 (fun _ _ _ _ h => h)⟩) (fun i hi => by have := hl i hi; omega) hk hA hb)
  have e0 : W8.cell? ⟨w.heap.size, 0, none⟩ = some (ptr b) := cellA (j := 0) (f8.cells b0 (fun h => h)) rfl
  have e1 : W8.cell? ⟨w.heap.size + 1, 0, none⟩ = some (.string k) := cellA (j := 0) (f8.cells b1 (fun h => h)) rfl
  have HEND : Hid (∀ w9, Fr (T.Mine c n) W8 w9 → (∃ c', More c c' W8.heap.size ∧ Lo c' w9.heap.size ∧ Nm c' w9 bud b n ⟨x.par, x.nm, T.aset k v x.ats⟩ ks) → Fr (T.Mine c n) w w9 ∧ ∃ u c', Ending.returned (.func (.func 112) #[] #[ptr w.heap.size, ptr (w.heap.size + 1), ptr (w.heap.size + 2)]) = .returned u ∧ More c c' w.heap.size ∧ Lo c' w9.heap.size ∧ Nm c' w9 bud b n ⟨x.par, x.nm, T.aset k v x.ats⟩ ks ∧ T.UndoAttr c' w9 b k bf u) := hid (fun w9 fx ⟨c', k1, k2, k3⟩ => by
    have hcc : ∀ i, w.heap.size ≤ i → i < w.heap.size + 3 → c' i = none := fun i h1 h2 => by rw [k1 i (by omega)]; exact hcn i h1
    exact ⟨(fw8.mono (fun _ _ h => h.elim)).trans fx (fun _ _ h => h), _, c', rfl, fun i hi => k1 i (by omega), k2, k3, _, _, _, rfl, ⟨⟨_, fx.cells (f8.cells b0 (fun h => h)) (hnm _ (by omega))⟩, hcc _ (by omega) (by omega)⟩, ⟨⟨_, fx.cells (f8.cells b1 (fun h => h)) (hnm _ (by omega))⟩, hcc _ (by omega) (by omega)⟩, ⟨⟨_, fx.cells b8 (hnm _ (by omega))⟩, hcc _ (by omega) (by omega)⟩⟩)
  have HW := hid hW
  have HW8 := hid hW8
  clear hW hW8 hl hA hb hk fW b0 b1 hN hbf hkk f8 b8 z8 fw8 hcn hnm
  go_enter Tryz.func89, Tryz.ntmps89
  go_wp2_with fail
  rw [HW.out]
  have hmx : Tryz.prog.follows .mixedOrders = true := by kernel_rfl
  refine wp_region_held (S := fun V => Fr (fun _ => False) W V) hmx ?_
  have hS := (Fr.drew (Fr.refl (fun _ => False) W))
  simp only [List.size_toArray, List.length_cons, List.length_nil, Nat.reduceAdd, Array.replicate_succ, Array.replicate_zero, List.push_toArray, List.nil_append, List.cons_append]
  refine wpAnyH_take (i := 0) (v := ?_) rfl (by kernel_rfl) (by kernel_rfl) (by kernel_rfl) (fun _ _ _ h => h) (Or.inl ⟨by kernel_rfl, ?_⟩) hS ?_
  rotate_left 1
  · (intro w' hS'; have h1 := (C0.out w' hS').1; clear hS'; go_simp; try with_reducible rfl)
  simp only [List.getElem_toArray, List.getElem_cons_zero, List.getElem_cons_succ, Act.put, List.setIfInBounds_toArray, List.set_cons_zero, List.set_cons_succ]
  refine wpAnyH_take (i := 1) (v := ?_) rfl (by kernel_rfl) (by kernel_rfl) (by kernel_rfl) (fun _ _ _ h => h) (Or.inl ⟨by kernel_rfl, ?_⟩) hS ?_
  rotate_left 1
  · (intro w' hS'; clear hS'; go_simp; try with_reducible rfl)
  simp only [List.getElem_toArray, List.getElem_cons_zero, List.getElem_cons_succ, Act.put, List.setIfInBounds_toArray, List.set_cons_zero, List.set_cons_succ]
  refine wpAnyH_take (i := 2) (v := ?_) rfl (by kernel_rfl) (by kernel_rfl) (by kernel_rfl) (fun _ _ _ h => h) (Or.inl ⟨by kernel_rfl, ?_⟩) hS ?_
  rotate_left 1
  · (intro w' hS'; clear hS'; go_simp; try with_reducible rfl)
  simp only [List.getElem_toArray, List.getElem_cons_zero, List.getElem_cons_succ, Act.put, List.setIfInBounds_toArray, List.set_cons_zero, List.set_cons_succ]
  refine wpAnyH_take (i := 3) (v := ?_) rfl (by kernel_rfl) (by kernel_rfl) (by kernel_rfl) (fun _ _ _ h => h) (Or.inl ⟨by kernel_rfl, ?_⟩) hS ?_
  rotate_left 1
  · (intro w' hS'; have h1 := (C0.out w' hS').2.2; clear hS'; go_simp; try with_reducible rfl)
  simp only [List.getElem_toArray, List.getElem_cons_zero, List.getElem_cons_succ, Act.put, List.setIfInBounds_toArray, List.set_cons_zero, List.set_cons_succ]
  refine wpAnyH_take (i := 4) (v := ?_) rfl (by kernel_rfl) (by kernel_rfl) (by kernel_rfl) (fun _ _ _ h => h) (Or.inl ⟨by kernel_rfl, ?_⟩) hS ?_
  rotate_left 1
  · (intro w' hS'; have h1 := (C0.out w' hS').2.1; clear hS'; go_simp; try with_reducible rfl)
  simp only [List.getElem_toArray, List.getElem_cons_zero, List.getElem_cons_succ, Act.put, List.setIfInBounds_toArray, List.set_cons_zero, List.set_cons_succ]
  refine wpAnyH_take (i := 5) rfl (by kernel_rfl) (by kernel_rfl) (by kernel_rfl) (fun _ _ _ h => h) (tylook (by kernel_rfl) (by exact ⟨_, _, rfl, rfl, rfl⟩) (fun w' hS' => L1.out w' hS')) hS ?_
  simp only [List.getElem_toArray, List.getElem_cons_zero, List.getElem_cons_succ, Act.put, List.setIfInBounds_toArray, List.set_cons_zero, List.set_cons_succ]
  refine wpAnyH_take (i := 6) (v := .string bf) rfl (by kernel_rfl) (by kernel_rfl) (by kernel_rfl) (fun _ _ _ h => h) (Or.inl ⟨by kernel_rfl, fun w' hS' => by kernel_rfl⟩) hS ?_
  simp only [List.getElem_toArray, List.getElem_cons_zero, List.getElem_cons_succ, Act.put, List.setIfInBounds_toArray, List.set_cons_zero, List.set_cons_succ]
  refine wpAnyH_ready (rs := [7]) (by kernel_rfl) (by simp) ?_
  refine AllReadyH.cons rfl (fun K1 hK1 => ?_) (AllReadyH.nil)
  go_simp
  refine hK1.out _ _ (by first | exact Fr.drew (Fr.alloc (Fr.refl _ _) _) | exact Fr.alloc hS _) (fun hS => ?_)
  clear hK1 K1
  simp only [List.getElem_toArray, List.getElem_cons_zero, List.getElem_cons_succ, Act.put, List.setIfInBounds_toArray, List.set_cons_zero, List.set_cons_succ]
  refine wpAnyH_ready (rs := [8]) (by kernel_rfl) (by simp) ?_
  refine AllReadyH.cons rfl (fun K1 hK1 => ?_) (AllReadyH.nil)
  go_simp
  refine hK1.out _ _ (by first | exact Fr.drew (Fr.alloc (Fr.refl _ _) _) | exact Fr.alloc (Fr.drew (Fr.refl _ _)) _) (fun hS => ?_)
  clear hK1 K1
  simp only [List.getElem_toArray, List.getElem_cons_zero, List.getElem_cons_succ, Act.put, List.setIfInBounds_toArray, List.set_cons_zero, List.set_cons_succ]
  refine wpAnyH_done (by kernel_rfl) ?_ _
  clear hS
  rw [HW8.out]
  go_wp2_with (go_at_call 80; refine KS.out.mono ?_; rintro e w9 ⟨rfl, fx, hfin⟩; have FX := hid fx; have HFIN := hid hfin; clear fx hfin)
  go_ret
  exact HEND.out _ FX.out HFIN.out
end Go.Proofs.YtilbdpnioajkoaaGreat

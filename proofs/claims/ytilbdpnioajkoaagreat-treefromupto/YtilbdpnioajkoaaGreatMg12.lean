/-
  A key of a node gets a value: set.
  Names, keys, values: which may be; the code's and the document's.
  The guard: what it says of a make.
  Whether a node stands below another one: Below.
-/
import Derived.Test.YtilbdpnioajkoaaGreatMg4
import Derived.Test.YtilbdpnioajkoaaGreatMg11
import Derived.Test.YtilbdpnioajkoaaGreatMg2
import Derived.Lib.Bytealg
namespace Go.Proofs.YtilbdpnioajkoaaGreat
open Go.RowKit Go.Maps
set_option linter.unusedVariables false
set_option maxRecDepth 100000
set_option linter.unusedSimpArgs false

/-- a node's attributes have changed -/
theorem Nf.attrs {S : Nat → Prop} {c c' : Nat → Option T.Col} {w w' : World} {bud b : Nat} {n : Int} {x : T.Nd} {ks : ByteArray → List Int} {av av' uv : Option Nat} {g : ByteArray → Option Value} {m : Nat} {l : T.At} (h : Nf c w bud b n x ks av uv g m) (hf : Fr S w w') (hS : ∀ i col, c i = some col → col.own = some n → col ≠ .node n → col ≠ .attrs n → ¬ S i) (hc : ∀ i col, c i = some col → c' i = some col)
    (hb : w'.heap[b]? = some (.cells #[.int .i64 x.par, .string x.nm, .map av', .map uv] 80 (0, 0))) (ha : ∀ i, av' = some i → c' i = some (.attrs n)) (hm : Mo 9 litS w' av' (fun s => (T.aget s l).map (fun v => .agg #[.string s, .string v])) l.length) : Nf c' w' bud b n ⟨x.par, x.nm, l⟩ ks av' uv g m :=
  ⟨hb, hc _ _ h.cb, ha, fun i e => hc _ _ (h.cu i e), hm, h.und.kept hf (fun i e => hS _ _ (h.cu i e) rfl (by simp) (by simp)), h.few, fun s => ((h.row s).kept hf (fun i e => hS _ _ e rfl (by simp) (by simp))).ext hc⟩
theorem at_eq {α : Type} [DecidableEq α] (g : α → Option Value) (x : α) (o : Option Value) (g' : α → Option Value) (h : ∀ y, g' y = if y = x then o else g y) : g' = at_ g x o := funext h
set_option maxHeartbeats 3200000 in
theorem set_any {c : Nat → Option T.Col} {w : World} {bud b : Nat} {n : Int} {x : T.Nd} {ks : ByteArray → List Int} (h : Nm c w bud b n x ks) (hl : Lo c w.heap.size) {k v : ByteArray} (hk : k.size ≤ maxLen) (hA : T.Ak x.ats) (hb : x.ats.length < 1000000000000000000) :
    Calls Tryz.prog 80 #[ptr b, .string k, .string v] w fun e w' => e = .returned (.tuple #[]) ∧ Fr (T.Mine c n) w w' ∧ ∃ c', More c c' w.heap.size ∧ Lo c' w'.heap.size ∧ Nm c' w' bud b n ⟨x.par, x.nm, T.aset k v x.ats⟩ ks := by
  obtain ⟨av, uv, g, m, hN⟩ := h
  have hlen := T.length_aset (k := k) (v := v) hA
  have hget : ∀ s, (T.aget s (T.aset k v x.ats)).map (fun v => Value.agg #[.string s, .string v]) = if s = k then (if v.toList.isEmpty = true then none else some (.agg #[.string k, .string v])) else (T.aget s x.ats).map (fun v => .agg #[.string s, .string v]) := fun s => by
    rw [T.aget_aset]
    by_cases e : s = k
    · rw [if_pos e, if_pos e, e]
      split <;> rfl
    · rw [if_neg e, if_neg e]
  have hmm := @run_makeMap Tryz.prog
  have q : ∀ r : Option Nat, ∀ w, (binOp .eql 77 (.map r) (.map none)).run Tryz.prog w = .ok (.bool r.isNone) w := fun r w => run_eql_map_nil w _ _ _ r Tryz.underlying77
  have c2 : w.cell? ⟨b, 2, none⟩ = some (.map av) := cellA (j := 2) hN.cells rfl
  by_cases hv : v.toList.isEmpty = true
  · have hnil : v.toList = [] := by simpa using hv
    cases av with
    | none =>
      have D := hid (Maps.drop_nil (w := w) keyS Tryz.underlying77 (keyOfS hk) 0)
      have FIN := hid (show Fr (T.Mine c n) w w ∧ ∃ c', More c c' w.heap.size ∧ Lo c' w.heap.size ∧ Nm c' w bud b n ⟨x.par, x.nm, T.aset k v x.ats⟩ ks from ⟨Fr.refl _ _, c, fun _ _ => rfl, hl, none, uv, g, m, hN.attrs (S := fun _ => False) (Fr.refl _ _) (fun _ _ _ _ _ _ h => h) (fun _ _ h => h) hN.cells (fun _ e => by cases e) (by
        obtain ⟨h1, h2⟩ := hN.att
        refine ⟨fun s => ?_, ?_⟩
        · show (T.aget s (T.aset k v x.ats)).map _ = none
          rw [hget s]
          split
          · first | rfl | rw [if_pos hv]
          · exact h1 s
        · rw [hlen, if_pos hv]
          have h3 : (T.aget k x.ats).map (fun v => Value.agg #[.string k, .string v]) = none := h1 k
          cases hg : T.aget k x.ats with
          | none => exact h2
          | some z => rw [hg] at h3; cases h3)⟩)
      clear hN hl hA hb hlen hget hk
      go_enter Tryz.func80, Tryz.ntmps80
      go_wp2_with (refine wpList_del_v D.out (by exact ⟨_, _, rfl, rfl, rfl⟩) (by kernel_rfl) ?_)
      exact bodyPost_ret (v := .tuple #[]) (results_none Tryz.results80 _ _ _) rfl ⟨rfl, FIN.out⟩
    | some ab =>
      obtain ⟨w4, r4, mp, f4⟩ := Mp.drop (show Mp 9 litS w ab _ _ from hN.att) litS_inj keyS Tryz.underlying77 (keyOfS hk) 0
      have FIN := hid (show Fr (T.Mine c n) w w4 ∧ ∃ c', More c c' w.heap.size ∧ Lo c' w4.heap.size ∧ Nm c' w4 bud b n ⟨x.par, x.nm, T.aset k v x.ats⟩ ks from ⟨f4.mono (fun i _ e => ⟨.attrs n, by rw [e]; exact hN.ca ab rfl, rfl⟩), c, fun _ _ => rfl, fun i hi => Nat.lt_of_lt_of_le (hl i hi) f4.size, some ab, uv, g, m, hN.attrs f4 (fun i col e1 e2 e3 e4 e => by rw [e, hN.ca ab rfl] at e1; cases e1; exact e4 rfl) (fun _ _ h => h) (f4.cells hN.cells (fun e => by have := hN.cb; rw [e, hN.ca ab rfl] at this; cases this)) hN.ca (by
        have e1 : (fun s => (T.aget s (T.aset k v x.ats)).map (fun v => Value.agg #[.string s, .string v])) = at_ (fun s => (T.aget s x.ats).map (fun v => Value.agg #[.string s, .string v])) k none := at_eq _ k none _ (fun s => by rw [hget s, if_pos hv])
        rw [e1, hlen, if_pos hv]
        rw [Option.isSome_map] at mp
        exact mp)⟩)
      have R4 := hid r4
      clear hN hl hA hb hlen hget hk r4 mp f4
      go_enter Tryz.func80, Tryz.ntmps80
      go_wp2_with (refine wpList_del_v R4.out (by exact ⟨_, _, rfl, rfl, rfl⟩) (by kernel_rfl) ?_)
      exact bodyPost_ret (v := .tuple #[]) (results_none Tryz.results80 _ _ _) rfl ⟨rfl, FIN.out⟩
  · have hv1 : v.toList.isEmpty = false := by simpa using hv
    cases av with
    | some ab =>
      obtain ⟨w4, r4, mp, f4⟩ := Mp.store (show Mp 9 litS w ab _ _ from hN.att) litS_inj keyS Tryz.underlying77 (by unfold maxLen; omega) (keyOfS hk) (.agg #[.string k, .string v])
      have FIN := hid (show Fr (T.Mine c n) w w4 ∧ ∃ c', More c c' w.heap.size ∧ Lo c' w4.heap.size ∧ Nm c' w4 bud b n ⟨x.par, x.nm, T.aset k v x.ats⟩ ks from ⟨f4.mono (fun i _ e => ⟨.attrs n, by rw [e]; exact hN.ca ab rfl, rfl⟩), c, fun _ _ => rfl, fun i hi => Nat.lt_of_lt_of_le (hl i hi) f4.size, some ab, uv, g, m, hN.attrs f4 (fun i col e1 e2 e3 e4 e => by rw [e, hN.ca ab rfl] at e1; cases e1; exact e4 rfl) (fun _ _ h => h) (f4.cells hN.cells (fun e => by have := hN.cb; rw [e, hN.ca ab rfl] at this; cases this)) hN.ca (by
        have e1 : (fun s => (T.aget s (T.aset k v x.ats)).map (fun v => Value.agg #[.string s, .string v])) = at_ (fun s => (T.aget s x.ats).map (fun v => Value.agg #[.string s, .string v])) k (some (.agg #[.string k, .string v])) := at_eq _ k _ _ (fun s => by rw [hget s, if_neg hv])
        rw [e1, hlen, if_neg hv]
        rw [Option.isSome_map] at mp
        exact mp)⟩)
      have R4 := hid r4
      clear hN hl hA hb hlen hget hk r4 mp f4
      go_enter Tryz.func80, Tryz.ntmps80
      go_wp2_with (refine wpList_upd_v R4.out (by exact ⟨_, _, _, rfl, rfl, rfl, rfl⟩) (by kernel_rfl) ?_)
      go_end0
      exact ⟨rfl, FIN.out⟩
    | none =>
      obtain ⟨W, hW⟩ : ∃ W, (w.alloc (.map #[] 0)).setCell ⟨b, 2, none⟩ (.map (some w.heap.size)) = W := ⟨_, rfl⟩
      obtain ⟨ab, hab⟩ : ∃ ab, w.heap.size = ab := ⟨_, rfl⟩
      have hbl : b < w.heap.size := hl b (by rw [hN.cb]; simp)
      have f0 : Fr (fun i => i = b) w W := by
        rw [← hW]
        exact Fr.setCell (p := ⟨b, 2, none⟩) (Fr.alloc (Fr.refl (fun i => i = b) _) _) (fun _ => rfl) _
      have hbW : W.heap[b]? = some (.cells #[.int .i64 x.par, .string x.nm, .map (some ab), .map uv] 80 (0, 0)) := by
        rw [← hW, ← hab]
        exact setCell_row (j := 2) ((Fr.alloc (Fr.refl (fun _ => False) w) (.map #[] 0)).cells hN.cells (fun h => h)) (.map (some w.heap.size))
      have hsz : W.heap.size = ab + 1 := by rw [← hW, setCell_size, alloc_size, hab]
      have mpW : Mp 9 litS W ab (fun _ => none) 0 := by
        have f1 : Fr (fun i => i = b) (w.alloc (.map #[] 0)) W := by rw [← hW]; exact Fr.setCell (p := ⟨b, 2, none⟩) (Fr.refl (fun i => i = b) _) (fun _ => rfl) _
        have := (Mp.made (κ := ByteArray) 9 litS w).kept f1 (by omega)
        rw [hab] at this
        exact this
      obtain ⟨w4, r4, mp, f4⟩ := Mp.store mpW litS_inj keyS Tryz.underlying77 (by decide) (keyOfS hk) (.agg #[.string k, .string v])
      have hnone : ∀ s, (T.aget s x.ats).map (fun v => Value.agg #[.string s, .string v]) = none := hN.att.1
      have hl0 : x.ats.length = 0 := hN.att.2
      have f04 : Fr (fun i => i = b) w w4 := f0.trans f4 (fun i hi e => by omega)
      have hc : ∀ i col, c i = some col → (fun i => if i = ab then some (T.Col.attrs n) else c i) i = some col := fun i col e => by
        have : i ≠ ab := fun e2 => by have := hl i (by rw [e]; simp); omega
        simp only [if_neg this]
        exact e
      have FIN := hid (show Fr (T.Mine c n) w w4 ∧ ∃ c', More c c' w.heap.size ∧ Lo c' w4.heap.size ∧ Nm c' w4 bud b n ⟨x.par, x.nm, T.aset k v x.ats⟩ ks from ⟨f04.mono (fun i _ e => ⟨.node n, by rw [e]; exact hN.cb, rfl⟩), fun i => if i = ab then some (.attrs n) else c i, fun i hi => by simp only [if_neg (show i ≠ ab by omega)], fun i hi => by
          have h4 := f4.size
          by_cases e : i = ab
          · omega
          · simp only [if_neg e] at hi
            have := hl i hi
            omega, some ab, uv, g, m, hN.attrs f04 (fun i col e1 e2 e3 e4 e => by rw [e, hN.cb] at e1; cases e1; exact e3 rfl) hc (f4.cells hbW (by omega)) (fun i e => by cases e; simp) (by
        have e1 : (fun s => (T.aget s (T.aset k v x.ats)).map (fun v => Value.agg #[.string s, .string v])) = at_ (fun _ => none) k (some (.agg #[.string k, .string v])) := at_eq _ k _ _ (fun s => by rw [hget s, if_neg hv, hnone s])
        rw [e1, hlen, if_neg hv, hl0]
        have h5 : (T.aget k x.ats).isSome = false := by
          have := hnone k
          cases hg : T.aget k x.ats with
          | none => rfl
          | some z => rw [hg] at this; cases this
        rw [h5]
        exact mp)⟩)
      have R4 := hid r4
      have HW := hid hW
      have HAB := hid hab
      have c5 : W.cell? ⟨b, 2, none⟩ = some (.map (some ab)) := cellA (j := 2) hbW rfl
      have c6 : (w.alloc (.map #[] 0)).cell? ⟨b, 2, none⟩ = some (.map none) := cellA (j := 2) ((Fr.alloc (Fr.refl (fun _ => False) w) (.map #[] 0)).cells hN.cells (fun h => h)) rfl
      have fz : (w.alloc (.map #[] 0)).frozen? ⟨b, 2, none⟩ = false := frozen_of_row ((Fr.alloc (Fr.refl (fun _ => False) w) (.map #[] 0)).cells hN.cells (fun h => h))
      clear hN hl hA hb hlen hget hk r4 mp f4 hW hab hbl f0 hbW hsz mpW hnone hl0 f04 hc
      go_enter Tryz.func80, Tryz.ntmps80
      go_wp2_with (first
        | (rw [HW.out, HAB.out]; refine wpList_upd_v R4.out (by exact ⟨_, _, _, rfl, rfl, rfl, rfl⟩) (by kernel_rfl) ?_))
      go_end0
      exact ⟨rfl, FIN.out⟩
end Go.Proofs.YtilbdpnioajkoaaGreat

namespace Go.Proofs.YtilbdpnioajkoaaGreat
open Go.RowKit
set_option linter.unusedVariables false
set_option maxRecDepth 100000
set_option linter.unusedSimpArgs false

set_option maxRecDepth 100000 in
set_option maxHeartbeats 1600000 in
theorem tbyte_any (s : ByteArray) (c : Int) (w : World) : Calls Tryz.prog 167 #[.string s, .int .u8 c] w fun e w' => e = .returned (.int .i64 (Lib.indexByte s.data.toList c.toNat.toUInt8)) ∧ w = w' := by
  go_enter Tryz.func167, Tryz.ntmps167
  go_wp2
  rw [run_callFunc_extern Tryz.func177 (by kernel_rfl) (by kernel_rfl) (by kernel_rfl) (e := Extern.BytealgIndexByte.indexByte) (by kernel_rfl), Lib.run_indexByteString]
  simp only [Result.andThen]
  rw [Oper.upon_value]
  go_wp2
  go_ret
  exact ⟨rfl, rfl⟩
set_option maxRecDepth 100000 in
set_option maxHeartbeats 1600000 in
theorem tslash_any (s : ByteArray) (w : World) : Calls Tryz.prog 144 #[.string s, .string ⟨#[47]⟩] w fun e w' => e = .returned (.int .i64 (Lib.indexByte s.data.toList 47)) ∧ w = w' := by
  have K : Hid (∀ w, Calls Tryz.prog 167 #[.string s, .int .u8 47] w fun e w' => e = .returned (.int .i64 (Lib.indexByte s.data.toList 47)) ∧ w = w') := hid (fun w => tbyte_any s 47 w)
  go_enter Tryz.func144, Tryz.ntmps144
  go_wp2_with (go_at_call 167; refine (K.out _).mono ?_; rintro e wx ⟨rfl, rfl⟩)
  · have h : ([47] == s.toList) = true := by assumption
    have e : s.data.toList = [47] := by rw [← Lib.toList_data]; exact (beq_iff_eq.1 h).symm
    go_ret
    exact ⟨ret_int (by rw [e]; rfl), rfl⟩
  · go_ret
    exact ⟨rfl, rfl⟩
theorem tindex_any (s : ByteArray) (w : World) : Calls Tryz.prog 116 #[.string s, .string ⟨#[47]⟩] w fun e w' => e = .returned (.int .i64 (Lib.indexByte s.data.toList 47)) ∧ w = w' := by
  have K := hid (tslash_any s)
  go_enter Tryz.func116, Tryz.ntmps116
  go_wp2_with (go_at_call 144; refine (K.out _).mono ?_; rintro e wx ⟨rfl, rfl⟩)
  go_ret
  exact ⟨rfl, rfl⟩
theorem T.slash_iff : ∀ l : List UInt8, 0 ≤ Lib.indexByte l 47 ↔ 47 ∈ l
  | [] => by simp [Lib.indexByte]
  | b :: l => by
    have ih := T.slash_iff l
    have hg := Lib.indexByte_ge l 47
    unfold Lib.indexByte
    by_cases h1 : (b == 47) = true
    · rw [if_pos h1]
      have : b = 47 := by simpa using h1
      simp [this]
    · rw [if_neg h1]
      have hb : ¬ 47 = b := fun e => h1 (by simp [← e])
      by_cases h2 : (Lib.indexByte l 47 == -1) = true
      · rw [if_pos h2]
        have h3 : Lib.indexByte l 47 = -1 := by simpa using h2
        have h4 : ¬ 47 ∈ l := fun h => by have := ih.2 h; omega
        simp [hb, h4]
      · rw [if_neg h2]
        have h3 : Lib.indexByte l 47 ≠ -1 := by simpa using h2
        have h4 : 47 ∈ l := ih.1 (by omega)
        simp [h4]
        omega
/-- has a text a slash? -/
def T.slash (s : ByteArray) : Bool := s.data.toList.contains 47
theorem tcontains_any (s : ByteArray) (w : World) : Calls Tryz.prog 96 #[.string s, .string ⟨#[47]⟩] w fun e w' => e = .returned (.bool (T.slash s)) ∧ w = w' := by
  have K := hid (tindex_any s)
  have hs : decide (0 ≤ Lib.indexByte s.data.toList 47) = T.slash s := by
    rw [Bool.eq_iff_iff, decide_eq_true_eq, T.slash_iff]
    simp [T.slash]
  rw [← hs]
  clear hs
  generalize Lib.indexByte s.data.toList 47 = x at K ⊢
  go_enter Tryz.func96, Tryz.ntmps96
  go_wp2_with (go_at_call 116; refine (K.out _).mono ?_; rintro e wx ⟨rfl, rfl⟩)
  go_ret
  exact ⟨rfl, rfl⟩
/-- may a text be a key? -/
def T.txt (s : ByteArray) : Bool := !s.toList.isEmpty && decide (s.size ≤ 255)
/-- may a text be a name? -/
def T.nam (s : ByteArray) : Bool := T.txt s && !(s.toList == [46]) && !(s.toList == [46, 46]) && !T.slash s
theorem fits_any (s : ByteArray) (w : World) : Calls Tryz.prog 69 #[.string s] w fun e w' => e = .returned (.bool (decide (s.size ≤ 255))) ∧ w = w' := by
  by_cases h : s.size ≤ 255
  · have h1 : (s.size : Int) ≤ (255 : Int) := by omega
    go_enter Tryz.func69, Tryz.ntmps69
    go_wp2
    go_ret
    exact ⟨ret_bool (by simp [h]), rfl⟩
  · have h1 : ¬ (s.size : Int) ≤ (255 : Int) := by omega
    go_enter Tryz.func69, Tryz.ntmps69
    go_wp2
    go_ret
    exact ⟨ret_bool (by simp [h]), rfl⟩
theorem isText_any (s : ByteArray) (w : World) : Calls Tryz.prog 68 #[.string s] w fun e w' => e = .returned (.bool (T.txt s)) ∧ w = w' := by
  have K := hid (fits_any s)
  unfold T.txt
  cases h0 : s.toList.isEmpty <;> cases h1 : decide (s.size ≤ 255) <;>
  · rw [h1] at K
    simp only [Bool.not_true, Bool.not_false, Bool.true_and, Bool.and_true, Bool.false_and, Bool.and_false]
    go_enter Tryz.func68, Tryz.ntmps68
    go_wp2_with (go_at_call 69; refine (K.out _).mono ?_; rintro e wx ⟨rfl, rfl⟩)
    all_goals (go_ret; exact ⟨by simp_all, rfl⟩)
set_option maxHeartbeats 1600000 in
theorem tname_any (s : ByteArray) (w : World) : Calls Tryz.prog 67 #[.string s] w fun e w' => e = .returned (.bool (T.nam s)) ∧ w = w' := by
  have K := hid (tcontains_any s)
  have KT := hid (isText_any s)
  unfold T.nam
  cases h0 : T.txt s <;> cases h1 : (s.toList == [46]) <;> cases h2 : (s.toList == [46, 46]) <;> cases h3 : T.slash s <;>
  · rw [h3] at K
    rw [h0] at KT
    simp only [Bool.not_true, Bool.not_false, Bool.true_and, Bool.and_true, Bool.false_and, Bool.and_false]
    go_enter Tryz.func67, Tryz.ntmps67
    go_wp2_with (first | (go_at_call 68; refine (KT.out _).mono ?_; rintro e wx ⟨rfl, rfl⟩) | (go_at_call 96; refine (K.out _).mono ?_; rintro e wx ⟨rfl, rfl⟩))
    all_goals (go_ret; exact ⟨by simp_all, rfl⟩)
end Go.Proofs.YtilbdpnioajkoaaGreat

namespace Go.Proofs.YtilbdpnioajkoaaGreat
open Go.RowKit Go.Maps
set_option linter.unusedVariables false
set_option maxRecDepth 100000
set_option linter.unusedSimpArgs false

/-- may a node be made? -/
def T.may1 (t : T.Tr) (o : S.Op) : Bool := decide (2 < o.n) && (!(A.get o.n t).isSome && ((A.get o.p t).isSome && T.nam o.a))
set_option maxHeartbeats 1600000 in
theorem may1_any {c : Nat → Option T.Col} {w : World} {bud p : Nat} {dos last : Int} {t : T.Tr} {mb : Nat} {f : Int → Nat} (h : Tf c w bud p dos last t mb f) (hl : Lo c w.heap.size) (o : S.Op) (hi : o.in64) (hk : o.k = 1) :
    Calls Tryz.prog 40 #[ptr p, .agg o.cs] w fun e w' => e = .returned (.bool (T.may1 t o)) ∧ Fr (fun _ => False) w w' := by
  obtain ⟨W, hW⟩ : ∃ W, w.alloc (.cells o.cs 35) = W := ⟨_, rfl⟩
  have fW : Fr (fun _ => False) w W := by rw [← hW]; exact Fr.alloc (Fr.refl _ _) _
  have hTW := h.kept fW (fun _ _ h => h)
  have K1 := hid (has_any hTW (wfT hi.1.1 hi.1.2))
  have K2 := hid (has_any hTW (wfT hi.2.1 hi.2.2))
  have KN := hid (tname_any o.a)
  have hbx : W.heap[w.heap.size]? = some (.cells o.cs 35 (0, 0)) := by rw [← hW]; exact Go.heap_alloc_new w _
  have c4 : W.cell? ⟨w.heap.size, 4, none⟩ = some (.int .i64 o.p) := cellA (j := 4) hbx rfl
  have c5 : W.cell? ⟨w.heap.size, 5, none⟩ = some (.string o.a) := cellA (j := 5) hbx rfl
  have FW := hid fW
  have HW := hid hW
  obtain ⟨t', s', k', n', p', a', b', c'⟩ := o
  simp only at hk hi K1 K2 KN HW c4 c5
  subst hk
  clear h hl hi hTW hW fW hbx
  simp only [T.may1]
  by_cases h2 : 2 < n' <;> cases hg : A.get n' t <;> cases hq : A.get p' t <;> cases hnm : T.nam a' <;>
  · rw [hg] at K1
    rw [hq] at K2
    rw [hnm] at KN
    simp only [Option.isSome_none, Option.isSome_some] at K1 K2
    go_enter Tryz.func40, Tryz.ntmps40
    go_wp2_with (first
      | (go_at_call 66; rw [HW.out]; refine K1.out.mono ?_; rintro e wx ⟨rfl, rfl⟩)
      | (go_at_call 66; refine K2.out.mono ?_; rintro e wx ⟨rfl, rfl⟩)
      | (go_at_call 67; refine (KN.out _).mono ?_; rintro e wx ⟨rfl, rfl⟩))
    all_goals (go_ret; exact ⟨by simp [h2], by first | exact FW.out | (rw [HW.out]; exact FW.out)⟩)
end Go.Proofs.YtilbdpnioajkoaaGreat

namespace Go.Proofs.YtilbdpnioajkoaaGreat
open Go.RowKit Go.Maps
set_option linter.unusedVariables false
set_option maxRecDepth 100000
set_option linter.unusedSimpArgs false
namespace T
/-- within k steps up there is no node any more -/
def ends (t : Tr) : Nat → Int → Prop
  | 0, n => A.get n t = none
  | k + 1, n => ∀ x, A.get n t = some x → ends t k x.par
/-- how many steps up, k at most -/
def hgt (t : Tr) : Nat → Int → Nat
  | 0, _ => 0
  | k + 1, n => match A.get n t with
    | none => 0
    | some x => hgt t k x.par + 1
/-- is a node below another one, as far as k steps up show? -/
def up (t : Tr) : Nat → Int → Int → Bool
  | 0, _, _ => false
  | k + 1, n, a => match A.get n t with
    | none => false
    | some x => if n = a then true else up t k x.par a
theorem ends_succ {t : Tr} : ∀ {k : Nat} {n : Int}, ends t k n → ends t (k + 1) n
  | 0, n, h => fun x hx => by rw [show A.get n t = none from h] at hx; cases hx
  | k + 1, n, h => fun x hx => ends_succ (h x hx)
theorem hgt_succ {t : Tr} : ∀ {k : Nat} {n : Int}, ends t k n → hgt t (k + 1) n = hgt t k n
  | 0, n, h => by
    have h : A.get n t = none := h
    simp only [hgt, h]
  | k + 1, n, h => by
    unfold hgt
    cases hx : A.get n t with
    | none => rfl
    | some x => simp only []; rw [hgt_succ (h x hx)]
theorem up_succ {t : Tr} {a : Int} : ∀ {k : Nat} {n : Int}, ends t k n → up t (k + 1) n a = up t k n a
  | 0, n, h => by
    have h : A.get n t = none := h
    simp only [up, h]
  | k + 1, n, h => by
    unfold up
    cases hx : A.get n t with
    | none => rfl
    | some x =>
      simp only []
      by_cases e : n = a
      · rw [if_pos e, if_pos e]
      · rw [if_neg e, if_neg e, up_succ (h x hx)]
end T
set_option maxHeartbeats 1600000 in
theorem below_any {c : Nat → Option T.Col} {w : World} {bud p : Nat} {dos last : Int} {t : T.Tr} {mb : Nat} {f : Int → Nat} (h : Tf c w bud p dos last t mb f) (hw : ∀ k x, A.get k t = some x → (Lit.int .i64 x.par).wf = true) {K : Nat} (hK : ∀ n, T.ends t K n) {n : Int} (hn : (Lit.int .i64 n).wf = true) (a : Int) :
    Calls Tryz.prog 34 #[ptr p, .int .i64 n, .int .i64 a] w fun e w' => e = .returned (.bool (T.up t K n a)) ∧ w = w' := by
  have KA := hid (fun (m : Int) (hm : (Lit.int .i64 m).wf = true) => at_any h hm)
  have HN := hid (fun (m : Int) (x : T.Nd) (hx : A.get m t = some x) => show w.cell? ⟨f m, 0, none⟩ = some (.int .i64 x.par) by
    obtain ⟨av, uv, g, mm, hN⟩ := h.node m x hx
    exact cellA (j := 0) hN.cells rfl)
  have HWF := hid hw
  have HK := hid hK
  have HS := hid (fun (m : Int) (x : T.Nd) (hx : A.get m t = some x) => show T.hgt t K x.par < T.hgt t K m ∧ T.up t K m a = if m = a then true else T.up t K x.par a by
    have e := hK m
    cases K with
    | zero => rw [show A.get m t = none from e] at hx; cases hx
    | succ K =>
      have e2 := e x hx
      refine ⟨?_, ?_⟩
      · rw [T.hgt_succ e2]
        show T.hgt t K x.par < T.hgt t (K + 1) m
        simp only [T.hgt, hx]
        omega
      · rw [T.up_succ e2]
        simp only [T.up, hx])
  clear h hw hK
  have K0 := hid (KA.out n hn)
  have HWN := hid hn
  clear hn
  go_enter Tryz.func34, Tryz.ntmps34
  go_wp2_with (go_at_call 58; refine K0.out.mono ?_; rintro e wx ⟨rfl, rfl⟩)
  obtain ⟨r, hr⟩ : ∃ r, T.up t K n a = r := ⟨_, rfl⟩
  go_loopw [1, 7] (fun i v wr => ∃ (m : Int), i = .int .i64 m ∧ v = T.loc f t m ∧ Hid ((Lit.int .i64 m).wf = true) ∧ Hid (T.up t K m a = T.up t K n a) ∧ wr = w) (fun i _ _ => T.hgt t K (intOf i))
  case atStart => exact ⟨n, rfl, rfl, HWN, hid rfl, rfl⟩
  case round =>
    obtain ⟨m, rfl, rfl, HM, HU, rfl⟩ := hrel
    cases hg : A.get m t with
    | none =>
      have HA := hid (show T.up t K n a = false by
        rw [← HU.out]
        cases K with
        | zero => rfl
        | succ K => simp only [T.up, hg])
      rw [T.loc_none hg]
      clear hr
      go_wp2
      go_ret
      exact ⟨ret_bool HA.out.symm, rfl⟩
    | some x =>
      obtain ⟨s1, s2⟩ := HS.out m x hg
      have HS1 := hid s1
      have c0 := HN.out m x hg
      have HWX := hid (HWF.out m x hg)
      have KX := hid (KA.out x.par HWX.out)
      by_cases e : m = a
      · have HA := hid (show T.up t K n a = true by rw [← HU.out, s2, if_pos e])
        have e2 : (m == a) = true := by simp [e]
        rw [T.loc_some hg]
        clear hr s1 s2
        subst e
        go_wp2
        go_ret
        exact ⟨ret_bool HA.out.symm, rfl⟩
      · have HU2 := hid (show T.up t K x.par a = T.up t K n a by rw [← HU.out, s2, if_neg e])
        have e2 : (m == a) = false := by simp [e]
        rw [T.loc_some hg]
        clear hr s1 s2
        go_wp2_with (go_at_call 58; refine KX.out.mono ?_; rintro e wx ⟨rfl, rfl⟩)
        go_roundw
        case rel => exact ⟨x.par, by first | rfl | trivial, by first | rfl | trivial, HWX, HU2, by first | rfl | trivial⟩
        case measure => exact HS1.out
end Go.Proofs.YtilbdpnioajkoaaGreat

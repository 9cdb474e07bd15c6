/-
  hasRing of a tree: no.
  Nodes that stand nowhere yet, one more laid in a tree (or in another's place).
  rises, at its two lists; areAttrs.
-/
import Derived.Test.YtmgnldangjfohaaGreatTWalkQ
import Derived.Test.YtmgnldangjfohaaGreatMg38
import Derived.Test.YtmgnldangjfohaaGreatMg24
import Derived.Test.YtmgnldangjfohaaGreatTStkQ
import Derived.Test.YtmgnldangjfohaaGreatTSameQ
import Derived.Test.YtmgnldangjfohaaGreatTKidsQ
import Derived.Test.YtmgnldangjfohaaGreatMg10
namespace Go.Proofs.YtmgnldangjfohaaGreat
open Go.RowKit Go.Maps
set_option linter.unusedVariables false
set_option linter.unusedSimpArgs false
set_option maxRecDepth 100000
attribute [local go_sem] Oper.semAt_some
theorem T.Wf.nmlen {t : T.Tr} (hw : T.Wf t) : ∀ k y, A.get k t = some y → y.nm.size ≤ maxLen := fun k y hy => by
  by_cases h2 : 2 < k
  · have h1 := T.nam_ne (hw.low k y hy h2).2
    unfold maxLen
    omega
  · rw [(hw.top k y hy (by omega)).2]
    exact Nat.zero_le _
theorem T.Wf.numwf {t : T.Tr} (hw : T.Wf t) : ∀ k y, A.get k t = some y → (Lit.int .i64 k).wf = true := fun k y hy => wfI (by have := hw.num k y hy; omega)
set_option maxHeartbeats 4000000 in
theorem hasRing_any {c : Nat → Option T.Col} {w : World} {bud p : Nat} {dos last : Int} {t : T.Tr} {mb : Nat} {f : Int → Nat} (h : Tf c w bud p dos last t mb f) (hb : bud ≤ 8000000000000) (hlen : t.length ≤ 5000000000000) (hw : T.Wf t) :
    Calls Tryz.prog 50 #[ptr p] w fun e w' => e = .returned (.bool false) ∧ Fr (fun _ => False) w w' := by
  obtain ⟨K, hK⟩ := hw.fin
  have hbl := T.both_len hw hK
  obtain ⟨x1, hx1⟩ := Option.isSome_iff_exists.1 hw.one
  obtain ⟨x2, hx2⟩ := Option.isSome_iff_exists.1 hw.two
  obtain ⟨l1, hl1⟩ : ∃ l, T.sub t K 0 1 = l := ⟨_, rfl⟩
  obtain ⟨l2, hl2⟩ : ∃ l, T.sub t K 0 2 = l := ⟨_, rfl⟩
  have K1 := hid (walk_any h hw.up hb hlen hw.nmlen hw.numwf hx1 (hw.deep hK hw.one) (by omega))
  have K2 := hid (fun (W : World) (hf : Fr (fun _ => False) w W) => walk_any (h.kept hf (fun _ _ h => h)) hw.up hb hlen hw.nmlen hw.numwf hx2 (hw.deep hK hw.two) (by omega))
  have KL := hid (fun (W : World) (hf : Fr (fun _ => False) w W) => tlen_any (h.kept hf (fun _ _ h => h)))
  rw [hl1] at K1 hbl
  rw [hl2] at K2 hbl
  obtain ⟨n1, hn1⟩ : ∃ n, l1.length = n := ⟨_, rfl⟩
  obtain ⟨n2, hn2⟩ : ∃ n, l2.length = n := ⟨_, rfl⟩
  obtain ⟨n3, hn3⟩ : ∃ n, List.length t = n := ⟨_, rfl⟩
  rw [hn1] at K1 hbl
  rw [hn2] at K2 hbl
  rw [hn3] at KL hbl hlen
  have hb1 : n1 + n2 ≤ 5000000000000 := by omega
  have HBL := hid hbl
  clear h hb hlen hw hK hx1 hx2 hl1 hl2 hn1 hn2 hn3 hbl
  go_enter Tryz.func50, Tryz.ntmps50
  go_wp2_with fail
  refine K1.out.mono ?_
  rintro e w1 ⟨a1, cp1, rfl, _, _, hf1⟩
  have F1 := hid hf1
  clear hf1
  dsimp only
  go_wp2_with fail
  refine (K2.out w1 F1.out).mono ?_
  rintro e w2 ⟨a2, cp2, rfl, _, _, hf2⟩
  have F2 := hid (F1.out.trans hf2 (fun _ _ h => h))
  clear hf2
  dsimp only
  go_wp2_with (first
    | (go_at_call 11; refine (KL.out _ F2.out).mono ?_; rintro e w3 ⟨rfl, rfl⟩))
  go_ret
  refine ⟨?_, F2.out⟩
  rw [decide_eq_false (by have := HBL.out; omega)]
  rfl
end Go.Proofs.YtmgnldangjfohaaGreat

namespace Go.Proofs.YtmgnldangjfohaaGreat
open Go.RowKit Go.Maps
set_option linter.unusedVariables false
set_option linter.unusedSimpArgs false
set_option maxRecDepth 100000
/-- a key behind all others comes last -/
theorem T.aset_end {k v : ByteArray} (hv : v.toList.isEmpty = false) {l : T.At} (h : ∀ p ∈ l, T.blt p.1 k = true) : T.aset k v l = l ++ [(k, v)] := by
  unfold T.aset
  rw [hv, if_neg (by simp)]
  have hd : T.adel k l = l := by
    unfold T.adel
    refine List.filter_eq_self.2 (fun p hp => ?_)
    have h1 := h p hp
    have : p.1 ≠ k := fun e => by rw [e, T.blt_irrefl] at h1; cases h1
    simp [this]
  rw [hd]
  clear hd
  induction l with
  | nil => rfl
  | cons y r ih =>
    have h1 := h y List.mem_cons_self
    have h2 : ¬ T.blt k y.1 = true := fun e => by
      have := T.blt_trans e h1
      rw [T.blt_irrefl] at this
      cases this
    show (if T.blt k y.1 = true then _ else y :: T.ains (k, v) r) = _
    rw [if_neg h2, ih (fun p hp => h p (List.mem_cons_of_mem _ hp))]
    rfl
/-- no node stands anywhere -/
def T.Bare (t : T.Tr) : Prop := ∀ m x, A.get m t = some x → x.par = 0
theorem T.Bare.kids {t : T.Tr} (ht : A.Up t) (h : T.Bare t) {n : Int} (hn : n ≠ 0) (s : ByteArray) : T.kids t n s = [] := by
  unfold T.kids
  rw [List.map_eq_nil_iff, List.filter_eq_nil_iff]
  rintro ⟨m, x⟩ hm
  have h1 := h m x (A.get_of_mem ht hm)
  have h2 : (x.par == n) = false := by rw [h1]; simp; omega
  simp [h2]
theorem T.Bare.put {t : T.Tr} (ht : A.Up t) (h : T.Bare t) (n : Int) {x : T.Nd} (hx : x.par = 0) : T.Bare (A.put n x t) := fun m y hy => by
  by_cases e : m = n
  · subst e
    rw [A.get_put_same ht] at hy
    cases hy
    exact hx
  · rw [A.get_put_other ht e] at hy
    exact h m y hy
theorem Tf.laid {c : Nat → Option T.Col} {w w' : World} {bud p : Nat} {dos last : Int} {t : T.Tr} {mb : Nat} {f : Int → Nat} (h : Tf c w bud p dos last t mb f) (ht : A.Up t) (h0 : A.get 0 t = none) (hB : T.Bare t) {n : Int} (hn0 : n ≠ 0) {b : Nat} {x : T.Nd} (hx : x.par = 0) (hN : Nm c w bud b n x (fun _ => []))
    (hf : Fr (fun i => i = mb) w w') (hm : Mp 2 litI w' mb (at_ (fun k => (A.get k t).map (fun _ => ptr (f k))) n (some (ptr b))) (if ((A.get n t).map (fun _ => ptr (f n))).isSome then t.length else t.length + 1)) :
    Tf c w' (bud + 1) p dos last (A.put n x t) mb (fun k => if k = n then b else f k) := by
  have hpm : p ≠ mb := fun e => by have := h.cp; rw [e, h.cm] at this; cases this
  have hB2 := hB.put ht n hx
  have ht2 := ht.put n x
  refine ⟨hf.cells h.cells hpm, h.cp, h.cm, ?_, ?_, fun k z hz => ?_⟩
  · have e : (fun k => (A.get k (A.put n x t)).map (fun _ => ptr (if k = n then b else f k))) = at_ (fun k => (A.get k t).map (fun _ => ptr (f k))) n (some (ptr b)) := by
      funext k
      unfold at_
      by_cases e : k = n
      · subst e
        rw [A.get_put_same ht, if_pos rfl, if_pos rfl]
        rfl
      · rw [A.get_put_other ht e, if_neg e, if_neg e]
    rw [e]
    cases hg : A.get n t with
    | some y =>
      rw [hg] at hm
      rw [A.length_put_same ht hg]
      exact hm
    | none =>
      rw [hg] at hm
      rw [A.length_put_new hg]
      exact hm
  · have := A.length_put_le n x t
    have := h.few
    omega
  · have hk0 : k ≠ 0 := fun e => by
      rw [e, A.get_put_other ht (Ne.symm hn0), h0] at hz
      cases hz
    have hmb : ∀ i col, c i = some col → col.own = some k → ¬ i = mb := fun i col e1 e2 e3 => by
      rw [e3, h.cm] at e1
      cases e1
      cases e2
    by_cases e : k = n
    · subst e
      rw [A.get_put_same ht] at hz
      cases hz
      simp only [if_pos]
      refine ((hN.kept hf hmb).ext (fun _ _ h => h) (Nat.le_succ _)).kids (fun s => hB2.kids ht2 hn0 s)
    · rw [A.get_put_other ht e] at hz
      simp only [if_neg e]
      refine (((h.node k z hz).kept hf hmb).ext (fun _ _ h => h) (Nat.le_succ _)).kids (fun s => ?_)
      rw [hB2.kids ht2 hk0, hB.kids ht hk0]
end Go.Proofs.YtmgnldangjfohaaGreat

namespace Go.Proofs.YtmgnldangjfohaaGreat
open Go.RowKit Go.Maps
set_option linter.unusedVariables false
set_option linter.unusedSimpArgs false
set_option maxRecDepth 100000
attribute [local go_sem] Oper.semAt_some
theorem T.bl_lt : ∀ a b : List UInt8, Op.bytesLess a b = decide (a < b)
  | [], [] => by simp [Op.bytesLess]
  | [], y :: t => by simp [Op.bytesLess]
  | x :: r, [] => by simp [Op.bytesLess]
  | x :: r, y :: t => by
    rw [Op.bytesLess, T.bl_lt r t]
    simp only [List.cons_lt_cons_iff, Bool.decide_or, Bool.decide_and]
    congr 2
theorem T.bl_blt (a b : ByteArray) : Op.bytesLess a.toList b.toList = T.blt a b := by
  unfold T.blt
  rw [T.bl_lt, ByteArray.toList_eq, ByteArray.toList_eq]
theorem bel1_any (a b : ByteArray) (v v' : ByteArray) (w : World) : Calls Tryz.prog 107 #[.agg #[.string a, .string v], .agg #[.string b, .string v']] w fun e w' => e = .returned (.bool (T.blt a b)) ∧ Fr (fun _ => False) w w' := by
  go_enter Tryz.func107, Tryz.ntmps107
  go_wp2
  go_ret
  exact ⟨ret_bool (T.bl_blt a b), (Fr.alloc (Fr.alloc (Fr.refl _ _) _) _)⟩
/-- each is above the one ahead of it -/
def T.asc {α : Type} (lt : α → α → Bool) : List α → Bool
  | a :: b :: r => lt a b && T.asc lt (b :: r)
  | _ => true
theorem T.asc_iff {α : Type} {lt : α → α → Bool} : ∀ {l : List α}, T.asc lt l = true ↔ ∀ k a b, l[k]? = some a → l[k + 1]? = some b → lt a b = true
  | [] => ⟨fun _ k a b h => by simp at h, fun _ => rfl⟩
  | [x] => ⟨fun _ k a b h h' => by simp at h', fun _ => rfl⟩
  | x :: y :: r => by
    unfold T.asc
    rw [Bool.and_eq_true, T.asc_iff (l := y :: r)]
    constructor
    · rintro ⟨h1, h2⟩ k a b ha hb
      cases k with
      | zero => simp at ha hb; rw [← ha, ← hb]; exact h1
      | succ k => exact h2 k a b (by simpa using ha) (by simpa using hb)
    · intro h
      exact ⟨h 0 x y rfl rfl, fun k a b ha hb => h (k + 1) a b (by simpa using ha) (by simpa using hb)⟩
set_option maxHeartbeats 4000000 in
theorem risesA_any {w : World} {I : Nat → Prop} {ra : Option Addr} {rc : Nat} {l : T.At} (hR : Rw I w 2 ra l.length (T.flatA l)) (hb : l.length ≤ 5000000000000) :
    Calls Tryz.prog 106 #[.slice ra l.length rc, .func (.func 107) #[] #[]] w fun e w' => e = .returned (.bool (T.asc (fun a b => T.blt a.1 b.1) l)) ∧ Fr (fun _ => False) w w' := by
  obtain ⟨n, hn⟩ : ∃ n, l.length = n := ⟨_, rfl⟩
  have HN := hid hn
  have HR := hid hR
  rw [hn] at hb ⊢
  clear hn hR
  have KB := hid bel1_any
  go_enter Tryz.func106, Tryz.ntmps106
  go_wp2
  go_loopw [5] (fun i wr => ∃ k : Nat, i = .int .i64 k ∧ Hid (1 ≤ k ∧ (k ≤ n ∨ k = 1) ∧ (∀ j a b, j + 1 < k → l[j]? = some a → l[j + 1]? = some b → T.blt a.1 b.1 = true) ∧ Fr (fun _ => False) w wr))
    (fun i _ => (n - intOf i).toNat)
  case atStart => exact ⟨1, rfl, hid ⟨Nat.le_refl _, .inr rfl, fun j a b h _ _ => by omega, Fr.refl _ _⟩⟩
  case round =>
    obtain ⟨k, rfl, hall⟩ := hrel
    by_cases hlt : k < n
    · obtain ⟨q, rfl⟩ : ∃ q, k = q + 1 := ⟨k - 1, by have := hall.out.1; omega⟩
      obtain ⟨x, hx1⟩ : ∃ z, l[q]? = some z := ⟨_, List.getElem?_eq_getElem (by rw [HN.out]; omega)⟩
      obtain ⟨y, hy1⟩ : ∃ z, l[q + 1]? = some z := ⟨_, List.getElem?_eq_getElem (by rw [HN.out]; omega)⟩
      have hRr := HR.out.kept hall.out.2.2.2 (fun _ _ h => h)
      obtain ⟨g1, o1, rfl, a0, a1⟩ := T.flatA_cells hRr hx1
      obtain ⟨g2, o2, he, b0, b1⟩ := T.flatA_cells hRr hy1
      cases he
      have i0 : (0 : Int) ≤ (q : Int) := by omega
      have i1 : (q : Int) < (n : Int) := by omega
      have i2 : (0 : Int) ≤ (q : Int) + 1 := by omega
      have i3 : (q : Int) + 1 < (n : Int) := by omega
      obtain ⟨x1, x2⟩ := x
      obtain ⟨y1, y2⟩ := y
      have HX := hid hx1
      have HY := hid hy1
      have e1 : ((q + 1 : Nat) : Int) - 1 = (q : Int) := by omega
      clear hx1 hy1 hRr
      have HC := hid (show ∀ V, Fr (fun _ => False) wr V → V.cell? ⟨g1, o1 + q * 2, none⟩ = some (.string x1) ∧ V.cell? ⟨g1, o1 + q * 2 + 1, none⟩ = some (.string x2) ∧ V.cell? ⟨g1, o1 + (q + 1) * 2, none⟩ = some (.string y1) ∧ V.cell? ⟨g1, o1 + (q + 1) * 2 + 1, none⟩ = some (.string y2) from fun V hf => ⟨cellFr hf (fun h => h) a0, cellFr hf (fun h => h) a1, cellFr hf (fun h => h) b0, cellFr hf (fun h => h) b1⟩)
      have HALL := hid hall.out
      have HWQ := hid (show IntKind.i64.wrap (q : Int) = (q : Int) from by rw [IntKind.wrap_i64]; omega)
      clear hall
      go_wp2_with fail
      have hmx : Tryz.prog.follows .mixedOrders = true := by kernel_rfl
      refine wp_region_held (S := fun V => Fr (fun _ => False) wr V) hmx ?_
      have hS := (Fr.drew (Fr.refl (fun _ => False) wr))
      simp only [List.size_toArray, List.length_cons, List.length_nil, Nat.reduceAdd, Array.replicate_succ, Array.replicate_zero, List.push_toArray, List.nil_append, List.cons_append]
      refine wpAnyH_take (i := 0) (v := ?_) rfl (by kernel_rfl) (by kernel_rfl) (by kernel_rfl) (fun _ _ _ h => h) (Or.inl ⟨by kernel_rfl, ?_⟩) hS ?_
      rotate_left 1
      · (intro w' hS'; clear hS'; go_simp; try with_reducible rfl)
      simp only [List.getElem_toArray, List.getElem_cons_zero, List.getElem_cons_succ, Act.put, List.setIfInBounds_toArray, List.set_cons_zero, List.set_cons_succ]
      refine wpAnyH_take (i := 1) (v := ?_) rfl (by kernel_rfl) (by kernel_rfl) (by kernel_rfl) (fun _ _ _ h => h) (Or.inl ⟨by kernel_rfl, ?_⟩) hS ?_
      rotate_left 1
      · (intro w' hS'; clear hS'; go_simp; try with_reducible rfl)
      simp only [List.getElem_toArray, List.getElem_cons_zero, List.getElem_cons_succ, Act.put, List.setIfInBounds_toArray, List.set_cons_zero, List.set_cons_succ]
      refine wpAnyH_take (i := 2) (v := ?_) rfl (by kernel_rfl) (by kernel_rfl) (by kernel_rfl) (fun _ _ _ h => h) (Or.inl ⟨by kernel_rfl, ?_⟩) hS ?_
      rotate_left 1
      · (intro w' hS'; clear hS'; go_simp; try with_reducible rfl)
      simp only [List.getElem_toArray, List.getElem_cons_zero, List.getElem_cons_succ, Act.put, List.setIfInBounds_toArray, List.set_cons_zero, List.set_cons_succ]
      refine wpAnyH_take (i := 3) (v := .int .i64 (q : Int)) rfl (by kernel_rfl) (by kernel_rfl) (by kernel_rfl) (fun _ _ _ h => h) (Or.inl ⟨by kernel_rfl, fun w' hS' => by clear hS'; go_simp; rw [HWQ.out]⟩) hS ?_
      simp only [List.getElem_toArray, List.getElem_cons_zero, List.getElem_cons_succ, Act.put, List.setIfInBounds_toArray, List.set_cons_zero, List.set_cons_succ]
      refine wpAnyH_take (i := 4) (v := ?_) rfl (by kernel_rfl) (by kernel_rfl) (by kernel_rfl) (fun _ _ _ h => h) (Or.inl ⟨by kernel_rfl, ?_⟩) hS ?_
      rotate_left 1
      · (intro w' hS'; clear hS'; go_simp; try with_reducible rfl)
      simp only [List.getElem_toArray, List.getElem_cons_zero, List.getElem_cons_succ, Act.put, List.setIfInBounds_toArray, List.set_cons_zero, List.set_cons_succ]
      refine wpAnyH_take (i := 5) (v := ?_) rfl (by kernel_rfl) (by kernel_rfl) (by kernel_rfl) (fun _ _ _ h => h) (Or.inl ⟨by kernel_rfl, ?_⟩) hS ?_
      rotate_left 1
      · (intro w' hS'; have h1 := (HC.out w' hS').1; have h2 := (HC.out w' hS').2.1; clear hS'; go_simp; try with_reducible rfl)
      simp only [List.getElem_toArray, List.getElem_cons_zero, List.getElem_cons_succ, Act.put, List.setIfInBounds_toArray, List.set_cons_zero, List.set_cons_succ]
      refine wpAnyH_take (i := 6) (v := ?_) rfl (by kernel_rfl) (by kernel_rfl) (by kernel_rfl) (fun _ _ _ h => h) (Or.inl ⟨by kernel_rfl, ?_⟩) hS ?_
      rotate_left 1
      · (intro w' hS'; clear hS'; go_simp; try with_reducible rfl)
      simp only [List.getElem_toArray, List.getElem_cons_zero, List.getElem_cons_succ, Act.put, List.setIfInBounds_toArray, List.set_cons_zero, List.set_cons_succ]
      refine wpAnyH_take (i := 7) (v := ?_) rfl (by kernel_rfl) (by kernel_rfl) (by kernel_rfl) (fun _ _ _ h => h) (Or.inl ⟨by kernel_rfl, ?_⟩) hS ?_
      rotate_left 1
      · (intro w' hS'; clear hS'; go_simp; try with_reducible rfl)
      simp only [List.getElem_toArray, List.getElem_cons_zero, List.getElem_cons_succ, Act.put, List.setIfInBounds_toArray, List.set_cons_zero, List.set_cons_succ]
      refine wpAnyH_take (i := 8) (v := .pointer (some ⟨g1, o1 + (q + 1) * 2, none⟩)) rfl (by kernel_rfl) (by kernel_rfl) (by kernel_rfl) (fun _ _ _ h => h) (Or.inl ⟨by kernel_rfl, fun w' hS' => by clear hS'; go_simp; try rfl⟩) hS ?_
      simp only [List.getElem_toArray, List.getElem_cons_zero, List.getElem_cons_succ, Act.put, List.setIfInBounds_toArray, List.set_cons_zero, List.set_cons_succ]
      refine wpAnyH_take (i := 9) (v := ?_) rfl (by kernel_rfl) (by kernel_rfl) (by kernel_rfl) (fun _ _ _ h => h) (Or.inl ⟨by kernel_rfl, ?_⟩) hS ?_
      rotate_left 1
      · (intro w' hS'; have h1 := (HC.out w' hS').2.2.1; have h2 := (HC.out w' hS').2.2.2; clear hS'; go_simp; try with_reducible rfl)
      simp only [List.getElem_toArray, List.getElem_cons_zero, List.getElem_cons_succ, Act.put, List.setIfInBounds_toArray, List.set_cons_zero, List.set_cons_succ]
      refine wpAnyH_ready (rs := [10]) (by kernel_rfl) (by simp) ?_
      refine AllReadyH.cons rfl (fun K1 hK1 => ?_) (AllReadyH.nil)
      go_simp
      refine (KB.out _ _ _ _ _).mono ?_
      rintro e w4 ⟨rfl, fx⟩
      have F4 := hid ((Fr.drew (Fr.refl (fun _ => False) wr)).trans fx (fun _ _ h => h))
      refine hK1.out _ _ (hS.trans fx (fun _ _ h => h.elim)) (fun hS => ?_)
      clear fx
      clear hK1 K1
      simp only [List.getElem_toArray, List.getElem_cons_zero, List.getElem_cons_succ, Act.put, List.setIfInBounds_toArray, List.set_cons_zero, List.set_cons_succ]
      refine wpAnyH_take (i := 11) (v := ?_) rfl (by kernel_rfl) (by kernel_rfl) (by kernel_rfl) (fun _ _ _ h => h) (Or.inl ⟨by kernel_rfl, ?_⟩) hS ?_
      rotate_left 1
      · (intro w' hS'; clear hS'; go_simp; try with_reducible rfl)
      simp only [List.getElem_toArray, List.getElem_cons_zero, List.getElem_cons_succ, Act.put, List.setIfInBounds_toArray, List.set_cons_zero, List.set_cons_succ]
      refine wpAnyH_done (by kernel_rfl) ?_ _
      have FW4 := hid (HALL.out.2.2.2.trans hS (fun _ _ h => h))
      clear hS
      cases hbl : T.blt x1 y1 with
      | true =>
        have HREL := hid (show 1 ≤ q + 2 ∧ (q + 2 ≤ n ∨ q + 2 = 1) ∧ (∀ j a b, j + 1 < q + 2 → l[j]? = some a → l[j + 1]? = some b → T.blt a.1 b.1 = true) ∧ Fr (fun _ => False) w w4 from ⟨by omega, .inl (by omega), fun j a b hj ha hb => by
          by_cases e : j = q
          · subst e
            rw [HX.out] at ha
            rw [HY.out] at hb
            cases ha
            cases hb
            exact hbl
          · exact HALL.out.2.2.1 j a b (by omega) ha hb, FW4.out⟩)
        clear hbl a0 a1 b0 b1
        go_wp2
        go_roundw
        case rel => exact ⟨q + 2, by first | go_num | rfl | trivial, HREL⟩
        case measure => simp [intOf]; omega
      | false =>
        have HRF := hid (show T.asc (fun (a b : T.Pr) => T.blt a.1 b.1) l = false from by
          cases h : T.asc (fun (a b : T.Pr) => T.blt a.1 b.1) l with
          | false => rfl
          | true =>
            have := T.asc_iff.1 h q _ _ HX.out HY.out
            rw [hbl] at this
            cases this)
        clear hbl a0 a1 b0 b1
        go_wp2
        go_ret
        exact ⟨ret_bool HRF.out.symm, FW4.out⟩
    · have HRT := hid (show T.asc (fun (a b : T.Pr) => T.blt a.1 b.1) l = true from T.asc_iff.2 (fun j a b ha hb => hall.out.2.2.1 j a b (by
        have := (List.getElem?_eq_some_iff.1 hb).1
        rw [HN.out] at this
        omega) ha hb))
      have HF := hid hall.out.2.2.2
      have hkn : (n : Int) ≤ (k : Int) := by omega
      have hkn2 : ¬ ((k : Int) < (n : Int)) := by omega
      clear hall hlt
      go_wp2
      go_ret
      exact ⟨ret_bool HRT.out.symm, HF.out⟩
end Go.Proofs.YtmgnldangjfohaaGreat

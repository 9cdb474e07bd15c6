/-
  walk: a node and all below it.
-/
import Derived.Test.YtilbdpnioajkoaaGreatMg39
namespace Go.Proofs.YtilbdpnioajkoaaGreat
open Go.RowKit Go.Maps
set_option linter.unusedVariables false
set_option linter.unusedSimpArgs false
set_option maxRecDepth 100000
attribute [local go_sem] Oper.semAt_some
theorem Ro.cut {w : World} {e : TypeId} {k : Nat} {a : Option Addr} {n c : Nat} {xs ys : List Value} (h : Ro w e k a (n + 1) c (xs ++ ys)) (hx : xs.length = n * k) : Ro w e k a n c xs := by
  refine ⟨hx, ?_⟩
  rcases h.2 with ⟨_, h0, _⟩ | ⟨g, o, cur, hv, hg, h1, h2, h3, h4⟩
  · omega
  · refine .inr ⟨g, o, cur, hv, hg, by omega, h2, h3, ?_⟩
    have h5 := congrArg (List.take (n * k)) h4
    have h6 : (xs ++ ys).take (n * k) = xs := List.take_left' hx
    rw [List.take_take, show min (n * k) ((n + 1) * k) = n * k from Nat.min_eq_left (Nat.mul_le_mul_right k (Nat.le_succ n)), h6] at h5
    exact h5
theorem T.flatS_len : ∀ (xs : List T.Sp), (T.flatS xs).length = xs.length * 2
  | [] => rfl
  | x :: r => by
    have := T.flatS_len r
    unfold T.flatS at this ⊢
    simp only [List.map_cons, List.flatten_cons, List.length_append, List.length_cons, this, List.length_nil]
    omega
/-- what walk has, between two rounds: what is to do, what has come -/
structure T.Wk (w : World) (t : T.Tr) (K : Nat) (n : Int) (wr : World) (la : Option Addr) (lm lc : Nat) (ta : Option Addr) (tn tc : Nat) (td out : List T.Sp) (ds : List Nat) : Prop where
  box : wr.heap[w.heap.size + 1]? = some (.cells #[.slice ta tn tc] 145 (0, 0))
  tl : td.length = tn
  ol : out.length = lm
  tr : Ro wr 154 2 ta tn tc (T.flatS td)
  lr : Ro wr 154 2 la lm lc (T.flatS out)
  tb : ∀ i, blk ta = some i → w.heap.size ≤ i ∧ i ≠ w.heap.size + 1 ∧ blk la ≠ some i
  lb : ∀ i, blk la = some i → w.heap.size ≤ i ∧ i ≠ w.heap.size + 1
  all : out ++ T.rest t K td = T.sub t K 0 n
  ok : ∀ s ∈ td, T.deepOk t K s.2 ∧ (A.get s.2 t).isSome = true ∧ s.1 ≤ lm
  fr : Fr (fun _ => False) w wr
  marks : T.Marks wr ds
  md : ∀ D ∈ ds, w.heap.size ≤ D
/-- what the children of one add -/
def T.push (td : List T.Sp) (d : Nat) (pre : List T.El) : List T.Sp := td ++ pre.map (fun x => (d + 1, x.2.2))
/-- what is to do grows, child by child -/
def T.Wg (w w0 : World) (K : Nat → Prop) (la : Option Addr) (bs : Nat) (ta0 : Option Addr) (td : List T.Sp) (d : Nat) (pre : List T.El) (W : World) : Prop :=
  ∃ ta tc, W.heap[w.heap.size + 1]? = some (.cells #[.slice ta (td.length + pre.length) tc] 145 (0, 0)) ∧ Ro W 154 2 ta (td.length + pre.length) tc (T.flatS (T.push td d pre)) ∧ (∀ i, blk ta = some i → w.heap.size ≤ i ∧ i ≠ w.heap.size + 1 ∧ blk la ≠ some i ∧ i ≠ bs ∧ ¬ K i) ∧ (∀ i, blk ta = some i → blk ta0 = some i ∨ w0.heap.size ≤ i) ∧ Fr (fun i => i = w.heap.size + 1 ∨ blk ta0 = some i) w0 W
theorem T.Wg.own {w w0 : World} {K : Nat → Prop} {la : Option Addr} {bs : Nat} {ta0 : Option Addr} {td : List T.Sp} {d : Nat} : OwnFrom w0.heap.size (T.Wg w w0 K la bs ta0 td d) := fun pre W W' row h hg hr => by
  obtain ⟨ta, tc, h1, h2, h3, h4, h5⟩ := h
  have hk : Kz (fun _ => False) W W' := Kz.grown hg (fun r e => (hr r e).2)
  exact ⟨ta, tc, (hk.1 _ _ _ _ h1 (fun h => h)).trans h1, h2.kc hk.1 (fun _ _ h => h), h3, h4, h5.own hg (fun r e => (hr r e).1)⟩
theorem T.Wg.kept {w w0 : World} {K : Nat → Prop} {la : Option Addr} {bs : Nat} {ta0 : Option Addr} {td : List T.Sp} {d : Nat} {pre : List T.El} {W W' : World} (h : T.Wg w w0 K la bs ta0 td d pre W) (hf : Fr (fun _ => False) W W') : T.Wg w w0 K la bs ta0 td d pre W' := by
  obtain ⟨ta, tc, h1, h2, h3, h4, h5⟩ := h
  exact ⟨ta, tc, hf.cells h1 (fun h => h), h2.kept hf (fun _ _ h => h), h3, h4, h5.trans hf (fun _ _ h => h.elim)⟩
/-- .. and a child is at hand, in the block v -/
def T.Wc (w w0 : World) (K : Nat → Prop) (la : Option Addr) (bs : Nat) (ta0 : Option Addr) (td : List T.Sp) (d : Nat) (tmps : Array Value) (l : List T.Ch) (pre : List T.El) (x : T.El) (a1 : Act) (W : World) : Prop :=
  ∃ v, a1 = { tmps := ((tmps.setIfInBounds 40 (.int .i64 x.1)).setIfInBounds 41 (.agg #[.string x.2.1, .int .i64 x.2.2])).setIfInBounds 9 (ptr v), defers := [] } ∧ W.heap[v]? = some (.cells #[.string x.2.1, .int .i64 x.2.2] 70 (0, 0)) ∧ w0.heap.size ≤ v ∧ T.Wg w w0 K la bs ta0 td d pre W ∧ pre.map Prod.snd ++ [x.2] <+: l.reverse
theorem T.Wc.put {w w0 : World} {K : Nat → Prop} {la : Option Addr} {bs : Nat} {ta0 : Option Addr} {td : List T.Sp} {d : Nat} {tmps : Array Value} {cl : List T.Ch} {pre : List T.El} {x : T.El} {a1 : Act} {W : World} (h : T.Wc w w0 K la bs ta0 td d tmps cl pre x a1 W) {l : Nat} {o : Obj} (o' : Obj) (hl : w0.heap.size ≤ l) (ho : W.heap[l]? = some o) (hc : o.isCells = false) : T.Wc w w0 K la bs ta0 td d tmps cl pre x a1 (W.putObj l o') := by
  obtain ⟨v, h1, h2, h3, h4, h5⟩ := h
  have hk : Kz (fun _ => False) W (W.putObj l o') := Kz.putObj o' ho hc
  exact ⟨v, h1, (hk.1 _ _ _ _ h2 (fun h => h)).trans h2, h3, T.Wg.own pre W _ (some l) h4 (grownBy_putObj' W l o') (fun r e => by cases e; exact ⟨hl, o, ho, hc⟩), h5⟩
/-- what a row has is no object of another kind -/
theorem Ro.not_obj {w : World} {e : TypeId} {k : Nat} {a : Option Addr} {n c : Nat} {xs : List Value} (h : Ro w e k a n c xs) {i : Nat} {o : Obj} (ho : w.heap[i]? = some o) (hc : o.isCells = false) : blk a ≠ some i := fun e => by
  rcases h.2 with ⟨h3, _⟩ | ⟨g, o', cur, h3, h4, _⟩
  · rw [h3] at e; simp [blk] at e
  · rw [h3] at e
    simp [blk] at e
    subst e
    rw [h4] at ho
    cases ho
    cases hc
def T.lenOf : Value → Nat | .slice _ m _ => m | _ => 0
set_option maxHeartbeats 16000000 in
theorem walk_any {c : Nat → Option T.Col} {w : World} {bud p : Nat} {dos last : Int} {t : T.Tr} {mb : Nat} {f : Int → Nat} (h : Tf c w bud p dos last t mb f) (hu : A.Up t) (hb : bud ≤ 8000000000000) (hlen : t.length ≤ 5000000000000) (hnm : ∀ k y, A.get k t = some y → y.nm.size ≤ maxLen) (hnum : ∀ k y, A.get k t = some y → (Lit.int .i64 k).wf = true) {n : Int} {x : T.Nd} (hx : A.get n t = some x) {K : Nat} (hK : T.deepOk t K n) (hB : (T.sub t K 0 n).length ≤ 5000000000000) :
    Calls Tryz.prog 84 #[ptr p, .int .i64 n] w fun e w' => ∃ a cp, e = .returned (.slice a (T.sub t K 0 n).length cp) ∧ Ro w' 154 2 a (T.sub t K 0 n).length cp (T.flatS (T.sub t K 0 n)) ∧ (∀ k, blk a = some k → w.heap.size ≤ k) ∧ Fr (fun _ => False) w w' := by
  refine (callsIn_wide (n := 12)).1 ?_
  refine callsIn_of_wp_marks Tryz.func84 rfl trivial ?_ rfl
  simp only [Tryz.ntmps84, List.size_toArray, List.length_cons, List.length_nil, Nat.reduceAdd, Nat.reduceSub, Array.replicate_succ, Array.replicate_zero, List.push_toArray, List.append_toArray, List.nil_append, List.cons_append]
  have KH := hid (has_any h (hnum n x hx))
  rw [hx] at KH
  have hfh : Fence.wide.fn 66 := trivial
  have KC := hid (fun (W : World) (hf : Fr (fun _ => False) w W) (m : Int) (y : T.Nd) (hy : A.get m t = some y) => children_any (h.kept hf (fun _ _ h => h)) hu hb hlen hnm (hnum m y hy) hy)
  have HU := hid hu
  have HLEN := hid hlen
  have HKD := hid hK
  have HB := hid hB
  have HX := hid hx
  clear h hu hb hlen hnm hnum hx hK hB
  gi_wp2_with (first
    | (gi_at_call 66; refine (callsIn_wide.2 KH.out).mono ?_; rintro e wx ⟨rfl, rfl⟩))
  obtain ⟨w0, hw0⟩ : ∃ w0, (w.alloc (.cells #[.int .i64 0, .int .i64 n] 154)).alloc (.cells #[.slice (some ⟨w.heap.size, 0, none⟩) 1 1] 145) = w0 := ⟨_, rfl⟩
  have f0 : Fr (fun _ => False) w w0 := by rw [← hw0]; exact Fr.alloc (Fr.alloc (Fr.refl _ _) _) _
  have b0 : w0.heap[w.heap.size]? = some (.cells #[.int .i64 0, .int .i64 n] 154 (0, 0)) := by
    rw [← hw0]
    exact (Fr.alloc (Fr.refl (fun _ => False) _) _).cells (Go.heap_alloc_new w _) (fun h => h)
  have b1 : w0.heap[w.heap.size + 1]? = some (.cells #[.slice (some ⟨w.heap.size, 0, none⟩) 1 1] 145 (0, 0)) := by
    rw [← hw0]
    have := Go.heap_alloc_new (w.alloc (.cells #[.int .i64 0, .int .i64 n] 154)) (.cells #[.slice (some ⟨w.heap.size, 0, none⟩) 1 1] 145)
    rw [alloc_size] at this
    exact this
  have HST := hid (show T.Wk w t K n w0 none 0 0 (some ⟨w.heap.size, 0, none⟩) 1 1 [(0, n)] [] [] from
    ⟨b1, rfl, rfl, ⟨rfl, .inr ⟨w.heap.size, 0, _, by simp, b0, Nat.le_refl _, by decide, rfl, rfl⟩⟩, Ro.nil _ _ _, fun i hi => by (simp [blk] at hi; subst hi; exact ⟨Nat.le_refl _, by omega, by simp [blk]⟩), by simp [blk], by simp [T.rest], fun s hs => by (simp at hs; subst hs; exact ⟨HKD.out, by rw [HX.out]; rfl, Nat.le_refl _⟩), f0, ⟨List.nodup_nil, by simp⟩, by simp⟩)
  rw [hw0]
  clear hw0 f0 b0 b1
  refine wpIn_loop (fun (a' : Act) (wr : World) => ∃ (la : Option Addr) (lm lc : Nat) (ds : List Nat) (u7 u8 u9 u17 u18 u19 u20 u21 u22 u23 u24 u25 u26 u27 u28 u29 u30 u31 u32 u33 u34 u35 u36 u37 u38 u39 u40 u41 u42 u43 u44 u45 u46 u47 u48 u49 u50 u51 : Value), a' = { tmps := #[ptr p, .int .i64 n, undef, undef, .slice none 0 0, .slice la lm lc, ptr (w.heap.size + 1), u7, u8, u9, ptr p, .int .i64 n, .bool true, .bool false, .int .i64 n, .agg #[.int .i64 0, .int .i64 n], .slice (some ⟨w.heap.size, 0, none⟩) 1 1, u17, u18, u19, u20, u21, u22, u23, u24, u25, u26, u27, u28, u29, u30, u31, u32, u33, u34, u35, u36, u37, u38, u39, u40, u41, u42, u43, u44, u45, u46, u47, u48, u49, u50, u51], defers := ds.map T.mark } ∧ ∃ ta tn tc td out, Hid (T.Wk w t K n wr la lm lc ta tn tc td out ds))
    (fun a' _ => (T.sub t K 0 n).length - T.lenOf (a'.tmps.getD 5 undef)) ?start ?round
  case start => exact ⟨none, 0, 0, [], _, _, _, _, _, _, _, _, _, _, _, _, _, _, _, _, _, _, _, _, _, _, _, _, _, _, _, _, _, _, _, _, _, _, _, _, _, _, rfl, _, _, _, _, _, HST⟩
  case round =>
    rintro a' wr ⟨la, lm, lc, ds, u7, u8, u9, u17, u18, u19, u20, u21, u22, u23, u24, u25, u26, u27, u28, u29, u30, u31, u32, u33, u34, u35, u36, u37, u38, u39, u40, u41, u42, u43, u44, u45, u46, u47, u48, u49, u50, u51, rfl, ta, tn, tc, td, out, hS⟩
    have cb : wr.cell? ⟨w.heap.size + 1, 0, none⟩ = some (.slice ta tn tc) := cellA hS.out.box rfl
    have zb := frozen_of_row (j := 0) hS.out.box
    rcases List.eq_nil_or_concat td with htd | ⟨td', s, htd⟩
    · subst htd
      have ht0 : tn = 0 := hS.out.tl.symm
      subst ht0
      have hal := hS.out.all
      have ALL := hid (show out = T.sub t K 0 n from by simpa [T.rest] using hal)
      have HSO := hid hS.out
      clear hal hS
      gi_wp2
      refine leaves_marks ds wr HSO.out.marks (fun w' hf => ?_)
      have hro := HSO.out.lr.kept hf (fun i hi hm => by
        have h1 := HSO.out.marks.2 i hm
        rcases HSO.out.lr.2 with ⟨h3, _⟩ | ⟨g, o, cur, h3, h4, _⟩
        · rw [h3] at hi; simp [blk] at hi
        · rw [h3] at hi
          simp [blk] at hi
          subst hi
          rw [h1] at h4
          cases h4)
      have hfr := HSO.out.fr.trans hf (fun i hi hm => by have := HSO.out.md i hm; omega)
      have hol := HSO.out.ol
      rw [← ALL.out, hol]
      exact ⟨.slice la lm lc, by simp [results, Tryz.f84, go_sem], la, lc, rfl, hro, fun i hi => (HSO.out.lb i hi).1, hfr⟩
    · subst htd
      obtain ⟨d, m⟩ := s
      have hok := hS.out.ok (d, m) (by simp)
      obtain ⟨y, hy⟩ := Option.isSome_iff_exists.1 hok.2.1
      obtain ⟨q, hq⟩ : ∃ q, td'.length = q := ⟨_, rfl⟩
      have htn : tn = q + 1 := by rw [← hS.out.tl, ← hq]; simp
      subst htn
      have hrl : lm + (q + 1) ≤ (T.sub t K 0 n).length := by
        have h1 := congrArg List.length hS.out.all
        rw [List.length_append, hS.out.ol] at h1
        have h2 := T.rest_len (fun s hs => (hS.out.ok s hs).1)
        rw [hS.out.tl] at h2
        omega
      obtain ⟨g, o, rfl⟩ := hS.out.tr.some_of (by omega)
      have a0 : wr.cell? ⟨g, o + q * 2, none⟩ = some (.int .i64 d) := hS.out.tr.cell (by rw [T.flatS_get, show q * 2 / 2 = q by omega, List.concat_eq_append, List.getElem?_append_right (by omega), hq, Nat.sub_self, show q * 2 % 2 = 0 by omega]; rfl)
      have a1 : wr.cell? ⟨g, o + q * 2 + 1, none⟩ = some (.int .i64 m) := by
        have := hS.out.tr.cell (j := q * 2 + 1) (u := .int .i64 m) (by rw [T.flatS_get, show (q * 2 + 1) / 2 = q by omega, List.concat_eq_append, List.getElem?_append_right (by omega), hq, Nat.sub_self, show (q * 2 + 1) % 2 = 1 by omega]; rfl)
        rw [← Nat.add_assoc] at this
        exact this
      have hqb : q + 1 ≤ 5000000000000 := by have := HB.out; omega
      have e1 : ((q + 1 : Nat) : Int) - 1 = (q : Int) := by omega
      have i0 : (0 : Int) ≤ (q : Int) := by omega
      have i2 : (q : Int) ≤ (tc : Int) := by have := hS.out.tr.le; omega
      obtain ⟨V1, hV1⟩ : ∃ V, wr.alloc (.cells #[.int .i64 d, .int .i64 m] 154) = V := ⟨_, rfl⟩
      have f1 : Fr (fun _ => False) wr V1 := by rw [← hV1]; exact Fr.alloc (Fr.refl _ _) _
      have k1 : V1.heap[wr.heap.size]? = some (.cells #[.int .i64 d, .int .i64 m] 154 (0, 0)) := by rw [← hV1]; exact Go.heap_alloc_new wr _
      have z1 : V1.heap.size = wr.heap.size + 1 := by rw [← hV1, alloc_size]
      have hbl : w.heap.size + 1 < wr.heap.size := lt_of_row hS.out.box
      have bx1 := f1.cells hS.out.box (fun h => h)
      have cb1 : V1.cell? ⟨w.heap.size + 1, 0, none⟩ = some (.slice (some ⟨g, o, none⟩) (q + 1) tc) := cellA bx1 rfl
      have zb1 := frozen_of_row (j := 0) bx1
      obtain ⟨V2, hV2⟩ : ∃ V, V1.setCell ⟨w.heap.size + 1, 0, none⟩ (.slice (some ⟨g, o, none⟩) q tc) = V := ⟨_, rfl⟩
      have f2 : Fr (fun i => i = w.heap.size + 1) V1 V2 := by rw [← hV2]; exact Fr.setCell (p := ⟨w.heap.size + 1, 0, none⟩) (Fr.refl (fun i => i = w.heap.size + 1) _) (fun _ => rfl) _
      have bx2 : V2.heap[w.heap.size + 1]? = some (.cells #[.slice (some ⟨g, o, none⟩) q tc] 145 (0, 0)) := by rw [← hV2]; exact setCell_row (j := 0) bx1 _
      have k2 := f2.cells k1 (by omega)
      have q0 : V2.cell? ⟨wr.heap.size, 0, none⟩ = some (.int .i64 d) := cellA (j := 0) k2 rfl
      have q1 : V2.cell? ⟨wr.heap.size, 1, none⟩ = some (.int .i64 m) := cellA (j := 1) k2 rfl
      have f12 : Fr (fun i => i = w.heap.size + 1) wr V2 := (f1.mono (fun _ _ h => h.elim)).trans f2 (fun _ _ h => h)
      obtain ⟨la', lc', V3, hr3, hro3, hg3, hn3⟩ := T.step_append V2 la lc lm (T.flatS out) (hS.out.lr.kept f12 (fun i hi e => (hS.out.lb i hi).2 e)) (by have := HB.out; omega) d m
      have f3 : Fr (fun i => blk la = some i) V2 V3 := ((Fr.alloc (Fr.refl (fun _ => False) _) _).mono (fun _ _ h => h.elim)).trans (Fr.of_grown hg3) (fun i hi e => e)
      have k3 := f3.cells k2 (fun e => by have := hS.out.lr.lt _ e; omega)
      have r0 : V3.cell? ⟨wr.heap.size, 0, none⟩ = some (.int .i64 d) := cellA (j := 0) k3 rfl
      have r1 : V3.cell? ⟨wr.heap.size, 1, none⟩ = some (.int .i64 m) := cellA (j := 1) k3 rfl
      have fw3 : Fr (fun _ => False) w V3 := ((hS.out.fr.trans f1 (fun _ _ h => h)).trans f2 (fun i hi e => by omega)).trans f3 (fun i hi e => by have := (hS.out.lb i e).1; omega)
      have KC3 := hid (KC.out V3 fw3 m y hy)
      have R3 := hid hr3
      have SS := hid hS.out
      have FF := hid (And.intro f1 (And.intro f2 (And.intro f3 (And.intro fw3 (And.intro z1 (And.intro bx2 (And.intro k3 (And.intro hro3 (And.intro hn3 (And.intro hbl hrl))))))))))
      have HOK := hid hok
      have HQQ := hid hq
      obtain ⟨CL, hCL⟩ : ∃ l, T.chs t m = l := ⟨_, rfl⟩
      rw [hCL] at KC3
      have HCL := hid hCL
      obtain ⟨cn, hcn⟩ : ∃ z : Nat, CL.length = z := ⟨_, rfl⟩
      rw [hcn] at KC3
      have HCN := hid hcn
      have hfc : Fence.wide.fn 22 := trivial
      have hfb : Fence.wide.fn 108 := trivial
      have KBF := hid (fun (a : Option Addr) (c : Nat) (W : World) => bk_fn a cn c W)
      clear hok hq hrl f1 k1 z1 hbl bx1 f2 bx2 k2 f12 hr3 hro3 hg3 hn3 f3 k3 fw3 hS hCL hcn
      gi_wp2_with (first
        | (gi_at_builtin; refine wpListIn_append_eq _ _ rfl (.tmp 31) (.tmp 33) _ rfl _ _ _ rfl rfl (by exact R3.out) ?_)
        | (gi_at_call 22; refine (callsIn_wide.2 KC3.out).mono ?_; rintro e V4 ⟨a9, c9, rfl, hr9, hn9, hf9⟩; have R9 := hid hr9; have N9 := hid hn9; have F9 := hid hf9; clear hr9 hn9 hf9)
        | (gi_at_call 108; refine (callsIn_wide.2 (KBF.out _ _ _)).mono ?_; rintro e V5 ⟨rfl, rfl⟩))
      have hmark := HQQ.out
      obtain ⟨f1, f2, f3, fw3, z1, bx2, k3, hro3, hn3, hbl, hrl⟩ := FF.out
      obtain ⟨V5, hV5⟩ : ∃ V, V4.alloc (.cells #[.slice a9 cn c9] 66) = V := ⟨_, rfl⟩
      have f5 : Fr (fun _ => False) V4 V5 := by rw [← hV5]; exact Fr.alloc (Fr.refl _ _) _
      have b5 : V5.heap[V4.heap.size]? = some (.cells #[.slice a9 cn c9] 66 (0, 0)) := by rw [← hV5]; exact Go.heap_alloc_new V4 _
      have z5 : V5.heap.size = V4.heap.size + 1 := by rw [← hV5, alloc_size]
      rw [hV5]
      have z2 := f2.size
      have z3 := f3.size
      have z4 := F9.out.size
      have f35 : Fr (fun _ => False) V3 V5 := F9.out.trans f5 (fun _ _ h => h)
      have f25 : Fr (fun i => blk la = some i) V2 V5 := f3.trans f35 (fun _ _ h => h.elim)
      have f15 : Fr (fun i => i = w.heap.size + 1 ∨ blk la = some i) wr V5 := ((f1.mono (fun _ _ h => h.elim)).trans f2 (fun _ _ h => .inl h)).trans f25 (fun _ _ h => .inr h)
      have b0 := f25.cells bx2 (fun e => (SS.out.lb _ e).2 rfl)
      have k5 := f35.cells k3 (fun h => h)
      have hgl : g < wr.heap.size := SS.out.tr.lt g rfl
      have htg := SS.out.tb g rfl
      have htr5 : Ro V5 154 2 (some ⟨g, o, none⟩) q tc (T.flatS td') := by
        have h1 := SS.out.tr
        rw [List.concat_eq_append, T.flatS_append] at h1
        exact (h1.cut (by rw [T.flatS_len, hmark])).kept f15 (fun j hj e => by
          simp [blk] at hj
          subst hj
          rcases e with e | e
          · exact htg.2.1 e
          · exact htg.2.2 e)
      obtain ⟨KK, hKK⟩ : ∃ K' : Nat → Prop, K' = fun i => i = V4.heap.size ∨ blk a9 = some i := ⟨_, rfl⟩
      have hKlo : ∀ i, KK i → V3.heap.size ≤ i := fun i hi => by
        rw [hKK] at hi
        rcases hi with rfl | hi
        · exact z4
        · exact N9.out i hi
      have hKhi : ∀ i, KK i → i < V5.heap.size := fun i hi => by
        rw [hKK] at hi
        rcases hi with rfl | hi
        · omega
        · have := R9.out.lt i hi; omega
      have hlg : blk la' ≠ some g := fun e => by
        rcases hn3 g e with h1 | h1
        · exact htg.2.2 h1
        · omega
      have hWG : T.Wg w V5 KK la' wr.heap.size (some ⟨g, o, none⟩) td' d [] V5 := by
        refine ⟨some ⟨g, o, none⟩, tc, ?_, ?_, fun i hi => ?_, fun i hi => .inl hi, Fr.refl _ _⟩
        · rw [hmark]; exact b0
        · rw [hmark, T.push, List.map_nil, List.append_nil]; exact htr5
        · simp [blk] at hi
          subst hi
          exact ⟨htg.1, htg.2.1, hlg, by omega, fun h => by have := hKlo _ h; omega⟩
      have hSQ := bk1_seq 11 (by omega) V4.heap.size c9 a9 CL KK V5 (by rw [HCN.out]; exact b5) (by rw [hKK]; exact .inl rfl) (by rw [HCN.out]; exact R9.out.kept f5 (fun _ _ h => h)) (fun i hi => by rw [hKK]; exact .inr hi) (by have := T.chs_len t m; have := HLEN.out; rw [← HCL.out]; omega)
      have hcnt : lm + 1 + (q + cn) ≤ (T.sub t K 0 n).length := by
        have h1 := SS.out.all
        rw [List.concat_eq_append, T.rest_pop HOK.out.1, HCL.out] at h1
        have h2 := congrArg List.length h1
        rw [List.length_append, List.length_cons, SS.out.ol] at h2
        have h3 := T.rest_len (t := t) (k := K) (td := td' ++ CL.reverse.map (fun c => (d + 1, c.2))) (fun s hs => by
          rcases List.mem_append.1 hs with h4 | h4
          · exact (SS.out.ok s (by simp [h4])).1
          · obtain ⟨c, hc, rfl⟩ := List.mem_map.1 h4
            exact (T.sub_eq (d := 0) HOK.out.1).2 c (by rw [HCL.out]; exact List.mem_reverse.1 hc))
        rw [List.length_append, List.length_map, List.length_reverse, hmark, HCN.out] at h3
        dsimp only at h2
        omega
      have HCNT := hid hcnt
      have HSQ := hid hSQ
      have HWG := hid hWG
      have GG := hid (And.intro f15 (And.intro f35 (And.intro k5 (And.intro hgl (And.intro htg (And.intro hlg (And.intro hKlo (And.intro hKhi (And.intro z2 (And.intro z3 (And.intro z4 (And.intro z5 z1))))))))))))
      clear hmark f1 f2 f3 fw3 z1 bx2 k3 hro3 hn3 hbl hrl hV5 f5 b5 z5 z2 z3 z4 f35 f25 f15 b0 k5 hgl htg htr5 hKK hKlo hKhi hlg hWG hSQ hcnt cb a0 a1 cb1 zb zb1 hV1 hV2 q0 q1 r0 r1 R3 KC3 KBF
      refine wp_of_actC (fun a0 ha0 => ?_)
      refine wpIn_rangeV (w := V5) rfl (by omega) (gf := 133) (lb := #[ptr V4.heap.size]) (by rw [ha0]; rfl) trivial (enters_of Tryz.func133 (by kernel_rfl) rfl)
        HSQ.out (Below.refl _ _) (fun _ => rfl) (fun h k => h.trans k) (fun W l o o' hl hW hc _ => Kz.putObj o' hW hc)
        (T.Wg w V5 KK la' wr.heap.size (some ⟨g, o, none⟩) td' d) (fun _ _ _ => False) (T.Wc w V5 KK la' wr.heap.size (some ⟨g, o, none⟩) td' d a0.tmps CL) T.Wg.own (fun c s W W' row h _ _ => h.elim) HWG.out
        (fun pre x a1 W l o o' hl hW hc _ h => h.put o' hl hW hc) ?assign ?body ?done ?stop
      case assign =>
        subst ha0
        rintro l pre x W0 W Kn hI hfW hpf hK
        have fW : Fr (fun _ => False) W (W.alloc (.cells #[.string x.2.1, .int .i64 x.2.2] 70)) := Fr.alloc (Fr.refl _ _) _
        have hI2 := (hI.kept hfW).kept fW
        have hsz : V5.heap.size ≤ W.heap.size := by
          obtain ⟨_, _, _, _, _, _, h5⟩ := hI
          exact Nat.le_trans h5.size hfW.size
        have fin : KeepsFrom V5.heap.size W (W.alloc (.cells #[.string x.2.1, .int .i64 x.2.2] 70)) ∧ Kz (fun i => ¬ KK i) W (W.alloc (.cells #[.string x.2.1, .int .i64 x.2.2] 70)) ∧ ∀ tm, T.Wc w V5 KK la' wr.heap.size (some ⟨g, o, none⟩) td' d tm CL pre x { tmps := ((tm.setIfInBounds 40 (.int .i64 x.1)).setIfInBounds 41 (.agg #[.string x.2.1, .int .i64 x.2.2])).setIfInBounds 9 (ptr W.heap.size), defers := [] } (W.alloc (.cells #[.string x.2.1, .int .i64 x.2.2] 70)) :=
          ⟨⟨fW.size, fun k o _ hk _ => (fW.block k (lt_of_row hk) (fun h => h)).trans hk⟩, Kz.of_fr fW, fun tm => ⟨W.heap.size, rfl, Go.heap_alloc_new W _, hsz, hI2, hpf⟩⟩
        have FIN := hid fin
        have HK2 := hid hK
        clear hI hfW hpf fW hI2 hsz fin hK
        gi_wp2
        exact HK2.out _ _ FIN.out.1 FIN.out.2.1 (FIN.out.2.2 _)
      case body =>
        subst ha0
        rintro l pre x a1 W ⟨v, rfl, hv, hvl, ⟨ta, tb, hbx, hro, hno, hta, hfr⟩, hpf⟩
        have hpl : pre.length < cn := by
          have h1 := hpf.length_le
          rw [List.length_append, List.length_map, List.length_reverse, HCN.out] at h1
          simp only [List.length_cons, List.length_nil] at h1
          omega
        obtain ⟨N, hN⟩ : ∃ N, td'.length + pre.length = N := ⟨_, rfl⟩
        rw [hN] at hbx hro
        have hNb : N ≤ 9000000000000 := by have := HCNT.out; have := HB.out; have := HQQ.out; omega
        have hdb : d + 1 ≤ 5000000000000 := by have := HCNT.out; have := HB.out; have := HOK.out.2.2; omega
        obtain ⟨ta', tc', W2, hr, hro2, hg2, hn2⟩ := T.step_append W ta tb N (T.flatS (T.push td' d pre)) hro hNb (d + 1) x.2.2
        have e2 : (d : Int) + 1 = ((d + 1 : Nat) : Int) := by omega
        rw [e2] at hro2
        have hf2 : Fr (fun k => blk ta = some k) W W2 := ((Fr.alloc (Fr.refl (fun _ => False) _) _).mono (fun _ _ h => h.elim)).trans (Fr.of_grown hg2) (fun i hi e => e)
        obtain ⟨f15, f35, k5, hgl, htg, hlg, hKlo, hKhi, z2, z3, z4, z5, z1⟩ := GG.out
        have hna : blk ta ≠ some (w.heap.size + 1) := fun e => (hno _ e).2.1 rfl
        have hx2 := hf2.cells hbx hna
        have cbx : W.cell? ⟨w.heap.size + 1, 0, none⟩ = some (.slice ta N tb) := cellA hbx rfl
        have hsl : w.heap.size + 1 < wr.heap.size := FF.out.2.2.2.2.2.2.2.2.2.1
        have s0 : W.cell? ⟨wr.heap.size, 0, none⟩ = some (.int .i64 d) := cellA (j := 0) (hfr.cells k5 (fun e => by
          rcases e with e | e
          · omega
          · simp [blk] at e; omega)) rfl
        have v1 : W.cell? ⟨v, 1, none⟩ = some (.int .i64 x.2.2) := cellA (j := 1) hv rfl
        have c2 : W2.cell? ⟨w.heap.size + 1, 0, none⟩ = some (.slice ta N tb) := cellA hx2 rfl
        have zz2 := frozen_of_row (j := 0) hx2
        have fs : Fr (fun k => k = w.heap.size + 1) W2 (W2.setCell ⟨w.heap.size + 1, 0, none⟩ (.slice ta' (N + 1) tc')) := Fr.setCell (p := ⟨w.heap.size + 1, 0, none⟩) (S := fun k => k = w.heap.size + 1) (Fr.refl _ _) (fun _ => rfl) _
        have hs2 := hf2.size
        have hs5 := hfr.size
        have fin : KeepsFrom V5.heap.size W (W2.setCell ⟨w.heap.size + 1, 0, none⟩ (.slice ta' (N + 1) tc')) ∧ Kz (fun i => ¬ KK i) W (W2.setCell ⟨w.heap.size + 1, 0, none⟩ (.slice ta' (N + 1) tc')) ∧ T.Wg w V5 KK la' wr.heap.size (some ⟨g, o, none⟩) td' d (pre ++ [x]) (W2.setCell ⟨w.heap.size + 1, 0, none⟩ (.slice ta' (N + 1) tc')) := by
          refine ⟨⟨Nat.le_trans hs2 fs.size, fun k o' hk h1 hc => ?_⟩, ?_, ta', tc', ?_, ?_, ?_, ?_, ?_⟩
          · have h2 : W2.heap[k]? = some o' := hf2.cells h1 (hro.not_obj h1 hc)
            exact fs.cells h2 (fun e => by omega)
          · refine (Kz.of_fr' hf2).mono (fun k hk h => (hno k hk).2.2.2.2 h) |>.trans ((Kz.of_fr' fs).mono (fun k hk h => by have := hKlo k h; omega))
          · rw [setCell_row hx2, List.length_append, ← Nat.add_assoc, hN]; rfl
          · rw [List.length_append, ← Nat.add_assoc, hN, show T.push td' d (pre ++ [x]) = T.push td' d pre ++ [(d + 1, x.2.2)] by simp [T.push], T.flatS_append]
            exact hro2.kept fs (fun k hk e => by
              rcases hn2 k hk with h1 | h1
              · exact (hno k h1).2.1 e
              · omega)
          · intro k hk
            rcases hn2 k hk with h1 | h1
            · exact hno k h1
            · refine ⟨by omega, by omega, fun e => ?_, by omega, fun h => ?_⟩
              · have := FF.out.2.2.2.2.2.2.2.1.lt k e
                have := f35.size
                omega
              · have := hKhi k h; omega
          · intro k hk
            rcases hn2 k hk with h1 | h1
            · exact hta k h1
            · exact .inr (by omega)
          · exact (hfr.trans hf2 (fun i hi e => (hta i e).elim .inr (fun h => by omega))).trans fs (fun _ _ h => .inl h)
        have R2 := hid hr
        have FIN := hid fin
        clear hbx hro hno hta hfr hpf hpl hN hNb hr hro2 hg2 hn2 e2 hf2 f15 f35 k5 hgl htg hlg hKlo hKhi z2 z3 z4 z5 z1 hna hx2 hsl fs hs2 hs5 fin hv hvl
        gi_wp2_with (first
          | (gi_at_builtin; refine wpListIn_append_eq _ _ rfl (.tmp 42) (.tmp 49) _ rfl _ _ _ rfl rfl (by exact R2.out) ?_))
        exact FIN.out
      case done =>
        subst ha0
        rintro D0 xs W0 hD hxs ⟨ta, tb, hbx, hro, hno, hta, hfr⟩ hK0
        have hmark := HQQ.out
        obtain ⟨f1, f2, f3, fw3, z1', bx2, k3, hro3, hn3, hbl, hrl⟩ := FF.out
        obtain ⟨f15, f35, k5, hgl, htg, hlg, hKlo, hKhi, z2, z3, z4, z5, z1⟩ := GG.out
        have hcb := HB.out
        have hxl : xs.length = cn := by
          have := congrArg List.length hxs
          rw [List.length_map, List.length_reverse, HCN.out] at this
          exact this
        have hpu : T.push td' d xs = td' ++ CL.reverse.map (fun c => (d + 1, c.2)) := by
          rw [← hxs, List.map_map]
          rfl
        rw [hmark, hxl] at hbx hro
        have hsub : ∀ c ∈ CL, T.deepOk t K c.2 := by
          have := (T.sub_eq (d := 0) HOK.out.1).2
          rw [HCL.out] at this
          exact this
        have hdm : ∀ D ∈ ds, D < wr.heap.size ∧ D ≠ w.heap.size + 1 ∧ D ≠ g ∧ blk la ≠ some D := fun D hDm => by
          have h1 := SS.out.marks.2 D hDm
          refine ⟨lt_of_row h1, fun e => ?_, fun e => SS.out.tr.not_obj h1 rfl (by rw [e]; rfl), SS.out.lr.not_obj h1 rfl⟩
          rw [e, SS.out.box] at h1
          cases h1
        have hst : T.Wk w t K n W0 la' (lm + 1) lc' ta (q + cn) tb (T.push td' d xs) (out ++ [(d, m)]) (D0 :: ds) := by
          refine ⟨hbx, ?_, ?_, hro, ?_, fun i hi => ⟨(hno i hi).1, (hno i hi).2.1, (hno i hi).2.2.1⟩, fun i hi => ?_, ?_, ?_, ?_, ⟨List.nodup_cons.2 ⟨fun h => ?_, SS.out.marks.1⟩, fun D hDm => ?_⟩, fun D hDm => ?_⟩
          · rw [hpu, List.length_append, List.length_map, List.length_reverse, hmark, HCN.out]
          · rw [List.length_append, SS.out.ol]; rfl
          · rw [T.flatS_append]
            exact (hro3.kept f35 (fun _ _ h => h)).kept hfr (fun i hi e => by
              rcases e with e | e
              · rcases hn3 i hi with h1 | h1
                · exact (SS.out.lb i h1).2 e
                · omega
              · simp [blk] at e
                rw [← e] at hi
                exact hlg hi)
          · rcases hn3 i hi with h1 | h1
            · exact SS.out.lb i h1
            · exact ⟨by omega, by omega⟩
          · rw [hpu, List.append_assoc]
            have h1 := SS.out.all
            rw [List.concat_eq_append, T.rest_pop HOK.out.1, HCL.out] at h1
            exact h1
          · intro s hs
            rw [hpu] at hs
            rcases List.mem_append.1 hs with h4 | h4
            · have h5 := SS.out.ok s (by simp [h4])
              exact ⟨h5.1, h5.2.1, by omega⟩
            · obtain ⟨c, hc, rfl⟩ := List.mem_map.1 h4
              have hc' := List.mem_reverse.1 hc
              obtain ⟨_, y', hy', _⟩ := (T.mem_chs HU.out).1 (by rw [HCL.out]; exact hc' : c ∈ T.chs t m)
              have := HOK.out.2.2
              exact ⟨hsub c hc', by rw [hy']; rfl, by dsimp only at this ⊢; omega⟩
          · exact (fw3.trans f35 (fun _ _ h => h)).trans hfr (fun i hi e => by
              rcases e with e | e
              · omega
              · simp [blk] at e
                have := htg.1
                omega)
          · have := (hdm D0 h).1; have := f15.size; omega
          · rcases List.mem_cons.1 hDm with rfl | h
            · exact hK0
            · obtain ⟨h1, h2, h3, h4⟩ := hdm D h
              refine hfr.cells (f15.cells (SS.out.marks.2 D h) (fun e => e.elim h2 h4)) (fun e => ?_)
              rcases e with e | e
              · exact h2 e
              · simp [blk] at e
                exact h3 e.symm
          · rcases List.mem_cons.1 hDm with rfl | h
            · have := f15.size; have := SS.out.fr.size; omega
            · exact SS.out.md D h
        refine And.intro ⟨la', lm + 1, lc', D0 :: ds, _, _, _, _, _, _, _, _, _, _, _, _, _, _, _, _, _, _, _, _, _, _, _, _, _, _, _, _, _, _, _, _, _, _, _, _, _, _, rfl, ta, q + cn, tb, T.push td' d xs, out ++ [(d, m)], hid hst⟩ ?_
        show (T.sub t K 0 n).length - (lm + 1) < (T.sub t K 0 n).length - lm
        omega
      case stop =>
        intro D c pre W _ _ h _
        exact h.elim
end Go.Proofs.YtilbdpnioajkoaaGreat

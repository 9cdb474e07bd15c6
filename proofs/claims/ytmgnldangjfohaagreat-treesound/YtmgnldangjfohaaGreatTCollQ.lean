/-
  slices.Collect over maps.Values: a list of attributes, in whatever order.
-/
import Derived.Test.YtmgnldangjfohaaGreatTValsQ
import Derived.RangeFuncBound
import Derived.Shelf.AbstractIn
namespace Go.Proofs.YtmgnldangjfohaaGreat
open Go.RowKit Go.Maps
set_option linter.unusedVariables false
set_option linter.unusedSimpArgs false
set_option maxRecDepth 100000
attribute [local go_sem] Oper.semAt_some

theorem wpListIn_append_eq {F : Fence} {nF : Nat} (w w' : World) {ops : Array Oper} {rest : List Oper} {o : Oper} {a : Act} {Q : Exit → Act → World → Prop} (hgd : o.guard = none) (s x : Operand) (ts : Array TypeId)
    (ho : o.op = .call { callee := .builtin .append, args := #[s, x], argTypes := ts }) (sv xv v : Value) (hs : a.eval s = sv) (hx : a.eval x = xv) (hr : (Builtin.append_ ts o.type #[sv, xv]).run Tryz.prog w = .ok v w')
    (h : wpListIn F nF Tryz.prog ops Q rest (a.put o.dst v) w') : wpListIn F nF Tryz.prog ops Q (o :: rest) a w := by
  refine wpListIn_plain hgd fun K hK => ?_
  unfold Oper.wpIn
  refine ⟨?_, ?_⟩
  · simp [Oper.about, ho, resolve, Target.leads, Sem.run_pure]
  · rw [Oper.semAt_plain F _ _ (by rw [ho]; intro c hc'; cases hc')]
    simp [execOp, ho, resolve, invoke, builtin, hs, hx, hr, Result.andThen]
    exact hK _ _ h
/-- the cells of a row of attributes -/
def T.flatA (xs : List T.Pr) : List Value := (xs.map (fun x => [Value.string x.1, .string x.2])).flatten
theorem T.flatA_len : ∀ (xs : List T.Pr), (T.flatA xs).length = xs.length * 2
  | [] => rfl
  | x :: r => by
    have := T.flatA_len r
    unfold T.flatA at this ⊢
    simp only [List.map_cons, List.flatten_cons, List.length_append, List.length_cons, this, List.length_nil]
    omega
theorem T.flatA_append (xs ys : List T.Pr) : T.flatA (xs ++ ys) = T.flatA xs ++ T.flatA ys := by simp [T.flatA]
theorem T.infoA1 : (Tryz.prog.info? 78).map (fun i => (i.size, i.bytes)) = some (2, 32) := by kernel_rfl
theorem T.infoA2 : ((Tryz.prog.info? 78).bind (fun i => i.zero)).map (fun z => z.cells.size) = some 2 := by kernel_rfl
theorem T.info_a : ∃ i z, Tryz.prog.info? 78 = some i ∧ i.zero = some z ∧ i.size = 2 ∧ i.bytes = 32 ∧ z.cells.size = 2 := by
  have h1 := T.infoA1
  have h2 := T.infoA2
  cases hi : Tryz.prog.info? 78 with
  | none => rw [hi] at h1; cases h1
  | some i =>
    rw [hi] at h1 h2
    simp only [Option.map_some, Option.some.injEq, Prod.mk.injEq, Option.bind_some] at h1 h2
    cases hz : i.zero with
    | none => rw [hz] at h2; cases h2
    | some z =>
      rw [hz] at h2
      simp only [Option.map_some, Option.some.injEq] at h2
      exact ⟨i, z, rfl, hz, h1.1, h1.2, h2⟩
/-- one more attribute, behind the others -/
theorem T.attr_append (w : World) (ra : Option Addr) (rc n : Nat) (xs : List Value) (hrow : Ro w 78 2 ra n rc xs) (hb : n ≤ 5000000000000) (x : T.Pr) :
    ∃ ra' rc' w', (Builtin.append_ #[66, 66] 66 #[.slice ra n rc, .slice (some ⟨w.heap.size, 0, none⟩) 1 1]).run Tryz.prog (w.alloc (.cells #[.string x.1, .string x.2] 78)) = .ok (.slice ra' (n + 1) rc') w' ∧
      Ro w' 78 2 ra' (n + 1) rc' (xs ++ [.string x.1, .string x.2]) ∧ (w.alloc (.cells #[.string x.1, .string x.2] 78)).grownBy w' (blk ra) ∧ (∀ k, blk ra' = some k → blk ra = some k ∨ w.heap.size ≤ k) := by
  obtain ⟨i0, z, hi, hz0, hz1, hz2, hz3⟩ := T.info_a
  have f0 : Fr (fun _ => False) w (w.alloc (.cells #[.string x.1, .string x.2] 78)) := Fr.alloc (Fr.refl _ _) _
  have hn := Go.heap_alloc_new w (.cells #[.string x.1, .string x.2] 78)
  obtain ⟨a', c', w', hr, h2, h3, h4⟩ := run_append_o (P := Tryz.prog) (w.alloc (.cells #[.string x.1, .string x.2] 78)) 66 66 78 i0 z 2 32 Tryz.underlying66 hi hz0 hz1 hz2 hz3 (by omega) ra n rc xs (hrow.kept f0 (fun _ _ h => h)) ⟨w.heap.size, 0, none⟩ 1 1 [.string x.1, .string x.2] rfl (fun j u hu => by
    rw [Addr.add_lit, Nat.zero_add]
    exact cellA hn (by rw [← Array.getElem?_toList]; exact hu)) (fun u hu => by simp at hu; rcases hu with rfl | rfl <;> rfl) (by omega) (by omega) (by omega)
  refine ⟨a', c', w', hr, h2, h3, fun k hk => ?_⟩
  rcases h4 with ⟨rfl, _⟩ | ⟨rfl, _⟩
  · exact .inl hk
  · simp [blk] at hk; exact .inr (by omega)
/-- what has been gathered: in the variable's block x, above it the row -/
def T.Ga (w1 : World) (x : Nat) (pre : List T.Pr) (W : World) : Prop :=
  ∃ a c, W.heap[x]? = some (.cells #[.slice a pre.length c] 66 (0, 0)) ∧ Ro W 78 2 a pre.length c (T.flatA pre) ∧ (∀ k, blk a = some k → x < k) ∧ Fr (fun k => k = x) w1 W
theorem T.Ga.own {w1 : World} {x : Nat} : OwnFrom w1.heap.size (T.Ga w1 x) := fun pre W W' row h hg hr => by
  obtain ⟨a, c, h1, h2, h3, h4⟩ := h
  have hk : Kz (fun _ => False) W W' := Kz.grown hg (fun r e => (hr r e).2)
  exact ⟨a, c, (hk.1 _ _ _ _ h1 (fun h => h)).trans h1, h2.kc hk.1 (fun _ _ h => h), h3, h4.own hg (fun r e => (hr r e).1)⟩
/-- .. and one more is at hand, in the block v -/
def T.Gv (w1 : World) (x m : Nat) (t : Array Value) (pre : List T.Pr) (y : T.Pr) (a1 : Act) (W : World) : Prop :=
  ∃ v, a1 = { tmps := (t.setIfInBounds 7 (T.encA y)).setIfInBounds 5 (ptr v), defers := [] } ∧ W.heap[v]? = some (.cells #[.string y.1, .string y.2] 78 (0, 0)) ∧ T.Ga w1 x pre W ∧ pre.length < m
theorem T.Gv.put {w1 : World} {x m : Nat} {t : Array Value} {pre : List T.Pr} {y : T.Pr} {a1 : Act} {W : World} (h : T.Gv w1 x m t pre y a1 W) {l : Nat} {o : Obj} (o' : Obj) (hl : w1.heap.size ≤ l) (ho : W.heap[l]? = some o) (hc : o.isCells = false) : T.Gv w1 x m t pre y a1 (W.putObj l o') := by
  obtain ⟨v, h1, h2, h3, h4⟩ := h
  have hk : Kz (fun _ => False) W (W.putObj l o') := Kz.putObj o' ho hc
  exact ⟨v, h1, (hk.1 _ _ _ _ h2 (fun h => h)).trans h2, T.Ga.own pre W _ (some l) h3 (grownBy_putObj' W l o') (fun r e => by cases e; exact ⟨hl, o, ho, hc⟩), h4⟩
set_option maxHeartbeats 4000000 in
theorem attrSeq_any {w : World} {B m : Nat} {mv : Option Nat} {ats : T.At} (hB : w.cell? ⟨B, 0, none⟩ = some (.map mv)) (hm : Mo 9 litS w mv (T.atG ats) m) (hA : T.Ak ats) (hb : m ≤ 5000000000000) :
    Calls Tryz.prog 130 #[.slice none 0 0, .func (.func 104) #[] #[ptr B]] w fun e w' => ∃ a c xs, e = .returned (.slice a (List.length xs) c) ∧ List.Perm xs ats ∧ Ro w' 78 2 a xs.length c (T.flatA xs) ∧ (∀ k, blk a = some k → w.heap.size < k) ∧ Fr (fun _ => False) w w' := by
  refine (callsIn_wide (n := 9)).1 ?_
  refine callsIn_of_wp_marks Tryz.func130 rfl trivial ?_ rfl
  simp only [Tryz.ntmps130, List.size_toArray, List.length_cons, List.length_nil, Nat.reduceAdd, Nat.reduceSub, Array.replicate_succ, Array.replicate_zero, List.push_toArray, List.append_toArray, List.nil_append, List.cons_append]
  obtain ⟨w1, hw1⟩ : ∃ w1, w.alloc (.cells #[.slice none 0 0] 66) = w1 := ⟨_, rfl⟩
  have f1 : Fr (fun _ => False) w w1 := by rw [← hw1]; exact Fr.alloc (Fr.refl _ _) _
  have hs1 : w1.heap.size = w.heap.size + 1 := by rw [← hw1]; simp
  have hx1 : w1.heap[w.heap.size]? = some (.cells #[.slice none 0 0] 66 (0, 0)) := by rw [← hw1]; exact Go.heap_alloc_new w _
  have HB := hid hb
  have HX1 := hid hx1
  have HS1 := hid hs1
  have F1 := hid f1
  have HSQ := hid (vals1_seq 8 (by omega) B m mv ats w1 (cellFr f1 (fun h => h) hB) (hm.kept f1 (fun _ _ h => h)) hA)
  have HW1 := hid hw1
  clear hB hm hA hb f1 hs1 hx1 hw1
  gi_wp2_with fail
  rw [HW1.out]
  refine wp_of_actC (fun a0 ha0 => ?_)
  refine wpIn_rangeV (w := w1) rfl (by omega) (gf := 104) (lb := #[ptr B]) (by rw [ha0]; rfl) trivial (enters_of Tryz.func104 (by kernel_rfl) rfl)
    HSQ.out (Below.refl _ _) (fun _ => rfl) (fun h k => h.trans k) (fun W l o o' hl hW hc hw => KeepsWalks.putObj o' hW hw)
    (T.Ga w1 w.heap.size) (fun _ _ _ => False) (T.Gv w1 w.heap.size m a0.tmps) T.Ga.own (fun c s W W' row h _ _ => h.elim) ⟨none, 0, HX1.out, Ro.nil _ _ _, by simp [blk], Fr.refl _ _⟩
    (fun pre x a1 W l o o' hl hW hc _ h => h.put o' hl hW hc) ?assign ?body ?done ?stop
  case assign =>
    subst ha0
    rintro l pre x W0 W Kn ⟨a, c, hbx, hro, hlt, hfr⟩ hfW ⟨hv1, hv2⟩ hK
    have fW : Fr (fun _ => False) W (W.alloc (.cells #[.string x.1, .string x.2] 78)) := Fr.alloc (Fr.refl _ _) _
    have f2 := hfW.trans fW (fun _ _ h => h)
    have fin : KeepsFrom w1.heap.size W (W.alloc (.cells #[.string x.1, .string x.2] 78)) ∧ KeepsWalks W (W.alloc (.cells #[.string x.1, .string x.2] 78)) ∧ ∀ t, T.Gv w1 w.heap.size m t pre x { tmps := (t.setIfInBounds 7 (T.encA x)).setIfInBounds 5 (ptr W.heap.size), defers := [] } (W.alloc (.cells #[.string x.1, .string x.2] 78)) :=
      ⟨⟨fW.size, fun k o _ hk _ => (fW.block k (lt_of_row hk) (fun h => h)).trans hk⟩, KeepsWalks.alloc _ _, fun t => ⟨W.heap.size, rfl, Go.heap_alloc_new W _, ⟨a, c, f2.cells hbx (fun h => h), hro.kept f2 (fun _ _ h => h), hlt, hfr.trans (f2.mono (fun _ _ h => h.elim)) (fun _ _ h => h)⟩, hv2⟩⟩
    have FIN := hid fin
    have HK2 := hid hK
    clear hbx hro hlt hfr hfW hv1 hv2 fW f2 fin hK
    gi_wp2
    exact HK2.out _ _ FIN.out.1 FIN.out.2.1 (FIN.out.2.2 _)
  case body =>
    subst ha0
    rintro l pre x a1 W ⟨v, rfl, hv, ⟨a, c, hbx, hro, hlt, hfr⟩, hlen⟩
    have hn5 : pre.length ≤ 5000000000000 := by have := HB.out; omega
    obtain ⟨a', c', W2, hr, hro2, hg2, hn2⟩ := T.attr_append W a c pre.length (T.flatA pre) hro hn5 x
    have f0 : Fr (fun _ => False) W (W.alloc (.cells #[.string x.1, .string x.2] 78)) := Fr.alloc (Fr.refl _ _) _
    have hf2 : Fr (fun k => blk a = some k) W W2 := (f0.mono (fun _ _ h => h.elim)).trans (Fr.of_grown hg2) (fun i hi e => e)
    have kw2 : KeepsWalks W W2 := (KeepsWalks.alloc _ _).trans (KeepsWalks.of_grownBy hg2 (fun j o e ho => by
      rcases hro.2 with ⟨h3, _⟩ | ⟨g, o', cur, h3, h4, _⟩
      · rw [h3] at e; simp [blk] at e
      · rw [h3] at e
        simp [blk] at e
        subst e
        rw [(f0.block g (lt_of_row h4) (fun h => h)).trans h4] at ho
        cases ho
        rfl))
    have hna : blk a ≠ some w.heap.size := fun e => by have := hlt _ e; omega
    have hx2 := hf2.cells hbx hna
    have LD := hid (load_whole (ty := 78) hv Tryz.underlying78 rfl (by kernel_rfl))
    have cb : W.cell? ⟨w.heap.size, 0, none⟩ = some (.slice a pre.length c) := cellA hbx rfl
    have v0 : W.cell? ⟨v, 0, none⟩ = some (.string x.1) := cellA (j := 0) hv rfl
    have v1 : W.cell? ⟨v, 1, none⟩ = some (.string x.2) := cellA (j := 1) hv rfl
    have c2 : W2.cell? ⟨w.heap.size, 0, none⟩ = some (.slice a pre.length c) := cellA hx2 rfl
    have z2 := frozen_of_row (j := 0) hx2
    have fs : Fr (fun k => k = w.heap.size) W2 (W2.setCell ⟨w.heap.size, 0, none⟩ (.slice a' (pre.length + 1) c')) := Fr.setCell (p := ⟨w.heap.size, 0, none⟩) (S := fun k => k = w.heap.size) (Fr.refl _ _) (fun _ => rfl) _
    have hs2 := hf2.size
    have hgw : w.heap.size < W.heap.size := lt_of_row hbx
    have fin : KeepsFrom w1.heap.size W (W2.setCell ⟨w.heap.size, 0, none⟩ (.slice a' (pre.length + 1) c')) ∧ KeepsWalks W (W2.setCell ⟨w.heap.size, 0, none⟩ (.slice a' (pre.length + 1) c')) ∧ T.Ga w1 w.heap.size (pre ++ [x]) (W2.setCell ⟨w.heap.size, 0, none⟩ (.slice a' (pre.length + 1) c')) := by
      refine ⟨⟨Nat.le_trans hs2 fs.size, fun k o hk h1 hc => ?_⟩, kw2.trans (KeepsWalks.setCell _ _ _), a', c', ?_, ?_, ?_, ?_⟩
      · have h2 : W2.heap[k]? = some o := by
          rw [hf2.block k (lt_of_row h1) (fun e => ?_)]
          · exact h1
          · rcases hro.2 with ⟨h3, _⟩ | ⟨g, o', cur, h3, h4, _⟩
            · rw [h3] at e; simp [blk] at e
            · rw [h3] at e
              simp [blk] at e
              subst e
              rw [h4] at h1
              cases h1
              cases hc
        exact (fs.block k (lt_of_row h2) (fun e => by have := HS1.out; omega)).trans h2
      · rw [setCell_row hx2, List.length_append]; rfl
      · rw [List.length_append, T.flatA_append]
        exact hro2.kept fs (fun k hk e => by
          rcases hn2 k hk with h1 | h1
          · have := hlt k h1; omega
          · omega)
      · intro k hk
        rcases hn2 k hk with h1 | h1
        · exact hlt k h1
        · omega
      · exact (hfr.trans hf2 (fun i hi e => by have h3 := hlt i e; have h4 := HS1.out; omega)).trans fs (fun _ _ h => h)
    have R2 := hid hr
    have FIN := hid fin
    clear hv hbx hro hlt hfr hlen hn5 hr hro2 hg2 hn2 f0 hf2 kw2 hna hx2 fs hs2 hgw fin
    gi_wp2_with (first
      | (refine wpListIn_load_v LD.out rfl (by exact ⟨_, rfl, rfl⟩) ?_)
      | (gi_at_builtin; refine wpListIn_append_eq _ _ rfl (.tmp 8) (.tmp 10) _ rfl _ _ _ rfl rfl (by exact R2.out) ?_))
    exact FIN.out
  case done =>
    subst ha0
    rintro D0 xs W0 hD hxs ⟨a, c, hbx, hro, hlt, hfr⟩ hK0
    have c1 : W0.cell? ⟨w.heap.size, 0, none⟩ = some (.slice a xs.length c) := cellA hbx rfl
    have HRO := hid hro
    have HLT := hid hlt
    have HFR := hid hfr
    have HXS := hid hxs
    obtain ⟨n, hn⟩ : ∃ n, xs.length = n := ⟨_, rfl⟩
    rw [hn] at c1
    have HN := hid hn
    clear hbx hro hlt hfr hxs hn
    gi_wp2
    refine ⟨by simp, .inl ⟨_, _, rfl, run_takeDeferred hK0, ?_⟩⟩
    refine ⟨.slice a n c, by simp [results, Tryz.f130, go_sem], a, c, xs, by rw [HN.out], HXS.out, ?_, HLT.out, ?_⟩
    · exact HRO.out.kc (Kz.putObj (M := fun _ => False) (.deferred none) hK0 rfl).1 (fun _ _ h => h)
    · have h2 := HS1.out
      refine (F1.out.trans HFR.out (fun i hi e => by omega)).trans (Fr.of_grown (grownBy_putObj' _ D0 _)) (fun i hi e => by simp at e; omega)
  case stop =>
    intro D c pre W _ _ h _
    exact h.elim
/-- maps.Values, collected -/
theorem attrColl_any {w : World} {B m : Nat} {mv : Option Nat} {ats : T.At} (hB : w.cell? ⟨B, 0, none⟩ = some (.map mv)) (hm : Mo 9 litS w mv (T.atG ats) m) (hA : T.Ak ats) (hb : m ≤ 5000000000000) :
    Calls Tryz.prog 102 #[.func (.func 104) #[] #[ptr B]] w fun e w' => ∃ a c xs, e = .returned (.slice a (List.length xs) c) ∧ List.Perm xs ats ∧ Ro w' 78 2 a xs.length c (T.flatA xs) ∧ (∀ k, blk a = some k → w.heap.size < k) ∧ Fr (fun _ => False) w w' := by
  have KA := hid (attrSeq_any hB hm hA hb)
  clear hB hm hA hb
  go_enter Tryz.func102, Tryz.ntmps102
  go_wp2_with (first | (go_at_call 130; refine KA.out.mono ?_; rintro e w1 ⟨a, c, xs, rfl, h1, h2, h3, h4⟩; have H1 := hid (And.intro h1 (And.intro h2 (And.intro h3 h4))); clear h1 h2 h3 h4; obtain ⟨n, hn⟩ : ∃ n, xs.length = n := ⟨_, rfl⟩; rw [hn]; have HN := hid hn; clear hn))
  go_ret
  exact ⟨a, c, xs, by rw [HN.out]; rfl, H1.out⟩
end Go.Proofs.YtmgnldangjfohaaGreat

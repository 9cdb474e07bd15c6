/-
  maps.Values, of attributes: gone through in whatever order.
  slices.Collect over maps.Values: a list of attributes, in whatever order.
-/
import Derived.Test.YtilbdpnioajkoaaGreatMg4
import Derived.Stop.RegionWithIn
import Derived.LoopIn
import Derived.OwnWalkIn
import Derived.TacticsInMore
import Derived.RangeFuncLeaves
import Derived.RangeFuncKeeps
import Derived.LoopNIn
import Derived.Maps.OwnIn
import Derived.Sort.MapsRangeIn
import Derived.RangeFuncBound
import Derived.Shelf.AbstractIn
namespace Go.Proofs.YtilbdpnioajkoaaGreat
open Go.RowKit Go.Maps
set_option linter.unusedVariables false
set_option linter.unusedSimpArgs false
set_option maxRecDepth 100000
attribute [local go_sem] Oper.semAt_some

abbrev T.Pr := ByteArray × ByteArray
abbrev T.encA (x : T.Pr) : Value := .agg #[.string x.1, .string x.2]
/-- what the attributes' map holds -/
def T.atG (l : T.At) : ByteArray → Option Value := fun s => (T.aget s l).map (fun v => T.encA (s, v))
theorem vals_fn (mv : Option Nat) (w : World) : Calls Tryz.prog 74 #[.map mv] w fun e w' => e = .returned (.func (.func 102) #[] #[ptr w.heap.size]) ∧ w' = w.alloc (.cells #[.map mv] 77) := by
  go_enter Tryz.func74, Tryz.ntmps74
  go_wp2
  go_ret
  exact ⟨rfl, rfl⟩
theorem T.aget_of_mem {l : T.At} (h : T.Ak l) {p : T.Pr} (hp : p ∈ l) : T.aget p.1 l = some p.2 := by
  induction l with
  | nil => cases hp
  | cons y r ih =>
    unfold T.Ak at h
    rw [List.pairwise_cons] at h
    rw [T.aget_cons]
    rcases List.mem_cons.1 hp with rfl | hp
    · rw [if_pos rfl]
    · have := h.1 p hp
      rw [if_neg (fun e => by rw [e, T.blt_irrefl] at this; cases this)]
      exact ih h.2 hp
theorem T.ak_nodup {l : T.At} (h : T.Ak l) : l.Nodup := by
  refine List.Pairwise.imp (fun {a b} hab e => ?_) h
  rw [e, T.blt_irrefl] at hab
  cases hab
/-- what has come of the attributes -/
structure T.Came (l : T.At) (left : Lit → Bool) (ps : List T.Pr) : Prop where
  nd : ps.Nodup
  mem : ∀ p, p ∈ ps ↔ p ∈ l ∧ left (litS p.1) = false
theorem T.Came.start {l : T.At} {left : Lit → Bool} (h : ∀ p ∈ l, left (litS p.1) = true) : T.Came l left [] :=
  ⟨List.nodup_nil, fun p => by
    constructor
    · intro hp; cases hp
    · intro hp
      have h1 := h p hp.1
      have h2 := hp.2
      rw [h1] at h2
      cases h2⟩
theorem T.Came.done {l : T.At} (hA : T.Ak l) {left : Lit → Bool} {ps : List T.Pr} (h : T.Came l left ps) (h0 : ∀ kl, left kl = false) : ps.Perm l :=
  (List.perm_ext_iff_of_nodup h.nd (T.ak_nodup hA)).2 (fun p => by rw [h.mem]; simp [h0])
theorem T.same_str (a b : ByteArray) : (litS a).sameKey (litS b) = decide (a = b) := by
  by_cases e : a = b
  · subst e
    simp [litS, Lit.sameKey]
  · have : a.data.toList ≠ b.data.toList := fun h => e (litS_inj (by unfold litS; rw [h]))
    rw [decide_eq_false e]
    have h2 : ¬ a.data = b.data := fun h => this (by rw [h])
    simp [litS, Lit.sameKey, h2]
theorem T.Came.step {l : T.At} (hA : T.Ak l) {left : Lit → Bool} {ps : List T.Pr} (h : T.Came l left ps) {x : T.Pr} (hx : x ∈ l) (hl : left (litS x.1) = true) : T.Came l (fun z => left z && !z.sameKey (litS x.1)) (ps ++ [x]) := by
  refine ⟨?_, fun p => ?_⟩
  · rw [List.nodup_append]
    refine ⟨h.nd, by simp, fun a ha b hb e => ?_⟩
    simp at hb
    subst e
    rw [hb, h.mem] at ha
    rw [hl] at ha
    cases ha.2
  · rw [List.mem_append, h.mem]
    simp only [T.same_str, List.mem_singleton, Bool.and_eq_false_iff, Bool.not_eq_false', decide_eq_true_eq]
    constructor
    · rintro (⟨h1, h2⟩ | rfl)
      · exact ⟨h1, .inl h2⟩
      · exact ⟨hx, .inr rfl⟩
    · rintro ⟨h1, h2 | h2⟩
      · exact .inl ⟨h1, h2⟩
      · right
        have e1 := T.aget_of_mem hA h1
        have e2 := T.aget_of_mem hA hx
        rw [h2, e2] at e1
        exact Prod.ext h2 (Option.some.inj e1).symm
theorem keyS_inv {x : ByteArray} {kl : Lit} (h : keyOf Tryz.prog 9 (.string x) = some kl) : kl = litS x := by
  rw [keyOf_string Tryz.underlying9] at h
  simp [mapKey, Tryz.underlying9] at h
  exact h.2.symm
theorem T.atG_of {l : T.At} {D : DataW Value} {x : ByteArray} {c : Value} (h1 : ∀ z, D.atKey (litS x) z = orZ z (T.atG l x)) (h2 : ∀ z, D.atKey (litS x) z = .held c) : ∃ v, (x, v) ∈ l ∧ c = T.encA (x, v) := by
  unfold T.atG at h1
  cases hg : T.aget x l with
  | none =>
    have h3 := h1 (.map [])
    rw [hg, h2] at h3
    cases h3
  | some v =>
    have h3 := h1 (.map [])
    rw [hg, h2] at h3
    refine ⟨v, ?_, by injection h3⟩
    have : ∀ m : T.At, T.aget x m = some v → (x, v) ∈ m := fun m => by
      induction m with
      | nil => intro h; cases h
      | cons y r ih =>
        intro h
        rw [T.aget_cons] at h
        by_cases e : y.1 = x
        · rw [if_pos e] at h; cases h; subst e; exact List.mem_cons_self
        · rw [if_neg e] at h; exact List.mem_cons_of_mem _ (ih h)
    exact this l hg
set_option maxHeartbeats 4000000 in
theorem vals1_in (n : Nat) (hn : 1 ≤ n) (l B b m : Nat) (ats : T.At) (J Jx : List T.Pr → World → Prop) (W : World) (hJ : AbidesFrom W.heap.size J)
    (hY : ∀ pre x W0 W1, J pre W0 → Fr (fun _ => False) W0 W1 → x ∈ ats ∧ pre.length < m → YieldAt Fence.wide (n - 1) Tryz.prog l #[T.encA x] W1 fun e W' =>
      (e = .returned (.bool true) ∧ J (pre ++ [x]) W' ∧ KeepsWalks W1 W') ∨ (e = .returned (.bool false) ∧ Jx (pre ++ [x]) W'))
    (hB : W.cell? ⟨B, 0, none⟩ = some (.map (some b))) (hm : Mp 9 litS W b (T.atG ats) m) (hA : T.Ak ats) (h0 : J [] W) :
    CallsIn Fence.wide n Tryz.prog 102 #[.func (.yield l) #[] #[], ptr B] W fun e W' => (∃ v, e = .returned v) ∧
      ((∃ ys : List T.Pr, ys.Perm ats ∧ J ys W') ∨ (∃ pre : List T.Pr, Jx pre W')) := by
  obtain ⟨D, hown, hD1, hD2⟩ := hm
  have HJ := hid hJ
  have HY := hid hY
  have HA := hid hA
  have HD2 := hid hD2
  have HD1 := hid hD1
  have HOWN := hid hown
  clear hJ hY hA hD1 hD2 hown
  refine callsIn_of_wp Tryz.func102 rfl trivial ?_ rfl
  simp only [Tryz.ntmps102, List.size_toArray, List.length_cons, List.length_nil, Nat.reduceAdd, Nat.reduceSub, Array.replicate_succ, Array.replicate_zero, List.push_toArray, List.append_toArray, List.nil_append, List.cons_append]
  gi_wp2_with (first
    | (gi_at_range; refine wpListIn_range_own _ rfl _ 77 rfl 9 65 keyS Tryz.underlying77 asIs b m _ rfl HOWN.out ?_; intro w0 hrg0 hg0 hs0))
  go_frame
  gi_loopw [4] (fun _ wr => ∃ (left : Lit → Bool) (cnt : Nat) (ps : List T.Pr), Hid (wr.ranges Tryz.prog 9 asIs b W.heap.size m D left cnt ∧ T.Came ats left ps ∧ J ps wr ∧ W.heap.size < wr.heap.size ∧ ps.length + cnt ≤ m))
    (fun _ wr => wr.rangeLeft b W.heap.size)
  case atStart =>
    refine ⟨_, _, [], hid ⟨hrg0, T.Came.start (fun p hp => ?_), HJ.out [] W w0 none h0 hg0 (fun r e => by cases e), by omega, by have := HD1.out; simp; omega⟩⟩
    rw [has_orZ (HD2.out p.1)]
    unfold T.atG
    rw [T.aget_of_mem HA.out hp]
    rfl
  case round =>
    obtain ⟨left, cnt, ps, hall⟩ := hrel
    gi_wp2_with (first
      | (gi_at_next; refine wpListIn_next_ranges _ rfl _ rfl 9 keyS asIs Value.string (fun v : Value => v) (fun key kl hk => Maps.keyOf_string_inv Tryz.underlying9 hk) (fun v y hv => ⟨v, rfl⟩) b W.heap.size m _ _ _ rfl hall.out.1 ?_ ?_))
    · intro hc0 hl0
      have HP := hid (hall.out.2.1.done HA.out hl0)
      clear hl0
      gi_wp2
      go_end0
      exact ⟨⟨_, rfl⟩, .inl ⟨ps, HP.out, hall.out.2.2.1⟩⟩
    · intro x c kl yd yp w2 cnt2 hkey hlk hv hat hrg2 hlt hg2 hs2 hen
      obtain rfl := keyS_inv hkey
      obtain rfl : yd = .held c := by cases hv; rfl
      obtain ⟨v, hx, rfl⟩ := T.atG_of (fun z => HD2.out x z) hat
      have hJ2 : J ps w2 := HJ.out ps wr w2 (some W.heap.size) hall.out.2.2.1 hg2 (fun r e => by cases e; exact ⟨Nat.le_refl _, hall.out.1.iter_walk⟩)
      have hbV := Go.heap_alloc_new w2 (.cells #[.string x, .string v] 65)
      have fW : Fr (fun _ => False) w2 (w2.alloc (.cells #[.string x, .string v] 65)) := Fr.alloc (Fr.refl _ _) _
      have kW : KeepsWalks w2 (w2.alloc (.cells #[.string x, .string v] 65)) := KeepsWalks.alloc _ _
      obtain ⟨fn, tmps, assign, body, hy, hR⟩ := HY.out ps (x, v) w2 _ hJ2 fW ⟨hx, by have := hall.out.2.2.2.2; omega⟩
      have hrg3 := hrg2.of_walks kW
      have hC2 := hall.out.2.1.step HA.out hx hlk
      have HRG3 := hid hrg3
      have HC2 := hid hC2
      have HR := hid hR
      have HLT := hid hlt
      have HSZ := hid (show W.heap.size < w2.heap.size ∧ (ps ++ [(x, v)]).length + cnt2 ≤ m from ⟨by have := hall.out.2.2.2.1; omega, by have := hall.out.2.2.2.2; simp; omega⟩)
      clear hs2 hkey hlk hv hat hrg2 hlt hg2 hx hJ2 hbV fW kW hrg3 hC2 hR
      gi_wp2
      refine HR.out.mono ?_
      rintro e W3 (⟨rfl, hJ3, hk3⟩ | ⟨rfl, hJx3⟩)
      · have hrg4 := HRG3.out.of_walks hk3
        have HREL := hid (show W3.ranges Tryz.prog 9 asIs b W.heap.size m D (fun z => left z && !z.sameKey (litS x)) cnt2 ∧ T.Came ats (fun z => left z && !z.sameKey (litS x)) (ps ++ [(x, v)]) ∧ J (ps ++ [(x, v)]) W3 ∧ W.heap.size < W3.heap.size ∧ (ps ++ [(x, v)]).length + cnt2 ≤ m from ⟨hrg4, HC2.out, hJ3, by have h1 := HSZ.out.1; have h2 := hk3.size; rw [alloc_size] at h2; omega, HSZ.out.2⟩)
        have HM := hid (show W3.rangeLeft b W.heap.size < wr.rangeLeft b W.heap.size from by rw [hrg4.left_eq, hall.out.1.left_eq]; exact HLT.out)
        clear hrg4 hJ3 hk3 hy
        gi_wp2
        go_roundw
        case rel => exact ⟨_, cnt2, _, HREL⟩
        case measure => exact HM.out
      · have HJX := hid hJx3
        clear hJx3 hy
        gi_wp2
        refine bodyPost_ret (results_none rfl _ _ _) rfl ?_
        exact ⟨⟨_, rfl⟩, .inr ⟨_, HJX.out⟩⟩
set_option maxHeartbeats 1600000 in
theorem vals1_nil (n : Nat) (hn : 1 ≤ n) (l B : Nat) (J : List T.Pr → World → Prop) (W : World) (hJ : AbidesFrom W.heap.size J) (hB : W.cell? ⟨B, 0, none⟩ = some (.map none)) (h0 : J [] W) :
    CallsIn Fence.wide n Tryz.prog 102 #[.func (.yield l) #[] #[], ptr B] W fun e W' => (∃ v, e = .returned v) ∧ J [] W' := by
  refine callsIn_of_wp Tryz.func102 rfl trivial ?_ rfl
  simp only [Tryz.ntmps102, List.size_toArray, List.length_cons, List.length_nil, Nat.reduceAdd, Nat.reduceSub, Array.replicate_succ, Array.replicate_zero, List.push_toArray, List.append_toArray, List.nil_append, List.cons_append]
  have hrg := run_range_nilMap (P := Tryz.prog) W 77 9 65 Tryz.underlying77
  have hnx : ∀ ty, (Instr.next (.pointer (some ⟨W.heap.size, 0, none⟩)) false ty).run Tryz.prog (W.alloc (.mapIter none 0 #[] 0)) = _ := fun ty => run_next_nilMap _ ty 0 0 #[]
  gi_wp2
  refine wpIn_loop_rounds 1 ?_
  rw [roundsIn_succ]
  gi_wp2
  go_end0
  exact ⟨⟨_, rfl⟩, hJ [] W _ none h0 (World.grownBy_alloc W _ none) (fun r e => by cases e)⟩
/-- the iterator of an attributes' map, nil or not, as a caller ranges over it -/
theorem vals1_seq (n : Nat) (hn : 1 ≤ n) (B m : Nat) (mv : Option Nat) (ats : T.At) (w : World) (hB : w.cell? ⟨B, 0, none⟩ = some (.map mv)) (hm : Mo 9 litS w mv (T.atG ats) m) (hA : T.Ak ats) :
    SeqV Fence.wide n Tryz.prog 102 #[ptr B] (fun x : T.Pr => #[T.encA x]) (fun pre x _ _ => x ∈ ats ∧ pre.length < m) KeepsWalks (fun ys => ys.Perm ats) (fun _ => True) w := fun l J Jx W hW hJ _ hY h0 => by
  have hB' : W.cell? ⟨B, 0, none⟩ = some (.map mv) := by
    rw [World.cell?_of_block (w := w) (w' := W) (hW.block B (World.block_lt_of_cell? w _ hB))]; exact hB
  cases mv with
  | none =>
    have ha : ats = [] := by
      cases ats with
      | nil => rfl
      | cons y r =>
        have := hm.1 y.1
        unfold T.atG at this
        rw [T.aget_of_mem hA List.mem_cons_self] at this
        cases this
    subst ha
    exact (vals1_nil n hn l B J W hJ hB' h0).mono (fun e W' ⟨h1, h2⟩ => ⟨h1, .inl ⟨[], List.Perm.refl _, h2⟩⟩)
  | some b =>
    have hm' : Mp 9 litS W b (T.atG ats) m := by
      have hm : Mp 9 litS w b (T.atG ats) m := hm
      exact hm.kept (Fr.of_below hW) (fun h => h)
    exact (vals1_in n hn l B b m ats J Jx W hJ (fun pre x W0 W1 h1 h2 h3 => hY pre x W0 W1 h1 h2 h3) hB' hm' hA h0).mono (fun e W' ⟨h1, h2⟩ => ⟨h1, h2.elim .inl (fun ⟨pre, h3⟩ => .inr ⟨pre, trivial, h3⟩)⟩)
end Go.Proofs.YtilbdpnioajkoaaGreat

namespace Go.Proofs.YtilbdpnioajkoaaGreat
open Go.RowKit Go.Maps
set_option linter.unusedVariables false
set_option linter.unusedSimpArgs false
set_option maxRecDepth 100000
attribute [local go_sem] Oper.semAt_some

theorem wpListIn_append_eq {F : Fence} {nF : Nat} (w w' : World) {ops : Array Oper} {rest : List Oper} {o : Oper} {a : Act} {Q : Exit → Act → World → Prop} (hgd : o.guard = none) (s x : Operand) (ts : Array TypeId)
    (ho : o.op = .call { callee := .builtin .append, args := #[s, x], argTypes := ts }) (sv xv v : Value) (hs : a.eval s = sv) (hx : a.eval x = xv) (hr : (Builtin.append_ ts o.type #[sv, xv]).run Tryz.prog w = .ok v w')
    (h : wpListIn F nF Tryz.prog ops Q rest (a.put o.dst v) w') : wpListIn F nF Tryz.prog ops Q (o :: rest) a w := by
  refine wpListIn_plain hgd fun K hK => ?_
  unfold Oper.wpIn
  refine ⟨?_, ?_⟩
  · simp [Oper.about, ho, resolve, Target.leads, Sem.run_pure]
  · rw [Oper.semAt_plain F _ _ (by rw [ho]; intro c hc'; cases hc')]
    simp [execOp, ho, resolve, invoke, builtin, hs, hx, hr, Result.andThen]
    exact hK _ _ h
/-- the cells of a row of attributes -/
def T.flatA (xs : List T.Pr) : List Value := (xs.map (fun x => [Value.string x.1, .string x.2])).flatten
theorem T.flatA_len : ∀ (xs : List T.Pr), (T.flatA xs).length = xs.length * 2
  | [] => rfl
  | x :: r => by
    have := T.flatA_len r
    unfold T.flatA at this ⊢
    simp only [List.map_cons, List.flatten_cons, List.length_append, List.length_cons, this, List.length_nil]
    omega
theorem T.flatA_append (xs ys : List T.Pr) : T.flatA (xs ++ ys) = T.flatA xs ++ T.flatA ys := by simp [T.flatA]
theorem T.infoA1 : (Tryz.prog.info? 65).map (fun i => (i.size, i.bytes)) = some (2, 32) := by kernel_rfl
theorem T.infoA2 : ((Tryz.prog.info? 65).bind (fun i => i.zero)).map (fun z => z.cells.size) = some 2 := by kernel_rfl
theorem T.info_a : ∃ i z, Tryz.prog.info? 65 = some i ∧ i.zero = some z ∧ i.size = 2 ∧ i.bytes = 32 ∧ z.cells.size = 2 := by
  have h1 := T.infoA1
  have h2 := T.infoA2
  cases hi : Tryz.prog.info? 65 with
  | none => rw [hi] at h1; cases h1
  | some i =>
    rw [hi] at h1 h2
    simp only [Option.map_some, Option.some.injEq, Prod.mk.injEq, Option.bind_some] at h1 h2
    cases hz : i.zero with
    | none => rw [hz] at h2; cases h2
    | some z =>
      rw [hz] at h2
      simp only [Option.map_some, Option.some.injEq] at h2
      exact ⟨i, z, rfl, hz, h1.1, h1.2, h2⟩
/-- one more attribute, behind the others -/
theorem T.attr_append (w : World) (ra : Option Addr) (rc n : Nat) (xs : List Value) (hrow : Ro w 65 2 ra n rc xs) (hb : n ≤ 5000000000000) (x : T.Pr) :
    ∃ ra' rc' w', (Builtin.append_ #[61, 61] 61 #[.slice ra n rc, .slice (some ⟨w.heap.size, 0, none⟩) 1 1]).run Tryz.prog (w.alloc (.cells #[.string x.1, .string x.2] 65)) = .ok (.slice ra' (n + 1) rc') w' ∧
      Ro w' 65 2 ra' (n + 1) rc' (xs ++ [.string x.1, .string x.2]) ∧ (w.alloc (.cells #[.string x.1, .string x.2] 65)).grownBy w' (blk ra) ∧ (∀ k, blk ra' = some k → blk ra = some k ∨ w.heap.size ≤ k) := by
  obtain ⟨i0, z, hi, hz0, hz1, hz2, hz3⟩ := T.info_a
  have f0 : Fr (fun _ => False) w (w.alloc (.cells #[.string x.1, .string x.2] 65)) := Fr.alloc (Fr.refl _ _) _
  have hn := Go.heap_alloc_new w (.cells #[.string x.1, .string x.2] 65)
  obtain ⟨a', c', w', hr, h2, h3, h4⟩ := run_append_o (P := Tryz.prog) (w.alloc (.cells #[.string x.1, .string x.2] 65)) 61 61 65 i0 z 2 32 Tryz.underlying61 hi hz0 hz1 hz2 hz3 (by omega) ra n rc xs (hrow.kept f0 (fun _ _ h => h)) ⟨w.heap.size, 0, none⟩ 1 1 [.string x.1, .string x.2] rfl (fun j u hu => by
    rw [Addr.add_lit, Nat.zero_add]
    exact cellA hn (by rw [← Array.getElem?_toList]; exact hu)) (fun u hu => by simp at hu; rcases hu with rfl | rfl <;> rfl) (by omega) (by omega) (by omega)
  refine ⟨a', c', w', hr, h2, h3, fun k hk => ?_⟩
  rcases h4 with ⟨rfl, _⟩ | ⟨rfl, _⟩
  · exact .inl hk
  · simp [blk] at hk; exact .inr (by omega)
/-- what has been gathered: in the variable's block x, above it the row -/
def T.Ga (w1 : World) (x : Nat) (pre : List T.Pr) (W : World) : Prop :=
  ∃ a c, W.heap[x]? = some (.cells #[.slice a pre.length c] 61 (0, 0)) ∧ Ro W 65 2 a pre.length c (T.flatA pre) ∧ (∀ k, blk a = some k → x < k) ∧ Fr (fun k => k = x) w1 W
theorem T.Ga.own {w1 : World} {x : Nat} : OwnFrom w1.heap.size (T.Ga w1 x) := fun pre W W' row h hg hr => by
  obtain ⟨a, c, h1, h2, h3, h4⟩ := h
  have hk : Kz (fun _ => False) W W' := Kz.grown hg (fun r e => (hr r e).2)
  exact ⟨a, c, (hk.1 _ _ _ _ h1 (fun h => h)).trans h1, h2.kc hk.1 (fun _ _ h => h), h3, h4.own hg (fun r e => (hr r e).1)⟩
/-- .. and one more is at hand, in the block v -/
def T.Gv (w1 : World) (x m : Nat) (t : Array Value) (pre : List T.Pr) (y : T.Pr) (a1 : Act) (W : World) : Prop :=
  ∃ v, a1 = { tmps := (t.setIfInBounds 7 (T.encA y)).setIfInBounds 5 (ptr v), defers := [] } ∧ W.heap[v]? = some (.cells #[.string y.1, .string y.2] 65 (0, 0)) ∧ T.Ga w1 x pre W ∧ pre.length < m
theorem T.Gv.put {w1 : World} {x m : Nat} {t : Array Value} {pre : List T.Pr} {y : T.Pr} {a1 : Act} {W : World} (h : T.Gv w1 x m t pre y a1 W) {l : Nat} {o : Obj} (o' : Obj) (hl : w1.heap.size ≤ l) (ho : W.heap[l]? = some o) (hc : o.isCells = false) : T.Gv w1 x m t pre y a1 (W.putObj l o') := by
  obtain ⟨v, h1, h2, h3, h4⟩ := h
  have hk : Kz (fun _ => False) W (W.putObj l o') := Kz.putObj o' ho hc
  exact ⟨v, h1, (hk.1 _ _ _ _ h2 (fun h => h)).trans h2, T.Ga.own pre W _ (some l) h3 (grownBy_putObj' W l o') (fun r e => by cases e; exact ⟨hl, o, ho, hc⟩), h4⟩
set_option maxHeartbeats 4000000 in
theorem attrSeq_any {w : World} {B m : Nat} {mv : Option Nat} {ats : T.At} (hB : w.cell? ⟨B, 0, none⟩ = some (.map mv)) (hm : Mo 9 litS w mv (T.atG ats) m) (hA : T.Ak ats) (hb : m ≤ 5000000000000) :
    Calls Tryz.prog 128 #[.slice none 0 0, .func (.func 102) #[] #[ptr B]] w fun e w' => ∃ a c xs, e = .returned (.slice a (List.length xs) c) ∧ List.Perm xs ats ∧ Ro w' 65 2 a xs.length c (T.flatA xs) ∧ (∀ k, blk a = some k → w.heap.size < k) ∧ Fr (fun _ => False) w w' := by
  refine (callsIn_wide (n := 9)).1 ?_
  refine callsIn_of_wp_marks Tryz.func128 rfl trivial ?_ rfl
  simp only [Tryz.ntmps128, List.size_toArray, List.length_cons, List.length_nil, Nat.reduceAdd, Nat.reduceSub, Array.replicate_succ, Array.replicate_zero, List.push_toArray, List.append_toArray, List.nil_append, List.cons_append]
  obtain ⟨w1, hw1⟩ : ∃ w1, w.alloc (.cells #[.slice none 0 0] 61) = w1 := ⟨_, rfl⟩
  have f1 : Fr (fun _ => False) w w1 := by rw [← hw1]; exact Fr.alloc (Fr.refl _ _) _
  have hs1 : w1.heap.size = w.heap.size + 1 := by rw [← hw1]; simp
  have hx1 : w1.heap[w.heap.size]? = some (.cells #[.slice none 0 0] 61 (0, 0)) := by rw [← hw1]; exact Go.heap_alloc_new w _
  have HB := hid hb
  have HX1 := hid hx1
  have HS1 := hid hs1
  have F1 := hid f1
  have HSQ := hid (vals1_seq 8 (by omega) B m mv ats w1 (cellFr f1 (fun h => h) hB) (hm.kept f1 (fun _ _ h => h)) hA)
  have HW1 := hid hw1
  clear hB hm hA hb f1 hs1 hx1 hw1
  gi_wp2_with fail
  rw [HW1.out]
  refine wp_of_actC (fun a0 ha0 => ?_)
  refine wpIn_rangeV (w := w1) rfl (by omega) (gf := 102) (lb := #[ptr B]) (by rw [ha0]; rfl) trivial (enters_of Tryz.func102 (by kernel_rfl) rfl)
    HSQ.out (Below.refl _ _) (fun _ => rfl) (fun h k => h.trans k) (fun W l o o' hl hW hc hw => KeepsWalks.putObj o' hW hw)
    (T.Ga w1 w.heap.size) (fun _ _ _ => False) (T.Gv w1 w.heap.size m a0.tmps) T.Ga.own (fun c s W W' row h _ _ => h.elim) ⟨none, 0, HX1.out, Ro.nil _ _ _, by simp [blk], Fr.refl _ _⟩
    (fun pre x a1 W l o o' hl hW hc _ h => h.put o' hl hW hc) ?assign ?body ?done ?stop
  case assign =>
    subst ha0
    rintro l pre x W0 W Kn ⟨a, c, hbx, hro, hlt, hfr⟩ hfW ⟨hv1, hv2⟩ hK
    have fW : Fr (fun _ => False) W (W.alloc (.cells #[.string x.1, .string x.2] 65)) := Fr.alloc (Fr.refl _ _) _
    have f2 := hfW.trans fW (fun _ _ h => h)
    have fin : KeepsFrom w1.heap.size W (W.alloc (.cells #[.string x.1, .string x.2] 65)) ∧ KeepsWalks W (W.alloc (.cells #[.string x.1, .string x.2] 65)) ∧ ∀ t, T.Gv w1 w.heap.size m t pre x { tmps := (t.setIfInBounds 7 (T.encA x)).setIfInBounds 5 (ptr W.heap.size), defers := [] } (W.alloc (.cells #[.string x.1, .string x.2] 65)) :=
      ⟨⟨fW.size, fun k o _ hk _ => (fW.block k (lt_of_row hk) (fun h => h)).trans hk⟩, KeepsWalks.alloc _ _, fun t => ⟨W.heap.size, rfl, Go.heap_alloc_new W _, ⟨a, c, f2.cells hbx (fun h => h), hro.kept f2 (fun _ _ h => h), hlt, hfr.trans (f2.mono (fun _ _ h => h.elim)) (fun _ _ h => h)⟩, hv2⟩⟩
    have FIN := hid fin
    have HK2 := hid hK
    clear hbx hro hlt hfr hfW hv1 hv2 fW f2 fin hK
    gi_wp2
    exact HK2.out _ _ FIN.out.1 FIN.out.2.1 (FIN.out.2.2 _)
  case body =>
    subst ha0
    rintro l pre x a1 W ⟨v, rfl, hv, ⟨a, c, hbx, hro, hlt, hfr⟩, hlen⟩
    have hn5 : pre.length ≤ 5000000000000 := by have := HB.out; omega
    obtain ⟨a', c', W2, hr, hro2, hg2, hn2⟩ := T.attr_append W a c pre.length (T.flatA pre) hro hn5 x
    have f0 : Fr (fun _ => False) W (W.alloc (.cells #[.string x.1, .string x.2] 65)) := Fr.alloc (Fr.refl _ _) _
    have hf2 : Fr (fun k => blk a = some k) W W2 := (f0.mono (fun _ _ h => h.elim)).trans (Fr.of_grown hg2) (fun i hi e => e)
    have kw2 : KeepsWalks W W2 := (KeepsWalks.alloc _ _).trans (KeepsWalks.of_grownBy hg2 (fun j o e ho => by
      rcases hro.2 with ⟨h3, _⟩ | ⟨g, o', cur, h3, h4, _⟩
      · rw [h3] at e; simp [blk] at e
      · rw [h3] at e
        simp [blk] at e
        subst e
        rw [(f0.block g (lt_of_row h4) (fun h => h)).trans h4] at ho
        cases ho
        rfl))
    have hna : blk a ≠ some w.heap.size := fun e => by have := hlt _ e; omega
    have hx2 := hf2.cells hbx hna
    have LD := hid (load_whole (ty := 65) hv Tryz.underlying65 rfl (by kernel_rfl))
    have cb : W.cell? ⟨w.heap.size, 0, none⟩ = some (.slice a pre.length c) := cellA hbx rfl
    have v0 : W.cell? ⟨v, 0, none⟩ = some (.string x.1) := cellA (j := 0) hv rfl
    have v1 : W.cell? ⟨v, 1, none⟩ = some (.string x.2) := cellA (j := 1) hv rfl
    have c2 : W2.cell? ⟨w.heap.size, 0, none⟩ = some (.slice a pre.length c) := cellA hx2 rfl
    have z2 := frozen_of_row (j := 0) hx2
    have fs : Fr (fun k => k = w.heap.size) W2 (W2.setCell ⟨w.heap.size, 0, none⟩ (.slice a' (pre.length + 1) c')) := Fr.setCell (p := ⟨w.heap.size, 0, none⟩) (S := fun k => k = w.heap.size) (Fr.refl _ _) (fun _ => rfl) _
    have hs2 := hf2.size
    have hgw : w.heap.size < W.heap.size := lt_of_row hbx
    have fin : KeepsFrom w1.heap.size W (W2.setCell ⟨w.heap.size, 0, none⟩ (.slice a' (pre.length + 1) c')) ∧ KeepsWalks W (W2.setCell ⟨w.heap.size, 0, none⟩ (.slice a' (pre.length + 1) c')) ∧ T.Ga w1 w.heap.size (pre ++ [x]) (W2.setCell ⟨w.heap.size, 0, none⟩ (.slice a' (pre.length + 1) c')) := by
      refine ⟨⟨Nat.le_trans hs2 fs.size, fun k o hk h1 hc => ?_⟩, kw2.trans (KeepsWalks.setCell _ _ _), a', c', ?_, ?_, ?_, ?_⟩
      · have h2 : W2.heap[k]? = some o := by
          rw [hf2.block k (lt_of_row h1) (fun e => ?_)]
          · exact h1
          · rcases hro.2 with ⟨h3, _⟩ | ⟨g, o', cur, h3, h4, _⟩
            · rw [h3] at e; simp [blk] at e
            · rw [h3] at e
              simp [blk] at e
              subst e
              rw [h4] at h1
              cases h1
              cases hc
        exact (fs.block k (lt_of_row h2) (fun e => by have := HS1.out; omega)).trans h2
      · rw [setCell_row hx2, List.length_append]; rfl
      · rw [List.length_append, T.flatA_append]
        exact hro2.kept fs (fun k hk e => by
          rcases hn2 k hk with h1 | h1
          · have := hlt k h1; omega
          · omega)
      · intro k hk
        rcases hn2 k hk with h1 | h1
        · exact hlt k h1
        · omega
      · exact (hfr.trans hf2 (fun i hi e => by have h3 := hlt i e; have h4 := HS1.out; omega)).trans fs (fun _ _ h => h)
    have R2 := hid hr
    have FIN := hid fin
    clear hv hbx hro hlt hfr hlen hn5 hr hro2 hg2 hn2 f0 hf2 kw2 hna hx2 fs hs2 hgw fin
    gi_wp2_with (first
      | (refine wpListIn_load_v LD.out rfl (by exact ⟨_, rfl, rfl⟩) ?_)
      | (gi_at_builtin; refine wpListIn_append_eq _ _ rfl (.tmp 8) (.tmp 10) _ rfl _ _ _ rfl rfl (by exact R2.out) ?_))
    exact FIN.out
  case done =>
    subst ha0
    rintro D0 xs W0 hD hxs ⟨a, c, hbx, hro, hlt, hfr⟩ hK0
    have c1 : W0.cell? ⟨w.heap.size, 0, none⟩ = some (.slice a xs.length c) := cellA hbx rfl
    have HRO := hid hro
    have HLT := hid hlt
    have HFR := hid hfr
    have HXS := hid hxs
    obtain ⟨n, hn⟩ : ∃ n, xs.length = n := ⟨_, rfl⟩
    rw [hn] at c1
    have HN := hid hn
    clear hbx hro hlt hfr hxs hn
    gi_wp2
    refine ⟨by simp, .inl ⟨_, _, rfl, run_takeDeferred hK0, ?_⟩⟩
    refine ⟨.slice a n c, by simp [results, Tryz.f128, go_sem], a, c, xs, by rw [HN.out], HXS.out, ?_, HLT.out, ?_⟩
    · exact HRO.out.kc (Kz.putObj (M := fun _ => False) (.deferred none) hK0 rfl).1 (fun _ _ h => h)
    · have h2 := HS1.out
      refine (F1.out.trans HFR.out (fun i hi e => by omega)).trans (Fr.of_grown (grownBy_putObj' _ D0 _)) (fun i hi e => by simp at e; omega)
  case stop =>
    intro D c pre W _ _ h _
    exact h.elim
/-- maps.Values, collected -/
theorem attrColl_any {w : World} {B m : Nat} {mv : Option Nat} {ats : T.At} (hB : w.cell? ⟨B, 0, none⟩ = some (.map mv)) (hm : Mo 9 litS w mv (T.atG ats) m) (hA : T.Ak ats) (hb : m ≤ 5000000000000) :
    Calls Tryz.prog 100 #[.func (.func 102) #[] #[ptr B]] w fun e w' => ∃ a c xs, e = .returned (.slice a (List.length xs) c) ∧ List.Perm xs ats ∧ Ro w' 65 2 a xs.length c (T.flatA xs) ∧ (∀ k, blk a = some k → w.heap.size < k) ∧ Fr (fun _ => False) w w' := by
  have KA := hid (attrSeq_any hB hm hA hb)
  clear hB hm hA hb
  go_enter Tryz.func100, Tryz.ntmps100
  go_wp2_with (first | (go_at_call 128; refine KA.out.mono ?_; rintro e w1 ⟨a, c, xs, rfl, h1, h2, h3, h4⟩; have H1 := hid (And.intro h1 (And.intro h2 (And.intro h3 h4))); clear h1 h2 h3 h4; obtain ⟨n, hn⟩ : ∃ n, xs.length = n := ⟨_, rfl⟩; rw [hn]; have HN := hid hn; clear hn))
  go_ret
  exact ⟨a, c, xs, by rw [HN.out]; rfl, H1.out⟩
end Go.Proofs.YtilbdpnioajkoaaGreat

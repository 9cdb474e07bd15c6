/-
  maps.Values, of attributes: gone through in whatever order.
-/
import Derived.Test.YtmgnldangjfohaaGreatMg6
import Derived.Test.YtmgnldangjfohaaGreatSeq
import Derived.Stop.RegionWithIn
import Derived.LoopIn
import Derived.OwnWalkIn
import Derived.TacticsInMore
import Derived.RangeFuncLeaves
import Derived.RangeFuncKeeps
import Derived.LoopNIn
import Derived.Maps.OwnIn
import Derived.Sort.MapsRangeIn
namespace Go.Proofs.YtmgnldangjfohaaGreat
open Go.RowKit Go.Maps
set_option linter.unusedVariables false
set_option linter.unusedSimpArgs false
set_option maxRecDepth 100000
attribute [local go_sem] Oper.semAt_some

abbrev T.Pr := ByteArray × ByteArray
abbrev T.encA (x : T.Pr) : Value := .agg #[.string x.1, .string x.2]
/-- what the attributes' map holds -/
def T.atG (l : T.At) : ByteArray → Option Value := fun s => (T.aget s l).map (fun v => T.encA (s, v))
theorem vals_fn (mv : Option Nat) (w : World) : Calls Tryz.prog 77 #[.map mv] w fun e w' => e = .returned (.func (.func 104) #[] #[ptr w.heap.size]) ∧ w' = w.alloc (.cells #[.map mv] 84) := by
  go_enter Tryz.func77, Tryz.ntmps77
  go_wp2
  go_ret
  exact ⟨rfl, rfl⟩
theorem T.aget_of_mem {l : T.At} (h : T.Ak l) {p : T.Pr} (hp : p ∈ l) : T.aget p.1 l = some p.2 := by
  induction l with
  | nil => cases hp
  | cons y r ih =>
    unfold T.Ak at h
    rw [List.pairwise_cons] at h
    rw [T.aget_cons]
    rcases List.mem_cons.1 hp with rfl | hp
    · rw [if_pos rfl]
    · have := h.1 p hp
      rw [if_neg (fun e => by rw [e, T.blt_irrefl] at this; cases this)]
      exact ih h.2 hp
theorem T.ak_nodup {l : T.At} (h : T.Ak l) : l.Nodup := by
  refine List.Pairwise.imp (fun {a b} hab e => ?_) h
  rw [e, T.blt_irrefl] at hab
  cases hab
/-- what has come of the attributes -/
structure T.Came (l : T.At) (left : Lit → Bool) (ps : List T.Pr) : Prop where
  nd : ps.Nodup
  mem : ∀ p, p ∈ ps ↔ p ∈ l ∧ left (litS p.1) = false
theorem T.Came.start {l : T.At} {left : Lit → Bool} (h : ∀ p ∈ l, left (litS p.1) = true) : T.Came l left [] :=
  ⟨List.nodup_nil, fun p => by
    constructor
    · intro hp; cases hp
    · intro hp
      have h1 := h p hp.1
      have h2 := hp.2
      rw [h1] at h2
      cases h2⟩
theorem T.Came.done {l : T.At} (hA : T.Ak l) {left : Lit → Bool} {ps : List T.Pr} (h : T.Came l left ps) (h0 : ∀ kl, left kl = false) : ps.Perm l :=
  (List.perm_ext_iff_of_nodup h.nd (T.ak_nodup hA)).2 (fun p => by rw [h.mem]; simp [h0])
theorem T.same_str (a b : ByteArray) : (litS a).sameKey (litS b) = decide (a = b) := by
  by_cases e : a = b
  · subst e
    simp [litS, Lit.sameKey]
  · have : a.data.toList ≠ b.data.toList := fun h => e (litS_inj (by unfold litS; rw [h]))
    rw [decide_eq_false e]
    have h2 : ¬ a.data = b.data := fun h => this (by rw [h])
    simp [litS, Lit.sameKey, h2]
theorem T.Came.step {l : T.At} (hA : T.Ak l) {left : Lit → Bool} {ps : List T.Pr} (h : T.Came l left ps) {x : T.Pr} (hx : x ∈ l) (hl : left (litS x.1) = true) : T.Came l (fun z => left z && !z.sameKey (litS x.1)) (ps ++ [x]) := by
  refine ⟨?_, fun p => ?_⟩
  · rw [List.nodup_append]
    refine ⟨h.nd, by simp, fun a ha b hb e => ?_⟩
    simp at hb
    subst e
    rw [hb, h.mem] at ha
    rw [hl] at ha
    cases ha.2
  · rw [List.mem_append, h.mem]
    simp only [T.same_str, List.mem_singleton, Bool.and_eq_false_iff, Bool.not_eq_false', decide_eq_true_eq]
    constructor
    · rintro (⟨h1, h2⟩ | rfl)
      · exact ⟨h1, .inl h2⟩
      · exact ⟨hx, .inr rfl⟩
    · rintro ⟨h1, h2 | h2⟩
      · exact .inl ⟨h1, h2⟩
      · right
        have e1 := T.aget_of_mem hA h1
        have e2 := T.aget_of_mem hA hx
        rw [h2, e2] at e1
        exact Prod.ext h2 (Option.some.inj e1).symm
theorem keyS_inv {x : ByteArray} {kl : Lit} (h : keyOf Tryz.prog 9 (.string x) = some kl) : kl = litS x := by
  rw [keyOf_string Tryz.underlying9] at h
  simp [mapKey, Tryz.underlying9] at h
  exact h.2.symm
theorem T.atG_of {l : T.At} {D : DataW Value} {x : ByteArray} {c : Value} (h1 : ∀ z, D.atKey (litS x) z = orZ z (T.atG l x)) (h2 : ∀ z, D.atKey (litS x) z = .held c) : ∃ v, (x, v) ∈ l ∧ c = T.encA (x, v) := by
  unfold T.atG at h1
  cases hg : T.aget x l with
  | none =>
    have h3 := h1 (.map [])
    rw [hg, h2] at h3
    cases h3
  | some v =>
    have h3 := h1 (.map [])
    rw [hg, h2] at h3
    refine ⟨v, ?_, by injection h3⟩
    have : ∀ m : T.At, T.aget x m = some v → (x, v) ∈ m := fun m => by
      induction m with
      | nil => intro h; cases h
      | cons y r ih =>
        intro h
        rw [T.aget_cons] at h
        by_cases e : y.1 = x
        · rw [if_pos e] at h; cases h; subst e; exact List.mem_cons_self
        · rw [if_neg e] at h; exact List.mem_cons_of_mem _ (ih h)
    exact this l hg
set_option maxHeartbeats 4000000 in
theorem vals1_in (n : Nat) (hn : 1 ≤ n) (l B b m : Nat) (ats : T.At) (J Jx : List T.Pr → World → Prop) (W : World) (hJ : AbidesFrom W.heap.size J)
    (hY : ∀ pre x W0 W1, J pre W0 → Fr (fun _ => False) W0 W1 → x ∈ ats ∧ pre.length < m → YieldAt Fence.wide (n - 1) Tryz.prog l #[T.encA x] W1 fun e W' =>
      (e = .returned (.bool true) ∧ J (pre ++ [x]) W' ∧ KeepsWalks W1 W') ∨ (e = .returned (.bool false) ∧ Jx (pre ++ [x]) W'))
    (hB : W.cell? ⟨B, 0, none⟩ = some (.map (some b))) (hm : Mp 9 litS W b (T.atG ats) m) (hA : T.Ak ats) (h0 : J [] W) :
    CallsIn Fence.wide n Tryz.prog 104 #[.func (.yield l) #[] #[], ptr B] W fun e W' => (∃ v, e = .returned v) ∧
      ((∃ ys : List T.Pr, ys.Perm ats ∧ J ys W') ∨ (∃ pre : List T.Pr, Jx pre W')) := by
  obtain ⟨D, hown, hD1, hD2⟩ := hm
  have HJ := hid hJ
  have HY := hid hY
  have HA := hid hA
  have HD2 := hid hD2
  have HD1 := hid hD1
  have HOWN := hid hown
  clear hJ hY hA hD1 hD2 hown
  refine callsIn_of_wp Tryz.func104 rfl trivial ?_ rfl
  simp only [Tryz.ntmps104, List.size_toArray, List.length_cons, List.length_nil, Nat.reduceAdd, Nat.reduceSub, Array.replicate_succ, Array.replicate_zero, List.push_toArray, List.append_toArray, List.nil_append, List.cons_append]
  gi_wp2_with (first
    | (gi_at_range; refine wpListIn_range_own _ rfl _ 84 rfl 9 78 keyS Tryz.underlying84 asIs b m _ rfl HOWN.out ?_; intro w0 hrg0 hg0 hs0))
  go_frame
  gi_loopw [4] (fun _ wr => ∃ (left : Lit → Bool) (cnt : Nat) (ps : List T.Pr), Hid (wr.ranges Tryz.prog 9 asIs b W.heap.size m D left cnt ∧ T.Came ats left ps ∧ J ps wr ∧ W.heap.size < wr.heap.size ∧ ps.length + cnt ≤ m))
    (fun _ wr => wr.rangeLeft b W.heap.size)
  case atStart =>
    refine ⟨_, _, [], hid ⟨hrg0, T.Came.start (fun p hp => ?_), HJ.out [] W w0 none h0 hg0 (fun r e => by cases e), by omega, by have := HD1.out; simp; omega⟩⟩
    rw [has_orZ (HD2.out p.1)]
    unfold T.atG
    rw [T.aget_of_mem HA.out hp]
    rfl
  case round =>
    obtain ⟨left, cnt, ps, hall⟩ := hrel
    gi_wp2_with (first
      | (gi_at_next; refine wpListIn_next_ranges _ rfl _ rfl 9 keyS asIs Value.string (fun v : Value => v) (fun key kl hk => Maps.keyOf_string_inv Tryz.underlying9 hk) (fun v y hv => ⟨v, rfl⟩) b W.heap.size m _ _ _ rfl hall.out.1 ?_ ?_))
    · intro hc0 hl0
      have HP := hid (hall.out.2.1.done HA.out hl0)
      clear hl0
      gi_wp2
      go_end0
      exact ⟨⟨_, rfl⟩, .inl ⟨ps, HP.out, hall.out.2.2.1⟩⟩
    · intro x c kl yd yp w2 cnt2 hkey hlk hv hat hrg2 hlt hg2 hs2 hen
      obtain rfl := keyS_inv hkey
      obtain rfl : yd = .held c := by cases hv; rfl
      obtain ⟨v, hx, rfl⟩ := T.atG_of (fun z => HD2.out x z) hat
      have hJ2 : J ps w2 := HJ.out ps wr w2 (some W.heap.size) hall.out.2.2.1 hg2 (fun r e => by cases e; exact ⟨Nat.le_refl _, hall.out.1.iter_walk⟩)
      have hbV := Go.heap_alloc_new w2 (.cells #[.string x, .string v] 78)
      have fW : Fr (fun _ => False) w2 (w2.alloc (.cells #[.string x, .string v] 78)) := Fr.alloc (Fr.refl _ _) _
      have kW : KeepsWalks w2 (w2.alloc (.cells #[.string x, .string v] 78)) := KeepsWalks.alloc _ _
      obtain ⟨fn, tmps, assign, body, hy, hR⟩ := HY.out ps (x, v) w2 _ hJ2 fW ⟨hx, by have := hall.out.2.2.2.2; omega⟩
      have hrg3 := hrg2.of_walks kW
      have hC2 := hall.out.2.1.step HA.out hx hlk
      have HRG3 := hid hrg3
      have HC2 := hid hC2
      have HR := hid hR
      have HLT := hid hlt
      have HSZ := hid (show W.heap.size < w2.heap.size ∧ (ps ++ [(x, v)]).length + cnt2 ≤ m from ⟨by have := hall.out.2.2.2.1; omega, by have := hall.out.2.2.2.2; simp; omega⟩)
      clear hs2 hkey hlk hv hat hrg2 hlt hg2 hx hJ2 hbV fW kW hrg3 hC2 hR
      gi_wp2
      refine HR.out.mono ?_
      rintro e W3 (⟨rfl, hJ3, hk3⟩ | ⟨rfl, hJx3⟩)
      · have hrg4 := HRG3.out.of_walks hk3
        have HREL := hid (show W3.ranges Tryz.prog 9 asIs b W.heap.size m D (fun z => left z && !z.sameKey (litS x)) cnt2 ∧ T.Came ats (fun z => left z && !z.sameKey (litS x)) (ps ++ [(x, v)]) ∧ J (ps ++ [(x, v)]) W3 ∧ W.heap.size < W3.heap.size ∧ (ps ++ [(x, v)]).length + cnt2 ≤ m from ⟨hrg4, HC2.out, hJ3, by have h1 := HSZ.out.1; have h2 := hk3.size; rw [alloc_size] at h2; omega, HSZ.out.2⟩)
        have HM := hid (show W3.rangeLeft b W.heap.size < wr.rangeLeft b W.heap.size from by rw [hrg4.left_eq, hall.out.1.left_eq]; exact HLT.out)
        clear hrg4 hJ3 hk3 hy
        gi_wp2
        go_roundw
        case rel => exact ⟨_, cnt2, _, HREL⟩
        case measure => exact HM.out
      · have HJX := hid hJx3
        clear hJx3 hy
        gi_wp2
        refine bodyPost_ret (results_none rfl _ _ _) rfl ?_
        exact ⟨⟨_, rfl⟩, .inr ⟨_, HJX.out⟩⟩
set_option maxHeartbeats 1600000 in
theorem vals1_nil (n : Nat) (hn : 1 ≤ n) (l B : Nat) (J : List T.Pr → World → Prop) (W : World) (hJ : AbidesFrom W.heap.size J) (hB : W.cell? ⟨B, 0, none⟩ = some (.map none)) (h0 : J [] W) :
    CallsIn Fence.wide n Tryz.prog 104 #[.func (.yield l) #[] #[], ptr B] W fun e W' => (∃ v, e = .returned v) ∧ J [] W' := by
  refine callsIn_of_wp Tryz.func104 rfl trivial ?_ rfl
  simp only [Tryz.ntmps104, List.size_toArray, List.length_cons, List.length_nil, Nat.reduceAdd, Nat.reduceSub, Array.replicate_succ, Array.replicate_zero, List.push_toArray, List.append_toArray, List.nil_append, List.cons_append]
  have hrg := run_range_nilMap (P := Tryz.prog) W 84 9 78 Tryz.underlying84
  have hnx : ∀ ty, (Instr.next (.pointer (some ⟨W.heap.size, 0, none⟩)) false ty).run Tryz.prog (W.alloc (.mapIter none 0 #[] 0)) = _ := fun ty => run_next_nilMap _ ty 0 0 #[]
  gi_wp2
  refine wpIn_loop_rounds 1 ?_
  rw [roundsIn_succ]
  gi_wp2
  go_end0
  exact ⟨⟨_, rfl⟩, hJ [] W _ none h0 (World.grownBy_alloc W _ none) (fun r e => by cases e)⟩
/-- the iterator of an attributes' map, nil or not, as a caller ranges over it -/
theorem vals1_seq (n : Nat) (hn : 1 ≤ n) (B m : Nat) (mv : Option Nat) (ats : T.At) (w : World) (hB : w.cell? ⟨B, 0, none⟩ = some (.map mv)) (hm : Mo 9 litS w mv (T.atG ats) m) (hA : T.Ak ats) :
    SeqV Fence.wide n Tryz.prog 104 #[ptr B] (fun x : T.Pr => #[T.encA x]) (fun pre x _ _ => x ∈ ats ∧ pre.length < m) KeepsWalks (fun ys => ys.Perm ats) (fun _ => True) w := fun l J Jx W hW hJ _ hY h0 => by
  have hB' : W.cell? ⟨B, 0, none⟩ = some (.map mv) := by
    rw [World.cell?_of_block (w := w) (w' := W) (hW.block B (World.block_lt_of_cell? w _ hB))]; exact hB
  cases mv with
  | none =>
    have ha : ats = [] := by
      cases ats with
      | nil => rfl
      | cons y r =>
        have := hm.1 y.1
        unfold T.atG at this
        rw [T.aget_of_mem hA List.mem_cons_self] at this
        cases this
    subst ha
    exact (vals1_nil n hn l B J W hJ hB' h0).mono (fun e W' ⟨h1, h2⟩ => ⟨h1, .inl ⟨[], List.Perm.refl _, h2⟩⟩)
  | some b =>
    have hm' : Mp 9 litS W b (T.atG ats) m := by
      have hm : Mp 9 litS w b (T.atG ats) m := hm
      exact hm.kept (Fr.of_below hW) (fun h => h)
    exact (vals1_in n hn l B b m ats J Jx W hJ (fun pre x W0 W1 h1 h2 h3 => hY pre x W0 W1 h1 h2 h3) hB' hm' hA h0).mono (fun e W' ⟨h1, h2⟩ => ⟨h1, h2.elim .inl (fun ⟨pre, h3⟩ => .inr ⟨pre, trivial, h3⟩)⟩)
end Go.Proofs.YtmgnldangjfohaaGreat

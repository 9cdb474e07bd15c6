/-
  A table's rows gone through: Rows' iterator.
-/
import Derived.Test.YtffjekhlloippaaYRows
import Derived.Test.YtffjekhlloippaaSeq
import Derived.RangeFuncNested
import Derived.RangeFuncBound
import Derived.RangeFuncCalls
import Derived.Stop.RegionWithIn
import Derived.LoopIn
import Derived.OwnWalkIn
import Derived.TacticsInMore
import Derived.RangeFuncLeaves
import Derived.LoopNIn
import Derived.Maps.OwnIn
namespace Go.Proofs.Ytffjekhlloippaa
open Go.RowKit Go.Maps
set_option linter.unusedVariables false
set_option linter.unusedSimpArgs false
set_option maxRecDepth 100000
attribute [local go_sem] Oper.semAt_some
abbrev Y.El := Int × Y.Rq
theorem Yt.kc {M : Nat → Prop} {w w' : World} {B rc lo : Nat} {ra : Option Addr} {t : Y.Tb} (h : Yt w B ra rc t lo) (hk : Kc M w w') (hB : ¬ M B) (hR : ∀ i, blk ra = some i → ¬ M i) : Yt w' B ra rc t lo :=
  ⟨(hk _ _ _ _ h.bx hB).trans h.bx, h.row.kc hk hR, h.lb, h.lr⟩
theorem wpListIn_load_y {F : Fence} {nF : Nat} {ops : Array Oper} {rest : List Oper} {o : Oper} {a : Act} {w : World} {Q : Exit → Act → World → Prop} {ty : TypeId} {u v : Value} (hl : (Instr.loadAt ty u).run Try.prog w = .ok v w) (hg : o.guard = none) (h0 : ∃ x, o.op = .load ty x ∧ a.eval x = u)
    (h : wpListIn F nF Try.prog ops Q rest (a.put o.dst v) w) : wpListIn F nF Try.prog ops Q (o :: rest) a w := by
  obtain ⟨x, ho, hx⟩ := h0
  refine wpListIn_plain hg fun K' hK' => ?_
  unfold Oper.wpIn
  refine ⟨by simp [Oper.about, ho], ?_⟩
  rw [Oper.semAt_plain F _ _ (by rw [ho]; intro c hc'; cases hc')]
  simp [execOp, ho, hx, hl, Result.andThen]
  exact hK' _ _ h
set_option maxHeartbeats 4000000 in
theorem yiter_in (n : Nat) (hn : 1 ≤ n) (l B rc lo : Nat) (ra : Option Addr) (t : Y.Tb) (M : Nat → Prop) (J Jx : List Y.El → World → Prop) (W : World)
    (hY : ∀ pre x W0 W1, J pre W0 → Fr (fun _ => False) W0 W1 → pre ++ [x] <+: t → YieldAt Fence.wide (n - 1) Try.prog l #[Y.rowv x.1 x.2] W1 fun e W' =>
      (e = .returned (.bool true) ∧ J (pre ++ [x]) W' ∧ Kz M W1 W') ∨ (e = .returned (.bool false) ∧ Jx (pre ++ [x]) W'))
    (hR : Yt W B ra rc t lo) (hMB : ¬ M B) (hMR : ∀ i, blk ra = some i → ¬ M i) (hb : t.length ≤ 1000000000000) (h0 : J [] W) :
    CallsIn Fence.wide n Try.prog 31 #[.func (.yield l) #[] #[], ptrY B] W fun e W' => (∃ v, e = .returned v) ∧
      ((∃ ys : List Y.El, ys = t ∧ J ys W') ∨ (∃ pre : List Y.El, pre <+: t ∧ Jx pre W')) := by
  obtain ⟨len, hlen⟩ : ∃ len, t.length = len := ⟨_, rfl⟩
  have HL := hid hlen
  have HY := hid hY
  have HR := hid hR
  have HMB := hid hMB
  have HMR := hid hMR
  have c0 : W.cell? ⟨B, 0, none⟩ = some (.slice ra t.length rc) := cellA hR.bx rfl
  rw [hlen] at c0 hb
  clear hlen hY hR hMB hMR
  refine callsIn_of_wp Try.func31 rfl trivial ?_ rfl
  simp only [Try.ntmps31, List.size_toArray, List.length_cons, List.length_nil, Nat.reduceAdd, Nat.reduceSub, Array.replicate_succ, Array.replicate_zero, List.push_toArray, List.append_toArray, List.nil_append, List.cons_append]
  gi_wp2
  gi_loopw [7] (fun i wr => ∃ (k : Nat) (pre : List Y.El), i = .int .i64 k ∧ Hid (k ≤ len ∧ J pre wr ∧ pre = t.take k ∧ Kz M W wr))
    (fun i _ => len - (intOf i).toNat)
  case atStart => exact ⟨0, [], rfl, hid ⟨Nat.zero_le _, h0, rfl, Kc.refl _ _, Nat.le_refl _⟩⟩
  case round =>
    obtain ⟨k, pre, rfl, hall⟩ := hrel
    obtain ⟨hk, hJ, hpre, hkz⟩ := hall.out
    by_cases hlt : k < len
    · obtain ⟨x, hx⟩ : ∃ x, t[k]? = some x := ⟨_, List.getElem?_eq_getElem (by rw [HL.out]; exact hlt)⟩
      have hRr := HR.out.kc hkz.1 HMB.out HMR.out
      obtain ⟨g, o, rfl⟩ := hRr.row.some_of (by rw [HL.out]; omega)
      obtain ⟨s, n0, x0, x1, x2, x3⟩ := x
      have e0 : wr.cell? ⟨g, o + k * 6, none⟩ = some (.int .i64 s) := hRr.row.cell (j := k * 6) (by have := Y.flat_get hx (j := 0) (by omega); exact this)
      have e1 : wr.cell? ⟨g, o + k * 6 + 1, none⟩ = some (.int .i64 n0) := by rw [Nat.add_assoc]; exact hRr.row.cell (Y.flat_get hx (j := 1) (by omega))
      have e2 : wr.cell? ⟨g, o + k * 6 + 2, none⟩ = some (.int .i64 x0) := by rw [Nat.add_assoc]; exact hRr.row.cell (Y.flat_get hx (j := 2) (by omega))
      have e3 : wr.cell? ⟨g, o + k * 6 + 3, none⟩ = some (.int .i64 x1) := by rw [Nat.add_assoc]; exact hRr.row.cell (Y.flat_get hx (j := 3) (by omega))
      have e4 : wr.cell? ⟨g, o + k * 6 + 4, none⟩ = some (.int .i64 x2) := by rw [Nat.add_assoc]; exact hRr.row.cell (Y.flat_get hx (j := 4) (by omega))
      have e5 : wr.cell? ⟨g, o + k * 6 + 5, none⟩ = some (.int .i64 x3) := by rw [Nat.add_assoc]; exact hRr.row.cell (Y.flat_get hx (j := 5) (by omega))
      have hmap : pre ++ [(s, n0, x0, x1, x2, x3)] = t.take (k + 1) := by rw [hpre, List.take_add_one, hx]; rfl
      have hpf : pre ++ [(s, n0, x0, x1, x2, x3)] <+: t := by rw [hmap]; exact List.take_prefix _ _
      have i0 : (0 : Int) ≤ (k : Int) := by omega
      have i1 : (k : Int) < (len : Int) := by omega
      have fA : Fr (fun _ => False) wr (wr.alloc (.cells (Y.wcells s (n0, x0, x1, x2, x3)) 61)) := Fr.alloc (Fr.refl _ _) _
      obtain ⟨fn, tmps, assign, body, hy, hYR⟩ := HY.out pre (s, n0, x0, x1, x2, x3) wr _ hJ fA hpf
      have HYB := hid hYR
      have HMAP := hid hmap
      have HPF := hid hpf
      have HKZ := hid (hkz.trans (Kz.of_fr fA))
      clear hk hJ hpre hkz hall hx hRr hmap hpf hYR fA
      gi_wp2
      refine HYB.out.mono ?_
      clear hy
      rintro e w8 (⟨rfl, hJ8, hK8⟩ | ⟨rfl, hJx8⟩)
      · have HREL := hid (show k + 1 ≤ len ∧ J (pre ++ [(s, n0, x0, x1, x2, x3)]) w8 ∧ pre ++ [(s, n0, x0, x1, x2, x3)] = t.take (k + 1) ∧ Kz M W w8 from ⟨hlt, hJ8, HMAP.out, HKZ.out.trans hK8⟩)
        clear hJ8 hK8
        gi_wp2
        go_roundw
        case rel => exact ⟨k + 1, _, by first | rfl | go_num | trivial, HREL⟩
        case measure => first | (simp [intOf]; done) | (simp [intOf]; omega)
      · have HJX := hid hJx8
        clear hJx8
        gi_wp2
        refine bodyPost_ret (results_none rfl _ _ _) rfl ?_
        exact ⟨⟨_, rfl⟩, .inr ⟨_, HPF.out, HJX.out⟩⟩
    · obtain rfl : k = len := by omega
      have HP := hid (show pre = t from by rw [hpre, List.take_of_length_le (by rw [HL.out]; exact Nat.le_refl _)])
      have HJ := hid hJ
      clear hk hJ hpre hkz hall
      gi_wp2
      go_end0
      exact ⟨⟨_, rfl⟩, .inl ⟨pre, HP.out, HJ.out⟩⟩
/-- THE ROWS' ITERATOR, AS A CALLER RANGES OVER IT. -/
theorem yiter_seq (n : Nat) (hn : 1 ≤ n) (B rc lo : Nat) (ra : Option Addr) (t : Y.Tb) (M : Nat → Prop) (w : World) (hR : Yt w B ra rc t lo) (hMB : ¬ M B) (hMR : ∀ i, blk ra = some i → ¬ M i) (hb : t.length ≤ 1000000000000) :
    SeqV Fence.wide n Try.prog 31 #[ptrY B] (fun x : Y.El => #[Y.rowv x.1 x.2]) (fun pre x _ _ => pre ++ [x] <+: t) (Kz M) (fun ys => ys = t) (fun pre => pre <+: t) w := fun l J Jx W hW hJ _ hY h0 =>
  yiter_in n hn l B rc lo ra t M J Jx W hY (hR.kept (Fr.of_below hW) (fun _ _ _ h => h)) hMB hMR hb h0
end Go.Proofs.Ytffjekhlloippaa

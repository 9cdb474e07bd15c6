/-
  The contracts of Names' iterator, and of Names of a disk that no call made.
-/
import Derived.Test.YtogdjhhabcejgaaKBegun
import Derived.RangeFuncNested
import Derived.RangeFuncBound
import Derived.RangeFuncCalls
import Derived.RangeFuncLeaves
import Derived.Shelf.Abstract
import Derived.Shelf.RegionOpen
import Derived.OwnWalkIn
import Derived.TacticsInMore
import Derived.LoopNIn
import Derived.LoopIn
namespace Go.Proofs.Ytogdjhhabcejgaa
open Go.RowKit Go.Maps Go.Shelf
set_option linter.unusedVariables false
attribute [local go_sem] Oper.semAt_some

/-- what a round keeps -/
def Kq (Ks : Nat → Prop) (W W' : World) : Prop := ∀ k, Ks k → W'.heap[k]? = W.heap[k]?
theorem Kq.refl (Ks : Nat → Prop) (W : World) : Kq Ks W W := fun _ _ => rfl
theorem Kq.trans {Ks : Nat → Prop} {A B C : World} (h : Kq Ks A B) (k : Kq Ks B C) : Kq Ks A C := fun i hi => (k i hi).trans (h i hi)
/-- a slice of strings -/
def Ns (w : World) (a : Option Addr) (ss : List K.Nm) : Prop := ss = [] ∨ ∃ b, a = some ⟨b, 0, none⟩ ∧ ∀ j x, ss[j]? = some x → w.cell? ⟨b, j, none⟩ = some (encStr x)
/-- its blocks: the variable's, the row's -/
def Nk (B : Nat) (a : Option Addr) (ss : List K.Nm) (k : Nat) : Prop := k = B ∨ (ss ≠ [] ∧ blk a = some k)

set_option maxRecDepth 100000 in
set_option maxHeartbeats 2000000 in
theorem names1_in (F : Fence) (n : Nat) (hF : F.fn 46) (hro : F.round = none) (hn : 1 ≤ n) (l B cap : Nat) (a : Option Addr) (ss : List K.Nm) (hss : ss.length ≤ 1024) (J Jx : List K.Nm → World → Prop)
    (hY : ∀ pre x W, J pre W → pre.length < ss.length → YieldAt F (n - 1) Try.prog l #[encStr x] W fun e W' =>
      (e = .returned (.bool true) ∧ J (pre ++ [x]) W' ∧ Kq (Nk B a ss) W W') ∨ (e = .returned (.bool false) ∧ Jx (pre ++ [x]) W'))
    (W : World) (hB : W.cell? ⟨B, 0, none⟩ = some (.slice a ss.length cap)) (hN : Ns W a ss) (h0 : J [] W) :
    CallsIn F n Try.prog 46 #[.func (.yield l) #[] #[], .pointer (some ⟨B, 0, none⟩)] W fun e W' => (∃ v, e = .returned v) ∧
      ((∃ ys, ys = ss ∧ J ys W') ∨ (∃ pre, pre <+: ss ∧ Jx pre W')) := by
  obtain ⟨len, hlen⟩ : ∃ len, ss.length = len := ⟨_, rfl⟩
  have HL := hid hlen
  have HY := hid hY
  have HN := hid hN
  rw [hlen] at hB hss
  clear hlen hY hN
  refine callsIn_of_wp Try.func46 rfl hF ?_ hro
  simp only [Try.ntmps46, List.size_toArray, List.length_cons, List.length_nil, Nat.reduceAdd, Nat.reduceSub, Array.replicate_succ, Array.replicate_zero, List.push_toArray, List.append_toArray, List.nil_append, List.cons_append]
  gi_wp2
  gi_loopw [7] (fun i wr => ∃ k : Nat, k ≤ len ∧ i = .int .i64 k ∧ J (ss.take k) wr ∧ Kq (Nk B a ss) W wr)
    (fun i _ => len - (intOf i).toNat)
  case atStart => exact ⟨0, Nat.zero_le _, rfl, h0, Kq.refl _ _⟩
  case round =>
    obtain ⟨k, hk, rfl, hJs, hnx⟩ := hrel
    have HX := hid hnx
    clear hnx
    by_cases hlt : k < len
    · obtain ⟨x, hx⟩ : ∃ x, ss[k]? = some x := ⟨_, List.getElem?_eq_getElem (by rw [HL.out]; exact hlt)⟩
      have hne : ss ≠ [] := fun e => by subst e; simp at hx
      obtain ⟨b, rfl, hcs⟩ := HN.out.resolve_left hne
      have hcx : wr.cell? ⟨b, k, none⟩ = some (encStr x) := by
        rw [World.cell?_of_block (w := W) (w' := wr) (HX.out b (.inr ⟨hne, rfl⟩))]
        exact hcs k x hx
      obtain ⟨fn, tmps, assign, body, hy, hR⟩ := HY.out _ x wr hJs (by rw [List.length_take, HL.out]; omega)
      have ht : ss.take k ++ [x] = ss.take (k + 1) := by rw [List.take_add_one, hx]; rfl
      have HT := hid ht
      clear hx hne hcs ht
      gi_wp2
      refine hR.mono ?_
      rintro e W3 (⟨rfl, hJ3, hk3⟩ | ⟨rfl, hJx3⟩)
      · gi_wp2
        go_roundw
        case rel => exact ⟨k + 1, by omega, by simp, by rw [← HT.out]; exact hJ3, HX.out.trans hk3⟩
        case measure => simp [intOf]; omega
      · gi_wp2
        refine bodyPost_ret (results_none rfl _ _ _) rfl ?_
        exact ⟨⟨_, rfl⟩, .inr ⟨_, by rw [HT.out]; exact List.take_prefix _ _, hJx3⟩⟩
    · obtain rfl : k = len := by omega
      gi_wp2
      go_end0
      exact ⟨⟨_, rfl⟩, .inl ⟨_, List.take_of_length_le (by rw [HL.out]; exact Nat.le_refl _), hJs⟩⟩

theorem names1_stops (F : Fence) (n : Nat) (hF : F.fn 46) (hro : F.round = none) (hn : 1 ≤ n) (B cap : Nat) (a : Option Addr) (ss : List K.Nm) (hss : ss.length ≤ 1024) (w : World)
    (hB : w.cell? ⟨B, 0, none⟩ = some (.slice a ss.length cap)) (hN : Ns w a ss) :
    SeqStopsK F n Try.prog 46 #[.pointer (some ⟨B, 0, none⟩)] (fun x : K.Nm => #[encStr x]) (Kq (Nk B a ss)) (fun ys => ys = ss) (fun pre => pre <+: ss) ss.length w := fun l J Jx W hW _ _ hY h0 => by
  have hbl := World.block_lt_of_cell? w _ hB
  have hB' : W.cell? ⟨B, 0, none⟩ = some (.slice a ss.length cap) := by
    rw [World.cell?_of_block (w := w) (w' := W) (hW.block B hbl)]; exact hB
  have hN' : Ns W a ss := by
    rcases hN with h | ⟨b, rfl, hc⟩
    · exact .inl h
    · refine .inr ⟨b, rfl, fun j x hx => ?_⟩
      have h1 := hc j x hx
      rw [World.cell?_of_block (w := w) (w' := W) (hW.block b (World.block_lt_of_cell? w _ h1))]; exact h1
  exact names1_in F n hF hro hn l B cap a ss hss J Jx hY W hB' hN' h0

end Go.Proofs.Ytogdjhhabcejgaa

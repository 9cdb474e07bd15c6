/-
  What is answered in new memory may be written: All's iterator (gen/gen_auf.py)
-/
import Derived.Test.YtedhmhlhjonloaaAUf1
namespace Go.Proofs.Ytedhmhlhjonloaa
open Go.RowKit Go.Maps Go.Shelf
set_option linter.unusedVariables false
set_option linter.unusedSimpArgs false
attribute [local go_sem] Oper.semAt_some
def VsU (ls : List A.Sd) (pre : List El) (x : El) (W W1 : World) : Prop := pre.map Prod.snd ++ [x.2] <+: ls ∧ RsU (fun g => W.heap.size ≤ g ∧ g < W1.heap.size) W1 x.1 x.2
set_option maxRecDepth 100000 in
set_option maxHeartbeats 4000000 in
theorem all1U_in (n : Nat) (hn : 1 ≤ n) (l B rc : Nat) (ra : Option Addr) (gs : List SM) (K M : Nat → Prop) (J Jx : List El → World → Prop) (W : World)
    (hY : ∀ pre x W0 W1, J pre W0 → Fr (fun _ => False) W0 W1 → VsU (gs.map (·.s)) pre x W0 W1 → YieldAt Fence.wide (n - 1) Try.prog l #[.agg x.1] W1 fun e W' =>
      (e = .returned (.bool true) ∧ J (pre ++ [x]) W' ∧ Kz M W1 W') ∨ (e = .returned (.bool false) ∧ Jx (pre ++ [x]) W'))
    (hR : It K W B ra rc gs) (hM : ∀ k, K k → ¬ M k) (hb : gs.length ≤ 1000000000000) (h0 : J [] W) :
    CallsIn Fence.wide n Try.prog 46 #[.func (.yield l) #[] #[], ptrV B] W fun e W' => (∃ v, e = .returned v) ∧
      ((∃ ys : List El, ys.map Prod.snd = gs.map (·.s) ∧ J ys W') ∨ (∃ pre : List El, pre.map Prod.snd <+: gs.map (·.s) ∧ Jx pre W')) := by
  obtain ⟨len, hlen⟩ : ∃ len, gs.length = len := ⟨_, rfl⟩
  have HL := hid hlen
  have HY := hid hY
  have HR := hid hR
  have HMM := hid hM
  have hB : W.cell? ⟨B, 0, none⟩ = some (.slice ra gs.length rc) := cellA hR.bx rfl
  rw [hlen] at hB hb
  clear hlen hY hR hM
  unfold ptrV
  refine callsIn_of_wp Try.func46 rfl trivial ?_ rfl
  simp only [Try.ntmps46, List.size_toArray, List.length_cons, List.length_nil, Nat.reduceAdd, Nat.reduceSub, Array.replicate_succ, Array.replicate_zero, List.push_toArray, List.append_toArray, List.nil_append, List.cons_append]
  gi_wp2
  gi_loopw [7] (fun i wr => ∃ (k : Nat) (pre : List El), k ≤ len ∧ i = .int .i64 k ∧ Hid (J pre wr ∧ pre.map Prod.snd = (gs.take k).map (·.s) ∧ Kc M W wr ∧ W.heap.size ≤ wr.heap.size))
    (fun i _ => len - (intOf i).toNat)
  case atStart => exact ⟨0, [], Nat.zero_le _, rfl, hid ⟨h0, rfl, Kc.refl _ _, Nat.le_refl _⟩⟩
  case round =>
    obtain ⟨k, pre, hk, rfl, hall⟩ := hrel
    by_cases hlt : k < len
    · obtain ⟨m, hm⟩ : ∃ m, gs[k]? = some m := ⟨_, List.getElem?_eq_getElem (by rw [HL.out]; exact hlt)⟩
      have hRr := HR.out.kc hall.out.2.2.1 HMM.out
      obtain ⟨hK1, cs, hcs, hrs⟩ := hRr.sl m (List.mem_of_getElem? hm)
      obtain ⟨g, o, rfl, e0⟩ : ∃ g o, ra = some ⟨g, o, none⟩ ∧ wr.cell? ⟨g, o + k, none⟩ = some (ptrV m.g) := by
        rcases hRr.row.2 with h1 | ⟨g, o, h1, _, h2⟩
        · rw [HL.out] at h1; omega
        · exact ⟨g, o, h1, h2 k _ (by rw [List.getElem?_map, hm]; rfl)⟩
      unfold ptrV at e0
      have i0 : (0 : Int) ≤ (k : Int) := by omega
      have i1 : (k : Int) < (len : Int) := by omega
      have hmap : (pre.map Prod.snd ++ [m.s]) = (gs.take (k + 1)).map (·.s) := by rw [hall.out.2.1, List.take_add_one, hm, List.map_append]; rfl
      have hpre : pre.map Prod.snd ++ [m.s] <+: gs.map (·.s) := by
        rw [hmap]
        exact ⟨(gs.drop (k + 1)).map (·.s), by rw [← List.map_append, List.take_append_drop]⟩
      have LD := hid (load_whole (ty := 79) hcs Try.underlying79 rfl (by rw [hrs.size]; kernel_rfl))
      have KC := hid (clonedU_any hrs)
      have hfc : Fence.wide.fn 47 := trivial
      have HPRE := hid hpre
      have HMAP := hid hmap
      clear hRr hm hK1 hcs hrs hpre hmap
      gi_wp2_with (first
        | (refine wpListIn_load_v LD.out rfl (by exact ⟨_, rfl, rfl⟩) ?_)
        | (gi_at_call 47; refine (callsIn_wide.2 KC.out).mono ?_; rintro e w7 ⟨c7, rfl, rs7, f7⟩; obtain ⟨fn, tmps, assign, body, hy, hYR⟩ := HY.out pre (c7, m.s) wr w7 hall.out.1 f7 ⟨HPRE.out, rs7⟩; have HYB := hid hYR; have F7 := hid f7; clear hYR rs7 f7))
      refine HYB.out.mono ?_
      have hz7 := F7.out.size
      have HZ7 := hid hz7
      clear hy hz7
      rintro e w8 (⟨rfl, hJ8, hK8⟩ | ⟨rfl, hJx8⟩)
      · have HREL := hid (show J (pre ++ [(c7, m.s)]) w8 ∧ Kc M W w8 ∧ W.heap.size ≤ w8.heap.size from ⟨hJ8, (hall.out.2.2.1.trans (Kc.of_fr F7.out)).trans hK8.1, Nat.le_trans (Nat.le_trans hall.out.2.2.2 HZ7.out) hK8.2⟩)
        clear hJ8 hK8
        gi_wp2
        go_roundw
        case rel => exact ⟨k + 1, pre ++ [(c7, m.s)], by omega, by first | go_num | trivial, hid ⟨HREL.out.1, by rw [List.map_append]; exact HMAP.out, HREL.out.2.1, HREL.out.2.2⟩⟩
        case measure => simp [intOf]; omega
      · have HJX := hid hJx8
        clear hJx8
        gi_wp2
        refine bodyPost_ret (results_none rfl _ _ _) rfl ?_
        exact ⟨⟨_, rfl⟩, .inr ⟨_, by rw [List.map_append]; exact HPRE.out, HJX.out⟩⟩
    · obtain rfl : k = len := by omega
      gi_wp2
      go_end0
      exact ⟨⟨_, rfl⟩, .inl ⟨pre, by rw [hall.out.2.1, List.take_of_length_le (by rw [HL.out]; exact Nat.le_refl _)], hall.out.1⟩⟩

/-- ALL'S ITERATOR, AS A CALLER RANGES OVER IT. -/
theorem all1U_seq (n : Nat) (hn : 1 ≤ n) (B rc : Nat) (ra : Option Addr) (gs : List SM) (K M : Nat → Prop) (w : World) (hR : It K w B ra rc gs) (hM : ∀ k, K k → ¬ M k) (hb : gs.length ≤ 1000000000000) :
    SeqV Fence.wide n Try.prog 46 #[ptrV B] (fun x : El => #[.agg x.1]) (VsU (gs.map (·.s))) (Kz M) (fun ys => ys.map Prod.snd = gs.map (·.s)) (fun pre => pre.map Prod.snd <+: gs.map (·.s)) w := fun l J Jx W hW hJ _ hY h0 => by
  have hk : Kc M w W := fun k cs t m hk _ => hW.block k (lt_of_row hk)
  exact all1U_in n hn l B rc ra gs K M J Jx W hY (hR.kc hk hM) hM hb h0
end Go.Proofs.Ytedhmhlhjonloaa

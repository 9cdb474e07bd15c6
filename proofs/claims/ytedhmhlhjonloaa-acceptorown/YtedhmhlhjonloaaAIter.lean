/-
  All: what was accepted from a slot on, gone through.
-/
import Derived.Test.YtedhmhlhjonloaaASorts
import Derived.Test.YtedhmhlhjonloaaSeq
import Derived.RangeFuncNested
import Derived.RangeFuncBound
import Derived.RangeFuncCalls
import Derived.Stop.RegionWithIn
import Derived.LoopIn
import Derived.OwnWalkIn
import Derived.TacticsInMore
import Derived.RangeFuncLeaves
import Derived.LoopNIn
import Derived.Maps.OwnIn
namespace Go.Proofs.Ytedhmhlhjonloaa
open Go.RowKit Go.Maps Go.Shelf
set_option linter.unusedVariables false
set_option linter.unusedSimpArgs false
attribute [local go_sem] Oper.semAt_some

theorem Rw.kc {I M : Nat → Prop} {w w' : World} {k : Nat} {a : Option Addr} {n : Nat} {xs : List Value} (h : Rw I w k a n xs) (hk : Kc M w w') (hM : ∀ i, I i → ¬ M i) : Rw I w' k a n xs := by
  refine ⟨h.1, ?_⟩
  rcases h.2 with h0 | ⟨g, o, rfl, hI, hc⟩
  · exact .inl h0
  · exact .inr ⟨g, o, rfl, hI, fun j u hu => hk.cell (hc j u hu) (hM g hI)⟩
theorem Rs.kc {I M : Nat → Prop} {w w' : World} {cs : Array Value} {s : A.Sd} (h : Rs I w cs s) (hk : Kc M w w') (hM : ∀ i, I i → ¬ M i) : Rs I w' cs s := by
  obtain ⟨ec, h1, h0, a1, c1, a2, c2, h2, h3, h4⟩ := h
  exact ⟨ec, h1, h0, a1, c1, a2, c2, h2, h3.kc hk hM, h4.kc hk hM⟩
/-- WHAT IS GONE THROUGH: the variable's block B, a row of pointers, the slotted entries; all in blocks of K. -/
structure It (K : Nat → Prop) (w : World) (B : Nat) (ra : Option Addr) (rc : Nat) (gs : List SM) : Prop where
  bx : w.heap[B]? = some (.cells #[.slice ra gs.length rc] 99 (0, 0))
  kb : K B
  row : Rw K w 1 ra gs.length (gs.map (fun q => ptrV q.g))
  sl : ∀ q ∈ gs, K q.g ∧ ∃ cs, w.heap[q.g]? = some (.cells cs 79 (0, 0)) ∧ Rs K w cs q.s
theorem It.kc {K M : Nat → Prop} {w w' : World} {B : Nat} {ra : Option Addr} {rc : Nat} {gs : List SM} (h : It K w B ra rc gs) (hk : Kc M w w') (hM : ∀ k, K k → ¬ M k) : It K w' B ra rc gs :=
  ⟨(hk _ _ _ _ h.bx (hM _ h.kb)).trans h.bx, h.kb, h.row.kc hk hM, fun q hq => by
    obtain ⟨h1, cs, h2, h3⟩ := h.sl q hq
    exact ⟨h1, cs, (hk _ _ _ _ h2 (hM _ h1)).trans h2, h3.kc hk hM⟩⟩
theorem wpListIn_load_v {F : Fence} {nF : Nat} {ops : Array Oper} {rest : List Oper} {o : Oper} {a : Act} {w : World} {Q : Exit → Act → World → Prop} {ty : TypeId} {u v : Value} (hl : (Instr.loadAt ty u).run Try.prog w = .ok v w) (hg : o.guard = none) (h0 : ∃ x, o.op = .load ty x ∧ a.eval x = u)
    (h : wpListIn F nF Try.prog ops Q rest (a.put o.dst v) w) : wpListIn F nF Try.prog ops Q (o :: rest) a w := by
  obtain ⟨x, ho, hx⟩ := h0
  refine wpListIn_plain hg fun K' hK' => ?_
  unfold Oper.wpIn
  refine ⟨by simp [Oper.about, ho], ?_⟩
  rw [Oper.semAt_plain F _ _ (by rw [ho]; intro c hc'; cases hc')]
  simp [execOp, ho, hx, hl, Result.andThen]
  exact hK' _ _ h
theorem wpListIn_store_v {F : Fence} {nF : Nat} {ops : Array Oper} {rest : List Oper} {o : Oper} {a : Act} {w w' : World} {Q : Exit → Act → World → Prop} {ty : TypeId} {u v : Value} (hl : (Instr.storeAt ty u v).run Try.prog w = .ok () w') (hg : o.guard = none) (h0 : ∃ x y, o.op = .store ty x y ∧ a.eval x = u ∧ a.eval y = v)
    (h : wpListIn F nF Try.prog ops Q rest (a.put o.dst undef) w') : wpListIn F nF Try.prog ops Q (o :: rest) a w := by
  obtain ⟨x, y, ho, hx, hy⟩ := h0
  refine wpListIn_plain hg fun K' hK' => ?_
  unfold Oper.wpIn
  refine ⟨by simp [Oper.about, ho], ?_⟩
  rw [Oper.semAt_plain F _ _ (by rw [ho]; intro c hc'; cases hc')]
  simp [execOp, ho, hx, hy, hl, Result.andThen]
  exact hK' _ _ h
theorem wpListIn_append_eq {F : Fence} {nF : Nat} (w w' : World) {ops : Array Oper} {rest : List Oper} {o : Oper} {a : Act} {Q : Exit → Act → World → Prop} (hgd : o.guard = none) (s x : Operand) (ts : Array TypeId)
    (ho : o.op = .call { callee := .builtin .append, args := #[s, x], argTypes := ts }) (sv xv v : Value) (hs : a.eval s = sv) (hx : a.eval x = xv) (hr : (Builtin.append_ ts o.type #[sv, xv]).run Try.prog w = .ok v w')
    (h : wpListIn F nF Try.prog ops Q rest (a.put o.dst v) w') : wpListIn F nF Try.prog ops Q (o :: rest) a w := by
  refine wpListIn_plain hgd fun K hK => ?_
  unfold Oper.wpIn
  refine ⟨?_, ?_⟩
  · simp [Oper.about, ho, resolve, Target.leads, Sem.run_pure]
  · rw [Oper.semAt_plain F _ _ (by rw [ho]; intro c hc'; cases hc')]
    simp [execOp, ho, resolve, invoke, builtin, hs, hx, hr, Result.andThen]
    exact hK _ _ h
theorem fold_set0 (m : Nat) (es Z : Array Value) (hm : es.size = m) (hs : m = Z.size) : Array.foldl (fun (cs : Array Value) x => cs.setIfInBounds x.2 x.1) Z es.zipIdx 0 m = es := by
  have h := fold_set 0 m es Z hm (by omega)
  simp only [Nat.zero_add, List.take_zero, List.nil_append] at h
  simpa using h
/-- the zero of a slotted entry -/
def zS59 : Array Value := #[.int .i64 0, .int .i64 0, .int .i64 0, .int .i64 0, .int .i64 0, .int .i64 0, .int .i64 0, .int .i64 0, .int .i64 0, .int .i64 0, .int .i64 0, .string ⟨#[]⟩, .string ⟨#[]⟩, .string ⟨#[]⟩, .int .i64 0, .int .i64 0, .slice none 0 0, .int .i64 0, .int .i64 0, .int .i64 0, .int .i64 0, .int .i64 0, .int .i64 0, .int .i64 0, .int .i64 0, .int .i64 0, .int .i64 0, .int .i64 0, .int .i64 0, .int .i64 0, .int .i64 0, .int .i64 0, .int .i64 0, .int .i64 0, .int .i64 0, .int .i64 0, .int .i64 0, .int .i64 0, .int .i64 0, .int .i64 0, .int .i64 0, .int .i64 0, .int .i64 0, .int .i64 0, .int .i64 0, .int .i64 0, .int .i64 0, .int .i64 0, .int .i64 0, .int .i64 0, .int .i64 0, .int .i64 0, .int .i64 0, .int .i64 0, .int .i64 0, .slice none 0 0, .int .i64 0, .int .i64 0, .int .i64 0]
set_option maxHeartbeats 1600000 in
set_option maxRecDepth 20000 in
theorem acAll_any {I : Nat → Prop} {w : World} {p mb : Nat} {a : A.Ac} {l : List (Int × SM)} (h : Am I w p mb l a) (k : Int) (hl : l.length ≤ 310000000000) (hmb : mb < w.heap.size) (hI : ∀ k, I k → k < w.heap.size) :
    Calls Try.prog 16 #[ptrV p, .int .i64 k] w fun e w' => ∃ B ra rc, e = .returned (.func (.func 46) #[] #[ptrV B]) ∧ It (Nw I w w') w' B ra rc ((A.from_ k l).map (·.2)) ∧ Fr (fun _ => False) w w' := by
  have f0 : Fr (fun _ => False) w (w.alloc (.cells #[.slice none 0 0] 99)) := Fr.alloc (Fr.refl _ _) _
  have h1 := h.kept f0 (fun h => h) (fun h => h) (fun _ _ h => h)
  have KM := hid (fun (W : World) (hf : Fr (fun _ => False) w W) => acMade_any (cellA (j := 3) (hf.cells h.at_ (fun h => h)) rfl))
  have KS := hid (acSince_all h1 k hl (by simp; omega))
  have HH := hid h
  have hb0 : (w.alloc (.cells #[.slice none 0 0] 99)).heap[w.heap.size]? = some (.cells #[.slice none 0 0] 99 (0, 0)) := Go.heap_alloc_new w _
  have F0 := hid f0
  have HB0 := hid hb0
  have HI := hid hI
  obtain ⟨n, hn⟩ : ∃ n, (A.from_ k l).length = n := ⟨_, rfl⟩
  have HNN := hid hn
  rw [hn] at KS
  clear h h1 f0 hb0 hI hn hl
  go_enter Try.func16, Try.ntmps16
  go_wp2_with (first
    | (go_at_call 34; refine (KM.out _ F0.out).mono ?_; rintro e w1 ⟨rfl, rfl⟩)
    | (go_at_call 45; refine KS.out.mono ?_; rintro e w1 ⟨ra, rc, rfl, hrw, hf1⟩; have b1 := hf1.cells HB0.out (fun h => h); have c0 : w1.cell? ⟨w.heap.size, 0, none⟩ = some (.slice none 0 0) := cellA b1 rfl; have z0 := frozen_of_row (j := 0) b1; have HB1 := hid b1; have RW1 := hid hrw; have F1 := hid hf1; clear b1 hrw hf1))
  go_ret
  have hb2 := setCell_row (j := 0) HB1.out (.slice ra n rc)
  have fs : Fr (fun k => k = w.heap.size) w1 (w1.setCell ⟨w.heap.size, 0, none⟩ (.slice ra n rc)) := Fr.setCell (p := ⟨w.heap.size, 0, none⟩) (S := fun k => k = w.heap.size) (Fr.refl _ _) (fun _ => rfl) _
  have f2 : Fr (fun _ => False) w (w1.setCell ⟨w.heap.size, 0, none⟩ (.slice ra n rc)) := (F0.out.trans F1.out (fun _ _ h => h)).trans fs (fun i hi e => by omega)
  have hs := setCell_size w1 ⟨w.heap.size, 0, none⟩ (.slice ra n rc)
  have hs1 := F1.out.size
  rw [World.size_alloc] at hs1
  refine ⟨w.heap.size, ra, rc, rfl, ⟨?_, .inr ⟨Nat.le_refl _, by omega⟩, ?_, ?_⟩, f2⟩
  · rw [List.length_map, HNN.out]; exact hb2
  · have r1 := RW1.out.kept fs (fun i hi e => by have hi := hi.1; rw [World.size_alloc] at hi; omega)
    rw [List.length_map, HNN.out, List.map_map]
    exact r1.mono (fun i hi => .inr ⟨by have hi := hi.1; rw [World.size_alloc] at hi; omega, by rw [hs]; exact hi.2⟩)
  · intro q hq
    obtain ⟨r, hr, rfl⟩ := List.mem_map.1 hq
    obtain ⟨e1, e2, cs, e3, e4⟩ := HH.out.sl r (List.mem_filter.1 hr).1
    exact ⟨.inl e2, cs, f2.cells e3 (fun h => h), (e4.kept f2 (fun _ _ h => h)).mono (fun i hi => .inl hi)⟩

/-- an element, and what is told of it where it is yielded: it comes next, and its rows are new -/
abbrev El := Array Value × A.Sd
def Vs (ls : List A.Sd) (pre : List El) (x : El) (W W1 : World) : Prop := pre.map Prod.snd ++ [x.2] <+: ls ∧ Rs (fun g => W.heap.size ≤ g ∧ g < W1.heap.size) W1 x.1 x.2
set_option maxRecDepth 100000 in
set_option maxHeartbeats 4000000 in
theorem all1_in (n : Nat) (hn : 1 ≤ n) (l B rc : Nat) (ra : Option Addr) (gs : List SM) (K M : Nat → Prop) (J Jx : List El → World → Prop) (W : World)
    (hY : ∀ pre x W0 W1, J pre W0 → Fr (fun _ => False) W0 W1 → Vs (gs.map (·.s)) pre x W0 W1 → YieldAt Fence.wide (n - 1) Try.prog l #[.agg x.1] W1 fun e W' =>
      (e = .returned (.bool true) ∧ J (pre ++ [x]) W' ∧ Kz M W1 W') ∨ (e = .returned (.bool false) ∧ Jx (pre ++ [x]) W'))
    (hR : It K W B ra rc gs) (hM : ∀ k, K k → ¬ M k) (hb : gs.length ≤ 1000000000000) (h0 : J [] W) :
    CallsIn Fence.wide n Try.prog 46 #[.func (.yield l) #[] #[], ptrV B] W fun e W' => (∃ v, e = .returned v) ∧
      ((∃ ys : List El, ys.map Prod.snd = gs.map (·.s) ∧ J ys W') ∨ (∃ pre : List El, pre.map Prod.snd <+: gs.map (·.s) ∧ Jx pre W')) := by
  obtain ⟨len, hlen⟩ : ∃ len, gs.length = len := ⟨_, rfl⟩
  have HL := hid hlen
  have HY := hid hY
  have HR := hid hR
  have HMM := hid hM
  have hB : W.cell? ⟨B, 0, none⟩ = some (.slice ra gs.length rc) := cellA hR.bx rfl
  rw [hlen] at hB hb
  clear hlen hY hR hM
  unfold ptrV
  refine callsIn_of_wp Try.func46 rfl trivial ?_ rfl
  simp only [Try.ntmps46, List.size_toArray, List.length_cons, List.length_nil, Nat.reduceAdd, Nat.reduceSub, Array.replicate_succ, Array.replicate_zero, List.push_toArray, List.append_toArray, List.nil_append, List.cons_append]
  gi_wp2
  gi_loopw [7] (fun i wr => ∃ (k : Nat) (pre : List El), k ≤ len ∧ i = .int .i64 k ∧ Hid (J pre wr ∧ pre.map Prod.snd = (gs.take k).map (·.s) ∧ Kc M W wr ∧ W.heap.size ≤ wr.heap.size))
    (fun i _ => len - (intOf i).toNat)
  case atStart => exact ⟨0, [], Nat.zero_le _, rfl, hid ⟨h0, rfl, Kc.refl _ _, Nat.le_refl _⟩⟩
  case round =>
    obtain ⟨k, pre, hk, rfl, hall⟩ := hrel
    by_cases hlt : k < len
    · obtain ⟨m, hm⟩ : ∃ m, gs[k]? = some m := ⟨_, List.getElem?_eq_getElem (by rw [HL.out]; exact hlt)⟩
      have hRr := HR.out.kc hall.out.2.2.1 HMM.out
      obtain ⟨hK1, cs, hcs, hrs⟩ := hRr.sl m (List.mem_of_getElem? hm)
      obtain ⟨g, o, rfl, e0⟩ : ∃ g o, ra = some ⟨g, o, none⟩ ∧ wr.cell? ⟨g, o + k, none⟩ = some (ptrV m.g) := by
        rcases hRr.row.2 with h1 | ⟨g, o, h1, _, h2⟩
        · rw [HL.out] at h1; omega
        · exact ⟨g, o, h1, h2 k _ (by rw [List.getElem?_map, hm]; rfl)⟩
      unfold ptrV at e0
      have i0 : (0 : Int) ≤ (k : Int) := by omega
      have i1 : (k : Int) < (len : Int) := by omega
      have hmap : (pre.map Prod.snd ++ [m.s]) = (gs.take (k + 1)).map (·.s) := by rw [hall.out.2.1, List.take_add_one, hm, List.map_append]; rfl
      have hpre : pre.map Prod.snd ++ [m.s] <+: gs.map (·.s) := by
        rw [hmap]
        exact ⟨(gs.drop (k + 1)).map (·.s), by rw [← List.map_append, List.take_append_drop]⟩
      have LD := hid (load_whole (ty := 79) hcs Try.underlying79 rfl (by rw [hrs.size]; kernel_rfl))
      have KC := hid (cloned_any hrs)
      have hfc : Fence.wide.fn 47 := trivial
      have HPRE := hid hpre
      have HMAP := hid hmap
      clear hRr hm hK1 hcs hrs hpre hmap
      gi_wp2_with (first
        | (refine wpListIn_load_v LD.out rfl (by exact ⟨_, rfl, rfl⟩) ?_)
        | (gi_at_call 47; refine (callsIn_wide.2 KC.out).mono ?_; rintro e w7 ⟨c7, rfl, rs7, f7⟩; obtain ⟨fn, tmps, assign, body, hy, hYR⟩ := HY.out pre (c7, m.s) wr w7 hall.out.1 f7 ⟨HPRE.out, rs7⟩; have HYB := hid hYR; have F7 := hid f7; clear hYR rs7 f7))
      refine HYB.out.mono ?_
      have hz7 := F7.out.size
      have HZ7 := hid hz7
      clear hy hz7
      rintro e w8 (⟨rfl, hJ8, hK8⟩ | ⟨rfl, hJx8⟩)
      · have HREL := hid (show J (pre ++ [(c7, m.s)]) w8 ∧ Kc M W w8 ∧ W.heap.size ≤ w8.heap.size from ⟨hJ8, (hall.out.2.2.1.trans (Kc.of_fr F7.out)).trans hK8.1, Nat.le_trans (Nat.le_trans hall.out.2.2.2 HZ7.out) hK8.2⟩)
        clear hJ8 hK8
        gi_wp2
        go_roundw
        case rel => exact ⟨k + 1, pre ++ [(c7, m.s)], by omega, by first | go_num | trivial, hid ⟨HREL.out.1, by rw [List.map_append]; exact HMAP.out, HREL.out.2.1, HREL.out.2.2⟩⟩
        case measure => simp [intOf]; omega
      · have HJX := hid hJx8
        clear hJx8
        gi_wp2
        refine bodyPost_ret (results_none rfl _ _ _) rfl ?_
        exact ⟨⟨_, rfl⟩, .inr ⟨_, by rw [List.map_append]; exact HPRE.out, HJX.out⟩⟩
    · obtain rfl : k = len := by omega
      gi_wp2
      go_end0
      exact ⟨⟨_, rfl⟩, .inl ⟨pre, by rw [hall.out.2.1, List.take_of_length_le (by rw [HL.out]; exact Nat.le_refl _)], hall.out.1⟩⟩

/-- ALL'S ITERATOR, AS A CALLER RANGES OVER IT. -/
theorem all1_seq (n : Nat) (hn : 1 ≤ n) (B rc : Nat) (ra : Option Addr) (gs : List SM) (K M : Nat → Prop) (w : World) (hR : It K w B ra rc gs) (hM : ∀ k, K k → ¬ M k) (hb : gs.length ≤ 1000000000000) :
    SeqV Fence.wide n Try.prog 46 #[ptrV B] (fun x : El => #[.agg x.1]) (Vs (gs.map (·.s))) (Kz M) (fun ys => ys.map Prod.snd = gs.map (·.s)) (fun pre => pre.map Prod.snd <+: gs.map (·.s)) w := fun l J Jx W hW hJ _ hY h0 => by
  have hk : Kc M w W := fun k cs t m hk _ => hW.block k (lt_of_row hk)
  exact all1_in n hn l B rc ra gs K M J Jx W hY (hR.kc hk hM) hM hb h0
end Go.Proofs.Ytedhmhlhjonloaa

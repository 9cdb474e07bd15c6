/-
  Proved: whatever operation and whatever configuration are handed in, RecordNone answers true and leaves them as they were: a writer or a reader that no call made refuses. The row, and its tied card.
-/
import Derived.Test.YtofieaacingfcaaDoorQLaid
import Derived.Test.YtofieaacingfcaaDoorTie
import Derived.Test.YtofieaacingfcaaDoorCards
import Derived.SevenTiedAt
namespace Go.Proofs.YtofieaacingfcaaDoor
open Go.ChangeShapes Go.WideShapes Go.ChangeAt Go.RowKit
set_option linter.unusedVariables false

theorem cell_int {P : Program} {W : World} {r : Reach} {b : Nat} {u : TypeId} {v : Value} {k : IntKind} (hu : P.underlying u = some (.int k)) (h : Cell.okWide P W r b u v) : ∃ n, v = .int k n := okWide_int (P := P) (t := u) hu (by simp only [Value.okWide, hu]; exact h)
theorem cell_str {P : Program} {W : World} {r : Reach} {b : Nat} {u : TypeId} {v : Value} (hu : P.underlying u = some .string) (h : Cell.okWide P W r b u v) : ∃ s, v = .string s := okWide_string (P := P) (t := u) hu (by simp only [Value.okWide, hu]; exact h)
theorem row_open {P : Program} {W : World} {r : Reach} {b : Nat} {t : TypeId} {v : Value} {fs : Array Field} {ts : List TypeId} (hu : P.underlying t = some (.struct fs)) (hct : P.cellTypes P.depth t = some ts) (h : Value.okWide P W r b t v) : ∃ cs, v = .agg cs ∧ cs.size = P.cellsOf t ∧ ∀ i v, cs[i]? = some v → ∃ u, ts[i % ts.length]? = some u ∧ Cell.okWide P W r b u v := by
  simp only [Value.okWide, hu] at h
  obtain ⟨cs, hv, hs, ts', ht, _, hc⟩ := h
  rw [hct] at ht
  obtain rfl := Option.some.inj ht
  exact ⟨cs, hv, hs, hc⟩
theorem ctOp : Tryd.prog.cellTypes Tryd.prog.depth 25 = some [2, 3, 3, 2, 2, 9, 9, 9] := by kernel_rfl
theorem ctEp : Tryd.prog.cellTypes Tryd.prog.depth 31 = some [2, 3, 3, 3, 3, 3, 3, 3, 3, 2, 2, 2, 2, 2, 2, 2, 2, 3, 3, 3, 3, 3, 3, 3, 3] := by kernel_rfl
theorem len8 {α : Type} {l : List α} (h : l.length = 8) : ∃ a b c d e f g i, l = [a, b, c, d, e, f, g, i] := by
  match l, h with
  | [a, b, c, d, e, f, g, i], _ => exact ⟨a, b, c, d, e, f, g, i, rfl⟩
set_option maxRecDepth 100000 in
theorem opShape {W : World} {r : Reach} {b : Nat} {v : Value} (h : Value.okWide Tryd.prog W r b 25 v) : ∃ o : M.Op, v = .agg o.cs := by
  obtain ⟨cs, rfl, hs, hc⟩ := row_open (P := Tryd.prog) (W := W) (r := r) (b := b) (t := 25) (v := v) Tryd.underlying25 ctOp h
  clear h
  have c8 : Tryd.prog.cellsOf 25 = 8 := by kernel_rfl
  rw [c8] at hs
  clear c8
  obtain ⟨l⟩ := cs
  obtain ⟨x0, x1, x2, x3, x4, x5, x6, x7, rfl⟩ := len8 (l := l) hs
  obtain ⟨u0, e0, k0⟩ := hc 0 x0 rfl
  obtain ⟨u1, e1, k1⟩ := hc 1 x1 rfl
  obtain ⟨u2, e2, k2⟩ := hc 2 x2 rfl
  obtain ⟨u3, e3, k3⟩ := hc 3 x3 rfl
  obtain ⟨u4, e4, k4⟩ := hc 4 x4 rfl
  obtain ⟨u5, e5, k5⟩ := hc 5 x5 rfl
  obtain ⟨u6, e6, k6⟩ := hc 6 x6 rfl
  obtain ⟨u7, e7, k7⟩ := hc 7 x7 rfl
  cases e0; cases e1; cases e2; cases e3; cases e4; cases e5; cases e6; cases e7
  obtain ⟨n0, rfl⟩ := cell_int Tryd.underlying2 k0
  obtain ⟨n1, rfl⟩ := cell_int Tryd.underlying3 k1
  obtain ⟨n2, rfl⟩ := cell_int Tryd.underlying3 k2
  obtain ⟨n3, rfl⟩ := cell_int Tryd.underlying2 k3
  obtain ⟨n4, rfl⟩ := cell_int Tryd.underlying2 k4
  obtain ⟨n5, rfl⟩ := cell_str Tryd.underlying9 k5
  obtain ⟨n6, rfl⟩ := cell_str Tryd.underlying9 k6
  obtain ⟨n7, rfl⟩ := cell_str Tryd.underlying9 k7
  exact ⟨⟨n0, n1, n2, n3, n4, n5, n6, n7⟩, rfl⟩
theorem epCs_get (f : Nat → Int) : ∀ i, i < 25 → (M.epCs f)[i]? = some (.int .i64 (f i)) := fun i h => by
  match i, h with
  | 0, _ | 1, _ | 2, _ | 3, _ | 4, _ | 5, _ | 6, _ | 7, _ | 8, _ | 9, _ | 10, _ | 11, _ | 12, _ | 13, _ | 14, _ | 15, _ | 16, _ | 17, _ | 18, _ | 19, _ | 20, _ | 21, _ | 22, _ | 23, _ | 24, _ => rfl
  | n + 25, h => omega
theorem ep_types : ∀ u ∈ ([2, 3, 3, 3, 3, 3, 3, 3, 3, 2, 2, 2, 2, 2, 2, 2, 2, 3, 3, 3, 3, 3, 3, 3, 3] : List TypeId), u = 2 ∨ u = 3 := by decide
set_option maxRecDepth 100000 in
theorem epShape {W : World} {r : Reach} {b : Nat} {v : Value} (h : Value.okWide Tryd.prog W r b 31 v) : ∃ x : Nat → Int, v = .agg (M.epCs x) := by
  obtain ⟨cs, rfl, hs, hc⟩ := row_open (P := Tryd.prog) (W := W) (r := r) (b := b) (t := 31) (v := v) Tryd.underlying31 ctEp h
  clear h
  have c8 : Tryd.prog.cellsOf 31 = 25 := by kernel_rfl
  rw [c8] at hs
  clear c8
  have hi : ∀ i (h : i < cs.size), ∃ n, cs[i] = .int .i64 n := fun i h => by
    obtain ⟨u, hu, hk⟩ := hc i cs[i] (Array.getElem?_eq_getElem h)
    rcases ep_types u (List.mem_of_getElem? hu) with rfl | rfl
    · exact cell_int Tryd.underlying2 hk
    · exact cell_int Tryd.underlying3 hk
  refine ⟨fun i => intOf (cs.getD i undef), congrArg Value.agg (Array.ext (hs.trans rfl) fun i h1 h2 => ?_)⟩
  obtain ⟨n, hn⟩ := hi i h1
  have hx : intOf (cs.getD i undef) = n := by simp [Array.getD, h1, hn, intOf]
  have e1 := epCs_get (fun i => intOf (cs.getD i undef)) i (by omega)
  rw [Array.getElem?_eq_getElem h2] at e1
  have e2 := Option.some.inj e1
  rw [e2, hn]
  exact congrArg (Value.int .i64) hx.symm
theorem door_met (os : Os) (args : Array Value) : laidMetH Tryd.prog (laidR Unit) ((World.doorLaid Tryd.prog 400 os).forCall (fun _ _ => 0) ⟨#[], args, []⟩).memory :=
  laidMetH_of_parts3 (fuel := 8) (laidMet_of_run' 8 (by kernel_rfl) (by kernel_rfl)) (by kernel_rfl) (by kernel_rfl)
set_option maxRecDepth 100000 in
theorem recordNone_lifted (os : Os) (started : os.Started) (H : Type) (enc : TypeId × Value → H) :
    ReturnsInHanded {} Tryd.checked os 6 .any (fun w args => (Rows.recordNoneSpec.pre enc Tryd.prog Tryd.f6 [] false w args ∧ laidMetH Tryd.prog (laidR Unit) w) ∧ sizedMet enc Tryd.prog Tryd.f6 (OpenSpec.ofChange Rows.recordNoneSpec) false w args)
      (Rows.recordNoneSpec.post enc Tryd.prog Tryd.f6 false true false false) := by
  refine returnsInHanded_of_change_and (C := Tryd.checked) (X := fun w _ => laidMetH Tryd.prog (laidR Unit) w) (fun _ _ _ hh h => h.of_heap hh) ownR started (by kernel_rfl) Tryd.func6
    (ChangeSpec.witness_shaped (enc := enc) (C := Tryd.checked) (os := os) (X := fun w _ => laidMetH Tryd.prog (laidR Unit) w) false (World.doorLaid Tryd.prog 400 os) #[.agg M.zop, .agg M.zep] 8 rfl (World.shaped_of_RefB (by kernel_rfl) (by kernel_rfl)) (by kernel_rfl) (by kernel_rfl) (by kernel_rfl) (door_met os _)) ?_
  intro W base args ds gs before hval0 hW _ _ hL _
  have hval : ∀ (j : Nat) t v, Tryd.f6.params[j]? = some t → args[j]? = some v → Value.okWide Tryd.prog W .any base t v := hval0
  have hW' := hW
  obtain ⟨p, q, hA0, hV, rfl, hfz, hnd⟩ := hW
  have hA : DataW.TrodAll enc Tryd.prog W 0 (fun _ => true) true Tryd.f6.params.toList args.toList ds p := hA0
  rw [Tryd.params6] at hA hval
  obtain ⟨v0, vs0, d0, ds0, p0, q0, hargs, rfl, rfl, h0, r0⟩ := trodAll_cons hA
  obtain ⟨v1, vs1, d1, ds1, p1, q1, rfl, rfl, rfl, h1, r1⟩ := trodAll_cons r0
  obtain ⟨rfl, rfl, rfl⟩ := trodAll_nil r1
  obtain rfl : args = #[v0, v1] := by cases args; simp_all
  obtain ⟨rfl, rfl⟩ := trodVars_none hV
  obtain ⟨o, rfl⟩ := opShape (hval 0 25 v0 rfl rfl)
  obtain ⟨x, rfl⟩ := epShape (hval 1 31 v1 rfl rfl)
  have lt0 : ∀ x ∈ p0, x.block < W.heap.size := by obtain ⟨m, hm⟩ := h0; exact DataW.trod_lt m _ _ _ hm
  have lt1 : ∀ x ∈ p1, x.block < W.heap.size := by obtain ⟨m, hm⟩ := h1; exact DataW.trod_lt m _ _ _ hm
  clear hA0 hval0
  refine (lawNone o x W (tb_of_laid hL)).mono fun e W' ⟨he, hf⟩ => ?_
  have bel := hf.below (Nat.le_refl _) (fun _ _ h => h)
  subst he
  exact ⟨_, rfl, _, _, _, [], _, [], hW', trodAll_mk1 (shut_bool Tryd.underlying4 _), (trodAll_cons_mk (Below.trod laidOutR (by kernel_rfl) (of_decide_eq_true (by kernel_rfl)) h0 bel lt0) (trodAll_cons_mk (Below.trod laidOutR (by kernel_rfl) (of_decide_eq_true (by kernel_rfl)) h1 bel lt1) trodAll_mk0)), rfl, bel.frame _, fun h => by cases h⟩
theorem recordNone_row : Rows.RecordNoneSaid :=
  OpenClaim.holds_of_wide 6 Tryd.f6 rfl rfl rfl rfl rfl rfl rfl ⟨rfl, rfl, rfl, rfl, rfl⟩ rfl rfl rfl rfl rfl (by kernel_rfl) Tryd.func6 (by kernel_rfl)
    (of_decide_eq_true (by kernel_rfl)) (by unfold Func.isWrapper; first | (rw [if_pos (by decide +kernel)]; kernel_rfl) | (rw [if_neg (by decide +kernel)]; exact ⟨rfl, rfl⟩))
    (fun os started H enc _ => recordNone_lifted os started H enc)

theorem recordNone_holds : Rows.RecordNoneCardSaid :=
  Claim7.holds_tied_plain_at .later [] [.data] true (true, "3405806b66592cb4bfb90bb6fd994efa38230e091470327102e91ac98151e5a1") false
    recordNone_row (fun _ h => by cases h) (by kernel_rfl) (fun _ h => by cases h) recordNone_row_tie rfl ⟨rfl, rfl⟩ (by kernel_rfl) rfl
    (fun f fn hf hfn => by
      obtain rfl : f = 6 := Option.some.inj ((show Tryd.prog.funcNamed "orchard/orchardlaw04.RecordNone" = some 6 by kernel_rfl).symm.trans hf) |>.symm
      obtain rfl : fn = Tryd.f6 := (Option.some.inj (Tryd.func6.symm.trans hfn)).symm
      exact ⟨by kernel_rfl, fun j t ht => by
        rw [Tryd.params6] at ht
        have hm : t ∈ [25, 31] := by simpa using Array.mem_of_getElem? ht
        have hall : ([25, 31].all fun u => !Tryd.prog.wantsStandIn u) = true := by kernel_rfl
        exact (show Tryd.prog.wantsStandIn t = false by simpa using List.all_eq_true.1 hall t hm)⟩)
    (by kernel_rfl)

end Go.Proofs.YtofieaacingfcaaDoor

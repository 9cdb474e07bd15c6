/-
  Proved: whatever is handed in, ProposerNone answers true and leaves it as it was: a proposer that no call made refuses. The row, and its tied card.
-/
import Derived.Test.YtcmpkbgkhbcekaaDoorQLaid
import Derived.Test.YtcmpkbgkhbcekaaDoorJLaw
import Derived.Test.YtcmpkbgkhbcekaaDoorOpenRow
import Derived.Test.YtcmpkbgkhbcekaaDoorTie
import Derived.Test.YtcmpkbgkhbcekaaDoorCards
import Derived.SevenTiedAt
namespace Go.Proofs.YtcmpkbgkhbcekaaDoor
open Go.ChangeShapes Go.WideShapes Go.ChangeAt Go.RowKit
set_option linter.unusedVariables false

theorem ct4 : (Tryd.prog.cellTypes Tryd.prog.depth 39).map (·.take 4) = some [3, 3, 2, 22] := by kernel_rfl
theorem cell_slice {P : Program} {W : World} {r : Reach} {b : Nat} {u e : TypeId} {v : Value} (hu : P.underlying u = some (.slice e)) (h : Cell.okWide P W r b u v) : ∃ a n c, v = .slice a n c := okWide_slice (P := P) (t := u) hu (by simp only [Value.okWide, hu]; exact h)
set_option maxRecDepth 100000 in
theorem opShape {W : World} {r : Reach} {b : Nat} {v : Value} (h : Value.okWide Tryd.prog W r b 39 v) : ∃ oa : Array Value, v = .agg oa ∧ oa.size = 60 ∧ ∃ (x y : Int) (a : Option Addr) (n c : Nat), oa[1]? = some (.int .i64 x) ∧ oa[2]? = some (.int .i64 y) ∧ oa[3]? = some (.slice a n c) := by
  obtain ⟨ts, hts, h4⟩ := Option.map_eq_some_iff.1 ct4
  obtain ⟨cs, rfl, hs, hc⟩ := row_open (P := Tryd.prog) (W := W) (r := r) (b := b) (t := 39) (v := v) Tryd.underlying39 hts h
  clear h hts
  have c60 : Tryd.prog.cellsOf 39 = 60 := by kernel_rfl
  rw [c60] at hs
  clear c60
  have g : ∀ k, k < 4 → ts[k]? = ([3, 3, 2, 22] : List TypeId)[k]? := fun k hk => by rw [← h4, List.getElem?_take, if_pos hk]
  have hl : 4 ≤ ts.length := by have := congrArg List.length h4; rw [List.length_take] at this; simp only [List.length_cons, List.length_nil] at this; omega
  obtain ⟨u1, e1, k1⟩ := hc 1 cs[1] (Array.getElem?_eq_getElem (by omega))
  obtain ⟨u2, e2, k2⟩ := hc 2 cs[2] (Array.getElem?_eq_getElem (by omega))
  obtain ⟨u3, e3, k3⟩ := hc 3 cs[3] (Array.getElem?_eq_getElem (by omega))
  rw [Nat.mod_eq_of_lt (by omega), g 1 (by decide)] at e1
  rw [Nat.mod_eq_of_lt (by omega), g 2 (by decide)] at e2
  rw [Nat.mod_eq_of_lt (by omega), g 3 (by decide)] at e3
  cases e1; cases e2; cases e3
  obtain ⟨x, hx⟩ := cell_int Tryd.underlying3 k1
  obtain ⟨y, hy⟩ := cell_int Tryd.underlying2 k2
  obtain ⟨a, n, c, hz⟩ := cell_slice Tryd.underlying22 k3
  exact ⟨cs, rfl, hs, x, y, a, n, c, by rw [Array.getElem?_eq_getElem (by omega), hx], by rw [Array.getElem?_eq_getElem (by omega), hy], by rw [Array.getElem?_eq_getElem (by omega), hz]⟩
def jZop : Array Value := #[.int .i64 0, .int .i64 0, .int .i64 0, .slice none 0 0] ++ zE56
theorem door_met (os : Os) (args : Array Value) : laidMetH Tryd.prog (laidR Unit) ((World.doorLaid Tryd.prog 400 os).forCall (fun _ _ => 0) ⟨#[], args, []⟩).memory :=
  laidMetH_of_parts3 (fuel := 8) (laidMet_of_run' 8 (by kernel_rfl) (by kernel_rfl)) (by kernel_rfl) (by kernel_rfl)
set_option maxRecDepth 100000 in
theorem proposerNone_lifted (os : Os) (started : os.Started) (H : Type) (enc : TypeId × Value → H) :
    ReturnsInHanded {} Tryd.checked os 3 .any (fun w args => (Rows.proposerNoneSpec.pre enc Tryd.prog Tryd.f3 [] false w args ∧ laidMetH Tryd.prog (laidR Unit) w) ∧ sizedMet enc Tryd.prog Tryd.f3 (OpenSpec.ofChange Rows.proposerNoneSpec) false w args)
      (Rows.proposerNoneSpec.post enc Tryd.prog Tryd.f3 false true false false) := by
  refine returnsInHanded_of_change_and (C := Tryd.checked) (X := fun w _ => laidMetH Tryd.prog (laidR Unit) w) (fun _ _ _ hh h => h.of_heap hh) ownR started (by kernel_rfl) Tryd.func3
    (ChangeSpec.witness_shaped (enc := enc) (C := Tryd.checked) (os := os) (X := fun w _ => laidMetH Tryd.prog (laidR Unit) w) false (World.doorLaid Tryd.prog 400 os) #[.agg jZop] 8 rfl (World.shaped_of_RefB (by kernel_rfl) (by kernel_rfl)) (by kernel_rfl) (by kernel_rfl) (by kernel_rfl) (door_met os _)) ?_
  intro W base args ds gs before hval0 hW _ _ hL _
  have hval : ∀ (j : Nat) t v, Tryd.f3.params[j]? = some t → args[j]? = some v → Value.okWide Tryd.prog W .any base t v := hval0
  have hW' := hW
  obtain ⟨p, q, hA0, hV, rfl, hfz, hnd⟩ := hW
  have hA : DataW.TrodAll enc Tryd.prog W 0 (fun _ => true) true Tryd.f3.params.toList args.toList ds p := hA0
  rw [Tryd.params3] at hA hval
  obtain ⟨v0, vs0, d0, ds0, p0, q0, hargs, rfl, rfl, h0, r0⟩ := trodAll_cons hA
  obtain ⟨rfl, rfl, rfl⟩ := trodAll_nil r0
  obtain rfl : args = #[v0] := by cases args; simp_all
  obtain ⟨rfl, rfl⟩ := trodVars_none hV
  obtain ⟨oa, rfl, hsz, x, y, a, n, c, h1, h2, h3⟩ := opShape (hval 0 39 v0 rfl rfl)
  have lt0 : ∀ x ∈ p0, x.block < W.heap.size := by obtain ⟨m, hm⟩ := h0; exact DataW.trod_lt m _ _ _ hm
  clear hA0 hval0
  refine (jlaw oa hsz x y a n c h1 h2 h3 W (tb_of_laid hL)).mono fun e W' ⟨he, hf⟩ => ?_
  have bel := hf.below (Nat.le_refl _) (fun _ _ h => h)
  subst he
  exact ⟨_, rfl, _, _, _, [], _, [], hW', trodAll_mk1 (shut_bool Tryd.underlying4 _), trodAll_cons_mk (Below.trod laidOutR (by kernel_rfl) (of_decide_eq_true (by kernel_rfl)) h0 bel lt0) trodAll_mk0, rfl, bel.frame _, fun h => by cases h⟩
theorem proposerNone_row : Rows.ProposerNoneSaid :=
  OpenClaim.holds_of_wide 3 Tryd.f3 rfl rfl rfl rfl rfl rfl rfl ⟨rfl, rfl, rfl, rfl, rfl⟩ rfl rfl rfl rfl rfl (by kernel_rfl) Tryd.func3 (by kernel_rfl)
    (of_decide_eq_true (by kernel_rfl)) (by unfold Func.isWrapper; first | (rw [if_pos (by decide +kernel)]; kernel_rfl) | (rw [if_neg (by decide +kernel)]; exact ⟨rfl, rfl⟩))
    (fun os started H enc _ => proposerNone_lifted os started H enc)

theorem proposerNone_holds : Rows.ProposerNoneCardSaid :=
  Claim7.holds_tied_plain_at .later [] [.data] true (true, "8976e2a5142e816dc0226f697e84c848acd65e5d30ac2d73fef3390319d09f33") false
    proposerNone_row (fun _ h => by cases h) (by kernel_rfl) (fun _ h => by cases h) proposerNone_row_tie rfl ⟨rfl, rfl⟩ (by kernel_rfl) rfl
    (fun f fn hf hfn => by
      obtain rfl : f = 3 := Option.some.inj ((show Tryd.prog.funcNamed "orchard/orchardlaw08.ProposerNone" = some 3 by kernel_rfl).symm.trans hf) |>.symm
      obtain rfl : fn = Tryd.f3 := (Option.some.inj (Tryd.func3.symm.trans hfn)).symm
      exact ⟨by kernel_rfl, fun j t ht => by
        rw [Tryd.params3] at ht
        have hm : t ∈ [39] := by simpa using Array.mem_of_getElem? ht
        have hall : ([39].all fun u => !Tryd.prog.wantsStandIn u) = true := by kernel_rfl
        exact (show Tryd.prog.wantsStandIn t = false by simpa using List.all_eq_true.1 hall t hm)⟩)
    (by kernel_rfl)

end Go.Proofs.YtcmpkbgkhbcekaaDoor

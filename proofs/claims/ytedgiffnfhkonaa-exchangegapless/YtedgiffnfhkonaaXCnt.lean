/-
  counting.
-/
import Derived.Test.YtedgiffnfhkonaaXEnd
import Derived.Deep.QuietTactic
namespace Go.Proofs.Ytedgiffnfhkonaa
open Go.RowKit
set_option linter.unusedVariables false
set_option linter.unusedSimpArgs false
set_option maxRecDepth 100000
theorem X.may_iff {g : Nat → Int} {o : Nat} {q : Int} (ho : o < 8) : X.may g (o : Int) q = true ↔ (o : Int) ≠ g 0 ∧ g (4 + o) ≠ 0 ∧ 0 ≤ q ∧ q ≤ g (29 + o) := by
  simp [X.may, X.site, ho]
  omega
/-- a state boxed, and what of it is read -/
theorem X.boxed (w : World) (g : Nat → Int) (b : Bool) (v : Nat → Value) (j : Nat) (h : j < 154) (h2 : j ≠ 2) (h3 : X.sl j = false) : (w.alloc (.cells (X.cs g b v) 34)).cell? ⟨w.heap.size, j, none⟩ = some (.int .i64 (g j)) :=
  X.Sc.of (Go.heap_alloc_new w (.cells (X.cs g b v) 34)) j h h2 h3
theorem X.sl_no {j : Nat} (h : j < 45 ∨ j = 47 ∨ (48 ≤ j ∧ j < 56) ∨ (64 ≤ j ∧ j < 152)) : X.sl j = false := by
  unfold X.sl
  simp
  omega
set_option maxHeartbeats 3200000 in
theorem counting_no {I : Nat → Prop} (w : World) (g : Nat → Int) (b : Bool) (v : Nat → Value) (o q : Int) (a : Option Addr) (n c : Nat) (hm : X.may g o q = false) :
    Calls Try.prog 11 #[.agg (X.cs g b v), .int .i64 o, .int .i64 q, .slice a n c] w fun e w' => e = .returned (.slice none 0 0) ∧ Fr (fun _ => False) w w' := by
  have F0 := hid (show Fr (fun _ => False) w (w.alloc (.cells (X.cs g b v) 34)) from Fr.alloc (Fr.refl _ _) _)
  have BX := hid (X.boxed w g b v)
  generalize X.cs g b v = CX at F0 BX ⊢
  cases hs : X.site o with
  | false =>
    have KS := hid (fun W => xissite_any W o)
    rw [hs] at KS
    go_enter Try.func11, Try.ntmps11
    go_wp2_with (first
      | (go_at_call 14; refine (KS.out _).mono ?_; rintro e w1 ⟨rfl, rfl⟩))
    go_ret
    exact ⟨rfl, F0.out⟩
  | true =>
    have KS := hid (fun W => xissite_any W o)
    rw [hs] at KS
    obtain ⟨k, rfl⟩ : ∃ k : Nat, o = (k : Int) := ⟨o.toNat, by have := X.site_iff.1 hs; omega⟩
    have hk : k < 8 := by have := X.site_iff.1 hs; omega
    have hnot : ¬ ((k : Int) ≠ g 0 ∧ g (4 + k) ≠ 0 ∧ 0 ≤ q ∧ q ≤ g (29 + k)) := fun h => by rw [(X.may_iff hk).2 h] at hm; cases hm
    clear hm hs
    have c0 := BX.out 0 (by omega) (by omega) (X.sl_no (by omega))
    have c4 := BX.out (4 + k) (by omega) (by omega) (X.sl_no (by omega))
    have c29 := BX.out (29 + k) (by omega) (by omega) (X.sl_no (by omega))
    generalize g 0 = g0 at c0 hnot
    generalize g (4 + k) = g4 at c4 hnot
    generalize g (29 + k) = g29 at c29 hnot
    have i0 : (0 : Int) ≤ (k : Int) := by omega
    have i1 : (k : Int) < 8 := by omega
    by_cases h1 : (k : Int) = g0
    · obtain rfl : g0 = (k : Int) := h1.symm
      go_enter Try.func11, Try.ntmps11
      go_wp2_with (first
        | (go_at_call 14; refine (KS.out _).mono ?_; rintro e w1 ⟨rfl, rfl⟩))
      go_ret
      exact ⟨rfl, F0.out⟩
    · have h1' : ((k : Int) == g0) = false := by simp [h1]
      by_cases h2 : g4 = 0
      · have h2' : (g4 == 0) = true := by simp [h2]
        subst h2
        go_enter Try.func11, Try.ntmps11
        go_wp2_with (first
          | (go_at_call 14; refine (KS.out _).mono ?_; rintro e w1 ⟨rfl, rfl⟩))
        go_ret
        exact ⟨rfl, F0.out⟩
      · have h2' : (g4 == 0) = false := by simp [h2]
        by_cases h3 : q < 0
        · go_enter Try.func11, Try.ntmps11
          go_wp2_with (first
            | (go_at_call 14; refine (KS.out _).mono ?_; rintro e w1 ⟨rfl, rfl⟩))
          go_ret
          exact ⟨rfl, F0.out⟩
        · have h4 : g29 < q := by omega
          go_enter Try.func11, Try.ntmps11
          go_wp2_with (first
            | (go_at_call 14; refine (KS.out _).mono ?_; rintro e w1 ⟨rfl, rfl⟩))
          go_ret
          exact ⟨rfl, F0.out⟩
def X.in64 (g : Nat → Int) : Prop := ∀ j, -9223372036854775808 ≤ g j ∧ g j ≤ 9223372036854775807
theorem X.leaf {I : Nat → Prop} {w w' : World} {R l1 : List S.Op} {a1 : Option Addr} {n1 c1 j : Nat} (hst : R = l1.take j) (hn : l1.length = n1) (hj : j ≤ n1) (hc : n1 ≤ c1) (ho : X.Ops I w' a1 l1) (hf : Fr (fun _ => False) w w') : ∃ a' c', Ending.returned (.slice a1 j c1) = Ending.returned (.slice a' R.length c') ∧ X.Ops I w' a' R ∧ R.length ≤ c' ∧ Fr (fun _ => False) w w' := by
  have h1 : R.length = j := by rw [hst, List.length_take]; omega
  refine ⟨a1, c1, by rw [h1], ?_, by omega, hf⟩
  rw [hst]
  exact ho.take j
theorem X.mea {w : Int} {n j : Nat} (h : w = ((j + 1 : Nat) : Int)) (hj : j < n) : n - (intOf (.int .i64 w)).toNat < n - (intOf (.int .i64 (j : Int))).toNat := by
  subst h; simp [intOf]; omega
set_option maxHeartbeats 6400000 in
theorem counting_ok {I : Nat → Prop} (w : World) (g : Nat → Int) (b : Bool) (v : Nat → Value) (hg : X.in64 g) (k : Nat) (hk : k < 8) (q : Int) (l : List S.Op) (a : Option Addr) (c : Nat) (hl : X.Ops I w a l) (hi : ∀ x ∈ l, x.in64) (hlc : l.length ≤ c) (hln : l.length ≤ 1599289640401) (hm : X.may g (k : Int) q = true) :
    Calls Try.prog 11 #[.agg (X.cs g b v), .int .i64 k, .int .i64 q, .slice a l.length c] w fun e w' => ∃ a' c', e = .returned (.slice a' (X.cnt g k q l).length c') ∧ X.Ops I w' a' (X.cnt g k q l) ∧ (X.cnt g k q l).length ≤ c' ∧ Fr (fun _ => False) w w' := by
  obtain ⟨h0, h4, hq0, hq1⟩ := (X.may_iff hk).1 hm
  have F0 := hid (show Fr (fun _ => False) w (w.alloc (.cells (X.cs g b v) 34)) from Fr.alloc (Fr.refl _ _) _)
  have SB := hid (X.Sc.of (Go.heap_alloc_new w (.cells (X.cs g b v) 34)))
  have BX := hid (X.boxed w g b v)
  have KS := hid (fun W => xissite_any W (k : Int))
  rw [X.site_iff.2 ⟨by omega, by omega⟩] at KS
  have KE := hid (fun W => xendof_any W g k hk)
  have LE := hid (SB.out.epoch)
  have c0 := BX.out 0 (by omega) (by omega) (X.sl_no (by omega))
  have c4 := BX.out (4 + k) (by omega) (by omega) (X.sl_no (by omega))
  have c29 := BX.out (29 + k) (by omega) (by omega) (X.sl_no (by omega))
  have hcnt : X.cnt g k q l = X.run (X.endOf g k) k (g (29 + k)) (max (g (37 + k)) (g 47)) (l.drop (X.skip g k q l.length)) := by unfold X.cnt; rw [if_pos hm]; rfl
  rw [hcnt]
  obtain ⟨m, hmm⟩ : ∃ m, X.skip g k q l.length = m := ⟨_, rfl⟩
  have hmin : min (g (29 + k) - q) (l.length : Int) = (m : Int) := by
    rw [← hmm]; unfold X.skip; rw [Int.toNat_natCast]; omega
  have hml : m ≤ l.length := by omega
  rw [hmm]
  have SL := hid (fun W (x : Int) (hx : x = (m : Int)) => X.run_lo W a l.length c m hml x hx)
  have OP := hid (hl.drop hlc m hml)
  have HI := hid (show ∀ x ∈ l.drop m, x.in64 from fun x hx => hi x (List.mem_of_mem_drop hx))
  have hn1 : (l.drop m).length = l.length - m := List.length_drop
  have HC := hid (show (l.drop m).length ≤ c - m by omega)
  have G29 := hid (hg (29 + k))
  rw [← hn1] at SL
  generalize hll : l.drop m = l1 at SL OP HI HC hn1 ⊢
  generalize X.cut a c m = a1 at SL OP
  generalize c - m = c1 at SL HC
  have hsub : IntKind.i64.wrap (g (29 + k) - q) = g (29 + k) - q := by rw [IntKind.wrap_i64]; have := hg (29 + k); omega
  have HMIN := hid hmin
  have hEle := hid (X.endOf_le g k)
  have HT := hid (show l1.length ≤ 1599289640401 by omega)
  generalize X.endOf g k = E at KE hEle ⊢
  have c37 := hid (fun (W : World) (hf : Fr (fun _ => False) (w.alloc (.cells (X.cs g b v) 34)) W) => SB.out.kept hf (fun h => h) (37 + k) (by omega) (by omega) (X.sl_no (by omega)))
  have c47 := hid (fun (W : World) (hf : Fr (fun _ => False) (w.alloc (.cells (X.cs g b v) 34)) W) => SB.out.kept hf (fun h => h) 47 (by omega) (by omega) (X.sl_no (by omega)))
  clear BX SB hcnt hmm hm hl hi hll hlc hln hml hmin
  have LEN := hid hn1
  clear hn1
  obtain ⟨n1, hn1⟩ : ∃ n1, l1.length = n1 := ⟨_, rfl⟩
  have HN := hid hn1
  rw [hn1] at SL HC HT LEN
  clear hn1
  generalize X.ep g = EP at LE KE
  generalize X.cs g b v = CX at F0 c0 c4 c29 LE c37 c47 ⊢
  generalize g 0 = g0 at c0 h0
  generalize g (4 + k) = g4 at c4 h4
  generalize g (29 + k) = nx at c29 hq1 hsub HMIN G29 ⊢
  generalize g (37 + k) = g37 at c37 ⊢
  generalize g 47 = g47 at c47 ⊢
  generalize hva : Value.agg EP = va at LE KE
  clear hva
  have h0' : ((k : Int) == g0) = false := by simp [h0]
  have h4' : (g4 == 0) = false := by simp [h4]
  have i0 : (0 : Int) ≤ (k : Int) := by omega
  have i1 : (k : Int) < 8 := by omega
  have hq0' : ¬ q < 0 := by omega
  have hq1' : ¬ nx < q := by omega
  generalize l.length = n at HMIN LEN SL ⊢
  obtain ⟨la, hla, hor⟩ : ∃ la, max g37 g47 = la ∧ ((g37 < g47 ∧ la = g47) ∨ (¬ g37 < g47 ∧ la = g37)) := by
    by_cases h : g37 < g47
    · exact ⟨g47, by omega, .inl ⟨h, rfl⟩⟩
    · exact ⟨g37, by omega, .inr ⟨h, rfl⟩⟩
  rw [hla]
  have HOR := hid hor
  clear hor hla
  go_enter Try.func11, Try.ntmps11
  go_upto_region 6 with (first
    | (go_at_call 14; refine (KS.out _).mono ?_; rintro e w1 ⟨rfl, rfl⟩))
  have HNX := hid (show 0 ≤ nx by omega)
  clear hq0 hq1 hq0' hq1'
  repeat (first
    | (refine wpList_min_v _ rfl _ _ _ rfl _ _ _ rfl rfl HMIN.out ?_)
    | (refine wpList_slice_v (SL.out _ _ rfl) (by exact ⟨_, _, _, _, rfl, rfl, rfl, rfl, rfl⟩) (by kernel_rfl) ?_)
    | (refine wpList_load_v LE.out (by exact ⟨_, rfl, rfl⟩) (by kernel_rfl) ?_)
    | (go_at_call 15; refine (KE.out _).mono ?_; rintro e w2 ⟨rfl, hf⟩; have F2 := hid (F0.out.trans hf (fun _ _ h => h)); have d37 := c37.out _ hf; have d47 := c47.out _ hf; clear hf; dsimp only)
    | go_values | go_skip | go_guarded | go_step | go_upon | go_back)
  clear c37 c47 LE KE KS c0 c4 c29 hsub h0' h4' h0 h4
  rcases HOR.out with ⟨h, e⟩ | ⟨h, e⟩
  all_goals
    subst e
    go_quiet (fail)
    go_wp2
    clear d37 d47 h
    go_loopw [11, 63] (fun last idx wr => ∃ (j : Nat) (lk : Int), idx = .int .i64 j ∧ last = .int .i64 lk ∧ j ≤ n1 ∧ Hid (X.At E k nx la l1 j lk ∧ Fr (fun _ => False) w wr)) (fun _ idx _ => n1 - (intOf idx).toNat)
    case atStart => exact ⟨0, la, rfl, rfl, Nat.zero_le _, hid ⟨X.At.zero _ _ _ _ _, F2.out.trans (Fr.drewN _ _) (fun _ _ h => h)⟩⟩
    case round =>
      obtain ⟨j, lk, rfl, rfl, hj, HR⟩ := hrel
      by_cases hlt : j < n1
      · have i0 : (0 : Int) ≤ (j : Int) := by omega
        have i1 : (j : Int) < (n1 : Int) := by omega
        obtain ⟨x, hx⟩ : ∃ x, l1[j]? = some x := ⟨_, List.getElem?_eq_getElem (by rw [HN.out]; exact hlt)⟩
        obtain ⟨xt, xs, xk, xn, xp, xa, xb, xc⟩ := x
        have HX := hid hx
        have KC := hid (fun W => scheckop_any ⟨xt, xs, xk, xn, xp, xa, xb, xc⟩ (HI.out _ (List.mem_of_getElem? hx)) W)
        obtain ⟨gb, go, rfl, hgI, hc⟩ := X.Ops.cell (OP.out.fr HR.out.2) hx
        have L1 := hid (X.load hc)
        have FV := hid (show Fr (fun _ => False) wr (wr.alloc (.cells (S.Op.cs ⟨xt, xs, xk, xn, xp, xa, xb, xc⟩) 43)) from Fr.alloc (Fr.refl _ _) _)
        have D0 := hid (fun (V : World) (hf : Fr (fun _ => False) (wr.alloc (.cells (S.Op.cs ⟨xt, xs, xk, xn, xp, xa, xb, xc⟩) 43)) V) => cellFr hf (fun h => h) (cell_at (j := 0) (Go.heap_alloc_new wr (.cells (S.Op.cs ⟨xt, xs, xk, xn, xp, xa, xb, xc⟩) 43)) rfl))
        have D1 := hid (fun (V : World) (hf : Fr (fun _ => False) (wr.alloc (.cells (S.Op.cs ⟨xt, xs, xk, xn, xp, xa, xb, xc⟩) 43)) V) => cellFr hf (fun h => h) (cell_at (j := 1) (Go.heap_alloc_new wr (.cells (S.Op.cs ⟨xt, xs, xk, xn, xp, xa, xb, xc⟩) 43)) rfl))
        have hw : IntKind.i64.wrap (nx + (j : Int)) = nx + (j : Int) := by
          rw [IntKind.wrap_i64]
          have h1 := HR.out.1.few
          have h2 := G29.out
          have h3 := hEle.out
          have h4 := HNX.out
          omega
        have ic : (j : Int) ≤ (c1 : Int) := by have := HC.out; omega
        obtain ⟨cx, hcx⟩ : ∃ cx, S.chk ⟨xt, xs, xk, xn, xp, xa, xb, xc⟩ = cx := ⟨_, rfl⟩
        rw [hcx] at KC
        have HCX := hid hcx
        clear hx hcx hc
        by_cases q1 : E ≤ nx + (j : Int)
        · have hst := hid (HR.out.1.stop HX.out (fun h => by have := h.1; omega))
          have F3 := hid (HR.out.2.trans FV.out (fun _ _ h => h))
          go_wp2_with (first
            | (refine wpList_load_v L1.out (by exact ⟨_, rfl, rfl⟩) (by kernel_rfl) ?_)
            | (go_at_call 16; refine (KC.out _).mono ?_; rintro e w3 ⟨rfl, f3⟩; have d0 := D0.out _ f3; have d1 := D1.out _ f3; have F3 := hid (HR.out.2.trans (FV.out.trans f3 (fun _ _ h => h)) (fun _ _ h => h)); clear f3))
          go_ret
          exact X.leaf hst.out HN.out hj HC.out (OP.out.fr F3.out) F3.out
        · have q1' : nx + (j : Int) < E := by omega
          by_cases q2 : cx = 0
          · subst q2
            by_cases q3 : xs = (k : Int)
            · by_cases q4 : lk < xt
              · have HNEXT := hid (HR.out.1.next HX.out ⟨q1', HCX.out, q3, q4⟩)
                have HW1 := hid (show wrap64 ((j : Int) + 1) = ((j + 1 : Nat) : Int) by have hT := HT.out; unfold wrap64; omega)
                subst q3
                go_wp2_with (first
                  | (refine wpList_load_v L1.out (by exact ⟨_, rfl, rfl⟩) (by kernel_rfl) ?_)
                  | (go_at_call 16; refine (KC.out _).mono ?_; rintro e w3 ⟨rfl, f3⟩; have d0 := D0.out _ f3; have d1 := D1.out _ f3; have F3 := hid (HR.out.2.trans (FV.out.trans f3 (fun _ _ h => h)) (fun _ _ h => h)); clear f3))
                go_roundw
                case rel => exact ⟨j + 1, xt, congrArg (Value.int .i64) HW1.out, by first | trivial | rfl, hlt, hid ⟨HNEXT.out, F3.out⟩⟩
                case measure => exact X.mea HW1.out hlt
              · have hst := hid (HR.out.1.stop HX.out (fun h => q4 h.2.2.2))
                have q4' : xt ≤ lk := by omega
                subst q3
                go_wp2_with (first
                  | (refine wpList_load_v L1.out (by exact ⟨_, rfl, rfl⟩) (by kernel_rfl) ?_)
                  | (go_at_call 16; refine (KC.out _).mono ?_; rintro e w3 ⟨rfl, f3⟩; have d0 := D0.out _ f3; have d1 := D1.out _ f3; have F3 := hid (HR.out.2.trans (FV.out.trans f3 (fun _ _ h => h)) (fun _ _ h => h)); clear f3))
                go_ret
                exact X.leaf hst.out HN.out hj HC.out (OP.out.fr F3.out) F3.out
            · have hst := hid (HR.out.1.stop HX.out (fun h => q3 h.2.2.1))
              have q3' : (xs == (k : Int)) = false := by simp [q3]
              go_wp2_with (first
                | (refine wpList_load_v L1.out (by exact ⟨_, rfl, rfl⟩) (by kernel_rfl) ?_)
                | (go_at_call 16; refine (KC.out _).mono ?_; rintro e w3 ⟨rfl, f3⟩; have d0 := D0.out _ f3; have d1 := D1.out _ f3; have F3 := hid (HR.out.2.trans (FV.out.trans f3 (fun _ _ h => h)) (fun _ _ h => h)); clear f3))
              go_ret
              exact X.leaf hst.out HN.out hj HC.out (OP.out.fr F3.out) F3.out
          · have q2' : (cx == 0) = false := by simp [q2]
            have hst := hid (HR.out.1.stop HX.out (fun h => q2 (HCX.out ▸ h.2.1)))
            go_wp2_with (first
              | (refine wpList_load_v L1.out (by exact ⟨_, rfl, rfl⟩) (by kernel_rfl) ?_)
              | (go_at_call 16; refine (KC.out _).mono ?_; rintro e w3 ⟨rfl, f3⟩; have d0 := D0.out _ f3; have d1 := D1.out _ f3; have F3 := hid (HR.out.2.trans (FV.out.trans f3 (fun _ _ h => h)) (fun _ _ h => h)); clear f3))
            go_ret
            exact X.leaf hst.out HN.out hj HC.out (OP.out.fr F3.out) F3.out
      · obtain rfl : j = n1 := by omega
        have hst := hid (show X.run E k nx la l1 = l1.take j from by
          rw [List.take_of_length_le (by rw [HN.out]; exact Nat.le_refl _)]
          exact HR.out.1.done (by rw [HN.out]; exact Nat.le_refl _))
        have F3 := hid HR.out.2
        go_wp2
        go_ret
        exact X.leaf hst.out HN.out hj HC.out (OP.out.fr F3.out) F3.out
end Go.Proofs.Ytedgiffnfhkonaa

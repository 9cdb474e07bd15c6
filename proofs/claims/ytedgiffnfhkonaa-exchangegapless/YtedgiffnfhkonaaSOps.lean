/-
  Operations: where they put a node; the code's and the document's.
-/
import Derived.Test.YtedgiffnfhkonaaSName2
import Derived.Test.YtedgiffnfhkonaaSOpen2
namespace Go.Proofs.Ytedgiffnfhkonaa
open Go.RowKit
set_option linter.unusedVariables false
set_option linter.unusedSimpArgs false

/-- the cells of an operation in its box -/
abbrev S.Ob (V : World) (b : Nat) (o : S.Op) : Prop := V.cell? ⟨b, 0, none⟩ = some (.int .i64 o.t) ∧ V.cell? ⟨b, 1, none⟩ = some (.int .i64 o.s) ∧ V.cell? ⟨b, 2, none⟩ = some (.int .i64 o.k) ∧ V.cell? ⟨b, 3, none⟩ = some (.int .i64 o.n) ∧ V.cell? ⟨b, 4, none⟩ = some (.int .i64 o.p) ∧ V.cell? ⟨b, 5, none⟩ = some (.string o.a) ∧ V.cell? ⟨b, 6, none⟩ = some (.string o.b) ∧ V.cell? ⟨b, 7, none⟩ = some (.string o.c)
theorem S.ob {W V : World} {b : Nat} {o : S.Op} {t : TypeId} {m : Nat × Nat} (h : W.heap[b]? = some (.cells o.cs t m)) (hf : Fr (fun _ => False) W V) : S.Ob V b o := by
  have h := hf.cells h (fun h => h)
  exact ⟨cellA (j := 0) h rfl, cellA (j := 1) h rfl, cellA (j := 2) h rfl, cellA (j := 3) h rfl, cellA (j := 4) h rfl, cellA (j := 5) h rfl, cellA (j := 6) h rfl, cellA (j := 7) h rfl⟩
/-- what is wrong with where it puts its node -/
def S.place (o : S.Op) : Int := if S.made o.p = false ∧ S.top o.p = false then 1 else if 255 < o.a.size then 3 else if S.nam o.a = true ∧ o.b.toList.isEmpty = true ∧ o.c.toList.isEmpty = true then 0 else 1
set_option maxHeartbeats 6400000 in
theorem checkPlace_any (o : S.Op) (hi : o.in64) (w : World) : Calls Try.prog 30 #[.agg o.cs] w fun e w' => e = .returned (.int .i64 (S.place o)) ∧ Fr (fun _ => False) w w' := by
  obtain ⟨W, hW⟩ : ∃ W, w.alloc (.cells o.cs 43) = W := ⟨_, rfl⟩
  have HC := hid (fun (V : World) (hf : Fr (fun _ => False) W V) => show S.Ob V w.heap.size o from S.ob (hW ▸ Go.heap_alloc_new w (.cells o.cs 43)) hf)
  have F0 := hid (show Fr (fun _ => False) w W from hW ▸ Fr.alloc (Fr.refl _ _) _)
  have F1 := hid (Fr.refl (fun _ => False) W)
  have HW := hid hW
  clear hW
  obtain ⟨c0, c1, c2, c3, c4, c5, c6, c7⟩ := HC.out W (Fr.refl _ _)
  have KM := hid (isMades_any o.p hi.2.1 hi.2.2)
  have KT := hid (isGiven_any o.p)
  have KL := hid (isLong_any o.a)
  have KN := hid (isName_any o.a)
  clear hi
  cases hm : S.made o.p with
  | false =>
    rw [hm] at KM
    cases hg : S.top o.p with
    | false =>
      rw [hg] at KT
      go_enter Try.func30, Try.ntmps30
      go_wp2_with fail
      rw [HW.out]
      refine (KM.out _).mono ?_
      rintro e w1 ⟨rfl, hf⟩
      have F1 := hid (F1.out.trans hf (fun _ _ h => h))
      clear c0 c1 c2 c3 c4 c5 c6 c7
      obtain ⟨c0, c1, c2, c3, c4, c5, c6, c7⟩ := HC.out _ F1.out
      clear hf
      go_wp2_with (first
        | (go_at_call 31; refine (KM.out _).mono ?_; rintro e w2 ⟨rfl, hf⟩; have F1 := hid (F1.out.trans hf (fun _ _ h => h)); clear c0 c1 c2 c3 c4 c5 c6 c7; obtain ⟨c0, c1, c2, c3, c4, c5, c6, c7⟩ := HC.out _ F1.out; clear hf)
        | (go_at_call 32; refine (KT.out _).mono ?_; rintro e w2 ⟨rfl, rfl⟩)
        | (go_at_call 33; refine (KL.out _).mono ?_; rintro e w2 ⟨rfl, rfl⟩)
        | (go_at_call 34; refine (KN.out _).mono ?_; rintro e w2 ⟨rfl, rfl⟩))
      go_ret
      exact ⟨ret_int (by simp [S.place, hm, hg]), F0.out.trans F1.out (fun _ _ h => h)⟩
    | true =>
      rw [hg] at KT
      by_cases hl : 255 < o.a.size
      · rw [decide_eq_true hl] at KL
        go_enter Try.func30, Try.ntmps30
        go_wp2_with fail
        rw [HW.out]
        refine (KM.out _).mono ?_
        rintro e w1 ⟨rfl, hf⟩
        have F1 := hid (F1.out.trans hf (fun _ _ h => h))
        clear c0 c1 c2 c3 c4 c5 c6 c7
        obtain ⟨c0, c1, c2, c3, c4, c5, c6, c7⟩ := HC.out _ F1.out
        clear hf
        go_wp2_with (first
          | (go_at_call 31; refine (KM.out _).mono ?_; rintro e w2 ⟨rfl, hf⟩; have F1 := hid (F1.out.trans hf (fun _ _ h => h)); clear c0 c1 c2 c3 c4 c5 c6 c7; obtain ⟨c0, c1, c2, c3, c4, c5, c6, c7⟩ := HC.out _ F1.out; clear hf)
          | (go_at_call 32; refine (KT.out _).mono ?_; rintro e w2 ⟨rfl, rfl⟩)
          | (go_at_call 33; refine (KL.out _).mono ?_; rintro e w2 ⟨rfl, rfl⟩)
          | (go_at_call 34; refine (KN.out _).mono ?_; rintro e w2 ⟨rfl, rfl⟩))
        go_ret
        exact ⟨ret_int (by simp [S.place, hm, hg, hl]), F0.out.trans F1.out (fun _ _ h => h)⟩
      · cases hn : S.nam o.a with
        | false =>
          rw [decide_eq_false hl] at KL
          rw [hn] at KN
          go_enter Try.func30, Try.ntmps30
          go_wp2_with fail
          rw [HW.out]
          refine (KM.out _).mono ?_
          rintro e w1 ⟨rfl, hf⟩
          have F1 := hid (F1.out.trans hf (fun _ _ h => h))
          clear c0 c1 c2 c3 c4 c5 c6 c7
          obtain ⟨c0, c1, c2, c3, c4, c5, c6, c7⟩ := HC.out _ F1.out
          clear hf
          go_wp2_with (first
            | (go_at_call 31; refine (KM.out _).mono ?_; rintro e w2 ⟨rfl, hf⟩; have F1 := hid (F1.out.trans hf (fun _ _ h => h)); clear c0 c1 c2 c3 c4 c5 c6 c7; obtain ⟨c0, c1, c2, c3, c4, c5, c6, c7⟩ := HC.out _ F1.out; clear hf)
            | (go_at_call 32; refine (KT.out _).mono ?_; rintro e w2 ⟨rfl, rfl⟩)
            | (go_at_call 33; refine (KL.out _).mono ?_; rintro e w2 ⟨rfl, rfl⟩)
            | (go_at_call 34; refine (KN.out _).mono ?_; rintro e w2 ⟨rfl, rfl⟩))
          go_ret
          exact ⟨ret_int (by simp [S.place, hm, hg, hl, hn]), F0.out.trans F1.out (fun _ _ h => h)⟩
        | true =>
          rw [decide_eq_false hl] at KL
          rw [hn] at KN
          cases hb : o.b.toList.isEmpty with
          | false =>
            go_enter Try.func30, Try.ntmps30
            go_wp2_with fail
            rw [HW.out]
            refine (KM.out _).mono ?_
            rintro e w1 ⟨rfl, hf⟩
            have F1 := hid (F1.out.trans hf (fun _ _ h => h))
            clear c0 c1 c2 c3 c4 c5 c6 c7
            obtain ⟨c0, c1, c2, c3, c4, c5, c6, c7⟩ := HC.out _ F1.out
            clear hf
            go_wp2_with (first
              | (go_at_call 31; refine (KM.out _).mono ?_; rintro e w2 ⟨rfl, hf⟩; have F1 := hid (F1.out.trans hf (fun _ _ h => h)); clear c0 c1 c2 c3 c4 c5 c6 c7; obtain ⟨c0, c1, c2, c3, c4, c5, c6, c7⟩ := HC.out _ F1.out; clear hf)
              | (go_at_call 32; refine (KT.out _).mono ?_; rintro e w2 ⟨rfl, rfl⟩)
              | (go_at_call 33; refine (KL.out _).mono ?_; rintro e w2 ⟨rfl, rfl⟩)
              | (go_at_call 34; refine (KN.out _).mono ?_; rintro e w2 ⟨rfl, rfl⟩))
            go_ret
            exact ⟨ret_int (by simp [S.place, hm, hg, hl, hn, hb]), F0.out.trans F1.out (fun _ _ h => h)⟩
          | true =>
            cases hc : o.c.toList.isEmpty with
            | false =>
              go_enter Try.func30, Try.ntmps30
              go_wp2_with fail
              rw [HW.out]
              refine (KM.out _).mono ?_
              rintro e w1 ⟨rfl, hf⟩
              have F1 := hid (F1.out.trans hf (fun _ _ h => h))
              clear c0 c1 c2 c3 c4 c5 c6 c7
              obtain ⟨c0, c1, c2, c3, c4, c5, c6, c7⟩ := HC.out _ F1.out
              clear hf
              go_wp2_with (first
                | (go_at_call 31; refine (KM.out _).mono ?_; rintro e w2 ⟨rfl, hf⟩; have F1 := hid (F1.out.trans hf (fun _ _ h => h)); clear c0 c1 c2 c3 c4 c5 c6 c7; obtain ⟨c0, c1, c2, c3, c4, c5, c6, c7⟩ := HC.out _ F1.out; clear hf)
                | (go_at_call 32; refine (KT.out _).mono ?_; rintro e w2 ⟨rfl, rfl⟩)
                | (go_at_call 33; refine (KL.out _).mono ?_; rintro e w2 ⟨rfl, rfl⟩)
                | (go_at_call 34; refine (KN.out _).mono ?_; rintro e w2 ⟨rfl, rfl⟩))
              go_ret
              exact ⟨ret_int (by simp [S.place, hm, hg, hl, hn, hb, hc]), F0.out.trans F1.out (fun _ _ h => h)⟩
            | true =>
              go_enter Try.func30, Try.ntmps30
              go_wp2_with fail
              rw [HW.out]
              refine (KM.out _).mono ?_
              rintro e w1 ⟨rfl, hf⟩
              have F1 := hid (F1.out.trans hf (fun _ _ h => h))
              clear c0 c1 c2 c3 c4 c5 c6 c7
              obtain ⟨c0, c1, c2, c3, c4, c5, c6, c7⟩ := HC.out _ F1.out
              clear hf
              go_wp2_with (first
                | (go_at_call 31; refine (KM.out _).mono ?_; rintro e w2 ⟨rfl, hf⟩; have F1 := hid (F1.out.trans hf (fun _ _ h => h)); clear c0 c1 c2 c3 c4 c5 c6 c7; obtain ⟨c0, c1, c2, c3, c4, c5, c6, c7⟩ := HC.out _ F1.out; clear hf)
                | (go_at_call 32; refine (KT.out _).mono ?_; rintro e w2 ⟨rfl, rfl⟩)
                | (go_at_call 33; refine (KL.out _).mono ?_; rintro e w2 ⟨rfl, rfl⟩)
                | (go_at_call 34; refine (KN.out _).mono ?_; rintro e w2 ⟨rfl, rfl⟩))
              go_ret
              exact ⟨ret_int (by simp [S.place, hm, hg, hl, hn, hb, hc]), F0.out.trans F1.out (fun _ _ h => h)⟩
  | true =>
    rw [hm] at KM
    cases hg : S.top o.p with
    | false =>
      rw [hg] at KT
      by_cases hl : 255 < o.a.size
      · rw [decide_eq_true hl] at KL
        go_enter Try.func30, Try.ntmps30
        go_wp2_with fail
        rw [HW.out]
        refine (KM.out _).mono ?_
        rintro e w1 ⟨rfl, hf⟩
        have F1 := hid (F1.out.trans hf (fun _ _ h => h))
        clear c0 c1 c2 c3 c4 c5 c6 c7
        obtain ⟨c0, c1, c2, c3, c4, c5, c6, c7⟩ := HC.out _ F1.out
        clear hf
        go_wp2_with (first
          | (go_at_call 31; refine (KM.out _).mono ?_; rintro e w2 ⟨rfl, hf⟩; have F1 := hid (F1.out.trans hf (fun _ _ h => h)); clear c0 c1 c2 c3 c4 c5 c6 c7; obtain ⟨c0, c1, c2, c3, c4, c5, c6, c7⟩ := HC.out _ F1.out; clear hf)
          | (go_at_call 32; refine (KT.out _).mono ?_; rintro e w2 ⟨rfl, rfl⟩)
          | (go_at_call 33; refine (KL.out _).mono ?_; rintro e w2 ⟨rfl, rfl⟩)
          | (go_at_call 34; refine (KN.out _).mono ?_; rintro e w2 ⟨rfl, rfl⟩))
        go_ret
        exact ⟨ret_int (by simp [S.place, hm, hg, hl]), F0.out.trans F1.out (fun _ _ h => h)⟩
      · cases hn : S.nam o.a with
        | false =>
          rw [decide_eq_false hl] at KL
          rw [hn] at KN
          go_enter Try.func30, Try.ntmps30
          go_wp2_with fail
          rw [HW.out]
          refine (KM.out _).mono ?_
          rintro e w1 ⟨rfl, hf⟩
          have F1 := hid (F1.out.trans hf (fun _ _ h => h))
          clear c0 c1 c2 c3 c4 c5 c6 c7
          obtain ⟨c0, c1, c2, c3, c4, c5, c6, c7⟩ := HC.out _ F1.out
          clear hf
          go_wp2_with (first
            | (go_at_call 31; refine (KM.out _).mono ?_; rintro e w2 ⟨rfl, hf⟩; have F1 := hid (F1.out.trans hf (fun _ _ h => h)); clear c0 c1 c2 c3 c4 c5 c6 c7; obtain ⟨c0, c1, c2, c3, c4, c5, c6, c7⟩ := HC.out _ F1.out; clear hf)
            | (go_at_call 32; refine (KT.out _).mono ?_; rintro e w2 ⟨rfl, rfl⟩)
            | (go_at_call 33; refine (KL.out _).mono ?_; rintro e w2 ⟨rfl, rfl⟩)
            | (go_at_call 34; refine (KN.out _).mono ?_; rintro e w2 ⟨rfl, rfl⟩))
          go_ret
          exact ⟨ret_int (by simp [S.place, hm, hg, hl, hn]), F0.out.trans F1.out (fun _ _ h => h)⟩
        | true =>
          rw [decide_eq_false hl] at KL
          rw [hn] at KN
          cases hb : o.b.toList.isEmpty with
          | false =>
            go_enter Try.func30, Try.ntmps30
            go_wp2_with fail
            rw [HW.out]
            refine (KM.out _).mono ?_
            rintro e w1 ⟨rfl, hf⟩
            have F1 := hid (F1.out.trans hf (fun _ _ h => h))
            clear c0 c1 c2 c3 c4 c5 c6 c7
            obtain ⟨c0, c1, c2, c3, c4, c5, c6, c7⟩ := HC.out _ F1.out
            clear hf
            go_wp2_with (first
              | (go_at_call 31; refine (KM.out _).mono ?_; rintro e w2 ⟨rfl, hf⟩; have F1 := hid (F1.out.trans hf (fun _ _ h => h)); clear c0 c1 c2 c3 c4 c5 c6 c7; obtain ⟨c0, c1, c2, c3, c4, c5, c6, c7⟩ := HC.out _ F1.out; clear hf)
              | (go_at_call 32; refine (KT.out _).mono ?_; rintro e w2 ⟨rfl, rfl⟩)
              | (go_at_call 33; refine (KL.out _).mono ?_; rintro e w2 ⟨rfl, rfl⟩)
              | (go_at_call 34; refine (KN.out _).mono ?_; rintro e w2 ⟨rfl, rfl⟩))
            go_ret
            exact ⟨ret_int (by simp [S.place, hm, hg, hl, hn, hb]), F0.out.trans F1.out (fun _ _ h => h)⟩
          | true =>
            cases hc : o.c.toList.isEmpty with
            | false =>
              go_enter Try.func30, Try.ntmps30
              go_wp2_with fail
              rw [HW.out]
              refine (KM.out _).mono ?_
              rintro e w1 ⟨rfl, hf⟩
              have F1 := hid (F1.out.trans hf (fun _ _ h => h))
              clear c0 c1 c2 c3 c4 c5 c6 c7
              obtain ⟨c0, c1, c2, c3, c4, c5, c6, c7⟩ := HC.out _ F1.out
              clear hf
              go_wp2_with (first
                | (go_at_call 31; refine (KM.out _).mono ?_; rintro e w2 ⟨rfl, hf⟩; have F1 := hid (F1.out.trans hf (fun _ _ h => h)); clear c0 c1 c2 c3 c4 c5 c6 c7; obtain ⟨c0, c1, c2, c3, c4, c5, c6, c7⟩ := HC.out _ F1.out; clear hf)
                | (go_at_call 32; refine (KT.out _).mono ?_; rintro e w2 ⟨rfl, rfl⟩)
                | (go_at_call 33; refine (KL.out _).mono ?_; rintro e w2 ⟨rfl, rfl⟩)
                | (go_at_call 34; refine (KN.out _).mono ?_; rintro e w2 ⟨rfl, rfl⟩))
              go_ret
              exact ⟨ret_int (by simp [S.place, hm, hg, hl, hn, hb, hc]), F0.out.trans F1.out (fun _ _ h => h)⟩
            | true =>
              go_enter Try.func30, Try.ntmps30
              go_wp2_with fail
              rw [HW.out]
              refine (KM.out _).mono ?_
              rintro e w1 ⟨rfl, hf⟩
              have F1 := hid (F1.out.trans hf (fun _ _ h => h))
              clear c0 c1 c2 c3 c4 c5 c6 c7
              obtain ⟨c0, c1, c2, c3, c4, c5, c6, c7⟩ := HC.out _ F1.out
              clear hf
              go_wp2_with (first
                | (go_at_call 31; refine (KM.out _).mono ?_; rintro e w2 ⟨rfl, hf⟩; have F1 := hid (F1.out.trans hf (fun _ _ h => h)); clear c0 c1 c2 c3 c4 c5 c6 c7; obtain ⟨c0, c1, c2, c3, c4, c5, c6, c7⟩ := HC.out _ F1.out; clear hf)
                | (go_at_call 32; refine (KT.out _).mono ?_; rintro e w2 ⟨rfl, rfl⟩)
                | (go_at_call 33; refine (KL.out _).mono ?_; rintro e w2 ⟨rfl, rfl⟩)
                | (go_at_call 34; refine (KN.out _).mono ?_; rintro e w2 ⟨rfl, rfl⟩))
              go_ret
              exact ⟨ret_int (by simp [S.place, hm, hg, hl, hn, hb, hc]), F0.out.trans F1.out (fun _ _ h => h)⟩
    | true =>
      rw [hg] at KT
      by_cases hl : 255 < o.a.size
      · rw [decide_eq_true hl] at KL
        go_enter Try.func30, Try.ntmps30
        go_wp2_with fail
        rw [HW.out]
        refine (KM.out _).mono ?_
        rintro e w1 ⟨rfl, hf⟩
        have F1 := hid (F1.out.trans hf (fun _ _ h => h))
        clear c0 c1 c2 c3 c4 c5 c6 c7
        obtain ⟨c0, c1, c2, c3, c4, c5, c6, c7⟩ := HC.out _ F1.out
        clear hf
        go_wp2_with (first
          | (go_at_call 31; refine (KM.out _).mono ?_; rintro e w2 ⟨rfl, hf⟩; have F1 := hid (F1.out.trans hf (fun _ _ h => h)); clear c0 c1 c2 c3 c4 c5 c6 c7; obtain ⟨c0, c1, c2, c3, c4, c5, c6, c7⟩ := HC.out _ F1.out; clear hf)
          | (go_at_call 32; refine (KT.out _).mono ?_; rintro e w2 ⟨rfl, rfl⟩)
          | (go_at_call 33; refine (KL.out _).mono ?_; rintro e w2 ⟨rfl, rfl⟩)
          | (go_at_call 34; refine (KN.out _).mono ?_; rintro e w2 ⟨rfl, rfl⟩))
        go_ret
        exact ⟨ret_int (by simp [S.place, hm, hg, hl]), F0.out.trans F1.out (fun _ _ h => h)⟩
      · cases hn : S.nam o.a with
        | false =>
          rw [decide_eq_false hl] at KL
          rw [hn] at KN
          go_enter Try.func30, Try.ntmps30
          go_wp2_with fail
          rw [HW.out]
          refine (KM.out _).mono ?_
          rintro e w1 ⟨rfl, hf⟩
          have F1 := hid (F1.out.trans hf (fun _ _ h => h))
          clear c0 c1 c2 c3 c4 c5 c6 c7
          obtain ⟨c0, c1, c2, c3, c4, c5, c6, c7⟩ := HC.out _ F1.out
          clear hf
          go_wp2_with (first
            | (go_at_call 31; refine (KM.out _).mono ?_; rintro e w2 ⟨rfl, hf⟩; have F1 := hid (F1.out.trans hf (fun _ _ h => h)); clear c0 c1 c2 c3 c4 c5 c6 c7; obtain ⟨c0, c1, c2, c3, c4, c5, c6, c7⟩ := HC.out _ F1.out; clear hf)
            | (go_at_call 32; refine (KT.out _).mono ?_; rintro e w2 ⟨rfl, rfl⟩)
            | (go_at_call 33; refine (KL.out _).mono ?_; rintro e w2 ⟨rfl, rfl⟩)
            | (go_at_call 34; refine (KN.out _).mono ?_; rintro e w2 ⟨rfl, rfl⟩))
          go_ret
          exact ⟨ret_int (by simp [S.place, hm, hg, hl, hn]), F0.out.trans F1.out (fun _ _ h => h)⟩
        | true =>
          rw [decide_eq_false hl] at KL
          rw [hn] at KN
          cases hb : o.b.toList.isEmpty with
          | false =>
            go_enter Try.func30, Try.ntmps30
            go_wp2_with fail
            rw [HW.out]
            refine (KM.out _).mono ?_
            rintro e w1 ⟨rfl, hf⟩
            have F1 := hid (F1.out.trans hf (fun _ _ h => h))
            clear c0 c1 c2 c3 c4 c5 c6 c7
            obtain ⟨c0, c1, c2, c3, c4, c5, c6, c7⟩ := HC.out _ F1.out
            clear hf
            go_wp2_with (first
              | (go_at_call 31; refine (KM.out _).mono ?_; rintro e w2 ⟨rfl, hf⟩; have F1 := hid (F1.out.trans hf (fun _ _ h => h)); clear c0 c1 c2 c3 c4 c5 c6 c7; obtain ⟨c0, c1, c2, c3, c4, c5, c6, c7⟩ := HC.out _ F1.out; clear hf)
              | (go_at_call 32; refine (KT.out _).mono ?_; rintro e w2 ⟨rfl, rfl⟩)
              | (go_at_call 33; refine (KL.out _).mono ?_; rintro e w2 ⟨rfl, rfl⟩)
              | (go_at_call 34; refine (KN.out _).mono ?_; rintro e w2 ⟨rfl, rfl⟩))
            go_ret
            exact ⟨ret_int (by simp [S.place, hm, hg, hl, hn, hb]), F0.out.trans F1.out (fun _ _ h => h)⟩
          | true =>
            cases hc : o.c.toList.isEmpty with
            | false =>
              go_enter Try.func30, Try.ntmps30
              go_wp2_with fail
              rw [HW.out]
              refine (KM.out _).mono ?_
              rintro e w1 ⟨rfl, hf⟩
              have F1 := hid (F1.out.trans hf (fun _ _ h => h))
              clear c0 c1 c2 c3 c4 c5 c6 c7
              obtain ⟨c0, c1, c2, c3, c4, c5, c6, c7⟩ := HC.out _ F1.out
              clear hf
              go_wp2_with (first
                | (go_at_call 31; refine (KM.out _).mono ?_; rintro e w2 ⟨rfl, hf⟩; have F1 := hid (F1.out.trans hf (fun _ _ h => h)); clear c0 c1 c2 c3 c4 c5 c6 c7; obtain ⟨c0, c1, c2, c3, c4, c5, c6, c7⟩ := HC.out _ F1.out; clear hf)
                | (go_at_call 32; refine (KT.out _).mono ?_; rintro e w2 ⟨rfl, rfl⟩)
                | (go_at_call 33; refine (KL.out _).mono ?_; rintro e w2 ⟨rfl, rfl⟩)
                | (go_at_call 34; refine (KN.out _).mono ?_; rintro e w2 ⟨rfl, rfl⟩))
              go_ret
              exact ⟨ret_int (by simp [S.place, hm, hg, hl, hn, hb, hc]), F0.out.trans F1.out (fun _ _ h => h)⟩
            | true =>
              go_enter Try.func30, Try.ntmps30
              go_wp2_with fail
              rw [HW.out]
              refine (KM.out _).mono ?_
              rintro e w1 ⟨rfl, hf⟩
              have F1 := hid (F1.out.trans hf (fun _ _ h => h))
              clear c0 c1 c2 c3 c4 c5 c6 c7
              obtain ⟨c0, c1, c2, c3, c4, c5, c6, c7⟩ := HC.out _ F1.out
              clear hf
              go_wp2_with (first
                | (go_at_call 31; refine (KM.out _).mono ?_; rintro e w2 ⟨rfl, hf⟩; have F1 := hid (F1.out.trans hf (fun _ _ h => h)); clear c0 c1 c2 c3 c4 c5 c6 c7; obtain ⟨c0, c1, c2, c3, c4, c5, c6, c7⟩ := HC.out _ F1.out; clear hf)
                | (go_at_call 32; refine (KT.out _).mono ?_; rintro e w2 ⟨rfl, rfl⟩)
                | (go_at_call 33; refine (KL.out _).mono ?_; rintro e w2 ⟨rfl, rfl⟩)
                | (go_at_call 34; refine (KN.out _).mono ?_; rintro e w2 ⟨rfl, rfl⟩))
              go_ret
              exact ⟨ret_int (by simp [S.place, hm, hg, hl, hn, hb, hc]), F0.out.trans F1.out (fun _ _ h => h)⟩
set_option maxHeartbeats 6400000 in
theorem rplace_any (o : S.Op) (hi : o.in64) (w : World) : Calls Try.prog 19 #[.agg o.cs] w fun e w' => e = .returned (.int .i64 (S.place o)) ∧ Fr (fun _ => False) w w' := by
  obtain ⟨W, hW⟩ : ∃ W, w.alloc (.cells o.cs 43) = W := ⟨_, rfl⟩
  have HC := hid (fun (V : World) (hf : Fr (fun _ => False) W V) => show S.Ob V w.heap.size o from S.ob (hW ▸ Go.heap_alloc_new w (.cells o.cs 43)) hf)
  have F0 := hid (show Fr (fun _ => False) w W from hW ▸ Fr.alloc (Fr.refl _ _) _)
  have F1 := hid (Fr.refl (fun _ => False) W)
  have HW := hid hW
  clear hW
  obtain ⟨c0, c1, c2, c3, c4, c5, c6, c7⟩ := HC.out W (Fr.refl _ _)
  have KM := hid (rmade_any o.p hi.2.1 hi.2.2)
  have KT := hid (rtop_any o.p)
  have KN := hid (rname_any o.a)
  clear hi
  cases hm : S.made o.p with
  | false =>
    rw [hm] at KM
    cases hg : S.top o.p with
    | false =>
      rw [hg] at KT
      go_enter Try.func19, Try.ntmps19
      go_wp2_with fail
      rw [HW.out]
      refine (KT.out _).mono ?_
      rintro e w1 ⟨rfl, rfl⟩
      go_wp2_with (first
        | (go_at_call 20; refine (KM.out _).mono ?_; rintro e w2 ⟨rfl, hf⟩; have F1 := hid (F1.out.trans hf (fun _ _ h => h)); clear c0 c1 c2 c3 c4 c5 c6 c7; obtain ⟨c0, c1, c2, c3, c4, c5, c6, c7⟩ := HC.out _ F1.out; clear hf)
        | (go_at_call 21; refine (KT.out _).mono ?_; rintro e w2 ⟨rfl, rfl⟩)
        | (go_at_call 27; refine (KN.out _).mono ?_; rintro e w2 ⟨rfl, rfl⟩))
      go_ret
      exact ⟨ret_int (by simp [S.place, hm, hg]), F0.out.trans F1.out (fun _ _ h => h)⟩
    | true =>
      rw [hg] at KT
      by_cases hl : 255 < o.a.size
      · have hnm : S.nmr o.a = 3 := by simp [S.nmr, hl]
        rw [hnm] at KN
        clear hnm
        go_enter Try.func19, Try.ntmps19
        go_wp2_with fail
        rw [HW.out]
        refine (KT.out _).mono ?_
        rintro e w1 ⟨rfl, rfl⟩
        go_wp2_with (first
          | (go_at_call 20; refine (KM.out _).mono ?_; rintro e w2 ⟨rfl, hf⟩; have F1 := hid (F1.out.trans hf (fun _ _ h => h)); clear c0 c1 c2 c3 c4 c5 c6 c7; obtain ⟨c0, c1, c2, c3, c4, c5, c6, c7⟩ := HC.out _ F1.out; clear hf)
          | (go_at_call 21; refine (KT.out _).mono ?_; rintro e w2 ⟨rfl, rfl⟩)
          | (go_at_call 27; refine (KN.out _).mono ?_; rintro e w2 ⟨rfl, rfl⟩))
        go_ret
        exact ⟨ret_int (by simp [S.place, hm, hg, hl]), F0.out.trans F1.out (fun _ _ h => h)⟩
      · cases hn : S.nam o.a with
        | false =>
          have hnm : S.nmr o.a = 1 := by simp [S.nmr, hl, hn]
          rw [hnm] at KN
          clear hnm
          go_enter Try.func19, Try.ntmps19
          go_wp2_with fail
          rw [HW.out]
          refine (KT.out _).mono ?_
          rintro e w1 ⟨rfl, rfl⟩
          go_wp2_with (first
            | (go_at_call 20; refine (KM.out _).mono ?_; rintro e w2 ⟨rfl, hf⟩; have F1 := hid (F1.out.trans hf (fun _ _ h => h)); clear c0 c1 c2 c3 c4 c5 c6 c7; obtain ⟨c0, c1, c2, c3, c4, c5, c6, c7⟩ := HC.out _ F1.out; clear hf)
            | (go_at_call 21; refine (KT.out _).mono ?_; rintro e w2 ⟨rfl, rfl⟩)
            | (go_at_call 27; refine (KN.out _).mono ?_; rintro e w2 ⟨rfl, rfl⟩))
          go_ret
          exact ⟨ret_int (by simp [S.place, hm, hg, hl, hn]), F0.out.trans F1.out (fun _ _ h => h)⟩
        | true =>
          have hnm : S.nmr o.a = 0 := by simp [S.nmr, hl, hn]
          rw [hnm] at KN
          clear hnm
          cases hb : o.b.toList.isEmpty with
          | false =>
            go_enter Try.func19, Try.ntmps19
            go_wp2_with fail
            rw [HW.out]
            refine (KT.out _).mono ?_
            rintro e w1 ⟨rfl, rfl⟩
            go_wp2_with (first
              | (go_at_call 20; refine (KM.out _).mono ?_; rintro e w2 ⟨rfl, hf⟩; have F1 := hid (F1.out.trans hf (fun _ _ h => h)); clear c0 c1 c2 c3 c4 c5 c6 c7; obtain ⟨c0, c1, c2, c3, c4, c5, c6, c7⟩ := HC.out _ F1.out; clear hf)
              | (go_at_call 21; refine (KT.out _).mono ?_; rintro e w2 ⟨rfl, rfl⟩)
              | (go_at_call 27; refine (KN.out _).mono ?_; rintro e w2 ⟨rfl, rfl⟩))
            go_ret
            exact ⟨ret_int (by simp [S.place, hm, hg, hl, hn, hb]), F0.out.trans F1.out (fun _ _ h => h)⟩
          | true =>
            cases hc : o.c.toList.isEmpty with
            | false =>
              go_enter Try.func19, Try.ntmps19
              go_wp2_with fail
              rw [HW.out]
              refine (KT.out _).mono ?_
              rintro e w1 ⟨rfl, rfl⟩
              go_wp2_with (first
                | (go_at_call 20; refine (KM.out _).mono ?_; rintro e w2 ⟨rfl, hf⟩; have F1 := hid (F1.out.trans hf (fun _ _ h => h)); clear c0 c1 c2 c3 c4 c5 c6 c7; obtain ⟨c0, c1, c2, c3, c4, c5, c6, c7⟩ := HC.out _ F1.out; clear hf)
                | (go_at_call 21; refine (KT.out _).mono ?_; rintro e w2 ⟨rfl, rfl⟩)
                | (go_at_call 27; refine (KN.out _).mono ?_; rintro e w2 ⟨rfl, rfl⟩))
              go_ret
              exact ⟨ret_int (by simp [S.place, hm, hg, hl, hn, hb, hc]), F0.out.trans F1.out (fun _ _ h => h)⟩
            | true =>
              go_enter Try.func19, Try.ntmps19
              go_wp2_with fail
              rw [HW.out]
              refine (KT.out _).mono ?_
              rintro e w1 ⟨rfl, rfl⟩
              go_wp2_with (first
                | (go_at_call 20; refine (KM.out _).mono ?_; rintro e w2 ⟨rfl, hf⟩; have F1 := hid (F1.out.trans hf (fun _ _ h => h)); clear c0 c1 c2 c3 c4 c5 c6 c7; obtain ⟨c0, c1, c2, c3, c4, c5, c6, c7⟩ := HC.out _ F1.out; clear hf)
                | (go_at_call 21; refine (KT.out _).mono ?_; rintro e w2 ⟨rfl, rfl⟩)
                | (go_at_call 27; refine (KN.out _).mono ?_; rintro e w2 ⟨rfl, rfl⟩))
              go_ret
              exact ⟨ret_int (by simp [S.place, hm, hg, hl, hn, hb, hc]), F0.out.trans F1.out (fun _ _ h => h)⟩
  | true =>
    rw [hm] at KM
    cases hg : S.top o.p with
    | false =>
      rw [hg] at KT
      by_cases hl : 255 < o.a.size
      · have hnm : S.nmr o.a = 3 := by simp [S.nmr, hl]
        rw [hnm] at KN
        clear hnm
        go_enter Try.func19, Try.ntmps19
        go_wp2_with fail
        rw [HW.out]
        refine (KT.out _).mono ?_
        rintro e w1 ⟨rfl, rfl⟩
        go_wp2_with (first
          | (go_at_call 20; refine (KM.out _).mono ?_; rintro e w2 ⟨rfl, hf⟩; have F1 := hid (F1.out.trans hf (fun _ _ h => h)); clear c0 c1 c2 c3 c4 c5 c6 c7; obtain ⟨c0, c1, c2, c3, c4, c5, c6, c7⟩ := HC.out _ F1.out; clear hf)
          | (go_at_call 21; refine (KT.out _).mono ?_; rintro e w2 ⟨rfl, rfl⟩)
          | (go_at_call 27; refine (KN.out _).mono ?_; rintro e w2 ⟨rfl, rfl⟩))
        go_ret
        exact ⟨ret_int (by simp [S.place, hm, hg, hl]), F0.out.trans F1.out (fun _ _ h => h)⟩
      · cases hn : S.nam o.a with
        | false =>
          have hnm : S.nmr o.a = 1 := by simp [S.nmr, hl, hn]
          rw [hnm] at KN
          clear hnm
          go_enter Try.func19, Try.ntmps19
          go_wp2_with fail
          rw [HW.out]
          refine (KT.out _).mono ?_
          rintro e w1 ⟨rfl, rfl⟩
          go_wp2_with (first
            | (go_at_call 20; refine (KM.out _).mono ?_; rintro e w2 ⟨rfl, hf⟩; have F1 := hid (F1.out.trans hf (fun _ _ h => h)); clear c0 c1 c2 c3 c4 c5 c6 c7; obtain ⟨c0, c1, c2, c3, c4, c5, c6, c7⟩ := HC.out _ F1.out; clear hf)
            | (go_at_call 21; refine (KT.out _).mono ?_; rintro e w2 ⟨rfl, rfl⟩)
            | (go_at_call 27; refine (KN.out _).mono ?_; rintro e w2 ⟨rfl, rfl⟩))
          go_ret
          exact ⟨ret_int (by simp [S.place, hm, hg, hl, hn]), F0.out.trans F1.out (fun _ _ h => h)⟩
        | true =>
          have hnm : S.nmr o.a = 0 := by simp [S.nmr, hl, hn]
          rw [hnm] at KN
          clear hnm
          cases hb : o.b.toList.isEmpty with
          | false =>
            go_enter Try.func19, Try.ntmps19
            go_wp2_with fail
            rw [HW.out]
            refine (KT.out _).mono ?_
            rintro e w1 ⟨rfl, rfl⟩
            go_wp2_with (first
              | (go_at_call 20; refine (KM.out _).mono ?_; rintro e w2 ⟨rfl, hf⟩; have F1 := hid (F1.out.trans hf (fun _ _ h => h)); clear c0 c1 c2 c3 c4 c5 c6 c7; obtain ⟨c0, c1, c2, c3, c4, c5, c6, c7⟩ := HC.out _ F1.out; clear hf)
              | (go_at_call 21; refine (KT.out _).mono ?_; rintro e w2 ⟨rfl, rfl⟩)
              | (go_at_call 27; refine (KN.out _).mono ?_; rintro e w2 ⟨rfl, rfl⟩))
            go_ret
            exact ⟨ret_int (by simp [S.place, hm, hg, hl, hn, hb]), F0.out.trans F1.out (fun _ _ h => h)⟩
          | true =>
            cases hc : o.c.toList.isEmpty with
            | false =>
              go_enter Try.func19, Try.ntmps19
              go_wp2_with fail
              rw [HW.out]
              refine (KT.out _).mono ?_
              rintro e w1 ⟨rfl, rfl⟩
              go_wp2_with (first
                | (go_at_call 20; refine (KM.out _).mono ?_; rintro e w2 ⟨rfl, hf⟩; have F1 := hid (F1.out.trans hf (fun _ _ h => h)); clear c0 c1 c2 c3 c4 c5 c6 c7; obtain ⟨c0, c1, c2, c3, c4, c5, c6, c7⟩ := HC.out _ F1.out; clear hf)
                | (go_at_call 21; refine (KT.out _).mono ?_; rintro e w2 ⟨rfl, rfl⟩)
                | (go_at_call 27; refine (KN.out _).mono ?_; rintro e w2 ⟨rfl, rfl⟩))
              go_ret
              exact ⟨ret_int (by simp [S.place, hm, hg, hl, hn, hb, hc]), F0.out.trans F1.out (fun _ _ h => h)⟩
            | true =>
              go_enter Try.func19, Try.ntmps19
              go_wp2_with fail
              rw [HW.out]
              refine (KT.out _).mono ?_
              rintro e w1 ⟨rfl, rfl⟩
              go_wp2_with (first
                | (go_at_call 20; refine (KM.out _).mono ?_; rintro e w2 ⟨rfl, hf⟩; have F1 := hid (F1.out.trans hf (fun _ _ h => h)); clear c0 c1 c2 c3 c4 c5 c6 c7; obtain ⟨c0, c1, c2, c3, c4, c5, c6, c7⟩ := HC.out _ F1.out; clear hf)
                | (go_at_call 21; refine (KT.out _).mono ?_; rintro e w2 ⟨rfl, rfl⟩)
                | (go_at_call 27; refine (KN.out _).mono ?_; rintro e w2 ⟨rfl, rfl⟩))
              go_ret
              exact ⟨ret_int (by simp [S.place, hm, hg, hl, hn, hb, hc]), F0.out.trans F1.out (fun _ _ h => h)⟩
    | true =>
      rw [hg] at KT
      by_cases hl : 255 < o.a.size
      · have hnm : S.nmr o.a = 3 := by simp [S.nmr, hl]
        rw [hnm] at KN
        clear hnm
        go_enter Try.func19, Try.ntmps19
        go_wp2_with fail
        rw [HW.out]
        refine (KT.out _).mono ?_
        rintro e w1 ⟨rfl, rfl⟩
        go_wp2_with (first
          | (go_at_call 20; refine (KM.out _).mono ?_; rintro e w2 ⟨rfl, hf⟩; have F1 := hid (F1.out.trans hf (fun _ _ h => h)); clear c0 c1 c2 c3 c4 c5 c6 c7; obtain ⟨c0, c1, c2, c3, c4, c5, c6, c7⟩ := HC.out _ F1.out; clear hf)
          | (go_at_call 21; refine (KT.out _).mono ?_; rintro e w2 ⟨rfl, rfl⟩)
          | (go_at_call 27; refine (KN.out _).mono ?_; rintro e w2 ⟨rfl, rfl⟩))
        go_ret
        exact ⟨ret_int (by simp [S.place, hm, hg, hl]), F0.out.trans F1.out (fun _ _ h => h)⟩
      · cases hn : S.nam o.a with
        | false =>
          have hnm : S.nmr o.a = 1 := by simp [S.nmr, hl, hn]
          rw [hnm] at KN
          clear hnm
          go_enter Try.func19, Try.ntmps19
          go_wp2_with fail
          rw [HW.out]
          refine (KT.out _).mono ?_
          rintro e w1 ⟨rfl, rfl⟩
          go_wp2_with (first
            | (go_at_call 20; refine (KM.out _).mono ?_; rintro e w2 ⟨rfl, hf⟩; have F1 := hid (F1.out.trans hf (fun _ _ h => h)); clear c0 c1 c2 c3 c4 c5 c6 c7; obtain ⟨c0, c1, c2, c3, c4, c5, c6, c7⟩ := HC.out _ F1.out; clear hf)
            | (go_at_call 21; refine (KT.out _).mono ?_; rintro e w2 ⟨rfl, rfl⟩)
            | (go_at_call 27; refine (KN.out _).mono ?_; rintro e w2 ⟨rfl, rfl⟩))
          go_ret
          exact ⟨ret_int (by simp [S.place, hm, hg, hl, hn]), F0.out.trans F1.out (fun _ _ h => h)⟩
        | true =>
          have hnm : S.nmr o.a = 0 := by simp [S.nmr, hl, hn]
          rw [hnm] at KN
          clear hnm
          cases hb : o.b.toList.isEmpty with
          | false =>
            go_enter Try.func19, Try.ntmps19
            go_wp2_with fail
            rw [HW.out]
            refine (KT.out _).mono ?_
            rintro e w1 ⟨rfl, rfl⟩
            go_wp2_with (first
              | (go_at_call 20; refine (KM.out _).mono ?_; rintro e w2 ⟨rfl, hf⟩; have F1 := hid (F1.out.trans hf (fun _ _ h => h)); clear c0 c1 c2 c3 c4 c5 c6 c7; obtain ⟨c0, c1, c2, c3, c4, c5, c6, c7⟩ := HC.out _ F1.out; clear hf)
              | (go_at_call 21; refine (KT.out _).mono ?_; rintro e w2 ⟨rfl, rfl⟩)
              | (go_at_call 27; refine (KN.out _).mono ?_; rintro e w2 ⟨rfl, rfl⟩))
            go_ret
            exact ⟨ret_int (by simp [S.place, hm, hg, hl, hn, hb]), F0.out.trans F1.out (fun _ _ h => h)⟩
          | true =>
            cases hc : o.c.toList.isEmpty with
            | false =>
              go_enter Try.func19, Try.ntmps19
              go_wp2_with fail
              rw [HW.out]
              refine (KT.out _).mono ?_
              rintro e w1 ⟨rfl, rfl⟩
              go_wp2_with (first
                | (go_at_call 20; refine (KM.out _).mono ?_; rintro e w2 ⟨rfl, hf⟩; have F1 := hid (F1.out.trans hf (fun _ _ h => h)); clear c0 c1 c2 c3 c4 c5 c6 c7; obtain ⟨c0, c1, c2, c3, c4, c5, c6, c7⟩ := HC.out _ F1.out; clear hf)
                | (go_at_call 21; refine (KT.out _).mono ?_; rintro e w2 ⟨rfl, rfl⟩)
                | (go_at_call 27; refine (KN.out _).mono ?_; rintro e w2 ⟨rfl, rfl⟩))
              go_ret
              exact ⟨ret_int (by simp [S.place, hm, hg, hl, hn, hb, hc]), F0.out.trans F1.out (fun _ _ h => h)⟩
            | true =>
              go_enter Try.func19, Try.ntmps19
              go_wp2_with fail
              rw [HW.out]
              refine (KT.out _).mono ?_
              rintro e w1 ⟨rfl, rfl⟩
              go_wp2_with (first
                | (go_at_call 20; refine (KM.out _).mono ?_; rintro e w2 ⟨rfl, hf⟩; have F1 := hid (F1.out.trans hf (fun _ _ h => h)); clear c0 c1 c2 c3 c4 c5 c6 c7; obtain ⟨c0, c1, c2, c3, c4, c5, c6, c7⟩ := HC.out _ F1.out; clear hf)
                | (go_at_call 21; refine (KT.out _).mono ?_; rintro e w2 ⟨rfl, rfl⟩)
                | (go_at_call 27; refine (KN.out _).mono ?_; rintro e w2 ⟨rfl, rfl⟩))
              go_ret
              exact ⟨ret_int (by simp [S.place, hm, hg, hl, hn, hb, hc]), F0.out.trans F1.out (fun _ _ h => h)⟩
end Go.Proofs.Ytedgiffnfhkonaa

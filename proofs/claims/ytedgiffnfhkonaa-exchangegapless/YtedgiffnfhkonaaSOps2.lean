/-
  Operations: the code's CheckOp.
-/
import Derived.Test.YtedgiffnfhkonaaSOps
namespace Go.Proofs.Ytedgiffnfhkonaa
open Go.RowKit
set_option linter.unusedVariables false
set_option linter.unusedSimpArgs false

def S.make (o : S.Op) : Int := if o.n = S.node o.t o.s then S.place o else 1
def S.move (o : S.Op) : Int := if S.place o = 0 then (if S.made o.n = true then 0 else 1) else S.place o
def S.attr (o : S.Op) : Int := if S.made o.n = false ∧ S.top o.n = false then 1 else if 255 < o.b.size ∨ 255 < o.c.size then 3 else if o.b.toList.isEmpty = false ∧ o.p = 0 ∧ o.a.toList.isEmpty = true then 0 else 1
/-- what is wrong with an operation -/
def S.chk (o : S.Op) : Int := if S.ok o.t o.s = false then 1 else if o.k = 1 then S.make o else if o.k = 2 then S.move o else if o.k = 3 then S.attr o else 1
set_option maxHeartbeats 6400000 in
theorem checkMake_any (o : S.Op) (hi : o.in64) (w : World) : Calls Try.prog 23 #[.agg o.cs] w fun e w' => e = .returned (.int .i64 (S.make o)) ∧ Fr (fun _ => False) w w' := by
  obtain ⟨W, hW⟩ : ∃ W, w.alloc (.cells o.cs 43) = W := ⟨_, rfl⟩
  have HC := hid (fun (V : World) (hf : Fr (fun _ => False) W V) => show S.Ob V w.heap.size o from S.ob (hW ▸ Go.heap_alloc_new w (.cells o.cs 43)) hf)
  have F0 := hid (show Fr (fun _ => False) w W from hW ▸ Fr.alloc (Fr.refl _ _) _)
  have F1 := hid (Fr.refl (fun _ => False) W)
  have HW := hid hW
  clear hW
  obtain ⟨c0, c1, c2, c3, c4, c5, c6, c7⟩ := HC.out W (Fr.refl _ _)
  have KP := hid (checkPlace_any o hi)
  have KN := hid (snode_any o.t o.s)
  unfold S.make
  generalize S.place o = pl at KP ⊢
  generalize S.node o.t o.s = x at KN ⊢
  clear hi
  by_cases hN : o.n = x
  · rw [if_pos hN]
    go_enter Try.func23, Try.ntmps23
    go_wp2_with fail
    rw [HW.out]
    go_region_held3 (fun V => V.cell? ⟨w.heap.size, 0, none⟩ = some (.int .i64 o.t) ∧ V.cell? ⟨w.heap.size, 1, none⟩ = some (.int .i64 o.s) ∧ V.cell? ⟨w.heap.size, 3, none⟩ = some (.int .i64 o.n)) (first | exact ⟨c0, c1, c3⟩ | go_keep | exact ⟨d0, d1, d3⟩)
      (first
        | (go_at_call 29; refine (KN.out _).mono ?_; rintro e w1 ⟨rfl, f1⟩; have F2 : Hid (Fr (fun _ => False) W w1) := hid (by first | exact f1 | exact (Fr.drew (Fr.refl _ _)).trans f1 (fun _ _ h => h) | exact (Fr.drewN _ _).trans f1 (fun _ _ h => h)); obtain ⟨d0, d1, d2, d3, d4, d5, d6, d7⟩ := HC.out _ F2.out; clear f1))
    obtain ⟨c0, c1, c2, c3, c4, c5, c6, c7⟩ := HC.out _ F2.out
    clear hN
    go_wp2_with (first
      | (go_at_call 30; refine (KP.out _).mono ?_; rintro e w2 ⟨rfl, hf⟩; have F3 := hid (F2.out.trans hf (fun _ _ h => h)); clear hf))
    go_ret
    exact ⟨rfl, F0.out.trans F3.out (fun _ _ h => h)⟩
  · rw [if_neg hN]
    go_enter Try.func23, Try.ntmps23
    go_wp2_with fail
    rw [HW.out]
    go_region_held3 (fun V => V.cell? ⟨w.heap.size, 0, none⟩ = some (.int .i64 o.t) ∧ V.cell? ⟨w.heap.size, 1, none⟩ = some (.int .i64 o.s) ∧ V.cell? ⟨w.heap.size, 3, none⟩ = some (.int .i64 o.n)) (first | exact ⟨c0, c1, c3⟩ | go_keep | exact ⟨d0, d1, d3⟩)
      (first
        | (go_at_call 29; refine (KN.out _).mono ?_; rintro e w1 ⟨rfl, f1⟩; have F2 : Hid (Fr (fun _ => False) W w1) := hid (by first | exact f1 | exact (Fr.drew (Fr.refl _ _)).trans f1 (fun _ _ h => h) | exact (Fr.drewN _ _).trans f1 (fun _ _ h => h)); obtain ⟨d0, d1, d2, d3, d4, d5, d6, d7⟩ := HC.out _ F2.out; clear f1))
    go_wp2
    go_ret
    exact ⟨rfl, F0.out.trans F2.out (fun _ _ h => h)⟩
set_option maxHeartbeats 6400000 in
theorem checkMove_any (o : S.Op) (hi : o.in64) (w : World) : Calls Try.prog 24 #[.agg o.cs] w fun e w' => e = .returned (.int .i64 (S.move o)) ∧ Fr (fun _ => False) w w' := by
  obtain ⟨W, hW⟩ : ∃ W, w.alloc (.cells o.cs 43) = W := ⟨_, rfl⟩
  have HC := hid (fun (V : World) (hf : Fr (fun _ => False) W V) => show S.Ob V w.heap.size o from S.ob (hW ▸ Go.heap_alloc_new w (.cells o.cs 43)) hf)
  have F0 := hid (show Fr (fun _ => False) w W from hW ▸ Fr.alloc (Fr.refl _ _) _)
  have F1 := hid (Fr.refl (fun _ => False) W)
  have HW := hid hW
  clear hW
  obtain ⟨c0, c1, c2, c3, c4, c5, c6, c7⟩ := HC.out W (Fr.refl _ _)
  have KP := hid (checkPlace_any o hi)
  have KM := hid (isMades_any o.n hi.1.1 hi.1.2)
  unfold S.move
  generalize S.place o = pl at KP ⊢
  clear hi
  by_cases hp : pl = 0
  · subst hp
    rw [if_pos rfl]
    cases hm : S.made o.n with
    | false =>
      rw [hm] at KM
      go_enter Try.func24, Try.ntmps24
      go_wp2_with fail
      rw [HW.out]
      refine (KP.out _).mono ?_
      rintro e w1 ⟨rfl, hf⟩
      have F1 := hid (F1.out.trans hf (fun _ _ h => h))
      clear c0 c1 c2 c3 c4 c5 c6 c7
      obtain ⟨c0, c1, c2, c3, c4, c5, c6, c7⟩ := HC.out _ F1.out
      clear hf
      go_wp2_with (first
        | (go_at_call 31; refine (KM.out _).mono ?_; rintro e w2 ⟨rfl, hf⟩; have F1 := hid (F1.out.trans hf (fun _ _ h => h)); clear c0 c1 c2 c3 c4 c5 c6 c7; obtain ⟨c0, c1, c2, c3, c4, c5, c6, c7⟩ := HC.out _ F1.out; clear hf))
      go_ret
      exact ⟨rfl, F0.out.trans F1.out (fun _ _ h => h)⟩
    | true =>
      rw [hm] at KM
      go_enter Try.func24, Try.ntmps24
      go_wp2_with fail
      rw [HW.out]
      refine (KP.out _).mono ?_
      rintro e w1 ⟨rfl, hf⟩
      have F1 := hid (F1.out.trans hf (fun _ _ h => h))
      clear c0 c1 c2 c3 c4 c5 c6 c7
      obtain ⟨c0, c1, c2, c3, c4, c5, c6, c7⟩ := HC.out _ F1.out
      clear hf
      go_wp2_with (first
        | (go_at_call 31; refine (KM.out _).mono ?_; rintro e w2 ⟨rfl, hf⟩; have F1 := hid (F1.out.trans hf (fun _ _ h => h)); clear c0 c1 c2 c3 c4 c5 c6 c7; obtain ⟨c0, c1, c2, c3, c4, c5, c6, c7⟩ := HC.out _ F1.out; clear hf))
      go_ret
      exact ⟨rfl, F0.out.trans F1.out (fun _ _ h => h)⟩
  · rw [if_neg hp]
    go_enter Try.func24, Try.ntmps24
    go_wp2_with fail
    rw [HW.out]
    refine (KP.out _).mono ?_
    rintro e w1 ⟨rfl, hf⟩
    have F1 := hid (F1.out.trans hf (fun _ _ h => h))
    clear c0 c1 c2 c3 c4 c5 c6 c7
    obtain ⟨c0, c1, c2, c3, c4, c5, c6, c7⟩ := HC.out _ F1.out
    clear hf
    go_wp2_with (first
      | (go_at_call 31; refine (KM.out _).mono ?_; rintro e w2 ⟨rfl, hf⟩; have F1 := hid (F1.out.trans hf (fun _ _ h => h)); clear c0 c1 c2 c3 c4 c5 c6 c7; obtain ⟨c0, c1, c2, c3, c4, c5, c6, c7⟩ := HC.out _ F1.out; clear hf))
    go_ret
    exact ⟨rfl, F0.out.trans F1.out (fun _ _ h => h)⟩
set_option maxHeartbeats 6400000 in
theorem checkAttr_any (o : S.Op) (hi : o.in64) (w : World) : Calls Try.prog 25 #[.agg o.cs] w fun e w' => e = .returned (.int .i64 (S.attr o)) ∧ Fr (fun _ => False) w w' := by
  obtain ⟨W, hW⟩ : ∃ W, w.alloc (.cells o.cs 43) = W := ⟨_, rfl⟩
  have HC := hid (fun (V : World) (hf : Fr (fun _ => False) W V) => show S.Ob V w.heap.size o from S.ob (hW ▸ Go.heap_alloc_new w (.cells o.cs 43)) hf)
  have F0 := hid (show Fr (fun _ => False) w W from hW ▸ Fr.alloc (Fr.refl _ _) _)
  have F1 := hid (Fr.refl (fun _ => False) W)
  have HW := hid hW
  clear hW
  obtain ⟨c0, c1, c2, c3, c4, c5, c6, c7⟩ := HC.out W (Fr.refl _ _)
  have KM := hid (isMades_any o.n hi.1.1 hi.1.2)
  have KT := hid (isGiven_any o.n)
  clear hi
  cases hm : S.made o.n with
  | false =>
    rw [hm] at KM
    cases hg : S.top o.n with
    | false =>
      rw [hg] at KT
      go_enter Try.func25, Try.ntmps25
      go_wp2_with fail
      rw [HW.out]
      refine (KM.out _).mono ?_
      rintro e w1 ⟨rfl, hf⟩
      have F1 := hid (F1.out.trans hf (fun _ _ h => h))
      clear c0 c1 c2 c3 c4 c5 c6 c7
      obtain ⟨c0, c1, c2, c3, c4, c5, c6, c7⟩ := HC.out _ F1.out
      clear hf
      go_wp2_with (first
        | (go_at_call 32; refine (KT.out _).mono ?_; rintro e w2 ⟨rfl, rfl⟩)
        | (go_at_call 33; refine (isLong_any _ _).mono ?_; rintro e w2 ⟨rfl, rfl⟩))
      go_ret
      exact ⟨ret_int (by simp [S.attr, hm, hg]), F0.out.trans F1.out (fun _ _ h => h)⟩
    | true =>
      rw [hg] at KT
      by_cases hb : 255 < o.b.size
      · go_enter Try.func25, Try.ntmps25
        go_wp2_with fail
        rw [HW.out]
        refine (KM.out _).mono ?_
        rintro e w1 ⟨rfl, hf⟩
        have F1 := hid (F1.out.trans hf (fun _ _ h => h))
        clear c0 c1 c2 c3 c4 c5 c6 c7
        obtain ⟨c0, c1, c2, c3, c4, c5, c6, c7⟩ := HC.out _ F1.out
        clear hf
        go_wp2_with (first
          | (go_at_call 32; refine (KT.out _).mono ?_; rintro e w2 ⟨rfl, rfl⟩)
          | (go_at_call 33; refine (isLong_any _ _).mono ?_; rintro e w2 ⟨rfl, rfl⟩))
        go_ret
        exact ⟨ret_int (by simp [S.attr, hm, hg, hb]), F0.out.trans F1.out (fun _ _ h => h)⟩
      · by_cases hc : 255 < o.c.size
        · go_enter Try.func25, Try.ntmps25
          go_wp2_with fail
          rw [HW.out]
          refine (KM.out _).mono ?_
          rintro e w1 ⟨rfl, hf⟩
          have F1 := hid (F1.out.trans hf (fun _ _ h => h))
          clear c0 c1 c2 c3 c4 c5 c6 c7
          obtain ⟨c0, c1, c2, c3, c4, c5, c6, c7⟩ := HC.out _ F1.out
          clear hf
          go_wp2_with (first
            | (go_at_call 32; refine (KT.out _).mono ?_; rintro e w2 ⟨rfl, rfl⟩)
            | (go_at_call 33; refine (isLong_any _ _).mono ?_; rintro e w2 ⟨rfl, rfl⟩))
          go_ret
          exact ⟨ret_int (by simp [S.attr, hm, hg, hb, hc]), F0.out.trans F1.out (fun _ _ h => h)⟩
        · cases he : o.b.toList.isEmpty with
          | true =>
            go_enter Try.func25, Try.ntmps25
            go_wp2_with fail
            rw [HW.out]
            refine (KM.out _).mono ?_
            rintro e w1 ⟨rfl, hf⟩
            have F1 := hid (F1.out.trans hf (fun _ _ h => h))
            clear c0 c1 c2 c3 c4 c5 c6 c7
            obtain ⟨c0, c1, c2, c3, c4, c5, c6, c7⟩ := HC.out _ F1.out
            clear hf
            go_wp2_with (first
              | (go_at_call 32; refine (KT.out _).mono ?_; rintro e w2 ⟨rfl, rfl⟩)
              | (go_at_call 33; refine (isLong_any _ _).mono ?_; rintro e w2 ⟨rfl, rfl⟩))
            go_ret
            exact ⟨ret_int (by simp [S.attr, hm, hg, hb, hc, he]), F0.out.trans F1.out (fun _ _ h => h)⟩
          | false =>
            by_cases hp : o.p = 0
            · cases ha : o.a.toList.isEmpty with
              | true =>
                go_enter Try.func25, Try.ntmps25
                go_wp2_with fail
                rw [HW.out]
                refine (KM.out _).mono ?_
                rintro e w1 ⟨rfl, hf⟩
                have F1 := hid (F1.out.trans hf (fun _ _ h => h))
                clear c0 c1 c2 c3 c4 c5 c6 c7
                obtain ⟨c0, c1, c2, c3, c4, c5, c6, c7⟩ := HC.out _ F1.out
                clear hf
                go_wp2_with (first
                  | (go_at_call 32; refine (KT.out _).mono ?_; rintro e w2 ⟨rfl, rfl⟩)
                  | (go_at_call 33; refine (isLong_any _ _).mono ?_; rintro e w2 ⟨rfl, rfl⟩))
                go_ret
                exact ⟨ret_int (by simp [S.attr, hm, hg, hb, hc, he, hp, ha]), F0.out.trans F1.out (fun _ _ h => h)⟩
              | false =>
                go_enter Try.func25, Try.ntmps25
                go_wp2_with fail
                rw [HW.out]
                refine (KM.out _).mono ?_
                rintro e w1 ⟨rfl, hf⟩
                have F1 := hid (F1.out.trans hf (fun _ _ h => h))
                clear c0 c1 c2 c3 c4 c5 c6 c7
                obtain ⟨c0, c1, c2, c3, c4, c5, c6, c7⟩ := HC.out _ F1.out
                clear hf
                go_wp2_with (first
                  | (go_at_call 32; refine (KT.out _).mono ?_; rintro e w2 ⟨rfl, rfl⟩)
                  | (go_at_call 33; refine (isLong_any _ _).mono ?_; rintro e w2 ⟨rfl, rfl⟩))
                go_ret
                exact ⟨ret_int (by simp [S.attr, hm, hg, hb, hc, he, hp, ha]), F0.out.trans F1.out (fun _ _ h => h)⟩
            · go_enter Try.func25, Try.ntmps25
              go_wp2_with fail
              rw [HW.out]
              refine (KM.out _).mono ?_
              rintro e w1 ⟨rfl, hf⟩
              have F1 := hid (F1.out.trans hf (fun _ _ h => h))
              clear c0 c1 c2 c3 c4 c5 c6 c7
              obtain ⟨c0, c1, c2, c3, c4, c5, c6, c7⟩ := HC.out _ F1.out
              clear hf
              go_wp2_with (first
                | (go_at_call 32; refine (KT.out _).mono ?_; rintro e w2 ⟨rfl, rfl⟩)
                | (go_at_call 33; refine (isLong_any _ _).mono ?_; rintro e w2 ⟨rfl, rfl⟩))
              go_ret
              exact ⟨ret_int (by simp [S.attr, hm, hg, hb, hc, he, hp]), F0.out.trans F1.out (fun _ _ h => h)⟩
  | true =>
    rw [hm] at KM
    cases hg : S.top o.n with
    | false =>
      rw [hg] at KT
      by_cases hb : 255 < o.b.size
      · go_enter Try.func25, Try.ntmps25
        go_wp2_with fail
        rw [HW.out]
        refine (KM.out _).mono ?_
        rintro e w1 ⟨rfl, hf⟩
        have F1 := hid (F1.out.trans hf (fun _ _ h => h))
        clear c0 c1 c2 c3 c4 c5 c6 c7
        obtain ⟨c0, c1, c2, c3, c4, c5, c6, c7⟩ := HC.out _ F1.out
        clear hf
        go_wp2_with (first
          | (go_at_call 32; refine (KT.out _).mono ?_; rintro e w2 ⟨rfl, rfl⟩)
          | (go_at_call 33; refine (isLong_any _ _).mono ?_; rintro e w2 ⟨rfl, rfl⟩))
        go_ret
        exact ⟨ret_int (by simp [S.attr, hm, hg, hb]), F0.out.trans F1.out (fun _ _ h => h)⟩
      · by_cases hc : 255 < o.c.size
        · go_enter Try.func25, Try.ntmps25
          go_wp2_with fail
          rw [HW.out]
          refine (KM.out _).mono ?_
          rintro e w1 ⟨rfl, hf⟩
          have F1 := hid (F1.out.trans hf (fun _ _ h => h))
          clear c0 c1 c2 c3 c4 c5 c6 c7
          obtain ⟨c0, c1, c2, c3, c4, c5, c6, c7⟩ := HC.out _ F1.out
          clear hf
          go_wp2_with (first
            | (go_at_call 32; refine (KT.out _).mono ?_; rintro e w2 ⟨rfl, rfl⟩)
            | (go_at_call 33; refine (isLong_any _ _).mono ?_; rintro e w2 ⟨rfl, rfl⟩))
          go_ret
          exact ⟨ret_int (by simp [S.attr, hm, hg, hb, hc]), F0.out.trans F1.out (fun _ _ h => h)⟩
        · cases he : o.b.toList.isEmpty with
          | true =>
            go_enter Try.func25, Try.ntmps25
            go_wp2_with fail
            rw [HW.out]
            refine (KM.out _).mono ?_
            rintro e w1 ⟨rfl, hf⟩
            have F1 := hid (F1.out.trans hf (fun _ _ h => h))
            clear c0 c1 c2 c3 c4 c5 c6 c7
            obtain ⟨c0, c1, c2, c3, c4, c5, c6, c7⟩ := HC.out _ F1.out
            clear hf
            go_wp2_with (first
              | (go_at_call 32; refine (KT.out _).mono ?_; rintro e w2 ⟨rfl, rfl⟩)
              | (go_at_call 33; refine (isLong_any _ _).mono ?_; rintro e w2 ⟨rfl, rfl⟩))
            go_ret
            exact ⟨ret_int (by simp [S.attr, hm, hg, hb, hc, he]), F0.out.trans F1.out (fun _ _ h => h)⟩
          | false =>
            by_cases hp : o.p = 0
            · cases ha : o.a.toList.isEmpty with
              | true =>
                go_enter Try.func25, Try.ntmps25
                go_wp2_with fail
                rw [HW.out]
                refine (KM.out _).mono ?_
                rintro e w1 ⟨rfl, hf⟩
                have F1 := hid (F1.out.trans hf (fun _ _ h => h))
                clear c0 c1 c2 c3 c4 c5 c6 c7
                obtain ⟨c0, c1, c2, c3, c4, c5, c6, c7⟩ := HC.out _ F1.out
                clear hf
                go_wp2_with (first
                  | (go_at_call 32; refine (KT.out _).mono ?_; rintro e w2 ⟨rfl, rfl⟩)
                  | (go_at_call 33; refine (isLong_any _ _).mono ?_; rintro e w2 ⟨rfl, rfl⟩))
                go_ret
                exact ⟨ret_int (by simp [S.attr, hm, hg, hb, hc, he, hp, ha]), F0.out.trans F1.out (fun _ _ h => h)⟩
              | false =>
                go_enter Try.func25, Try.ntmps25
                go_wp2_with fail
                rw [HW.out]
                refine (KM.out _).mono ?_
                rintro e w1 ⟨rfl, hf⟩
                have F1 := hid (F1.out.trans hf (fun _ _ h => h))
                clear c0 c1 c2 c3 c4 c5 c6 c7
                obtain ⟨c0, c1, c2, c3, c4, c5, c6, c7⟩ := HC.out _ F1.out
                clear hf
                go_wp2_with (first
                  | (go_at_call 32; refine (KT.out _).mono ?_; rintro e w2 ⟨rfl, rfl⟩)
                  | (go_at_call 33; refine (isLong_any _ _).mono ?_; rintro e w2 ⟨rfl, rfl⟩))
                go_ret
                exact ⟨ret_int (by simp [S.attr, hm, hg, hb, hc, he, hp, ha]), F0.out.trans F1.out (fun _ _ h => h)⟩
            · go_enter Try.func25, Try.ntmps25
              go_wp2_with fail
              rw [HW.out]
              refine (KM.out _).mono ?_
              rintro e w1 ⟨rfl, hf⟩
              have F1 := hid (F1.out.trans hf (fun _ _ h => h))
              clear c0 c1 c2 c3 c4 c5 c6 c7
              obtain ⟨c0, c1, c2, c3, c4, c5, c6, c7⟩ := HC.out _ F1.out
              clear hf
              go_wp2_with (first
                | (go_at_call 32; refine (KT.out _).mono ?_; rintro e w2 ⟨rfl, rfl⟩)
                | (go_at_call 33; refine (isLong_any _ _).mono ?_; rintro e w2 ⟨rfl, rfl⟩))
              go_ret
              exact ⟨ret_int (by simp [S.attr, hm, hg, hb, hc, he, hp]), F0.out.trans F1.out (fun _ _ h => h)⟩
    | true =>
      rw [hg] at KT
      by_cases hb : 255 < o.b.size
      · go_enter Try.func25, Try.ntmps25
        go_wp2_with fail
        rw [HW.out]
        refine (KM.out _).mono ?_
        rintro e w1 ⟨rfl, hf⟩
        have F1 := hid (F1.out.trans hf (fun _ _ h => h))
        clear c0 c1 c2 c3 c4 c5 c6 c7
        obtain ⟨c0, c1, c2, c3, c4, c5, c6, c7⟩ := HC.out _ F1.out
        clear hf
        go_wp2_with (first
          | (go_at_call 32; refine (KT.out _).mono ?_; rintro e w2 ⟨rfl, rfl⟩)
          | (go_at_call 33; refine (isLong_any _ _).mono ?_; rintro e w2 ⟨rfl, rfl⟩))
        go_ret
        exact ⟨ret_int (by simp [S.attr, hm, hg, hb]), F0.out.trans F1.out (fun _ _ h => h)⟩
      · by_cases hc : 255 < o.c.size
        · go_enter Try.func25, Try.ntmps25
          go_wp2_with fail
          rw [HW.out]
          refine (KM.out _).mono ?_
          rintro e w1 ⟨rfl, hf⟩
          have F1 := hid (F1.out.trans hf (fun _ _ h => h))
          clear c0 c1 c2 c3 c4 c5 c6 c7
          obtain ⟨c0, c1, c2, c3, c4, c5, c6, c7⟩ := HC.out _ F1.out
          clear hf
          go_wp2_with (first
            | (go_at_call 32; refine (KT.out _).mono ?_; rintro e w2 ⟨rfl, rfl⟩)
            | (go_at_call 33; refine (isLong_any _ _).mono ?_; rintro e w2 ⟨rfl, rfl⟩))
          go_ret
          exact ⟨ret_int (by simp [S.attr, hm, hg, hb, hc]), F0.out.trans F1.out (fun _ _ h => h)⟩
        · cases he : o.b.toList.isEmpty with
          | true =>
            go_enter Try.func25, Try.ntmps25
            go_wp2_with fail
            rw [HW.out]
            refine (KM.out _).mono ?_
            rintro e w1 ⟨rfl, hf⟩
            have F1 := hid (F1.out.trans hf (fun _ _ h => h))
            clear c0 c1 c2 c3 c4 c5 c6 c7
            obtain ⟨c0, c1, c2, c3, c4, c5, c6, c7⟩ := HC.out _ F1.out
            clear hf
            go_wp2_with (first
              | (go_at_call 32; refine (KT.out _).mono ?_; rintro e w2 ⟨rfl, rfl⟩)
              | (go_at_call 33; refine (isLong_any _ _).mono ?_; rintro e w2 ⟨rfl, rfl⟩))
            go_ret
            exact ⟨ret_int (by simp [S.attr, hm, hg, hb, hc, he]), F0.out.trans F1.out (fun _ _ h => h)⟩
          | false =>
            by_cases hp : o.p = 0
            · cases ha : o.a.toList.isEmpty with
              | true =>
                go_enter Try.func25, Try.ntmps25
                go_wp2_with fail
                rw [HW.out]
                refine (KM.out _).mono ?_
                rintro e w1 ⟨rfl, hf⟩
                have F1 := hid (F1.out.trans hf (fun _ _ h => h))
                clear c0 c1 c2 c3 c4 c5 c6 c7
                obtain ⟨c0, c1, c2, c3, c4, c5, c6, c7⟩ := HC.out _ F1.out
                clear hf
                go_wp2_with (first
                  | (go_at_call 32; refine (KT.out _).mono ?_; rintro e w2 ⟨rfl, rfl⟩)
                  | (go_at_call 33; refine (isLong_any _ _).mono ?_; rintro e w2 ⟨rfl, rfl⟩))
                go_ret
                exact ⟨ret_int (by simp [S.attr, hm, hg, hb, hc, he, hp, ha]), F0.out.trans F1.out (fun _ _ h => h)⟩
              | false =>
                go_enter Try.func25, Try.ntmps25
                go_wp2_with fail
                rw [HW.out]
                refine (KM.out _).mono ?_
                rintro e w1 ⟨rfl, hf⟩
                have F1 := hid (F1.out.trans hf (fun _ _ h => h))
                clear c0 c1 c2 c3 c4 c5 c6 c7
                obtain ⟨c0, c1, c2, c3, c4, c5, c6, c7⟩ := HC.out _ F1.out
                clear hf
                go_wp2_with (first
                  | (go_at_call 32; refine (KT.out _).mono ?_; rintro e w2 ⟨rfl, rfl⟩)
                  | (go_at_call 33; refine (isLong_any _ _).mono ?_; rintro e w2 ⟨rfl, rfl⟩))
                go_ret
                exact ⟨ret_int (by simp [S.attr, hm, hg, hb, hc, he, hp, ha]), F0.out.trans F1.out (fun _ _ h => h)⟩
            · go_enter Try.func25, Try.ntmps25
              go_wp2_with fail
              rw [HW.out]
              refine (KM.out _).mono ?_
              rintro e w1 ⟨rfl, hf⟩
              have F1 := hid (F1.out.trans hf (fun _ _ h => h))
              clear c0 c1 c2 c3 c4 c5 c6 c7
              obtain ⟨c0, c1, c2, c3, c4, c5, c6, c7⟩ := HC.out _ F1.out
              clear hf
              go_wp2_with (first
                | (go_at_call 32; refine (KT.out _).mono ?_; rintro e w2 ⟨rfl, rfl⟩)
                | (go_at_call 33; refine (isLong_any _ _).mono ?_; rintro e w2 ⟨rfl, rfl⟩))
              go_ret
              exact ⟨ret_int (by simp [S.attr, hm, hg, hb, hc, he, hp]), F0.out.trans F1.out (fun _ _ h => h)⟩
set_option maxHeartbeats 6400000 in
theorem scheckop_any (o : S.Op) (hi : o.in64) (w : World) : Calls Try.prog 16 #[.agg o.cs] w fun e w' => e = .returned (.int .i64 (S.chk o)) ∧ Fr (fun _ => False) w w' := by
  obtain ⟨W, hW⟩ : ∃ W, w.alloc (.cells o.cs 43) = W := ⟨_, rfl⟩
  have HC := hid (fun (V : World) (hf : Fr (fun _ => False) W V) => show S.Ob V w.heap.size o from S.ob (hW ▸ Go.heap_alloc_new w (.cells o.cs 43)) hf)
  have F0 := hid (show Fr (fun _ => False) w W from hW ▸ Fr.alloc (Fr.refl _ _) _)
  have F1 := hid (Fr.refl (fun _ => False) W)
  have HW := hid hW
  clear hW
  obtain ⟨c0, c1, c2, c3, c4, c5, c6, c7⟩ := HC.out W (Fr.refl _ _)
  have KA := hid (checkMake_any o hi)
  have KB := hid (checkMove_any o hi)
  have KD := hid (checkAttr_any o hi)
  have KO := hid (scheck_any o.t o.s)
  unfold S.chk
  generalize S.make o = x1 at KA ⊢
  generalize S.move o = x2 at KB ⊢
  generalize S.attr o = x3 at KD ⊢
  clear hi
  cases ho : S.ok o.t o.s with
  | false =>
    rw [ho] at KO
    rw [if_pos rfl]
    go_enter Try.func16, Try.ntmps16
    go_wp2_with fail
    rw [HW.out]
    refine (KO.out _).mono ?_
    rintro e w1 ⟨rfl, hf⟩
    have F1 := hid (F1.out.trans hf (fun _ _ h => h))
    clear c0 c1 c2 c3 c4 c5 c6 c7
    obtain ⟨c0, c1, c2, c3, c4, c5, c6, c7⟩ := HC.out _ F1.out
    clear hf
    go_wp2_with (first
      | (go_at_call 23; refine (KA.out _).mono ?_; rintro e w2 ⟨rfl, hf⟩; have F1 := hid (F1.out.trans hf (fun _ _ h => h)); clear c0 c1 c2 c3 c4 c5 c6 c7; obtain ⟨c0, c1, c2, c3, c4, c5, c6, c7⟩ := HC.out _ F1.out; clear hf))
    go_ret
    exact ⟨rfl, F0.out.trans F1.out (fun _ _ h => h)⟩
  | true =>
    rw [ho] at KO
    rw [if_neg (by simp)]
    obtain ⟨ot, os, ok, on, op, oa, ob, oc⟩ := o
    simp only at *
    by_cases h1 : ok = 1
    · subst h1
      rw [if_pos rfl]
      go_enter Try.func16, Try.ntmps16
      go_wp2_with fail
      rw [HW.out]
      refine (KO.out _).mono ?_
      rintro e w1 ⟨rfl, hf⟩
      have F1 := hid (F1.out.trans hf (fun _ _ h => h))
      clear c0 c1 c2 c3 c4 c5 c6 c7
      obtain ⟨c0, c1, c2, c3, c4, c5, c6, c7⟩ := HC.out _ F1.out
      clear hf
      go_wp2_with (first
        | (go_at_call 23; refine (KA.out _).mono ?_; rintro e w2 ⟨rfl, hf⟩; have F1 := hid (F1.out.trans hf (fun _ _ h => h)); clear c0 c1 c2 c3 c4 c5 c6 c7; obtain ⟨c0, c1, c2, c3, c4, c5, c6, c7⟩ := HC.out _ F1.out; clear hf))
      go_ret
      exact ⟨rfl, F0.out.trans F1.out (fun _ _ h => h)⟩
    · rw [if_neg h1]
      by_cases h2 : ok = 2
      · subst h2
        rw [if_pos rfl]
        go_enter Try.func16, Try.ntmps16
        go_wp2_with fail
        rw [HW.out]
        refine (KO.out _).mono ?_
        rintro e w1 ⟨rfl, hf⟩
        have F1 := hid (F1.out.trans hf (fun _ _ h => h))
        clear c0 c1 c2 c3 c4 c5 c6 c7
        obtain ⟨c0, c1, c2, c3, c4, c5, c6, c7⟩ := HC.out _ F1.out
        clear hf
        go_wp2_with (first
          | (go_at_call 24; refine (KB.out _).mono ?_; rintro e w2 ⟨rfl, hf⟩; have F1 := hid (F1.out.trans hf (fun _ _ h => h)); clear c0 c1 c2 c3 c4 c5 c6 c7; obtain ⟨c0, c1, c2, c3, c4, c5, c6, c7⟩ := HC.out _ F1.out; clear hf))
        go_ret
        exact ⟨rfl, F0.out.trans F1.out (fun _ _ h => h)⟩
      · rw [if_neg h2]
        by_cases h3 : ok = 3
        · subst h3
          rw [if_pos rfl]
          go_enter Try.func16, Try.ntmps16
          go_wp2_with fail
          rw [HW.out]
          refine (KO.out _).mono ?_
          rintro e w1 ⟨rfl, hf⟩
          have F1 := hid (F1.out.trans hf (fun _ _ h => h))
          clear c0 c1 c2 c3 c4 c5 c6 c7
          obtain ⟨c0, c1, c2, c3, c4, c5, c6, c7⟩ := HC.out _ F1.out
          clear hf
          go_wp2_with (first
            | (go_at_call 25; refine (KD.out _).mono ?_; rintro e w2 ⟨rfl, hf⟩; have F1 := hid (F1.out.trans hf (fun _ _ h => h)); clear c0 c1 c2 c3 c4 c5 c6 c7; obtain ⟨c0, c1, c2, c3, c4, c5, c6, c7⟩ := HC.out _ F1.out; clear hf))
          go_ret
          exact ⟨rfl, F0.out.trans F1.out (fun _ _ h => h)⟩
        · rw [if_neg h3]
          go_enter Try.func16, Try.ntmps16
          go_wp2_with fail
          rw [HW.out]
          refine (KO.out _).mono ?_
          rintro e w1 ⟨rfl, hf⟩
          have F1 := hid (F1.out.trans hf (fun _ _ h => h))
          clear c0 c1 c2 c3 c4 c5 c6 c7
          obtain ⟨c0, c1, c2, c3, c4, c5, c6, c7⟩ := HC.out _ F1.out
          clear hf
          go_wp2_with (first
            | (go_at_call 25; refine (KD.out _).mono ?_; rintro e w2 ⟨rfl, hf⟩; have F1 := hid (F1.out.trans hf (fun _ _ h => h)); clear c0 c1 c2 c3 c4 c5 c6 c7; obtain ⟨c0, c1, c2, c3, c4, c5, c6, c7⟩ := HC.out _ F1.out; clear hf))
          go_ret
          exact ⟨rfl, F0.out.trans F1.out (fun _ _ h => h)⟩
end Go.Proofs.Ytedgiffnfhkonaa

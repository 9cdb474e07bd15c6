/-
  A table of rows that are handed in: restore, From.
-/
import Derived.Test.YtffjekhlloippaaYRows
namespace Go.Proofs.Ytffjekhlloippaa
open Go.RowKit Go.Maps
set_option linter.unusedVariables false
set_option linter.unusedSimpArgs false
set_option maxRecDepth 100000
namespace Y
/-- what a row that comes is told -/
def rerr (t : Tb) (x : Int × Rq) : Int :=
  if may x.1 && may x.2.1 then (if (A.get x.1 t).isSome then 5 else if 64 ≤ t.length then 6 else 0) else 1
/-- a table of these rows, or the first error -/
def from_ : Tb → List (Int × Rq) → Tb × Int
  | t, [] => (t, 0)
  | t, x :: r => if rerr t x = 0 then from_ (A.put x.1 x.2 t) r else (t, rerr t x)
theorem rerr_ok {t : Tb} {x : Int × Rq} (h : rerr t x = 0) : may x.1 = true ∧ may x.2.1 = true ∧ A.get x.1 t = none ∧ t.length < 64 := by
  unfold rerr at h
  split at h
  · rename_i hm
    rw [Bool.and_eq_true] at hm
    split at h
    · omega
    · rename_i h2
      split at h
      · omega
      · exact ⟨hm.1, hm.2, by simpa using h2, by omega⟩
  · omega
theorem rerr_cases (t : Tb) (x : Int × Rq) : rerr t x = 0 ∨ rerr t x = 1 ∨ rerr t x = 5 ∨ rerr t x = 6 := by
  unfold rerr
  split
  · split
    · exact .inr (.inr (.inl rfl))
    · split
      · exact .inr (.inr (.inr rfl))
      · exact .inl rfl
  · exact .inr (.inl rfl)
theorem Ok.more {t : Tb} (h : Ok t) {x : Int × Rq} (hx : rerr t x = 0) : Ok (A.put x.1 x.2 t) := by
  obtain ⟨h1, h2, h3, h4⟩ := rerr_ok hx
  refine ⟨h.up.put _ _, by rw [A.length_put_new h3]; omega, fun s q hg => ?_⟩
  by_cases e : s = x.1
  · subst e
    rw [A.get_put_same h.up] at hg
    cases hg
    exact ⟨h1, h2⟩
  · rw [A.get_put_other h.up e] at hg
    exact h.rng _ _ hg
theorem from_app : ∀ (l m : List (Int × Rq)) (t : Tb), (from_ t l).2 = 0 → from_ t (l ++ m) = from_ (from_ t l).1 m
  | [], m, t, h => rfl
  | x :: r, m, t, h => by
    by_cases hx : rerr t x = 0
    · rw [from_, if_pos hx] at h
      rw [List.cons_append, from_, if_pos hx, from_, if_pos hx]
      exact from_app r m _ h
    · rw [from_, if_neg hx] at h
      exact absurd h hx
end Y
set_option maxHeartbeats 6400000 in
theorem yrest_any {w : World} {p mb : Nat} {t : Y.Tb} (h : Ym w p mb t) {s : Int} (hs : (Lit.int .i64 s).wf = true) (q : Y.Rq) : Calls Try.prog 29 #[ptrY p, Y.rowv s q] w fun e w' => e = .returned (.int .i64 (Y.rerr t (s, q))) ∧ Ym w' p mb (if Y.rerr t (s, q) = 0 then A.put s q t else t) ∧ Fr (fun i => i = mb) w w' := by
  have hokm := fun h0 : Y.rerr t (s, q) = 0 => h.ok.more h0
  obtain ⟨n, x0, x1, x2, x3⟩ := q
  obtain ⟨W1, hW1⟩ : ∃ W1, w.alloc (.cells (Y.wcells s (n, x0, x1, x2, x3)) 61) = W1 := ⟨_, rfl⟩
  have f1 : Fr (fun _ => False) w W1 := by rw [← hW1]; exact Fr.alloc (Fr.refl _ _) _
  have hb1 : W1.heap[w.heap.size]? = some (.cells (Y.wcells s (n, x0, x1, x2, x3)) 61 (0, 0)) := by rw [← hW1]; exact Go.heap_alloc_new w _
  have hz1 : W1.heap.size = w.heap.size + 1 := by rw [← hW1]; simp
  obtain ⟨W2, hW2⟩ : ∃ W2, W1.alloc (.cells #[.int .i64 s, .int .i64 n] 2) = W2 := ⟨_, rfl⟩
  have f2 : Fr (fun _ => False) W1 W2 := by rw [← hW2]; exact Fr.alloc (Fr.refl _ _) _
  have hb2 : W2.heap[w.heap.size + 1]? = some (.cells #[.int .i64 s, .int .i64 n] 2 (0, 0)) := by rw [← hW2, ← hz1]; exact Go.heap_alloc_new W1 _
  have KY := hid (ymay_any (cellA (j := 0) hb2 rfl) (cellA (j := 1) hb2 rfl))
  have h2 := (h.kept f1 (fun h => h) (fun h => h)).kept f2 (fun h => h) (fun h => h)
  have HB := hid (f2.cells hb1 (fun h => h))
  have H2 := hid h2
  have F2 := hid (f1.trans f2 (fun _ _ h => h))
  have HS := hid hs
  have HOK := hid hokm
  have HW := hid (And.intro hW1 hW2)
  have hmb : mb < w.heap.size := h.map.lt
  have hp : p < w.heap.size := lt_of_row h.box
  have c0 : W1.cell? ⟨w.heap.size, 0, none⟩ = some (.int .i64 s) := cellA hb1 rfl
  have c1 : W1.cell? ⟨w.heap.size, 1, none⟩ = some (.int .i64 n) := cellA hb1 rfl
  clear h hs hokm f1 hb1 f2 hb2 h2 hz1 hW1 hW2
  cases hm : (Y.may s && Y.may n) with
  | false =>
    have he : Y.rerr t (s, (n, x0, x1, x2, x3)) = 1 := by unfold Y.rerr; rw [if_neg (by simp only [hm]; simp)]
    rw [he, if_neg (by omega)]
    rw [hm] at KY
    clear hm he HOK
    go_enter Try.func29, Try.ntmps29
    go_wp2_with fail
    rw [HW.out.1, HW.out.2]
    refine KY.out.mono ?_; rintro e wx ⟨rfl, rfl⟩; dsimp only
    go_wp2
    go_ret
    exact ⟨rfl, H2.out, F2.out.mono (fun _ _ h => h.elim)⟩
  | true =>
    rw [hm] at KY
    cases hg : A.get s t with
    | some v =>
      have he : Y.rerr t (s, (n, x0, x1, x2, x3)) = 5 := by unfold Y.rerr; rw [if_pos (by simp only [hm])]; rw [hg]; rfl
      rw [he, if_neg (by omega)]
      have LK := fun (V : World) (hV : Fr (fun _ => False) W2 V) => (H2.out.kept hV (fun h => h) (fun h => h)).look2 HS.out
      rw [hg] at LK
      simp only [Option.map_some, Option.getD_some, Option.isSome_some] at LK
      have HC := hid (fun (V : World) (hV : Fr (fun _ => False) W2 V) => And.intro (show V.cell? ⟨p, 0, none⟩ = some (.map (some mb)) from cellA (j := 0) (hV.cells H2.out.box (fun h => h)) rfl) (And.intro (show V.cell? ⟨w.heap.size, 0, none⟩ = some (.int .i64 s) from cellA (j := 0) (hV.cells HB.out (fun h => h)) rfl) (LK V hV)))
      obtain ⟨v0, v1, v2, v3, v4⟩ := v
      have HF := hid (fun (w5 : World) (f5 : Fr (fun k => k = W2.drew.heap.size) (W2.drew.alloc (.cells #[.int .i64 0, .int .i64 0, .int .i64 0, .int .i64 0, .int .i64 0, .int .i64 0] 61)) w5) => show Fr (fun _ => False) W2 w5 from (Fr.alloc (Fr.drew (Fr.refl (fun _ => False) W2)) _).trans f5 (fun i hi e => by have : W2.drew.heap.size = W2.heap.size := rfl; omega))
      clear hm he HOK hg LK
      go_enter Try.func29, Try.ntmps29
      go_wp2_with fail
      rw [HW.out.1, HW.out.2]
      refine KY.out.mono ?_; rintro e wx ⟨rfl, rfl⟩; dsimp only
      go_wp2_with fail
      have hmx : Try.prog.follows .mixedOrders = true := by kernel_rfl
      refine wp_region_held (S := fun V => Fr (fun _ => False) W2 V) hmx ?_
      have hS := (Fr.drew (Fr.refl (fun _ => False) W2))
      simp only [List.size_toArray, List.length_cons, List.length_nil, Nat.reduceAdd, Array.replicate_succ, Array.replicate_zero, List.push_toArray, List.nil_append, List.cons_append]
      refine wpAnyH_take (i := 0) (v := ?_) rfl (by kernel_rfl) (by kernel_rfl) (by kernel_rfl) (fun _ _ _ h => h) (Or.inl ⟨by kernel_rfl, ?_⟩) hS ?_
      rotate_left 1
      · (intro w' hS'; clear hS'; go_simp; try with_reducible rfl)
      simp only [List.getElem_toArray, List.getElem_cons_zero, List.getElem_cons_succ, Act.put, List.setIfInBounds_toArray, List.set_cons_zero, List.set_cons_succ]
      refine wpAnyH_take (i := 1) (v := ?_) rfl (by kernel_rfl) (by kernel_rfl) (by kernel_rfl) (fun _ _ _ h => h) (Or.inl ⟨by kernel_rfl, ?_⟩) hS ?_
      rotate_left 1
      · (intro w' hS'; clear hS'; go_simp; try with_reducible rfl)
      simp only [List.getElem_toArray, List.getElem_cons_zero, List.getElem_cons_succ, Act.put, List.setIfInBounds_toArray, List.set_cons_zero, List.set_cons_succ]
      refine wpAnyH_take (i := 2) (v := ?_) rfl (by kernel_rfl) (by kernel_rfl) (by kernel_rfl) (fun _ _ _ h => h) (Or.inl ⟨by kernel_rfl, ?_⟩) hS ?_
      rotate_left 1
      · (intro w' hS'; clear hS'; go_simp; try with_reducible rfl)
      simp only [List.getElem_toArray, List.getElem_cons_zero, List.getElem_cons_succ, Act.put, List.setIfInBounds_toArray, List.set_cons_zero, List.set_cons_succ]
      refine wpAnyH_take (i := 3) (v := ?_) rfl (by kernel_rfl) (by kernel_rfl) (by kernel_rfl) (fun _ _ _ h => h) (Or.inl ⟨by kernel_rfl, ?_⟩) hS ?_
      rotate_left 1
      · (intro w' hS'; have d1 := (HC.out w' hS').1; clear hS'; go_simp; try with_reducible rfl)
      simp only [List.getElem_toArray, List.getElem_cons_zero, List.getElem_cons_succ, Act.put, List.setIfInBounds_toArray, List.set_cons_zero, List.set_cons_succ]
      refine wpAnyH_take (i := 4) (v := ?_) rfl (by kernel_rfl) (by kernel_rfl) (by kernel_rfl) (fun _ _ _ h => h) (Or.inl ⟨by kernel_rfl, ?_⟩) hS ?_
      rotate_left 1
      · (intro w' hS'; clear hS'; go_simp; try with_reducible rfl)
      simp only [List.getElem_toArray, List.getElem_cons_zero, List.getElem_cons_succ, Act.put, List.setIfInBounds_toArray, List.set_cons_zero, List.set_cons_succ]
      refine wpAnyH_take (i := 5) (v := ?_) rfl (by kernel_rfl) (by kernel_rfl) (by kernel_rfl) (fun _ _ _ h => h) (Or.inl ⟨by kernel_rfl, ?_⟩) hS ?_
      rotate_left 1
      · (intro w' hS'; have d1 := (HC.out w' hS').2.1; clear hS'; go_simp; try with_reducible rfl)
      simp only [List.getElem_toArray, List.getElem_cons_zero, List.getElem_cons_succ, Act.put, List.setIfInBounds_toArray, List.set_cons_zero, List.set_cons_succ]
      refine wpAnyH_take (i := 6) rfl (by kernel_rfl) (by kernel_rfl) (by kernel_rfl) (fun _ _ _ h => h) (tylook (by kernel_rfl) (by exact ⟨_, _, rfl, rfl, rfl⟩) (fun w' hS' => (HC.out w' hS').2.2)) hS ?_
      simp only [List.getElem_toArray, List.getElem_cons_zero, List.getElem_cons_succ, Act.put, List.setIfInBounds_toArray, List.set_cons_zero, List.set_cons_succ]
      refine wpAnyH_take (i := 7) (v := ?_) rfl (by kernel_rfl) (by kernel_rfl) (by kernel_rfl) (fun _ _ _ h => h) (Or.inl ⟨by kernel_rfl, ?_⟩) hS ?_
      rotate_left 1
      · (intro w' hS'; clear hS'; go_simp; try with_reducible rfl)
      simp only [List.getElem_toArray, List.getElem_cons_zero, List.getElem_cons_succ, Act.put, List.setIfInBounds_toArray, List.set_cons_zero, List.set_cons_succ]
      refine wpAnyH_take (i := 8) (v := ?_) rfl (by kernel_rfl) (by kernel_rfl) (by kernel_rfl) (fun _ _ _ h => h) (Or.inl ⟨by kernel_rfl, ?_⟩) hS ?_
      rotate_left 1
      · (intro w' hS'; clear hS'; go_simp; try with_reducible rfl)
      simp only [List.getElem_toArray, List.getElem_cons_zero, List.getElem_cons_succ, Act.put, List.setIfInBounds_toArray, List.set_cons_zero, List.set_cons_succ]
      refine wpAnyH_take (i := 9) (v := ?_) rfl (by kernel_rfl) (by kernel_rfl) (by kernel_rfl) (fun _ _ _ h => h) (Or.inl ⟨by kernel_rfl, ?_⟩) hS ?_
      rotate_left 1
      · (intro w' hS'; clear hS'; go_simp; try with_reducible rfl)
      simp only [List.getElem_toArray, List.getElem_cons_zero, List.getElem_cons_succ, Act.put, List.setIfInBounds_toArray, List.set_cons_zero, List.set_cons_succ]
      refine wpAnyH_ready (rs := [10]) (by kernel_rfl) (by simp) ?_
      refine AllReadyH.cons rfl (fun K1 hK1 => ?_) (AllReadyH.nil)
      go_simp
      refine hK1.out _ _ (Fr.alloc hS _) (fun hS => ?_)
      clear hK1 K1
      simp only [List.getElem_toArray, List.getElem_cons_zero, List.getElem_cons_succ, Act.put, List.setIfInBounds_toArray, List.set_cons_zero, List.set_cons_succ]
      refine wpAnyH_ready (rs := [11]) (by kernel_rfl) (by simp) ?_
      refine AllReadyH.cons rfl (fun K1 hK1 => ?_) (AllReadyH.nil)
      obtain ⟨w5, st, hb5, f5⟩ := box_whole (V := W2.drew.alloc (.cells #[.int .i64 0, .int .i64 0, .int .i64 0, .int .i64 0, .int .i64 0, .int .i64 0] 61)) (ty := 61) (z := #[.int .i64 0, .int .i64 0, .int .i64 0, .int .i64 0, .int .i64 0, .int .i64 0]) (c := (Y.wcells s (v0, v1, v2, v3, v4))) (Go.heap_alloc_new _ _) rfl (by kernel_rfl) (by simp [Value.oneCell'])
      refine tstep_store (by kernel_rfl) st (by exact ⟨_, _, rfl, rfl, rfl⟩) ?_
      refine hK1.out _ _ (HF.out w5 f5) (fun hS => ?_)
      clear hK1 K1
      simp only [List.getElem_toArray, List.getElem_cons_zero, List.getElem_cons_succ, Act.put, List.setIfInBounds_toArray, List.set_cons_zero, List.set_cons_succ]
      refine wpAnyH_take (i := 12) (v := ?_) rfl (by kernel_rfl) (by kernel_rfl) (by kernel_rfl) (fun _ _ _ h => h) (Or.inl ⟨by kernel_rfl, ?_⟩) hS ?_
      rotate_left 1
      · (intro w' hS'; clear hS'; go_simp; try with_reducible rfl)
      simp only [List.getElem_toArray, List.getElem_cons_zero, List.getElem_cons_succ, Act.put, List.setIfInBounds_toArray, List.set_cons_zero, List.set_cons_succ]
      refine wpAnyH_done (by kernel_rfl) ?_ _
      have F5 := hid hS
      clear hS
      go_wp2
      go_ret
      exact ⟨rfl, H2.out.kept F5.out (fun h => h) (fun h => h), (F2.out.trans F5.out (fun _ _ h => h)).mono (fun _ _ h => h.elim)⟩
    | none =>
      have LK := fun (V : World) (hV : Fr (fun _ => False) W2 V) => (H2.out.kept hV (fun h => h) (fun h => h)).look2 HS.out
      rw [hg] at LK
      simp only [Option.map_none, Option.getD_none, Option.isSome_none] at LK
      have HC := hid (fun (V : World) (hV : Fr (fun _ => False) W2 V) => And.intro (show V.cell? ⟨p, 0, none⟩ = some (.map (some mb)) from cellA (j := 0) (hV.cells H2.out.box (fun h => h)) rfl) (And.intro (show V.cell? ⟨w.heap.size, 0, none⟩ = some (.int .i64 s) from cellA (j := 0) (hV.cells HB.out (fun h => h)) rfl) (LK V hV)))
      have HF := hid (fun (w5 : World) (f5 : Fr (fun k => k = W2.drew.heap.size) (W2.drew.alloc (.cells #[.int .i64 0, .int .i64 0, .int .i64 0, .int .i64 0, .int .i64 0, .int .i64 0] 61)) w5) => show Fr (fun _ => False) W2 w5 from (Fr.alloc (Fr.drew (Fr.refl (fun _ => False) W2)) _).trans f5 (fun i hi e => by have : W2.drew.heap.size = W2.heap.size := rfl; omega))
      have KF := hid (fun (V : World) (hV : Fr (fun _ => False) W2 V) => yfull_any (H2.out.kept hV (fun h => h) (fun h => h)))
      by_cases hfu : 64 ≤ t.length
      · have he : Y.rerr t (s, (n, x0, x1, x2, x3)) = 6 := by unfold Y.rerr; rw [if_pos (by simp only [hm])]; rw [hg]; simp [hfu]
        rw [he, if_neg (by omega)]
        rw [decide_eq_true hfu] at KF
        clear hm he HOK hg LK hfu
        go_enter Try.func29, Try.ntmps29
        go_wp2_with fail
        rw [HW.out.1, HW.out.2]
        refine KY.out.mono ?_; rintro e wx ⟨rfl, rfl⟩; dsimp only
        go_wp2_with fail
        have hmx : Try.prog.follows .mixedOrders = true := by kernel_rfl
        refine wp_region_held (S := fun V => Fr (fun _ => False) W2 V) hmx ?_
        have hS := (Fr.drew (Fr.refl (fun _ => False) W2))
        simp only [List.size_toArray, List.length_cons, List.length_nil, Nat.reduceAdd, Array.replicate_succ, Array.replicate_zero, List.push_toArray, List.nil_append, List.cons_append]
        refine wpAnyH_take (i := 0) (v := ?_) rfl (by kernel_rfl) (by kernel_rfl) (by kernel_rfl) (fun _ _ _ h => h) (Or.inl ⟨by kernel_rfl, ?_⟩) hS ?_
        rotate_left 1
        · (intro w' hS'; clear hS'; go_simp; try with_reducible rfl)
        simp only [List.getElem_toArray, List.getElem_cons_zero, List.getElem_cons_succ, Act.put, List.setIfInBounds_toArray, List.set_cons_zero, List.set_cons_succ]
        refine wpAnyH_take (i := 1) (v := ?_) rfl (by kernel_rfl) (by kernel_rfl) (by kernel_rfl) (fun _ _ _ h => h) (Or.inl ⟨by kernel_rfl, ?_⟩) hS ?_
        rotate_left 1
        · (intro w' hS'; clear hS'; go_simp; try with_reducible rfl)
        simp only [List.getElem_toArray, List.getElem_cons_zero, List.getElem_cons_succ, Act.put, List.setIfInBounds_toArray, List.set_cons_zero, List.set_cons_succ]
        refine wpAnyH_take (i := 2) (v := ?_) rfl (by kernel_rfl) (by kernel_rfl) (by kernel_rfl) (fun _ _ _ h => h) (Or.inl ⟨by kernel_rfl, ?_⟩) hS ?_
        rotate_left 1
        · (intro w' hS'; clear hS'; go_simp; try with_reducible rfl)
        simp only [List.getElem_toArray, List.getElem_cons_zero, List.getElem_cons_succ, Act.put, List.setIfInBounds_toArray, List.set_cons_zero, List.set_cons_succ]
        refine wpAnyH_take (i := 3) (v := ?_) rfl (by kernel_rfl) (by kernel_rfl) (by kernel_rfl) (fun _ _ _ h => h) (Or.inl ⟨by kernel_rfl, ?_⟩) hS ?_
        rotate_left 1
        · (intro w' hS'; have d1 := (HC.out w' hS').1; clear hS'; go_simp; try with_reducible rfl)
        simp only [List.getElem_toArray, List.getElem_cons_zero, List.getElem_cons_succ, Act.put, List.setIfInBounds_toArray, List.set_cons_zero, List.set_cons_succ]
        refine wpAnyH_take (i := 4) (v := ?_) rfl (by kernel_rfl) (by kernel_rfl) (by kernel_rfl) (fun _ _ _ h => h) (Or.inl ⟨by kernel_rfl, ?_⟩) hS ?_
        rotate_left 1
        · (intro w' hS'; clear hS'; go_simp; try with_reducible rfl)
        simp only [List.getElem_toArray, List.getElem_cons_zero, List.getElem_cons_succ, Act.put, List.setIfInBounds_toArray, List.set_cons_zero, List.set_cons_succ]
        refine wpAnyH_take (i := 5) (v := ?_) rfl (by kernel_rfl) (by kernel_rfl) (by kernel_rfl) (fun _ _ _ h => h) (Or.inl ⟨by kernel_rfl, ?_⟩) hS ?_
        rotate_left 1
        · (intro w' hS'; have d1 := (HC.out w' hS').2.1; clear hS'; go_simp; try with_reducible rfl)
        simp only [List.getElem_toArray, List.getElem_cons_zero, List.getElem_cons_succ, Act.put, List.setIfInBounds_toArray, List.set_cons_zero, List.set_cons_succ]
        refine wpAnyH_take (i := 6) rfl (by kernel_rfl) (by kernel_rfl) (by kernel_rfl) (fun _ _ _ h => h) (tylook (by kernel_rfl) (by exact ⟨_, _, rfl, rfl, rfl⟩) (fun w' hS' => (HC.out w' hS').2.2)) hS ?_
        simp only [List.getElem_toArray, List.getElem_cons_zero, List.getElem_cons_succ, Act.put, List.setIfInBounds_toArray, List.set_cons_zero, List.set_cons_succ]
        refine wpAnyH_take (i := 7) (v := ?_) rfl (by kernel_rfl) (by kernel_rfl) (by kernel_rfl) (fun _ _ _ h => h) (Or.inl ⟨by kernel_rfl, ?_⟩) hS ?_
        rotate_left 1
        · (intro w' hS'; clear hS'; go_simp; try with_reducible rfl)
        simp only [List.getElem_toArray, List.getElem_cons_zero, List.getElem_cons_succ, Act.put, List.setIfInBounds_toArray, List.set_cons_zero, List.set_cons_succ]
        refine wpAnyH_take (i := 8) (v := ?_) rfl (by kernel_rfl) (by kernel_rfl) (by kernel_rfl) (fun _ _ _ h => h) (Or.inl ⟨by kernel_rfl, ?_⟩) hS ?_
        rotate_left 1
        · (intro w' hS'; clear hS'; go_simp; try with_reducible rfl)
        simp only [List.getElem_toArray, List.getElem_cons_zero, List.getElem_cons_succ, Act.put, List.setIfInBounds_toArray, List.set_cons_zero, List.set_cons_succ]
        refine wpAnyH_take (i := 9) (v := ?_) rfl (by kernel_rfl) (by kernel_rfl) (by kernel_rfl) (fun _ _ _ h => h) (Or.inl ⟨by kernel_rfl, ?_⟩) hS ?_
        rotate_left 1
        · (intro w' hS'; clear hS'; go_simp; try with_reducible rfl)
        simp only [List.getElem_toArray, List.getElem_cons_zero, List.getElem_cons_succ, Act.put, List.setIfInBounds_toArray, List.set_cons_zero, List.set_cons_succ]
        refine wpAnyH_ready (rs := [10]) (by kernel_rfl) (by simp) ?_
        refine AllReadyH.cons rfl (fun K1 hK1 => ?_) (AllReadyH.nil)
        go_simp
        refine hK1.out _ _ (Fr.alloc hS _) (fun hS => ?_)
        clear hK1 K1
        simp only [List.getElem_toArray, List.getElem_cons_zero, List.getElem_cons_succ, Act.put, List.setIfInBounds_toArray, List.set_cons_zero, List.set_cons_succ]
        refine wpAnyH_ready (rs := [11]) (by kernel_rfl) (by simp) ?_
        refine AllReadyH.cons rfl (fun K1 hK1 => ?_) (AllReadyH.nil)
        obtain ⟨w5, st, hb5, f5⟩ := box_whole (V := W2.drew.alloc (.cells #[.int .i64 0, .int .i64 0, .int .i64 0, .int .i64 0, .int .i64 0, .int .i64 0] 61)) (ty := 61) (z := #[.int .i64 0, .int .i64 0, .int .i64 0, .int .i64 0, .int .i64 0, .int .i64 0]) (c := #[.int .i64 0, .int .i64 0, .int .i64 0, .int .i64 0, .int .i64 0, .int .i64 0]) (Go.heap_alloc_new _ _) rfl (by kernel_rfl) (by simp [Value.oneCell'])
        refine tstep_store (by kernel_rfl) st (by exact ⟨_, _, rfl, rfl, rfl⟩) ?_
        refine hK1.out _ _ (HF.out w5 f5) (fun hS => ?_)
        clear hK1 K1
        simp only [List.getElem_toArray, List.getElem_cons_zero, List.getElem_cons_succ, Act.put, List.setIfInBounds_toArray, List.set_cons_zero, List.set_cons_succ]
        refine wpAnyH_take (i := 12) (v := ?_) rfl (by kernel_rfl) (by kernel_rfl) (by kernel_rfl) (fun _ _ _ h => h) (Or.inl ⟨by kernel_rfl, ?_⟩) hS ?_
        rotate_left 1
        · (intro w' hS'; clear hS'; go_simp; try with_reducible rfl)
        simp only [List.getElem_toArray, List.getElem_cons_zero, List.getElem_cons_succ, Act.put, List.setIfInBounds_toArray, List.set_cons_zero, List.set_cons_succ]
        refine wpAnyH_done (by kernel_rfl) ?_ _
        have F5 := hid hS
        clear hS
        go_wp2_with (first | (go_at_call 35; refine (KF.out _ F5.out).mono ?_; rintro e wx ⟨rfl, rfl⟩))
        go_ret
        exact ⟨rfl, H2.out.kept F5.out (fun h => h) (fun h => h), (F2.out.trans F5.out (fun _ _ h => h)).mono (fun _ _ h => h.elim)⟩
      · have he : Y.rerr t (s, (n, x0, x1, x2, x3)) = 0 := by unfold Y.rerr; rw [if_pos (by simp only [hm])]; rw [hg]; simp [hfu]
        rw [he, if_pos rfl]
        rw [decide_eq_false hfu] at KF
        have HOK2 := hid (HOK.out he)
        clear hm he HOK hg LK hfu
        go_enter Try.func29, Try.ntmps29
        go_wp2_with fail
        rw [HW.out.1, HW.out.2]
        refine KY.out.mono ?_; rintro e wx ⟨rfl, rfl⟩; dsimp only
        go_wp2_with fail
        have hmx : Try.prog.follows .mixedOrders = true := by kernel_rfl
        refine wp_region_held (S := fun V => Fr (fun _ => False) W2 V) hmx ?_
        have hS := (Fr.drew (Fr.refl (fun _ => False) W2))
        simp only [List.size_toArray, List.length_cons, List.length_nil, Nat.reduceAdd, Array.replicate_succ, Array.replicate_zero, List.push_toArray, List.nil_append, List.cons_append]
        refine wpAnyH_take (i := 0) (v := ?_) rfl (by kernel_rfl) (by kernel_rfl) (by kernel_rfl) (fun _ _ _ h => h) (Or.inl ⟨by kernel_rfl, ?_⟩) hS ?_
        rotate_left 1
        · (intro w' hS'; clear hS'; go_simp; try with_reducible rfl)
        simp only [List.getElem_toArray, List.getElem_cons_zero, List.getElem_cons_succ, Act.put, List.setIfInBounds_toArray, List.set_cons_zero, List.set_cons_succ]
        refine wpAnyH_take (i := 1) (v := ?_) rfl (by kernel_rfl) (by kernel_rfl) (by kernel_rfl) (fun _ _ _ h => h) (Or.inl ⟨by kernel_rfl, ?_⟩) hS ?_
        rotate_left 1
        · (intro w' hS'; clear hS'; go_simp; try with_reducible rfl)
        simp only [List.getElem_toArray, List.getElem_cons_zero, List.getElem_cons_succ, Act.put, List.setIfInBounds_toArray, List.set_cons_zero, List.set_cons_succ]
        refine wpAnyH_take (i := 2) (v := ?_) rfl (by kernel_rfl) (by kernel_rfl) (by kernel_rfl) (fun _ _ _ h => h) (Or.inl ⟨by kernel_rfl, ?_⟩) hS ?_
        rotate_left 1
        · (intro w' hS'; clear hS'; go_simp; try with_reducible rfl)
        simp only [List.getElem_toArray, List.getElem_cons_zero, List.getElem_cons_succ, Act.put, List.setIfInBounds_toArray, List.set_cons_zero, List.set_cons_succ]
        refine wpAnyH_take (i := 3) (v := ?_) rfl (by kernel_rfl) (by kernel_rfl) (by kernel_rfl) (fun _ _ _ h => h) (Or.inl ⟨by kernel_rfl, ?_⟩) hS ?_
        rotate_left 1
        · (intro w' hS'; have d1 := (HC.out w' hS').1; clear hS'; go_simp; try with_reducible rfl)
        simp only [List.getElem_toArray, List.getElem_cons_zero, List.getElem_cons_succ, Act.put, List.setIfInBounds_toArray, List.set_cons_zero, List.set_cons_succ]
        refine wpAnyH_take (i := 4) (v := ?_) rfl (by kernel_rfl) (by kernel_rfl) (by kernel_rfl) (fun _ _ _ h => h) (Or.inl ⟨by kernel_rfl, ?_⟩) hS ?_
        rotate_left 1
        · (intro w' hS'; clear hS'; go_simp; try with_reducible rfl)
        simp only [List.getElem_toArray, List.getElem_cons_zero, List.getElem_cons_succ, Act.put, List.setIfInBounds_toArray, List.set_cons_zero, List.set_cons_succ]
        refine wpAnyH_take (i := 5) (v := ?_) rfl (by kernel_rfl) (by kernel_rfl) (by kernel_rfl) (fun _ _ _ h => h) (Or.inl ⟨by kernel_rfl, ?_⟩) hS ?_
        rotate_left 1
        · (intro w' hS'; have d1 := (HC.out w' hS').2.1; clear hS'; go_simp; try with_reducible rfl)
        simp only [List.getElem_toArray, List.getElem_cons_zero, List.getElem_cons_succ, Act.put, List.setIfInBounds_toArray, List.set_cons_zero, List.set_cons_succ]
        refine wpAnyH_take (i := 6) rfl (by kernel_rfl) (by kernel_rfl) (by kernel_rfl) (fun _ _ _ h => h) (tylook (by kernel_rfl) (by exact ⟨_, _, rfl, rfl, rfl⟩) (fun w' hS' => (HC.out w' hS').2.2)) hS ?_
        simp only [List.getElem_toArray, List.getElem_cons_zero, List.getElem_cons_succ, Act.put, List.setIfInBounds_toArray, List.set_cons_zero, List.set_cons_succ]
        refine wpAnyH_take (i := 7) (v := ?_) rfl (by kernel_rfl) (by kernel_rfl) (by kernel_rfl) (fun _ _ _ h => h) (Or.inl ⟨by kernel_rfl, ?_⟩) hS ?_
        rotate_left 1
        · (intro w' hS'; clear hS'; go_simp; try with_reducible rfl)
        simp only [List.getElem_toArray, List.getElem_cons_zero, List.getElem_cons_succ, Act.put, List.setIfInBounds_toArray, List.set_cons_zero, List.set_cons_succ]
        refine wpAnyH_take (i := 8) (v := ?_) rfl (by kernel_rfl) (by kernel_rfl) (by kernel_rfl) (fun _ _ _ h => h) (Or.inl ⟨by kernel_rfl, ?_⟩) hS ?_
        rotate_left 1
        · (intro w' hS'; clear hS'; go_simp; try with_reducible rfl)
        simp only [List.getElem_toArray, List.getElem_cons_zero, List.getElem_cons_succ, Act.put, List.setIfInBounds_toArray, List.set_cons_zero, List.set_cons_succ]
        refine wpAnyH_take (i := 9) (v := ?_) rfl (by kernel_rfl) (by kernel_rfl) (by kernel_rfl) (fun _ _ _ h => h) (Or.inl ⟨by kernel_rfl, ?_⟩) hS ?_
        rotate_left 1
        · (intro w' hS'; clear hS'; go_simp; try with_reducible rfl)
        simp only [List.getElem_toArray, List.getElem_cons_zero, List.getElem_cons_succ, Act.put, List.setIfInBounds_toArray, List.set_cons_zero, List.set_cons_succ]
        refine wpAnyH_ready (rs := [10]) (by kernel_rfl) (by simp) ?_
        refine AllReadyH.cons rfl (fun K1 hK1 => ?_) (AllReadyH.nil)
        go_simp
        refine hK1.out _ _ (Fr.alloc hS _) (fun hS => ?_)
        clear hK1 K1
        simp only [List.getElem_toArray, List.getElem_cons_zero, List.getElem_cons_succ, Act.put, List.setIfInBounds_toArray, List.set_cons_zero, List.set_cons_succ]
        refine wpAnyH_ready (rs := [11]) (by kernel_rfl) (by simp) ?_
        refine AllReadyH.cons rfl (fun K1 hK1 => ?_) (AllReadyH.nil)
        obtain ⟨w5, st, hb5, f5⟩ := box_whole (V := W2.drew.alloc (.cells #[.int .i64 0, .int .i64 0, .int .i64 0, .int .i64 0, .int .i64 0, .int .i64 0] 61)) (ty := 61) (z := #[.int .i64 0, .int .i64 0, .int .i64 0, .int .i64 0, .int .i64 0, .int .i64 0]) (c := #[.int .i64 0, .int .i64 0, .int .i64 0, .int .i64 0, .int .i64 0, .int .i64 0]) (Go.heap_alloc_new _ _) rfl (by kernel_rfl) (by simp [Value.oneCell'])
        refine tstep_store (by kernel_rfl) st (by exact ⟨_, _, rfl, rfl, rfl⟩) ?_
        refine hK1.out _ _ (HF.out w5 f5) (fun hS => ?_)
        clear hK1 K1
        simp only [List.getElem_toArray, List.getElem_cons_zero, List.getElem_cons_succ, Act.put, List.setIfInBounds_toArray, List.set_cons_zero, List.set_cons_succ]
        refine wpAnyH_take (i := 12) (v := ?_) rfl (by kernel_rfl) (by kernel_rfl) (by kernel_rfl) (fun _ _ _ h => h) (Or.inl ⟨by kernel_rfl, ?_⟩) hS ?_
        rotate_left 1
        · (intro w' hS'; clear hS'; go_simp; try with_reducible rfl)
        simp only [List.getElem_toArray, List.getElem_cons_zero, List.getElem_cons_succ, Act.put, List.setIfInBounds_toArray, List.set_cons_zero, List.set_cons_succ]
        refine wpAnyH_done (by kernel_rfl) ?_ _
        have F5 := hid hS
        clear hS
        go_wp2_with (first | (go_at_call 35; refine (KF.out _ F5.out).mono ?_; rintro e wx ⟨rfl, rfl⟩))
        have F5' := F5
        generalize w5 = W3 at *
        have h5 := H2.out.kept F5.out (fun h => h) (fun h => h)
        obtain ⟨w7, rs, m7, fs⟩ := (h5.kept (S := fun _ => False) (Fr.drew (Fr.refl _ W3)) (fun h => h) (fun h => h)).store HS.out (n, x0, x1, x2, x3) HOK2.out
        have HC3 := hid (fun (V : World) (hV : Fr (fun i => i = mb) W3 V) => show V.cell? ⟨p, 0, none⟩ = some (.map (some mb)) ∧ V.cell? ⟨w.heap.size, 0, none⟩ = some (.int .i64 s) ∧ (Instr.loadAt 61 (.pointer (some ⟨w.heap.size, 0, none⟩))).run Try.prog V = .ok (.agg #[.int .i64 s, .int .i64 n, .int .i64 x0, .int .i64 x1, .int .i64 x2, .int .i64 x3]) V from
          ⟨cellA (j := 0) (hV.cells h5.box h5.ne) rfl, cellA (j := 0) (hV.cells (F5.out.cells HB.out (fun h => h)) (by omega)) rfl, load_whole (hV.cells (F5.out.cells HB.out (fun h => h)) (by omega)) Try.underlying61 rfl (by kernel_rfl)⟩)
        have RS := hid rs
        have FS := hid fs
        have M7 := hid m7
        clear h5 rs fs m7
        have hmx : Try.prog.follows .mixedOrders = true := by kernel_rfl
        refine wp_region_held (S := fun V => Fr (fun i => i = mb) W3 V) hmx ?_
        have hS := (Fr.drew (Fr.refl (fun i => i = mb) W3))
        simp only [List.size_toArray, List.length_cons, List.length_nil, Nat.reduceAdd, Array.replicate_succ, Array.replicate_zero, List.push_toArray, List.nil_append, List.cons_append]
        refine wpAnyH_take (i := 0) (v := ?_) rfl (by kernel_rfl) (by kernel_rfl) (by kernel_rfl) (fun _ _ _ h => h) (Or.inl ⟨by kernel_rfl, ?_⟩) hS ?_
        rotate_left 1
        · (intro w' hS'; clear hS'; go_simp; try with_reducible rfl)
        simp only [List.getElem_toArray, List.getElem_cons_zero, List.getElem_cons_succ, Act.put, List.setIfInBounds_toArray, List.set_cons_zero, List.set_cons_succ]
        refine wpAnyH_take (i := 1) (v := ?_) rfl (by kernel_rfl) (by kernel_rfl) (by kernel_rfl) (fun _ _ _ h => h) (Or.inl ⟨by kernel_rfl, ?_⟩) hS ?_
        rotate_left 1
        · (intro w' hS'; clear hS'; go_simp; try with_reducible rfl)
        simp only [List.getElem_toArray, List.getElem_cons_zero, List.getElem_cons_succ, Act.put, List.setIfInBounds_toArray, List.set_cons_zero, List.set_cons_succ]
        refine wpAnyH_take (i := 2) (v := ?_) rfl (by kernel_rfl) (by kernel_rfl) (by kernel_rfl) (fun _ _ _ h => h) (Or.inl ⟨by kernel_rfl, ?_⟩) hS ?_
        rotate_left 1
        · (intro w' hS'; clear hS'; go_simp; try with_reducible rfl)
        simp only [List.getElem_toArray, List.getElem_cons_zero, List.getElem_cons_succ, Act.put, List.setIfInBounds_toArray, List.set_cons_zero, List.set_cons_succ]
        refine wpAnyH_take (i := 3) (v := ?_) rfl (by kernel_rfl) (by kernel_rfl) (by kernel_rfl) (fun _ _ _ h => h) (Or.inl ⟨by kernel_rfl, ?_⟩) hS ?_
        rotate_left 1
        · (intro w' hS'; have d1 := (HC3.out w' hS').1; clear hS'; go_simp; try with_reducible rfl)
        simp only [List.getElem_toArray, List.getElem_cons_zero, List.getElem_cons_succ, Act.put, List.setIfInBounds_toArray, List.set_cons_zero, List.set_cons_succ]
        refine wpAnyH_take (i := 4) (v := ?_) rfl (by kernel_rfl) (by kernel_rfl) (by kernel_rfl) (fun _ _ _ h => h) (Or.inl ⟨by kernel_rfl, ?_⟩) hS ?_
        rotate_left 1
        · (intro w' hS'; clear hS'; go_simp; try with_reducible rfl)
        simp only [List.getElem_toArray, List.getElem_cons_zero, List.getElem_cons_succ, Act.put, List.setIfInBounds_toArray, List.set_cons_zero, List.set_cons_succ]
        refine wpAnyH_take (i := 5) (v := ?_) rfl (by kernel_rfl) (by kernel_rfl) (by kernel_rfl) (fun _ _ _ h => h) (Or.inl ⟨by kernel_rfl, ?_⟩) hS ?_
        rotate_left 1
        · (intro w' hS'; have d1 := (HC3.out w' hS').2.1; clear hS'; go_simp; try with_reducible rfl)
        simp only [List.getElem_toArray, List.getElem_cons_zero, List.getElem_cons_succ, Act.put, List.setIfInBounds_toArray, List.set_cons_zero, List.set_cons_succ]
        refine wpAnyH_take (i := 6) rfl (by kernel_rfl) (by kernel_rfl) (by kernel_rfl) (fun _ _ _ h => h) (tyload (by kernel_rfl) (by exact ⟨_, rfl, rfl⟩) (fun w' hS' => (HC3.out w' hS').2.2)) hS ?_
        simp only [List.getElem_toArray, List.getElem_cons_zero, List.getElem_cons_succ, Act.put, List.setIfInBounds_toArray, List.set_cons_zero, List.set_cons_succ]
        refine wpAnyH_ready (rs := [7]) (by kernel_rfl) (by simp) ?_
        refine AllReadyH.cons rfl (fun K1 hK1 => ?_) (AllReadyH.nil)
        refine tstep_upd (by kernel_rfl) RS.out (by exact ⟨_, _, _, rfl, rfl, rfl, rfl⟩) ?_
        refine hK1.out _ _ (hS.trans FS.out (fun _ _ h => h)) (fun hS => ?_)
        clear hK1 K1
        simp only [List.getElem_toArray, List.getElem_cons_zero, List.getElem_cons_succ, Act.put, List.setIfInBounds_toArray, List.set_cons_zero, List.set_cons_succ]
        refine wpAnyH_done (by kernel_rfl) ?_ _
        have FIN := hid (show Fr (fun i => i = mb) w w7 from ((F2.out.trans F5.out (fun _ _ h => h)).mono (T := fun i => i = mb) (fun _ _ h => h.elim)).trans ((Fr.drew (Fr.refl (fun i => i = mb) W3)).trans FS.out (fun _ _ h => h)) (fun _ _ h => h))
        clear hS
        go_wp2
        go_ret
        exact ⟨rfl, M7.out, FIN.out⟩
end Go.Proofs.Ytffjekhlloippaa

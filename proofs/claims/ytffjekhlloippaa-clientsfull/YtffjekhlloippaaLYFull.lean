/-
  ClientsFull's walk.
-/
import Derived.Test.YtffjekhlloippaaYLive
namespace Go.Proofs.Ytffjekhlloippaa
open Go.RowKit Go.Maps
set_option linter.unusedVariables false
set_option linter.unusedSimpArgs false
set_option maxRecDepth 100000
namespace Y
/-- k sessions from the first one on, each with its first request -/
structure Fu (f : Int) (r : Rp) (k : Nat) (t : Tb) : Prop where
  ok : Ok t
  len : t.length = k
  get : ∀ s, A.get s t = if f ≤ s ∧ s < f + k then some (1, r) else none
theorem Fu.jud {f : Int} {r : Rp} {k : Nat} {t : Tb} (h : Fu f r k t) (h1 : 1 ≤ f) (h2 : f + k ≤ 1099511627776) : judge t (f + k) 1 = if 64 ≤ k then 5 else 1 := by
  unfold Y.judge
  have m1 : may (f + k) = true := may_iff.2 ⟨by omega, h2⟩
  have m2 : may 1 = true := by decide
  have hn : A.get (f + k) t = none := by rw [h.get, if_neg (by omega)]
  rw [m1, m2, hn, h.len]
  rfl
theorem Fu.more {f : Int} {r : Rp} {k : Nat} {t : Tb} (h : Fu f r k t) (h1 : 1 ≤ f) (h2 : f + k ≤ 1099511627776) (hk : k < 64) : Fu f r (k + 1) (put t (f + k) 1 r) := by
  have hj := h.jud h1 h2
  rw [if_neg (by omega)] at hj
  have hok := h.ok.put (f + k) 1 r
  unfold Y.put at hok ⊢
  rw [if_pos hj] at hok ⊢
  have hn : A.get (f + k) t = none := by rw [h.get, if_neg (by omega)]
  refine ⟨hok, by rw [A.length_put_new hn, h.len], fun s => ?_⟩
  by_cases e : s = f + k
  · subst e
    rw [A.get_put_same h.ok.up, if_pos (by omega)]
  · rw [A.get_put_other h.ok.up e, h.get]
    by_cases e2 : f ≤ s ∧ s < f + k
    · rw [if_pos e2, if_pos (by omega)]
    · rw [if_neg e2, if_neg (by omega)]
theorem Fu.jud2 {f : Int} {r : Rp} {t : Tb} (h : Fu f r 64 t) (h1 : 1 ≤ f) (h2 : f ≤ 1099511627776) : judge t f 2 = 1 := by
  unfold Y.judge
  have m1 : may f = true := may_iff.2 ⟨h1, h2⟩
  have m2 : may 2 = true := by decide
  have hn : A.get f t = some (1, r) := by rw [h.get, if_pos (by omega)]
  rw [m1, m2, hn]
  rfl
theorem Fu.len2 {f : Int} {r : Rp} {t : Tb} (h : Fu f r 64 t) (h1 : 1 ≤ f) (h2 : f ≤ 1099511627776) : (put t f 2 r).length = 64 := by
  unfold Y.put
  rw [if_pos (h.jud2 h1 h2), A.length_put_same h.ok.up (v := (1, r)) (by rw [h.get, if_pos (by omega)]), h.len]
end Y
set_option maxHeartbeats 8000000 in
theorem clientsFull_walk (w : World) (f : Int) (hf0 : (Lit.int .i64 f).wf = true) (rp : Y.Rp) :
    Calls Try.prog 6 #[.int .i64 f, Y.rpv rp] w fun e w' => e = .returned (.bool true) ∧ Fr (fun _ => False) w w' := by
  obtain ⟨r0, r1, r2, r3⟩ := rp
  have KN := hid (fun (W : World) => ynew_any W)
  have KL := hid (fun (W : World) => ylive_any W)
  have F0 := hid (show Fr (fun _ => False) w (w.alloc (.cells (Y.rcells (r0, r1, r2, r3)) 34)) from Fr.alloc (Fr.refl _ _) _)
  have HB := hid (Go.heap_alloc_new w (.cells (Y.rcells (r0, r1, r2, r3)) 34 (0, 0)))
  by_cases hr : 1 ≤ f ∧ f ≤ 1099511627712
  · obtain ⟨hr1, hr2⟩ := hr
    have n1 : ¬ f < 1 := by omega
    have n2 : ¬ 1099511627712 < f := by omega
    go_enter Try.func6, Try.ntmps6
    go_wp2_with fail
    refine (KN.out _).mono ?_
    rintro e w1 ⟨rfl, hm1, hf1⟩
    have hs1 := hf1.size
    have hs0 : (w.alloc (.cells (Y.rcells (r0, r1, r2, r3)) 34)).heap.size = w.heap.size + 1 := World.size_alloc _ _
    have HB1 := hid (hf1.cells HB.out (fun h => h))
    generalize hp : (w.alloc (.cells (Y.rcells (r0, r1, r2, r3)) 34)).heap.size + 1 = p at hm1 ⊢
    generalize hmb : (w.alloc (.cells (Y.rcells (r0, r1, r2, r3)) 34)).heap.size = mb at hm1
    have HMB := hid (show w.heap.size < mb by omega)
    have F1 := hid (F0.out.trans hf1 (fun _ _ h => h))
    have HM1 := hid hm1
    clear hf1 hs1 hm1 hp hmb hs0
    dsimp only
    go_wp2_with fail
    refine (KL.out _).mono ?_
    rintro e w2 ⟨rfl, hf2⟩
    have HS := hid (show Fr (fun _ => False) w w2 ∧ w2.heap[w.heap.size]? = some (.cells (Y.rcells (r0, r1, r2, r3)) 34 (0, 0)) ∧ Ym w2 p mb [] from ⟨F1.out.trans hf2 (fun _ _ h => h), hf2.cells HB1.out (fun h => h), HM1.out.kept hf2 (fun h => h) (fun h => h)⟩)
    clear hf2
    dsimp only
    go_wp2
    go_loopw [22] (fun i wr => ∃ (k : Nat), i = .int .i64 k ∧ Hid (k ≤ 64 ∧ Fr (fun _ => False) w wr ∧ wr.heap[w.heap.size]? = some (.cells (Y.rcells (r0, r1, r2, r3)) 34 (0, 0)) ∧ ∃ t, Ym wr p mb t ∧ Y.Fu f (r0, r1, r2, r3) k t))
      (fun i _ => 64 - (intOf i).toNat)
    case atStart => exact ⟨0, rfl, hid ⟨Nat.zero_le _, HS.out.1, HS.out.2.1, [], HS.out.2.2, ⟨Y.Ok.nil, rfl, fun s => by rw [if_neg (by omega)]; rfl⟩⟩⟩
    case round =>
      obtain ⟨k, rfl, hall⟩ := hrel
      obtain ⟨hk, hfr, hbx, t, hm, hfu⟩ := hall.out
      by_cases hlt : k < 64
      · have d0 : wr.cell? ⟨w.heap.size, 0, none⟩ = some (.int .i64 r0) := cellA hbx rfl
        have d1 : wr.cell? ⟨w.heap.size, 1, none⟩ = some (.int .i64 r1) := cellA hbx rfl
        have d2 : wr.cell? ⟨w.heap.size, 2, none⟩ = some (.int .i64 r2) := cellA hbx rfl
        have d3 : wr.cell? ⟨w.heap.size, 3, none⟩ = some (.int .i64 r3) := cellA hbx rfl
        have i1 : (k : Int) < 64 := by omega
        have KP := hid (yput_any hm (s := f + k) (q := 1) (wfT (by omega) (by omega)) (r0, r1, r2, r3))
        have hj := hfu.jud hr1 (by omega)
        rw [if_neg (by omega)] at hj
        rw [hj] at KP
        have HFU := hid (hfu.more hr1 (by omega) hlt)
        have HFR := hid hfr
        have HBX := hid hbx
        clear hk hfr hbx hm hfu hall hj
        go_wp2_with fail
        refine KP.out.mono ?_
        rintro e w3 ⟨rfl, hm3, hf3⟩
        have REL := hid (show k + 1 ≤ 64 ∧ Fr (fun _ => False) w w3 ∧ w3.heap[w.heap.size]? = some (.cells (Y.rcells (r0, r1, r2, r3)) 34 (0, 0)) ∧ ∃ t, Ym w3 p mb t ∧ Y.Fu f (r0, r1, r2, r3) (k + 1) t from
          ⟨hlt, HFR.out.trans hf3 (fun i hi e => by have := HMB.out; omega), hf3.cells HBX.out (fun e => by have := HMB.out; omega), _, hm3, HFU.out⟩)
        clear hm3 hf3 d0 d1 d2 d3
        dsimp only
        go_wp2
        go_roundw
        case rel => exact ⟨k + 1, by first | go_num | rfl | trivial, REL⟩
        case measure => simp [intOf]; omega
      · obtain rfl : k = 64 := by omega
        have d0 : wr.cell? ⟨w.heap.size, 0, none⟩ = some (.int .i64 r0) := cellA hbx rfl
        have d1 : wr.cell? ⟨w.heap.size, 1, none⟩ = some (.int .i64 r1) := cellA hbx rfl
        have d2 : wr.cell? ⟨w.heap.size, 2, none⟩ = some (.int .i64 r2) := cellA hbx rfl
        have d3 : wr.cell? ⟨w.heap.size, 3, none⟩ = some (.int .i64 r3) := cellA hbx rfl
        have KA := hid (yask_any hm (s := f + 64) (q := 1) (wfT (by omega) (by omega)))
        have hj : Y.judge t (f + 64) 1 = 5 := by have := hfu.jud hr1 (by omega); rw [if_pos (by omega)] at this; exact this
        have hsd : Y.said t (f + 64) 1 = (0, 0, 0, 0) := by unfold Y.said; rw [if_neg (by omega)]; rfl
        rw [hj, hsd] at KA
        have HM := hid hm
        have HFU := hid hfu
        have HFR := hid hfr
        have HBX := hid hbx
        have HJ := hid hj
        clear hk hfr hbx hm hfu hall hj hsd
        go_wp2_with fail
        refine KA.out.mono ?_
        rintro e w4 ⟨rfl, hf4⟩
        have hf5 : Fr (fun _ => False) w4 (w4.alloc (.cells #[.int .i64 0, .int .i64 0, .int .i64 0, .int .i64 0] 34)) := Fr.alloc (Fr.refl _ _) _
        have HM5 := hid ((HM.out.kept hf4 (fun h => h) (fun h => h)).kept hf5 (fun h => h) (fun h => h))
        have HF5 := hid ((HFR.out.trans hf4 (fun _ _ h => h)).trans hf5 (fun _ _ h => h))
        have hb5 := hf5.cells (hf4.cells HBX.out (fun h => h)) (fun h => h)
        have HB5 := hid hb5
        have e0 := cellA (j := 0) hb5 rfl
        have e1 := cellA (j := 1) hb5 rfl
        have e2 := cellA (j := 2) hb5 rfl
        have e3 := cellA (j := 3) hb5 rfl
        have KP5 := hid (yput_any HM5.out (s := f + 64) (q := 1) (wfT (by omega) (by omega)) (r0, r1, r2, r3))
        have hpt : Y.put t (f + 64) 1 (r0, r1, r2, r3) = t := by unfold Y.put; rw [if_neg (by rw [HJ.out]; omega)]
        rw [hpt, HJ.out] at KP5
        clear hf4 hf5 hb5 d0 d1 d2 d3 KA hpt
        dsimp only
        go_wp2_with fail
        refine KP5.out.mono ?_
        rintro e w6 ⟨rfl, hm6, hf6⟩
        have hb6 := hf6.cells HB5.out (fun e => by have := HMB.out; omega)
        have HF6 := hid (HF5.out.trans hf6 (fun i hi e => by have := HMB.out; omega))
        have KP6 := hid (yput_any hm6 (s := f) (q := 2) hf0 (r0, r1, r2, r3))
        rw [HFU.out.jud2 hr1 (by omega)] at KP6
        have g0 : w6.cell? ⟨w.heap.size, 0, none⟩ = some (.int .i64 r0) := cellA hb6 rfl
        have g1 : w6.cell? ⟨w.heap.size, 1, none⟩ = some (.int .i64 r1) := cellA hb6 rfl
        have g2 : w6.cell? ⟨w.heap.size, 2, none⟩ = some (.int .i64 r2) := cellA hb6 rfl
        have g3 : w6.cell? ⟨w.heap.size, 3, none⟩ = some (.int .i64 r3) := cellA hb6 rfl
        clear hm6 hf6 hb6 KP5 e0 e1 e2 e3
        dsimp only
        go_wp2_with fail
        refine KP6.out.mono ?_
        rintro e w7 ⟨rfl, hm7, hf7⟩
        have HF7 := hid (HF6.out.trans hf7 (fun i hi e => by have := HMB.out; omega))
        have KL7 := hid (ylen_any hm7)
        rw [HFU.out.len2 hr1 (by omega)] at KL7
        clear hm7 hf7 KP6 g0 g1 g2 g3
        dsimp only
        go_wp2_with fail
        refine KL7.out.mono ?_
        rintro e w8 ⟨rfl, rfl⟩
        dsimp only
        go_wp2
        go_ret
        exact ⟨rfl, HF7.out⟩
  · have hr' : f < 1 ∨ 1099511627712 < f := by omega
    have n3 : f < 1 → ¬ 1099511627712 < f := by omega
    go_enter Try.func6, Try.ntmps6
    go_wp2_with fail
    refine (KN.out _).mono ?_
    rintro e w1 ⟨rfl, hm1, hf1⟩
    have F1 := hid (F0.out.trans hf1 (fun _ _ h => h))
    generalize hp : (w.alloc (.cells (Y.rcells (r0, r1, r2, r3)) 34)).heap.size + 1 = p at hm1 ⊢
    clear hf1 hm1 hp
    dsimp only
    go_wp2_with fail
    refine (KL.out _).mono ?_
    rintro e w2 ⟨rfl, hf2⟩
    have F2 := hid (F1.out.trans hf2 (fun _ _ h => h))
    clear hf2
    dsimp only
    rcases hr' with h1 | h1
    · go_wp2
      go_ret
      exact ⟨rfl, F2.out⟩
    · have h2 : ¬ f < 1 := by omega
      go_wp2
      go_ret
      exact ⟨rfl, F2.out⟩
end Go.Proofs.Ytffjekhlloippaa

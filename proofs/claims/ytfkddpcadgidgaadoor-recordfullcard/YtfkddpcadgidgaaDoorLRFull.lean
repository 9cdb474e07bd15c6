/-
  The walk of RecordFull: a writer that has no room takes nothing.
-/
import Derived.Test.YtfkddpcadgidgaaDoorQMade
import Derived.Test.YtfkddpcadgidgaaDoorQForm2
import Derived.Test.YtfkddpcadgidgaaDoorQBegun
import Derived.Deep.OwnRows
namespace Go.Proofs.YtfkddpcadgidgaaDoor
open Go.RowKit
set_option linter.unusedVariables false

theorem Wr.zero {base : Nat} {w : World} {p : Nat} {a : Option Addr} {c : Nat} {bs : List UInt8} (h : Wr base w p a c bs) : Wr 0 w p a c bs := ⟨h.at_, h.row.base (fun _ _ => Nat.zero_le _), h.ne, Nat.zero_le _⟩
theorem Sl.made (w : World) (n : Nat) (t : TypeId) : Sl (w.alloc (.cells (madeCells #[.int .u8 0] n) t)) (some ⟨w.heap.size, 0, none⟩) n (List.replicate n 0) := by
  refine ⟨List.length_replicate, .inr ⟨_, _, rfl, fun k x hx => ?_⟩⟩
  obtain ⟨c, hc, _, hi⟩ := World.rowIs_made w (.int .u8 0) n t
  have hk : k < n := by have := (List.getElem?_eq_some_iff.1 hx).1; simpa using this
  rw [List.getElem?_replicate, if_pos hk] at hx
  cases hx
  rw [Nat.zero_add]
  exact cell_at hc (hi k hk)
theorem M.enc_len3 (n : Nat) (h1 : 1047549 ≤ n) (h2 : n ≤ 1048573) : (M.enc (M.fd (n : Int))).length = 3 := by
  have e := M.fd_pos (n : Int) (by omega)
  obtain ⟨u, hu⟩ : ∃ u, M.fd (n : Int) = u := ⟨_, rfl⟩
  rw [hu] at e ⊢
  rw [M.enc_big u (by omega), M.enc_big (u / 128) (by omega), M.enc_small (u / 128 / 128) (by omega)]
  rfl

set_option maxRecDepth 20000 in
set_option maxHeartbeats 6400000 in
theorem lawFull (o : M.Op) (x : Int) (W : World) (tb : Tb W) : Calls Tryd.prog 4 #[.agg o.cs, .int .i64 x] W fun e w' => e = .returned (.bool true) ∧ Fr (fun _ => False) W w' := by
  have fW : Fr (fun _ => False) W (W.alloc (.cells o.cs 25)) := Fr.alloc (Fr.refl _ _) _
  have bW : (W.alloc (.cells o.cs 25)).heap[W.heap.size]? = some (.cells o.cs 25 (0, 0)) := Go.heap_alloc_new W _
  obtain ⟨W0, hW⟩ : ∃ W0, W.alloc (.cells o.cs 25) = W0 := ⟨_, rfl⟩
  rw [hW] at fW bW
  have hs0 : W0.heap.size = W.heap.size + 1 := by rw [← hW, World.size_alloc]
  obtain ⟨ob, hob⟩ : ∃ ob, W.heap.size = ob := ⟨_, rfl⟩
  rw [hob] at bW hs0
  have KN : Hid (Calls Tryd.prog 13 #[] W0 fun e w' => e = .returned (.pointer (some ⟨ob + 1, 0, none⟩)) ∧ Wr 0 w' (ob + 1) none 0 [] ∧ Fr (fun _ => False) W0 w') := hid (by
    refine (newWriter_any W0).mono ?_
    rw [hs0]
    rintro e w' ⟨rfl, h1, h2⟩
    exact ⟨rfl, h1.zero, h2⟩)
  have TB : Hid (∀ V, Fr (fun _ => False) W0 V → Tb V) := hid (fun V hf => (tb.kept fW (fun h => h)).kept hf (fun h => h))
  have F0 := hid fW
  have BW := hid bW
  have HW := hid hW
  have HOB := hid hob
  have HS0 := hid hs0
  clear fW bW hW hob hs0 tb
  obtain ⟨p, hp⟩ : ∃ p, ob + 1 = p := ⟨_, rfl⟩
  rw [hp] at KN
  have HP := hid hp
  clear hp
  by_cases hx0 : x < 0
  · unfold M.Op.cs at *
    go_enter Tryd.func4, Tryd.ntmps4
    go_upto_region 1 with fail
    rw [HW.out, HOB.out]
    clear HW
    go_wp2_with (first
      | (go_at_call 13; refine KN.out.mono ?_; rintro e w1 ⟨rfl, h1, hf⟩; have F1 := hid hf; clear h1 hf)
      | (go_at_call 6; refine (begunTrue _ (TB.out _ F2.out)).mono ?_; rintro e w3 ⟨rfl, hf⟩; have F3 := hid (F2.out.trans hf (fun _ _ h => h)); clear hf)
      | (go_at_call 6; refine (begunTrue _ (TB.out _ F1.out)).mono ?_; rintro e w2 ⟨rfl, hf⟩; have F2 := hid (F1.out.trans hf (fun _ _ h => h)); clear hf))
    go_ret
    exact ⟨rfl, F0.out.trans F3.out (fun _ _ h => h)⟩
  · by_cases hx1 : 1024 < x
    · unfold M.Op.cs at *
      go_enter Tryd.func4, Tryd.ntmps4
      go_upto_region 1 with fail
      rw [HW.out, HOB.out]
      clear HW
      go_wp2_with (first
        | (go_at_call 13; refine KN.out.mono ?_; rintro e w1 ⟨rfl, h1, hf⟩; have F1 := hid hf; clear h1 hf)
        | (go_at_call 6; refine (begunTrue _ (TB.out _ F2.out)).mono ?_; rintro e w3 ⟨rfl, hf⟩; have F3 := hid (F2.out.trans hf (fun _ _ h => h)); clear hf)
        | (go_at_call 6; refine (begunTrue _ (TB.out _ F1.out)).mono ?_; rintro e w2 ⟨rfl, hf⟩; have F2 := hid (F1.out.trans hf (fun _ _ h => h)); clear hf))
      go_ret
      exact ⟨rfl, F0.out.trans F3.out (fun _ _ h => h)⟩
    · obtain ⟨n, hn⟩ : ∃ n : Nat, x = 1048573 - (n : Int) := ⟨(1048573 - x).toNat, by omega⟩
      have hn1 : 1047549 ≤ n := by omega
      have hn2 : n ≤ 1048573 := by omega
      have hmk := run_make_row' (P := Tryd.prog) 32 5 (.int .u8 0) 1 Tryd.underlying32 info5 rfl .i64 .i64 n (by omega) (by omega)
      have en : (n : Int) = 1048576 - x - 3 := by omega
      rw [en] at hmk
      obtain ⟨bs, hbs⟩ : ∃ bs, encB (List.replicate n (0 : UInt8)) = bs := ⟨_, rfl⟩
      have hbl : bs.length = n + 3 := by rw [← hbs]; unfold encB; rw [List.length_append, List.length_replicate, M.enc_len3 n hn1 hn2]; omega
      have KB : Hid (∀ V, Wr 0 V p none 0 [] → Calls Tryd.prog 14 #[.pointer (some ⟨p, 0, none⟩), .slice (some ⟨V.heap.size, 0, none⟩) n n] (V.alloc (.cells (madeCells #[.int .u8 0] n) 5)) fun e w' => e = .returned (.int .i64 0) ∧ ∃ a c, Wr 0 w' p a c bs ∧ Fr (fun k => k = p) V w' ∧ ∀ k, blk a = some k → V.heap.size ≤ k) := hid (fun V hV => by
        have fa : Fr (fun _ => False) V (V.alloc (.cells (madeCells #[.int .u8 0] n) 5)) := Fr.alloc (Fr.refl _ _) _
        refine (wBytes_any 0 _ p none 0 [] (hV.kept fa (fun h => h) (fun _ _ h => h)) (some ⟨V.heap.size, 0, none⟩) n n _ (Sl.made V n 5) (fun _ k _ e => by simp [blk] at e) (Nat.zero_le _) (by omega) (by simp)).mono ?_
        rw [hbs]
        rintro e w' hwp
        rcases hwp with ⟨h1, _⟩ | ⟨h1, rfl, a', c', h2, h3, h4⟩
        · simp at h1; omega
        · rw [List.nil_append] at h2
          refine ⟨rfl, a', c', h2, (fa.mono (fun _ _ h => h.elim)).trans (h3.mono (T := fun k => k = p) (fun i _ e => e.elim id (fun e => by simp [blk] at e))) (fun _ _ h => h), fun k hk => ?_⟩
          rcases h4 with h4 | h4
          · rw [h4] at hk; simp [blk] at hk
          · have := h4 k hk; rw [World.size_alloc] at this; omega)
      have hlim : bs.length ≤ 1048576 := by omega
      obtain ⟨m, hm⟩ : ∃ m, n + 3 = m := ⟨_, rfl⟩
      rw [hm] at hbl
      have HBL := hid hbl
      have HLIM := hid hlim
      have hm1 : m ≤ 1048576 := by omega
      have EN := hid en
      obtain ⟨fl, hfl⟩ : ∃ fl, (M.opl o).flatten.length = fl := ⟨_, rfl⟩
      have HFL := hid hfl
      clear hbl hlim hbs en hm hn hfl
      unfold M.Op.cs at *
      go_enter Tryd.func4, Tryd.ntmps4
      go_upto_region 1 with fail
      rw [HW.out, HOB.out]
      clear HW
      go_upto_region 8 with (first
        | (go_at_call 13; refine KN.out.mono ?_; rintro e w1 ⟨rfl, h1, hf⟩; have F1 := hid hf; have H1 := hid h1; clear h1 hf)
        | (go_at_call 6; refine (begunTrue _ (TB.out _ F1.out)).mono ?_; rintro e w2 ⟨rfl, hf⟩; have F2 := hid (F1.out.trans hf (fun _ _ h => h)); have H2 := hid (H1.out.kept hf (fun h => h) (fun _ _ h => h)); clear hf)
        | (go_at_call 14; refine (KB.out _ H2.out).mono ?_; rintro e w3 ⟨rfl, a3, c3, h3, f3, n3⟩; have H3 := hid h3; have F3 := hid f3; have N3 := hid n3; clear h3 f3 n3)
        | (go_at_call 15; refine (hdLen _ _ _ (HBL.out ▸ H3.out.hd)).mono ?_; rintro e wx ⟨rfl, rfl⟩))
      have hop : ob ≠ p := by have := HP.out; omega
      have b3 := F3.out.cells (F2.out.cells BW.out (fun h => h)) hop
      have f3 : Fr (fun _ => False) W w3 := (F0.out.trans F2.out (fun _ _ h => h)).trans F3.out (fun i hi e => by have := HP.out; have := HOB.out; omega)
      have F03 := hid f3
      have kp := putOp_made H3.out HLIM.out o
      have hz2 : W.heap.size ≤ w2.heap.size := (F0.out.trans F2.out (fun _ _ h => h)).size
      have d0 := cell_at (j := 0) b3 rfl
      have d1 := cell_at (j := 1) b3 rfl
      have d2 := cell_at (j := 2) b3 rfl
      have d3 := cell_at (j := 3) b3 rfl
      have d4 := cell_at (j := 4) b3 rfl
      have d5 := cell_at (j := 5) b3 rfl
      have d6 := cell_at (j := 6) b3 rfl
      have d7 := cell_at (j := 7) b3 rfl
      have hfr : ∀ V, Fr (fun k => k = p ∨ blk a3 = some k) w3 V → Fr (fun _ => False) W V ∧ V.heap[ob]? = some (.cells o.cs 25 (0, 0)) := fun V hV =>
        ⟨F03.out.trans hV (fun i hi e => by
          rcases e with e | e
          · have := HP.out; have := HOB.out; omega
          · have := N3.out i e; omega), hV.cells b3 (fun e => by
          rcases e with e | e
          · exact hop e
          · have := N3.out ob e; have := HOB.out; have := HS0.out; have := F2.out.size; omega)⟩
      have HFR := hid hfr
      clear b3 f3 hz2 hfr hop
      have hkm := rCheckOp_any o
      have hfo : M.mayOp o = true → ∀ V, Calls Tryd.prog 18 #[.agg o.cs] V fun e w' => ∃ a c, e = .returned (.slice a fl c) ∧ Ow V.heap.size w' a c (M.opl o).flatten ∧ Fr (fun _ => False) V w' := fun h V => rOpForm_any o V (mayOp_in h).1 (fun x hx => by
        have h' := h
        simp [M.mayOp, M.texts] at h'
        obtain ⟨_, h6, h7, h8⟩ := h'
        simp at hx
        rcases hx with rfl | rfl | rfl <;> omega) fl HFL.out
      cases hmay : M.mayOp o with
      | false =>
        have KP : Hid (Calls Tryd.prog 16 #[.pointer (some ⟨p, 0, none⟩), .agg o.cs] w3 fun e w' => e = .returned (.int .i64 40) ∧ Hd w' p m ∧ Fr (fun k => k = p ∨ blk a3 = some k) w3 w') := hid (kp.mono (by
          rintro e w' (⟨h, _⟩ | ⟨_, h1, h2, h3⟩)
          · rw [hmay] at h; cases h
          · exact ⟨h1, HBL.out ▸ h2.hd, h3⟩))
        rw [hmay] at hkm
        have KC := hid hkm
        clear hkm kp hfo
        unfold M.Op.cs at *
        go_wp2_with (first
          | (go_at_call 16; refine KP.out.mono ?_; rintro e w4 ⟨rfl, hd, f4⟩; have HD := hid hd; obtain ⟨f04, b4⟩ := HFR.out w4 f4; have F4 := hid f04; have g0 := cell_at (j := 0) b4 rfl; have g1 := cell_at (j := 1) b4 rfl; have g2 := cell_at (j := 2) b4 rfl; have g3 := cell_at (j := 3) b4 rfl; have g4 := cell_at (j := 4) b4 rfl; have g5 := cell_at (j := 5) b4 rfl; have g6 := cell_at (j := 6) b4 rfl; have g7 := cell_at (j := 7) b4 rfl; clear hd f4 f04 b4)
          | (go_at_call 17; refine (KC.out _).mono ?_; rintro e w5 ⟨rfl, f5⟩; have F5 := hid f5; clear f5)
          | (go_at_call 15; refine (hdLen _ _ _ (HD.out.kept F5.out (fun h => h))).mono ?_; rintro e wx ⟨rfl, rfl⟩))
        go_ret
        exact ⟨rfl, F4.out.trans F5.out (fun _ _ h => h)⟩
      | true =>
        have KO := hid (hfo hmay)
        by_cases hlen : m + fl ≤ 1048576
        · have KP : Hid (Calls Tryd.prog 16 #[.pointer (some ⟨p, 0, none⟩), .agg o.cs] w3 fun e w' => e = .returned (.int .i64 0) ∧ Hd w' p (m + fl) ∧ Fr (fun k => k = p ∨ blk a3 = some k) w3 w') := hid (kp.mono (by
            rintro e w' (⟨_, h3, h4⟩ | ⟨h, _⟩)
            · rcases h4 with ⟨_, h5, a', c', h6, _⟩ | ⟨h5, _⟩
              · have h7 := h6.hd
                rw [List.length_append, HBL.out, HFL.out] at h7
                exact ⟨h5, h7, h3⟩
              · rw [HBL.out, HFL.out] at h5; omega
            · rw [hmay] at h; cases h))
          rw [hmay] at hkm
          have KC := hid hkm
          have hq : ¬ ((1048576 : Int) - (m : Int) < (fl : Int)) := by omega
          clear hkm kp hfo
          unfold M.Op.cs at *
          go_wp2_with (first
            | (go_at_call 16; refine KP.out.mono ?_; rintro e w4 ⟨rfl, hd, f4⟩; have HD := hid hd; obtain ⟨f04, b4⟩ := HFR.out w4 f4; have F4 := hid f04; have B4 := hid b4; have g0 := cell_at (j := 0) b4 rfl; have g1 := cell_at (j := 1) b4 rfl; have g2 := cell_at (j := 2) b4 rfl; have g3 := cell_at (j := 3) b4 rfl; have g4 := cell_at (j := 4) b4 rfl; have g5 := cell_at (j := 5) b4 rfl; have g6 := cell_at (j := 6) b4 rfl; have g7 := cell_at (j := 7) b4 rfl; clear hd f4 f04 b4)
            | (go_at_call 17; refine (KC.out _).mono ?_; rintro e w5 ⟨rfl, f5⟩; have b5 := f5.cells B4.out (fun h => h); have k0 := cell_at (j := 0) b5 rfl; have k1 := cell_at (j := 1) b5 rfl; have k2 := cell_at (j := 2) b5 rfl; have k3 := cell_at (j := 3) b5 rfl; have k4 := cell_at (j := 4) b5 rfl; have k5 := cell_at (j := 5) b5 rfl; have k6 := cell_at (j := 6) b5 rfl; have k7 := cell_at (j := 7) b5 rfl; have F5 := hid f5; clear f5 b5)
            | (go_at_call 18; refine (KO.out _).mono ?_; rintro e w6 ⟨a6, c6, rfl, o6, f6⟩; have F6 := hid (F5.out.trans f6 (fun _ _ h => h)); clear o6 f6)
            | (go_at_call 15; refine (hdLen _ _ _ (HD.out.kept F6.out (fun h => h))).mono ?_; rintro e wx ⟨rfl, rfl⟩))
          go_ret
          exact ⟨rfl, F4.out.trans F6.out (fun _ _ h => h)⟩
        · have KP : Hid (Calls Tryd.prog 16 #[.pointer (some ⟨p, 0, none⟩), .agg o.cs] w3 fun e w' => e = .returned (.int .i64 3) ∧ Hd w' p m ∧ Fr (fun k => k = p ∨ blk a3 = some k) w3 w') := hid (kp.mono (by
            rintro e w' (⟨_, h3, h4⟩ | ⟨h, _⟩)
            · rcases h4 with ⟨h5, _⟩ | ⟨_, h5, h6⟩
              · rw [HBL.out, HFL.out] at h5; omega
              · exact ⟨h5, HBL.out ▸ h6, h3⟩
            · rw [hmay] at h; cases h))
          rw [hmay] at hkm
          have KC := hid hkm
          have hq : (1048576 : Int) - (m : Int) < (fl : Int) := by omega
          clear hkm kp hfo
          unfold M.Op.cs at *
          go_wp2_with (first
            | (go_at_call 16; refine KP.out.mono ?_; rintro e w4 ⟨rfl, hd, f4⟩; have HD := hid hd; obtain ⟨f04, b4⟩ := HFR.out w4 f4; have F4 := hid f04; have B4 := hid b4; have g0 := cell_at (j := 0) b4 rfl; have g1 := cell_at (j := 1) b4 rfl; have g2 := cell_at (j := 2) b4 rfl; have g3 := cell_at (j := 3) b4 rfl; have g4 := cell_at (j := 4) b4 rfl; have g5 := cell_at (j := 5) b4 rfl; have g6 := cell_at (j := 6) b4 rfl; have g7 := cell_at (j := 7) b4 rfl; clear hd f4 f04 b4)
            | (go_at_call 17; refine (KC.out _).mono ?_; rintro e w5 ⟨rfl, f5⟩; have b5 := f5.cells B4.out (fun h => h); have k0 := cell_at (j := 0) b5 rfl; have k1 := cell_at (j := 1) b5 rfl; have k2 := cell_at (j := 2) b5 rfl; have k3 := cell_at (j := 3) b5 rfl; have k4 := cell_at (j := 4) b5 rfl; have k5 := cell_at (j := 5) b5 rfl; have k6 := cell_at (j := 6) b5 rfl; have k7 := cell_at (j := 7) b5 rfl; have F5 := hid f5; clear f5 b5)
            | (go_at_call 18; refine (KO.out _).mono ?_; rintro e w6 ⟨a6, c6, rfl, o6, f6⟩; have F6 := hid (F5.out.trans f6 (fun _ _ h => h)); clear o6 f6)
            | (go_at_call 15; refine (hdLen _ _ _ (HD.out.kept F6.out (fun h => h))).mono ?_; rintro e wx ⟨rfl, rfl⟩))
          go_ret
          exact ⟨rfl, F4.out.trans F6.out (fun _ _ h => h)⟩
end Go.Proofs.YtfkddpcadgidgaaDoor

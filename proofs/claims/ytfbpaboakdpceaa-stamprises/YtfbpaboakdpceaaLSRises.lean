/-
  StampRises: the walk.
-/
import Derived.Test.YtfbpaboakdpceaaSLive
namespace Go.Proofs.Ytfbpaboakdpceaa
open Go.RowKit
set_option linter.unusedVariables false
set_option linter.unusedSimpArgs false

theorem S.node_back {t s : Int} (h : S.ok t s = true) : S.made (S.node t s) = true ∧ S.ofT (S.node t s) = t ∧ S.ofS (S.node t s) = s ∧ 16 ≤ S.node t s ∧ S.node t s ≤ 8796093022231 := by
  have h1 := S.ok_iff.1 h
  have e : S.node t s = 16 + t * 8 + s := by simp [S.node, h]
  have m : S.made (S.node t s) = true := by rw [e]; simp only [S.made, decide_eq_true_eq]; omega
  refine ⟨m, ?_, ?_, by omega, by omega⟩
  · simp only [S.ofT, m, if_true]; omega
  · simp only [S.ofS, m, if_true]; omega
theorem S.node_cmp {a b c d : Int} (h : S.ok a b = true) (k : S.ok c d = true) : S.cmp a b c d = S.c1 (S.node a b) (S.node c d) := by
  have h1 := S.ok_iff.1 h
  have k1 := S.ok_iff.1 k
  have e : S.node a b = 16 + a * 8 + b := by simp [S.node, h]
  have f : S.node c d = 16 + c * 8 + d := by simp [S.node, k]
  rw [e, f]
  simp only [S.cmp, S.c1]
  repeat' split
  all_goals omega
set_option maxHeartbeats 3200000 in
theorem stampRises_walk (a1 a2 b1 b2 : Int) (w : World) : Calls Try.prog 7 #[.agg #[.int .i64 a1, .int .i64 a2], .agg #[.int .i64 b1, .int .i64 b2]] w fun e w' => e = .returned (.bool true) ∧ Fr (fun _ => False) w w' := by
  obtain ⟨W, hW⟩ : ∃ W, (w.alloc (.cells #[.int .i64 a1, .int .i64 a2] 23)).alloc (.cells #[.int .i64 b1, .int .i64 b2] 23) = W := ⟨_, rfl⟩
  have HC := hid (fun (V : World) (hf : Fr (fun _ => False) W V) => show S.Two w a1 a2 b1 b2 V from S.two_any w a1 a2 b1 b2 _ _ V (hW ▸ hf))
  have F0 := hid (show Fr (fun _ => False) w W by rw [← hW]; exact Fr.alloc (Fr.alloc (Fr.refl _ _) _) _)
  have HW := hid hW
  clear hW
  have KA := hid (scheck_any a1 a2)
  have KB := hid (scheck_any b1 b2)
  have RA := hid (rscheck_any a1 a2)
  have RB := hid (rscheck_any b1 b2)
  have KL := hid slive_any
  have F1 := hid (Fr.refl (fun _ => False) W)
  obtain ⟨c0, c1, c2, c3⟩ := HC.out W (Fr.refl _ _)
  cases BA : S.ok a1 a2 with
  | false =>
    rw [BA] at KA RA
    clear BA
    go_enter Try.func7, Try.ntmps7
    go_wp2_with fail
    rw [HW.out]
    refine (KA.out _).mono ?_
    rintro e w1 ⟨rfl, hf⟩
    have F1 := hid (F1.out.trans hf (fun _ _ h => h))
    obtain ⟨c0, c1, c2, c3⟩ := HC.out _ F1.out
    clear hf
    go_wp2_with (first
      | (go_at_call 9; refine (KL.out _).mono ?_; rintro e w2 ⟨rfl, hf⟩; have F1 := hid (F1.out.trans hf (fun _ _ h => h)); obtain ⟨c0, c1, c2, c3⟩ := HC.out _ F1.out; clear hf)
      | (go_at_call 13; refine (RA.out _).mono ?_; rintro e w2 ⟨rfl, hf⟩; have F1 := hid (F1.out.trans hf (fun _ _ h => h)); obtain ⟨c0, c1, c2, c3⟩ := HC.out _ F1.out; clear hf))
    go_ret
    exact ⟨rfl, F0.out.trans F1.out (fun _ _ h => h)⟩
  | true =>
    rw [BA] at KA RA
    cases BB : S.ok b1 b2 with
    | false =>
      rw [BB] at KB RB
      clear BA BB
      go_enter Try.func7, Try.ntmps7
      go_wp2_with fail
      rw [HW.out]
      refine (KA.out _).mono ?_
      rintro e w1 ⟨rfl, hf⟩
      have F1 := hid (F1.out.trans hf (fun _ _ h => h))
      obtain ⟨c0, c1, c2, c3⟩ := HC.out _ F1.out
      clear hf
      go_wp2_with fail
      refine (KB.out _).mono ?_
      rintro e w2 ⟨rfl, hf⟩
      have F1 := hid (F1.out.trans hf (fun _ _ h => h))
      obtain ⟨c0, c1, c2, c3⟩ := HC.out _ F1.out
      clear hf
      go_wp2_with (first
        | (go_at_call 9; refine (KL.out _).mono ?_; rintro e w2 ⟨rfl, hf⟩; have F1 := hid (F1.out.trans hf (fun _ _ h => h)); obtain ⟨c0, c1, c2, c3⟩ := HC.out _ F1.out; clear hf))
      refine (RA.out _).mono ?_
      rintro e w3 ⟨rfl, hf⟩
      have F1 := hid (F1.out.trans hf (fun _ _ h => h))
      obtain ⟨c0, c1, c2, c3⟩ := HC.out _ F1.out
      clear hf
      go_wp2_with fail
      refine (RB.out _).mono ?_
      rintro e w4 ⟨rfl, hf⟩
      have F1 := hid (F1.out.trans hf (fun _ _ h => h))
      clear hf
      go_wp2
      go_ret
      exact ⟨rfl, F0.out.trans F1.out (fun _ _ h => h)⟩
    | true =>
      rw [BB] at KB RB
      have NA := hid (snode_any a1 a2)
      have NB := hid (snode_any b1 b2)
      obtain ⟨hm, ht, hs, hlo, hhi⟩ := S.node_back BA
      have KC := hid (scompare_any a1 a2 b1 b2)
      have KO := hid (sof_any (S.node a1 a2) (by omega) (by omega))
      rw [S.node_cmp BA BB] at KC
      rw [hm, ht, hs] at KO
      generalize S.node a1 a2 = x at NA KC KO hlo
      generalize S.node b1 b2 = y at NB KC
      clear BA BB hm ht hs hhi
      have HT : ∃ c, S.c1 x y = c ∧ (x < y ∧ c = -1 ∨ ¬ x < y ∧ y < x ∧ c = 1 ∨ ¬ x < y ∧ ¬ y < x ∧ c = 0) := by
        unfold S.c1
        by_cases h1 : x < y
        · exact ⟨-1, by rw [if_pos h1], .inl ⟨h1, rfl⟩⟩
        · by_cases h2 : y < x
          · exact ⟨1, by rw [if_neg h1, if_pos h2], .inr (.inl ⟨h1, h2, rfl⟩)⟩
          · exact ⟨0, by rw [if_neg h1, if_neg h2], .inr (.inr ⟨h1, h2, rfl⟩)⟩
      obtain ⟨c, hc, HT⟩ := HT
      rw [hc] at KC
      clear hc
      rcases HT with ⟨g1, rfl⟩ | ⟨g1, g2, rfl⟩ | ⟨g1, g2, rfl⟩ <;>
      · go_enter Try.func7, Try.ntmps7
        go_wp2_with fail
        rw [HW.out]
        refine (KA.out _).mono ?_
        rintro e w1 ⟨rfl, hf⟩
        have F1 := hid (F1.out.trans hf (fun _ _ h => h))
        obtain ⟨c0, c1, c2, c3⟩ := HC.out _ F1.out
        clear hf
        go_wp2_with fail
        refine (KB.out _).mono ?_
        rintro e w2 ⟨rfl, hf⟩
        have F1 := hid (F1.out.trans hf (fun _ _ h => h))
        obtain ⟨c0, c1, c2, c3⟩ := HC.out _ F1.out
        clear hf
        go_wp2_with (first
          | (go_at_call 9; refine (KL.out _).mono ?_; rintro e w3 ⟨rfl, hf⟩; have F3 := hid (F1.out.trans hf (fun _ _ h => h)); obtain ⟨c0, c1, c2, c3⟩ := HC.out _ F3.out; clear hf))
        go_region_held3 (fun V => V.cell? ⟨w.heap.size, 0, none⟩ = some (.int .i64 a1) ∧ V.cell? ⟨w.heap.size, 1, none⟩ = some (.int .i64 a2) ∧ V.cell? ⟨w.heap.size + 1, 0, none⟩ = some (.int .i64 b1) ∧ V.cell? ⟨w.heap.size + 1, 1, none⟩ = some (.int .i64 b2)) (first | exact ⟨c0, c1, c2, c3⟩ | go_keep | exact HC.out _ F5.out | exact HC.out _ F4.out)
          (first
            | (go_at_call 18; refine (NB.out w4).mono ?_; rintro e w5 ⟨rfl, f2⟩; have F5 : Hid (Fr (fun _ => False) W w5) := hid (F4.out.trans f2 (fun _ _ h => h)); clear f2)
            | (go_at_call 18; refine (NA.out _).mono ?_; rintro e w4 ⟨rfl, f1⟩; have F4 : Hid (Fr (fun _ => False) W w4) := hid (F3.out.trans (by first | exact f1 | exact (Fr.drew (Fr.refl _ _)).trans f1 (fun _ _ h => h) | exact (Fr.drewN _ _).trans f1 (fun _ _ h => h)) (fun _ _ h => h)); clear f1))
        clear c0 c1 c2 c3
        obtain ⟨c0, c1, c2, c3⟩ := HC.out _ F5.out
        go_wp2_with (first
          | (go_at_call 16; refine (KO.out _).mono ?_; rintro e w6 ⟨rfl, hf⟩; have F6 := hid (F5.out.trans hf (fun _ _ h => h)); clear hf c0 c1 c2 c3; obtain ⟨c0, c1, c2, c3⟩ := HC.out _ F6.out; have h6 : w.heap.size + 1 < w6.heap.size := World.block_lt_of_cell? _ _ c2; have h7 : w.heap.size < w6.heap.size := World.block_lt_of_cell? _ _ c0)
          | (go_at_call 10; refine (KC.out _).mono ?_; rintro e w7 ⟨rfl, hf⟩; have F7 := hid ((Fr.alloc F6.out _).trans hf (fun _ _ h => h)); clear hf))
        go_ret
        exact ⟨ret_bool (by simp; try omega), F0.out.trans F7.out (fun _ _ h => h)⟩
end Go.Proofs.Ytfbpaboakdpceaa

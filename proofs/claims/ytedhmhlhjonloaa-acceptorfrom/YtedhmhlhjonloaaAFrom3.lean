/-
  The document's From: all of it. (gen/gen_rfrom.py)
-/
import Derived.Test.YtedhmhlhjonloaaAFrom3z
import Derived.Test.YtedhmhlhjonloaaAFrom3a
import Derived.Test.YtedhmhlhjonloaaAFrom3b
namespace Go.Proofs.Ytedhmhlhjonloaa
open Go.RowKit Go.Maps
set_option linter.unusedVariables false
set_option linter.unusedSimpArgs false

set_option maxHeartbeats 6400000 in
set_option maxRecDepth 20000 in
theorem rfrom_bad {E : Nat → Prop} {w : World} {wa : Option Addr} {xs : List El} (h : Ls E w wa xs) (hE : ∀ k, E k → k < w.heap.size) (hl : xs.length ≤ 270000000000) (b1 b2 fs : Int) (c : Nat) (hok : ¬ (((b1 = 0 ∧ b2 = 0) ∨ A.okB (b1, b2) = true) ∧ A.okS fs = true)) :
    Calls Try.prog 19 #[.agg #[.int .i64 b1, .int .i64 b2], .int .i64 fs, .slice wa xs.length c] w fun r w' => Fg w (A.fromAll (b1, b2) fs (xs.map Prod.snd)) r w' := by
  obtain ⟨W, hW⟩ : ∃ W, w.alloc (.cells #[.int .i64 b1, .int .i64 b2] 27) = W := ⟨_, rfl⟩
  have f0 : Fr (fun _ => False) w W := by rw [← hW]; exact Fr.alloc (Fr.refl _ _) _
  have bb : W.heap[w.heap.size]? = some (.cells #[.int .i64 b1, .int .i64 b2] 27 (0, 0)) := by rw [← hW]; exact Go.heap_alloc_new w _
  have c1 : W.cell? ⟨w.heap.size, 0, none⟩ = some (.int .i64 b1) := cellA bb rfl
  have c2 : W.cell? ⟨w.heap.size, 1, none⟩ = some (.int .i64 b2) := cellA bb rfl
  have KC := hid (fun (V : World) => rcheck_any b1 b2 V)
  have KS := hid (fun (V : World) => rslot_any fs V)
  obtain ⟨n, hn⟩ : ∃ n, xs.length = n := ⟨_, rfl⟩
  obtain ⟨R, hR⟩ : ∃ R, A.fromAll (b1, b2) fs (xs.map Prod.snd) = R := ⟨_, rfl⟩
  rw [hR, hn]
  rw [hn] at hl
  unfold A.fromAll at hR
  simp only at hR
  generalize A.okB (b1, b2) = x1 at KC hR hok
  generalize A.okS fs = x2 at KS hR hok
  have HH := hid h
  have HE := hid hE
  have F0 := hid f0
  have BB := hid bb
  have HN := hid hn
  have HW := hid hW
  have bad : R = (1, A.new) → ∀ W', Fr (fun _ => False) w W' → Fg w R (.returned (.tuple #[.pointer none, .int .i64 1])) W' := by
    rintro rfl W' fW
    exact ⟨_, rfl, .inl ⟨by simp, rfl⟩, fW⟩
  have BAD := hid bad
  clear h hE f0 bb hn hW bad
  have LDB := hid (fun (V : World) (hf : Fr (fun _ => False) W V) => ball_ld (V := V) (g := w.heap.size) (o := 0) (cellFr hf (fun h => h) c1) (cellFr hf (fun h => h) c2))
  rw [if_neg hok] at hR
  have HR := hid hR.symm
  clear hR
  have hnb : ∃ z : Bool, (∀ V : World, (binOp .neq 27 (.agg #[.int .i64 b1, .int .i64 b2]) (.agg #[.int .i64 0, .int .i64 0])).run Try.prog V = .ok (.bool z) V) ∧ (z = false ∧ x2 = false ∨ z = true ∧ x1 = false ∨ z = true ∧ x1 = true ∧ x2 = false) := by
    by_cases hz : b1 = 0 ∧ b2 = 0
    · obtain ⟨rfl, rfl⟩ := hz
      refine ⟨false, fun V => ?_, .inl ⟨rfl, ?_⟩⟩
      · rw [run_neq_struct]
        go_simp
      · cases x2
        · rfl
        · exact absurd ⟨.inl ⟨rfl, rfl⟩, rfl⟩ hok
    · refine ⟨true, fun V => neqBl hz V, .inr ?_⟩
      cases x1
      · exact .inl ⟨rfl, rfl⟩
      · cases x2
        · exact .inr ⟨rfl, rfl, rfl⟩
        · exact absurd ⟨.inr rfl, rfl⟩ hok
  obtain ⟨z, hne, hzx⟩ := hnb
  have NE := hid hne
  generalize hvb : (Value.agg #[.int .i64 b1, .int .i64 b2] : Value) = vb at NE LDB
  try rw [← hvb]
  have HVB := hid hvb
  clear hne c1 c2 hvb hok
  rcases hzx with ⟨rfl, rfl⟩ | ⟨rfl, rfl⟩ | ⟨rfl, rfl, rfl⟩
  all_goals
    go_enter Try.func19, Try.ntmps19
    go_upto_region 1 with fail
    rw [HW.out]
    go_wp2_with (first
      | (refine wpList_load_v (LDB.out _ (Fr.refl _ _)) (by exact ⟨_, rfl, rfl⟩) (by rfl) ?_)
      | (refine wpList_neq_v (NE.out _) (by exact ⟨_, _, _, rfl, rfl, rfl, by rw [← HVB.out]; exact guard_ne (by kernel_rfl) _ _ _ _ _⟩) (by kernel_rfl) ?_)
      | (go_at_call 23; rw [← HVB.out]; refine (KC.out _).mono ?_; rintro e w2 ⟨rfl, f2⟩; have F2 := hid f2; clear f2)
      | (go_at_call 24; refine (KS.out _).mono ?_; rintro e w3 ⟨rfl, rfl⟩))
    go_ret2
    first
    | exact BAD.out HR.out _ F0.out
    | exact BAD.out HR.out _ (F0.out.trans F2.out (fun _ _ h => h))
theorem rfrom_any {E : Nat → Prop} {w : World} {wa : Option Addr} {xs : List El} (h : Ls E w wa xs) (hE : ∀ k, E k → k < w.heap.size) (hl : xs.length ≤ 270000000000) (b1 b2 fs : Int) (c : Nat) :
    Calls Try.prog 19 #[.agg #[.int .i64 b1, .int .i64 b2], .int .i64 fs, .slice wa xs.length c] w fun r w' => Fg w (A.fromAll (b1, b2) fs (xs.map Prod.snd)) r w' := by
  by_cases hok : ((b1 = 0 ∧ b2 = 0) ∨ A.okB (b1, b2) = true) ∧ A.okS fs = true
  · by_cases hz : b1 = 0 ∧ b2 = 0
    · exact rfrom_zero h hE hl b1 b2 fs c hz hok.2
    · exact rfrom_some h hE hl b1 b2 fs c hz (hok.1.resolve_left hz) hok.2
  · exact rfrom_bad h hE hl b1 b2 fs c hok
end Go.Proofs.Ytedhmhlhjonloaa

/-
  The greatest of many stamps: the code's and the document's.
-/
import Derived.Test.YtfbpaboakdpceaaSAbove
namespace Go.Proofs.Ytfbpaboakdpceaa
open Go.RowKit
set_option linter.unusedVariables false
set_option linter.unusedSimpArgs false

/-- the greatest of the first n -/
def S.gr (z : Nat → Nat → Int) : Nat → Int × Int
  | 0 => (0, 0)
  | 1 => (z 0 0, z 0 1)
  | n + 2 => if 0 < S.cmp (z (n + 1) 0) (z (n + 1) 1) (S.gr z (n + 1)).1 (S.gr z (n + 1)).2 then (z (n + 1) 0, z (n + 1) 1) else S.gr z (n + 1)
/-- the box of a stamp -/
def Sb (w : World) (b : Nat) (p : Int × Int) : Prop := w.heap[b]? = some (.cells #[.int .i64 p.1, .int .i64 p.2] 23 (0, 0))
theorem Sb.fr {w w' : World} {b : Nat} {p : Int × Int} (h : Sb w b p) (hf : Fr (fun _ => False) w w') : Sb w' b p := hf.cells h (fun h => h)
theorem Ri.load2 {w W : World} {b o n : Nat} {z : Nat → Nat → Int} (hc : ∀ i j, i < n → j < 2 → w.cell? ⟨b, o + i * 2 + j, none⟩ = some (.int .i64 (z i j))) (hf : Fr (fun _ => False) w W) {i : Nat} (hi : i < n) :
    (Instr.loadAt 23 (.pointer (some ⟨b, o + i * 2, none⟩))).run Try.prog W = .ok (.agg #[.int .i64 (z i 0), .int .i64 (z i 1)]) W := by
  have := run_loadAt_mid (P := Try.prog) W b (o + i * 2) 23 [.int .i64 (z i 0), .int .i64 (z i 1)] _ (fun j v hv => by
    match j, hv with
    | 0, hv => cases hv; exact cellFr hf (fun h => h) (hc i 0 hi (by omega))
    | 1, hv => cases hv; exact cellFr hf (fun h => h) (hc i 1 hi (by omega))
    | j + 2, hv => simp at hv) Try.underlying23 rfl (by kernel_rfl)
  simpa using this
set_option maxHeartbeats 3200000 in
theorem rsgreat_any {w : World} {a : Option Addr} {n c : Nat} {z : Nat → Nat → Int} (h : Ri w 2 a n z) (hb : n ≤ 140737488355328) : Calls Try.prog 15 #[.slice a n c] w fun e w' => e = .returned (.agg #[.int .i64 (S.gr z n).1, .int .i64 (S.gr z n).2]) ∧ Fr (fun _ => False) w w' := by
  have HH := hid h
  clear h
  go_enter Try.func15, Try.ntmps15
  go_wp2
  go_loopw [4] (fun i wr => ∃ (k : Nat), k ≤ n ∧ i = .int .i64 k ∧ Hid (Sb wr (w.heap.size + 1) (S.gr z k) ∧ Sb wr w.heap.size (0, 0) ∧ Fr (fun _ => False) w wr)) (fun i _ => n - (intOf i).toNat)
  case atStart => exact ⟨0, Nat.zero_le _, rfl, hid ⟨S.two1 w _ _, S.two0 w _ _, Fr.alloc (Fr.alloc (Fr.refl _ _) _) _⟩⟩
  case round =>
    obtain ⟨k, hk, rfl, HV⟩ := hrel
    by_cases hlt : k < n
    · obtain ⟨b, o, rfl, hc⟩ := HH.out.some_of (by omega)
      have HC := hid hc
      clear hc
      have i0 : (0 : Int) ≤ (k : Int) := by omega
      have i1 : (k : Int) < (n : Int) := by omega
      go_wp2
      by_cases hk0 : k = 0
      · have hk1 : ((k : Int) == 0) = true := by subst hk0; rfl
        have HE := hid (show S.gr z (k + 1) = (z k 0, z k 1) by subst hk0; rfl)
        clear hk0
        have hmx : Try.prog.follows .mixedOrders = true := by kernel_rfl
        refine wp_region_held (S := fun V => Fr (fun _ => False) wr V) hmx ?_
        have hS := (show Fr (fun _ => False) wr wr.drew from Fr.drew (Fr.refl _ _))
        simp only [List.size_toArray, List.length_cons, List.length_nil, Nat.reduceAdd, Array.replicate_succ, Array.replicate_zero, List.push_toArray, List.nil_append, List.cons_append]
        refine wpAnyH_take (i := 0) (v := ?_) rfl (by kernel_rfl) (by kernel_rfl) (by kernel_rfl) (fun _ _ _ h => h) (Or.inl ⟨by kernel_rfl, ?_⟩) hS ?_
        rotate_left 1
        · (intro w' hS'; clear hS'; go_simp; try with_reducible rfl)
        simp only [List.getElem_toArray, List.getElem_cons_zero, List.getElem_cons_succ, Act.put, List.setIfInBounds_toArray, List.set_cons_zero, List.set_cons_succ]
        refine wpAnyH_take (i := 1) (v := .bool true) rfl (by kernel_rfl) (by kernel_rfl) (by kernel_rfl) (fun _ _ _ h => h) (Or.inl ⟨by kernel_rfl, fun w' hS' => by clear hS'; go_simp⟩) hS ?_
        simp only [List.getElem_toArray, List.getElem_cons_zero, List.getElem_cons_succ, Act.put, List.setIfInBounds_toArray, List.set_cons_zero, List.set_cons_succ]
        refine wpAnyH_take (i := 2) (v := ?_) rfl (by kernel_rfl) (by kernel_rfl) (by kernel_rfl) (fun _ _ _ h => h) (Or.inl ⟨by kernel_rfl, ?_⟩) hS ?_
        rotate_left 1
        · (intro w' hS'; clear hS'; go_simp; try with_reducible rfl)
        simp only [List.getElem_toArray, List.getElem_cons_zero, List.getElem_cons_succ, Act.put, List.setIfInBounds_toArray, List.set_cons_zero, List.set_cons_succ]
        refine wpAnyH_take (i := 3) (v := undef) rfl (by kernel_rfl) (by kernel_rfl) (by kernel_rfl) (fun _ _ _ h => h) (Or.inr ⟨by kernel_rfl, rfl⟩) hS ?_
        simp only [List.getElem_toArray, List.getElem_cons_zero, List.getElem_cons_succ, Act.put, List.setIfInBounds_toArray, List.set_cons_zero, List.set_cons_succ]
        refine wpAnyH_take (i := 4) (v := undef) rfl (by kernel_rfl) (by kernel_rfl) (by kernel_rfl) (fun _ _ _ h => h) (Or.inr ⟨by kernel_rfl, rfl⟩) hS ?_
        simp only [List.getElem_toArray, List.getElem_cons_zero, List.getElem_cons_succ, Act.put, List.setIfInBounds_toArray, List.set_cons_zero, List.set_cons_succ]
        refine wpAnyH_take (i := 5) (v := undef) rfl (by kernel_rfl) (by kernel_rfl) (by kernel_rfl) (fun _ _ _ h => h) (Or.inr ⟨by kernel_rfl, rfl⟩) hS ?_
        simp only [List.getElem_toArray, List.getElem_cons_zero, List.getElem_cons_succ, Act.put, List.setIfInBounds_toArray, List.set_cons_zero, List.set_cons_succ]
        refine wpAnyH_take (i := 6) (v := undef) rfl (by kernel_rfl) (by kernel_rfl) (by kernel_rfl) (fun _ _ _ h => h) (Or.inr ⟨by kernel_rfl, rfl⟩) hS ?_
        simp only [List.getElem_toArray, List.getElem_cons_zero, List.getElem_cons_succ, Act.put, List.setIfInBounds_toArray, List.set_cons_zero, List.set_cons_succ]
        refine wpAnyH_take (i := 7) (v := undef) rfl (by kernel_rfl) (by kernel_rfl) (by kernel_rfl) (fun _ _ _ h => h) (Or.inr ⟨by kernel_rfl, rfl⟩) hS ?_
        simp only [List.getElem_toArray, List.getElem_cons_zero, List.getElem_cons_succ, Act.put, List.setIfInBounds_toArray, List.set_cons_zero, List.set_cons_succ]
        refine wpAnyH_take (i := 8) (v := undef) rfl (by kernel_rfl) (by kernel_rfl) (by kernel_rfl) (fun _ _ _ h => h) (Or.inr ⟨by kernel_rfl, rfl⟩) hS ?_
        simp only [List.getElem_toArray, List.getElem_cons_zero, List.getElem_cons_succ, Act.put, List.setIfInBounds_toArray, List.set_cons_zero, List.set_cons_succ]
        refine wpAnyH_take (i := 9) (v := undef) rfl (by kernel_rfl) (by kernel_rfl) (by kernel_rfl) (fun _ _ _ h => h) (Or.inr ⟨by kernel_rfl, rfl⟩) hS ?_
        simp only [List.getElem_toArray, List.getElem_cons_zero, List.getElem_cons_succ, Act.put, List.setIfInBounds_toArray, List.set_cons_zero, List.set_cons_succ]
        refine wpAnyH_take (i := 10) (v := .bool true) rfl (by kernel_rfl) (by kernel_rfl) (by kernel_rfl) (fun _ _ _ h => h) (Or.inl ⟨by kernel_rfl, fun w' hS' => by clear hS'; go_simp⟩) hS ?_
        simp only [List.getElem_toArray, List.getElem_cons_zero, List.getElem_cons_succ, Act.put, List.setIfInBounds_toArray, List.set_cons_zero, List.set_cons_succ]
        refine wpAnyH_done (by kernel_rfl) ?_ _
        obtain ⟨V, st, hbV, fV⟩ := box_whole (b := w.heap.size + 1) (c := #[.int .i64 (z k 0), .int .i64 (z k 1)]) ((HV.out.1).fr hS) rfl (by kernel_rfl) (by kernel_rfl)
        have ST := hid st
        have L2 := hid (Ri.load2 HC.out (HV.out.2.2.trans hS (fun _ _ h => h)) hlt)
        have FIN := hid (show Sb V (w.heap.size + 1) (S.gr z (k + 1)) ∧ Sb V w.heap.size (0, 0) ∧ Fr (fun _ => False) w V from ⟨by unfold Sb; rw [HE.out]; exact hbV, fV.cells (HV.out.2.1.fr hS) (by omega), (HV.out.2.2.trans hS (fun _ _ h => h)).trans fV (fun i hi e => by omega)⟩)
        clear st hbV fV
        go_wp2_with (first
          | (refine wpList_load_v L2.out (by exact ⟨_, rfl, rfl⟩) (by kernel_rfl) ?_)
          | (refine wpList_store_v ST.out (by exact ⟨_, _, rfl, rfl, rfl⟩) (by kernel_rfl) ?_))
        go_roundw
        case rel => exact ⟨k + 1, by omega, by first | go_num | trivial, FIN⟩
        case measure => simp [intOf]; omega
      · have hk1 : ((k : Int) == 0) = false := by simp; omega
        have HE := hid (show S.gr z (k + 1) = if 0 < S.cmp (z k 0) (z k 1) (S.gr z k).1 (S.gr z k).2 then (z k 0, z k 1) else S.gr z k by
          obtain ⟨m, rfl⟩ : ∃ m, k = m + 1 := ⟨k - 1, by omega⟩
          rfl)
        clear hk0
        have KC := hid (rscompare_any (z k 0) (z k 1) (S.gr z k).1 (S.gr z k).2)
        have L1 := hid (fun V (hf : Fr (fun _ => False) wr V) => Ri.load2 HC.out (HV.out.2.2.trans hf (fun _ _ h => h)) hlt)
        have LD := hid (fun V (hf : Fr (fun _ => False) wr V) => load_whole (ty := 23) (HV.out.1.fr hf) Try.underlying23 rfl (by kernel_rfl))
        by_cases hc0 : 0 < S.cmp (z k 0) (z k 1) (S.gr z k).1 (S.gr z k).2
        · rw [if_pos hc0] at HE
          generalize S.cmp (z k 0) (z k 1) (S.gr z k).1 (S.gr z k).2 = x at hc0 KC
          have hmx : Try.prog.follows .mixedOrders = true := by kernel_rfl
          refine wp_region_held (S := fun V => Fr (fun _ => False) wr V) hmx ?_
          have hS := (show Fr (fun _ => False) wr wr.drew from Fr.drew (Fr.refl _ _))
          simp only [List.size_toArray, List.length_cons, List.length_nil, Nat.reduceAdd, Array.replicate_succ, Array.replicate_zero, List.push_toArray, List.nil_append, List.cons_append]
          refine wpAnyH_take (i := 0) (v := ?_) rfl (by kernel_rfl) (by kernel_rfl) (by kernel_rfl) (fun _ _ _ h => h) (Or.inl ⟨by kernel_rfl, ?_⟩) hS ?_
          rotate_left 1
          · (intro w' hS'; clear hS'; go_simp; try with_reducible rfl)
          simp only [List.getElem_toArray, List.getElem_cons_zero, List.getElem_cons_succ, Act.put, List.setIfInBounds_toArray, List.set_cons_zero, List.set_cons_succ]
          refine wpAnyH_take (i := 1) (v := .bool false) rfl (by kernel_rfl) (by kernel_rfl) (by kernel_rfl) (fun _ _ _ h => h) (Or.inl ⟨by kernel_rfl, fun w' hS' => by clear hS'; go_simp⟩) hS ?_
          simp only [List.getElem_toArray, List.getElem_cons_zero, List.getElem_cons_succ, Act.put, List.setIfInBounds_toArray, List.set_cons_zero, List.set_cons_succ]
          refine wpAnyH_take (i := 2) (v := ?_) rfl (by kernel_rfl) (by kernel_rfl) (by kernel_rfl) (fun _ _ _ h => h) (Or.inl ⟨by kernel_rfl, ?_⟩) hS ?_
          rotate_left 1
          · (intro w' hS'; clear hS'; go_simp; try with_reducible rfl)
          simp only [List.getElem_toArray, List.getElem_cons_zero, List.getElem_cons_succ, Act.put, List.setIfInBounds_toArray, List.set_cons_zero, List.set_cons_succ]
          refine wpAnyH_take (i := 3) (v := ?_) rfl (by kernel_rfl) (by kernel_rfl) (by kernel_rfl) (fun _ _ _ h => h) (Or.inl ⟨by kernel_rfl, ?_⟩) hS ?_
          rotate_left 1
          · (intro w' hS'; clear hS'; go_simp; try with_reducible rfl)
          simp only [List.getElem_toArray, List.getElem_cons_zero, List.getElem_cons_succ, Act.put, List.setIfInBounds_toArray, List.set_cons_zero, List.set_cons_succ]
          refine wpAnyH_take (i := 4) (v := ?_) rfl (by kernel_rfl) (by kernel_rfl) (by kernel_rfl) (fun _ _ _ h => h) (Or.inl ⟨by kernel_rfl, ?_⟩) hS ?_
          rotate_left 1
          · (intro w' hS'; clear hS'; go_simp; try with_reducible rfl)
          simp only [List.getElem_toArray, List.getElem_cons_zero, List.getElem_cons_succ, Act.put, List.setIfInBounds_toArray, List.set_cons_zero, List.set_cons_succ]
          refine wpAnyH_take (i := 5) (v := ?_) rfl (by kernel_rfl) (by kernel_rfl) (by kernel_rfl) (fun _ _ _ h => h) (Or.inl ⟨by kernel_rfl, ?_⟩) hS ?_
          rotate_left 1
          · (intro w' hS'; clear hS'; go_simp; try with_reducible rfl)
          simp only [List.getElem_toArray, List.getElem_cons_zero, List.getElem_cons_succ, Act.put, List.setIfInBounds_toArray, List.set_cons_zero, List.set_cons_succ]
          refine wpAnyH_take (i := 6) rfl (by kernel_rfl) (by kernel_rfl) (by kernel_rfl) (fun _ _ _ h => h) (jyload (by kernel_rfl) (by exact ⟨_, rfl, rfl⟩) (fun w' hS' => L1.out w' hS')) hS ?_
          simp only [List.getElem_toArray, List.getElem_cons_zero, List.getElem_cons_succ, Act.put, List.setIfInBounds_toArray, List.set_cons_zero, List.set_cons_succ]
          refine wpAnyH_take (i := 7) rfl (by kernel_rfl) (by kernel_rfl) (by kernel_rfl) (fun _ _ _ h => h) (jyload (by kernel_rfl) (by exact ⟨_, rfl, rfl⟩) (fun w' hS' => LD.out w' hS')) hS ?_
          simp only [List.getElem_toArray, List.getElem_cons_zero, List.getElem_cons_succ, Act.put, List.setIfInBounds_toArray, List.set_cons_zero, List.set_cons_succ]
          refine wpAnyH_ready (rs := [8]) (by kernel_rfl) (by simp) ?_
          refine AllReadyH.cons rfl (fun K1 hK1 => ?_) AllReadyH.nil
          go_simp
          refine (KC.out _).mono ?_
          rintro e w98 ⟨rfl, fx⟩
          refine hK1.out _ _ (hS.trans fx (fun _ _ h => h)) (fun hS => ?_)
          clear fx
          clear hK1 K1
          simp only [List.getElem_toArray, List.getElem_cons_zero, List.getElem_cons_succ, Act.put, List.setIfInBounds_toArray, List.set_cons_zero, List.set_cons_succ]
          refine wpAnyH_take (i := 9) (v := .bool true) rfl (by kernel_rfl) (by kernel_rfl) (by kernel_rfl) (fun _ _ _ h => h) (Or.inl ⟨by kernel_rfl, fun w' hS' => by clear hS'; go_simp⟩) hS ?_
          simp only [List.getElem_toArray, List.getElem_cons_zero, List.getElem_cons_succ, Act.put, List.setIfInBounds_toArray, List.set_cons_zero, List.set_cons_succ]
          refine wpAnyH_take (i := 10) (v := .bool true) rfl (by kernel_rfl) (by kernel_rfl) (by kernel_rfl) (fun _ _ _ h => h) (Or.inl ⟨by kernel_rfl, fun w' hS' => by clear hS'; go_simp⟩) hS ?_
          simp only [List.getElem_toArray, List.getElem_cons_zero, List.getElem_cons_succ, Act.put, List.setIfInBounds_toArray, List.set_cons_zero, List.set_cons_succ]
          refine wpAnyH_done (by kernel_rfl) ?_ _
          obtain ⟨V, st, hbV, fV⟩ := box_whole (b := w.heap.size + 1) (c := #[.int .i64 (z k 0), .int .i64 (z k 1)]) ((HV.out.1).fr hS) rfl (by kernel_rfl) (by kernel_rfl)
          have ST := hid st
          have L2 := hid (Ri.load2 HC.out (HV.out.2.2.trans hS (fun _ _ h => h)) hlt)
          have FIN := hid (show Sb V (w.heap.size + 1) (S.gr z (k + 1)) ∧ Sb V w.heap.size (0, 0) ∧ Fr (fun _ => False) w V from ⟨by unfold Sb; rw [HE.out]; exact hbV, fV.cells (HV.out.2.1.fr hS) (by omega), (HV.out.2.2.trans hS (fun _ _ h => h)).trans fV (fun i hi e => by omega)⟩)
          clear st hbV fV
          go_wp2_with (first
            | (refine wpList_load_v L2.out (by exact ⟨_, rfl, rfl⟩) (by kernel_rfl) ?_)
            | (refine wpList_store_v ST.out (by exact ⟨_, _, rfl, rfl, rfl⟩) (by kernel_rfl) ?_))
          go_roundw
          case rel => exact ⟨k + 1, by omega, by first | go_num | trivial, FIN⟩
          case measure => simp [intOf]; omega
        · rw [if_neg hc0] at HE
          generalize S.cmp (z k 0) (z k 1) (S.gr z k).1 (S.gr z k).2 = x at hc0 KC
          have hmx : Try.prog.follows .mixedOrders = true := by kernel_rfl
          refine wp_region_held (S := fun V => Fr (fun _ => False) wr V) hmx ?_
          have hS := (show Fr (fun _ => False) wr wr.drew from Fr.drew (Fr.refl _ _))
          simp only [List.size_toArray, List.length_cons, List.length_nil, Nat.reduceAdd, Array.replicate_succ, Array.replicate_zero, List.push_toArray, List.nil_append, List.cons_append]
          refine wpAnyH_take (i := 0) (v := ?_) rfl (by kernel_rfl) (by kernel_rfl) (by kernel_rfl) (fun _ _ _ h => h) (Or.inl ⟨by kernel_rfl, ?_⟩) hS ?_
          rotate_left 1
          · (intro w' hS'; clear hS'; go_simp; try with_reducible rfl)
          simp only [List.getElem_toArray, List.getElem_cons_zero, List.getElem_cons_succ, Act.put, List.setIfInBounds_toArray, List.set_cons_zero, List.set_cons_succ]
          refine wpAnyH_take (i := 1) (v := .bool false) rfl (by kernel_rfl) (by kernel_rfl) (by kernel_rfl) (fun _ _ _ h => h) (Or.inl ⟨by kernel_rfl, fun w' hS' => by clear hS'; go_simp⟩) hS ?_
          simp only [List.getElem_toArray, List.getElem_cons_zero, List.getElem_cons_succ, Act.put, List.setIfInBounds_toArray, List.set_cons_zero, List.set_cons_succ]
          refine wpAnyH_take (i := 2) (v := ?_) rfl (by kernel_rfl) (by kernel_rfl) (by kernel_rfl) (fun _ _ _ h => h) (Or.inl ⟨by kernel_rfl, ?_⟩) hS ?_
          rotate_left 1
          · (intro w' hS'; clear hS'; go_simp; try with_reducible rfl)
          simp only [List.getElem_toArray, List.getElem_cons_zero, List.getElem_cons_succ, Act.put, List.setIfInBounds_toArray, List.set_cons_zero, List.set_cons_succ]
          refine wpAnyH_take (i := 3) (v := ?_) rfl (by kernel_rfl) (by kernel_rfl) (by kernel_rfl) (fun _ _ _ h => h) (Or.inl ⟨by kernel_rfl, ?_⟩) hS ?_
          rotate_left 1
          · (intro w' hS'; clear hS'; go_simp; try with_reducible rfl)
          simp only [List.getElem_toArray, List.getElem_cons_zero, List.getElem_cons_succ, Act.put, List.setIfInBounds_toArray, List.set_cons_zero, List.set_cons_succ]
          refine wpAnyH_take (i := 4) (v := ?_) rfl (by kernel_rfl) (by kernel_rfl) (by kernel_rfl) (fun _ _ _ h => h) (Or.inl ⟨by kernel_rfl, ?_⟩) hS ?_
          rotate_left 1
          · (intro w' hS'; clear hS'; go_simp; try with_reducible rfl)
          simp only [List.getElem_toArray, List.getElem_cons_zero, List.getElem_cons_succ, Act.put, List.setIfInBounds_toArray, List.set_cons_zero, List.set_cons_succ]
          refine wpAnyH_take (i := 5) (v := ?_) rfl (by kernel_rfl) (by kernel_rfl) (by kernel_rfl) (fun _ _ _ h => h) (Or.inl ⟨by kernel_rfl, ?_⟩) hS ?_
          rotate_left 1
          · (intro w' hS'; clear hS'; go_simp; try with_reducible rfl)
          simp only [List.getElem_toArray, List.getElem_cons_zero, List.getElem_cons_succ, Act.put, List.setIfInBounds_toArray, List.set_cons_zero, List.set_cons_succ]
          refine wpAnyH_take (i := 6) rfl (by kernel_rfl) (by kernel_rfl) (by kernel_rfl) (fun _ _ _ h => h) (jyload (by kernel_rfl) (by exact ⟨_, rfl, rfl⟩) (fun w' hS' => L1.out w' hS')) hS ?_
          simp only [List.getElem_toArray, List.getElem_cons_zero, List.getElem_cons_succ, Act.put, List.setIfInBounds_toArray, List.set_cons_zero, List.set_cons_succ]
          refine wpAnyH_take (i := 7) rfl (by kernel_rfl) (by kernel_rfl) (by kernel_rfl) (fun _ _ _ h => h) (jyload (by kernel_rfl) (by exact ⟨_, rfl, rfl⟩) (fun w' hS' => LD.out w' hS')) hS ?_
          simp only [List.getElem_toArray, List.getElem_cons_zero, List.getElem_cons_succ, Act.put, List.setIfInBounds_toArray, List.set_cons_zero, List.set_cons_succ]
          refine wpAnyH_ready (rs := [8]) (by kernel_rfl) (by simp) ?_
          refine AllReadyH.cons rfl (fun K1 hK1 => ?_) AllReadyH.nil
          go_simp
          refine (KC.out _).mono ?_
          rintro e w98 ⟨rfl, fx⟩
          refine hK1.out _ _ (hS.trans fx (fun _ _ h => h)) (fun hS => ?_)
          clear fx
          clear hK1 K1
          simp only [List.getElem_toArray, List.getElem_cons_zero, List.getElem_cons_succ, Act.put, List.setIfInBounds_toArray, List.set_cons_zero, List.set_cons_succ]
          refine wpAnyH_take (i := 9) (v := .bool false) rfl (by kernel_rfl) (by kernel_rfl) (by kernel_rfl) (fun _ _ _ h => h) (Or.inl ⟨by kernel_rfl, fun w' hS' => by clear hS'; go_simp⟩) hS ?_
          simp only [List.getElem_toArray, List.getElem_cons_zero, List.getElem_cons_succ, Act.put, List.setIfInBounds_toArray, List.set_cons_zero, List.set_cons_succ]
          refine wpAnyH_take (i := 10) (v := .bool false) rfl (by kernel_rfl) (by kernel_rfl) (by kernel_rfl) (fun _ _ _ h => h) (Or.inl ⟨by kernel_rfl, fun w' hS' => by clear hS'; go_simp⟩) hS ?_
          simp only [List.getElem_toArray, List.getElem_cons_zero, List.getElem_cons_succ, Act.put, List.setIfInBounds_toArray, List.set_cons_zero, List.set_cons_succ]
          refine wpAnyH_done (by kernel_rfl) ?_ _
          have FIN := hid (show Sb w98 (w.heap.size + 1) (S.gr z (k + 1)) ∧ Sb w98 w.heap.size (0, 0) ∧ Fr (fun _ => False) w w98 from ⟨by rw [HE.out]; exact HV.out.1.fr hS, HV.out.2.1.fr hS, HV.out.2.2.trans hS (fun _ _ h => h)⟩)
          go_wp2
          go_roundw
          case rel => exact ⟨k + 1, by omega, by first | go_num | trivial, FIN⟩
          case measure => simp [intOf]; omega
    · obtain rfl : k = n := by omega
      obtain ⟨V, st, hbV, fV⟩ := box_whole (V := wr) (b := w.heap.size) (c := #[.int .i64 (S.gr z k).1, .int .i64 (S.gr z k).2]) HV.out.2.1 rfl (by kernel_rfl) (by kernel_rfl)
      have ld := load_whole (ty := 23) HV.out.1 Try.underlying23 rfl (by kernel_rfl)
      have lr := loadVar_whole (ty := 23) hbV Try.underlying23 rfl (by kernel_rfl)
      have FIN := hid (HV.out.2.2.trans fV (fun i hi e => by omega))
      generalize hva : Value.agg #[.int .i64 (S.gr z k).1, .int .i64 (S.gr z k).2] = va at st ld lr
      have HVA := hid hva
      have ST := hid st
      have LD := hid ld
      have LR := hid lr
      clear hva st ld lr hbV fV HV HH
      go_wp2_with (first
        | (refine wpList_load_v LD.out (by exact ⟨_, rfl, rfl⟩) (by kernel_rfl) ?_)
        | (refine wpList_store_v ST.out (by exact ⟨_, _, rfl, rfl, rfl⟩) (by kernel_rfl) ?_))
      exact bodyPost_ret (v := va) (results_cell1 Try.results15 _ _ _ _ _ (by rfl) LR.out) rfl ⟨by rw [HVA.out], FIN.out⟩
end Go.Proofs.Ytfbpaboakdpceaa

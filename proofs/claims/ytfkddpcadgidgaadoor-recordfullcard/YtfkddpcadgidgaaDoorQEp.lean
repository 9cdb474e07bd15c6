/-
  Which configurations may be: CheckEpoch.
-/
import Derived.Test.YtfkddpcadgidgaaDoorQOp
namespace Go.Proofs.YtfkddpcadgidgaaDoor
open Go.RowKit
set_option linter.unusedVariables false

/-- numbers within a block that is known whole -/
theorem Is.part {w : World} {g : Nat} {cs : Array Value} {t : TypeId} {m : Nat × Nat} (h : w.heap[g]? = some (.cells cs t m)) (off n : Nat) (ns : List Int) (hn : ns.length = n) (hc : (cs.toList.drop off).take n = ns.map (fun x => Value.int .i64 x)) : Is w (some ⟨g, off, none⟩) n ns := by
  refine ⟨hn, .inr ⟨_, _, rfl, fun k x hx => cell_at h ?_⟩⟩
  have h1 : ((cs.toList.drop off).take n)[k]? = some (Value.int .i64 x) := by rw [hc, List.getElem?_map, hx]; rfl
  rw [List.getElem?_take] at h1
  split at h1
  · rw [List.getElem?_drop, Array.getElem?_toList] at h1
    exact h1
  · cases h1
set_option maxHeartbeats 800000 in
theorem isVector_any (x : Nat → Int) (w : World) : Calls Tryd.prog 91 #[.agg #[.int .i64 (x 9), .int .i64 (x 10), .int .i64 (x 11), .int .i64 (x 12), .int .i64 (x 13), .int .i64 (x 14), .int .i64 (x 15), .int .i64 (x 16)]] w fun e w' => e = .returned (.bool (M.within 0 1099511627776 [x 9, x 10, x 11, x 12, x 13, x 14, x 15, x 16])) ∧ Fr (fun _ => False) w w' := by
  have K := hid (fun g (hg : w.heap.size = g) => areCounts_any (some ⟨g, 0, none⟩) 8 8 [x 9, x 10, x 11, x 12, x 13, x 14, x 15, x 16] (w.alloc (.cells #[.int .i64 (x 9), .int .i64 (x 10), .int .i64 (x 11), .int .i64 (x 12), .int .i64 (x 13), .int .i64 (x 14), .int .i64 (x 15), .int .i64 (x 16)] 29)) (Is.newn w g hg _ _ _ 8 rfl rfl) (by omega))
  obtain ⟨b, hb⟩ : ∃ b, M.within 0 1099511627776 [x 9, x 10, x 11, x 12, x 13, x 14, x 15, x 16] = b := ⟨_, rfl⟩
  rw [hb] at K ⊢
  clear hb
  go_enter Tryd.func91, Tryd.ntmps91
  go_wp2_with (first | (go_at_call 61; refine (K.out _ rfl).mono ?_; rintro e wx ⟨rfl, rfl⟩))
  go_ret
  exact ⟨rfl, Fr.alloc (Fr.refl _ _) _⟩
def M.epCs (x : Nat → Int) : Array Value := #[.int .i64 (x 0), .int .i64 (x 1), .int .i64 (x 2), .int .i64 (x 3), .int .i64 (x 4), .int .i64 (x 5), .int .i64 (x 6), .int .i64 (x 7), .int .i64 (x 8), .int .i64 (x 9), .int .i64 (x 10), .int .i64 (x 11), .int .i64 (x 12), .int .i64 (x 13), .int .i64 (x 14), .int .i64 (x 15), .int .i64 (x 16), .int .i64 (x 17), .int .i64 (x 18), .int .i64 (x 19), .int .i64 (x 20), .int .i64 (x 21), .int .i64 (x 22), .int .i64 (x 23), .int .i64 (x 24)]
def M.mayEp (x : Nat → Int) : Bool := M.within 0 1099511627776 [x 0] && M.within 0 3 [x 1, x 2, x 3, x 4, x 5, x 6, x 7, x 8] && M.within 0 1099511627776 [x 9, x 10, x 11, x 12, x 13, x 14, x 15, x 16] && M.within (-1) 7 [x 17, x 18, x 19, x 20, x 21, x 22, x 23, x 24]
set_option maxRecDepth 20000 in
set_option maxHeartbeats 3200000 in
theorem checkEpoch_any (x : Nat → Int) (w : World) : Calls Tryd.prog 89 #[.agg (M.epCs x)] w fun e w' => e = .returned (.int .i64 (if M.mayEp x then 0 else 40)) ∧ Fr (fun _ => False) w w' := by
  unfold M.epCs
  have hbx := Go.heap_alloc_new w (.cells #[.int .i64 (x 0), .int .i64 (x 1), .int .i64 (x 2), .int .i64 (x 3), .int .i64 (x 4), .int .i64 (x 5), .int .i64 (x 6), .int .i64 (x 7), .int .i64 (x 8), .int .i64 (x 9), .int .i64 (x 10), .int .i64 (x 11), .int .i64 (x 12), .int .i64 (x 13), .int .i64 (x 14), .int .i64 (x 15), .int .i64 (x 16), .int .i64 (x 17), .int .i64 (x 18), .int .i64 (x 19), .int .i64 (x 20), .int .i64 (x 21), .int .i64 (x 22), .int .i64 (x 23), .int .i64 (x 24)] 31)
  have I1 := hid (fun W (hf : Fr (fun _ => False) (w.alloc (.cells #[.int .i64 (x 0), .int .i64 (x 1), .int .i64 (x 2), .int .i64 (x 3), .int .i64 (x 4), .int .i64 (x 5), .int .i64 (x 6), .int .i64 (x 7), .int .i64 (x 8), .int .i64 (x 9), .int .i64 (x 10), .int .i64 (x 11), .int .i64 (x 12), .int .i64 (x 13), .int .i64 (x 14), .int .i64 (x 15), .int .i64 (x 16), .int .i64 (x 17), .int .i64 (x 18), .int .i64 (x 19), .int .i64 (x 20), .int .i64 (x 21), .int .i64 (x 22), .int .i64 (x 23), .int .i64 (x 24)] 31)) W) => Is.part (hf.cells hbx (fun h => h)) 1 8 [x 1, x 2, x 3, x 4, x 5, x 6, x 7, x 8] rfl rfl)
  have I3 := hid (fun W (hf : Fr (fun _ => False) (w.alloc (.cells #[.int .i64 (x 0), .int .i64 (x 1), .int .i64 (x 2), .int .i64 (x 3), .int .i64 (x 4), .int .i64 (x 5), .int .i64 (x 6), .int .i64 (x 7), .int .i64 (x 8), .int .i64 (x 9), .int .i64 (x 10), .int .i64 (x 11), .int .i64 (x 12), .int .i64 (x 13), .int .i64 (x 14), .int .i64 (x 15), .int .i64 (x 16), .int .i64 (x 17), .int .i64 (x 18), .int .i64 (x 19), .int .i64 (x 20), .int .i64 (x 21), .int .i64 (x 22), .int .i64 (x 23), .int .i64 (x 24)] 31)) W) => Is.part (hf.cells hbx (fun h => h)) 17 8 [x 17, x 18, x 19, x 20, x 21, x 22, x 23, x 24] rfl rfl)
  clear hbx
  cases B0 : M.within 0 1099511627776 [x 0] with
  | false =>
    have e0 : M.mayEp x = false := by unfold M.mayEp; rw [B0]; simp
    rw [e0]
    go_enter Tryd.func89, Tryd.ntmps89
    go_wp2_with (first
      | (go_at_call 61; refine (areCounts_any _ 1 1 [x 0] _ (Is.newn _ _ (by simp) [x 0] _ _ 1 rfl rfl) (by omega)).mono ?_; rw [B0]; rintro e wx ⟨rfl, rfl⟩)
      | (go_at_call 60; refine (told_any _ _).mono ?_; rintro e wx ⟨rfl, rfl⟩))
    go_ret
    exact ⟨rfl, by first | exact (Fr.alloc (Fr.refl _ _) _).trans F2.out (fun _ _ h => h) | (repeat' (first | exact Fr.refl _ _ | refine Fr.alloc ?_ _))⟩
  | true =>
    cases B1 : M.within 0 3 [x 1, x 2, x 3, x 4, x 5, x 6, x 7, x 8] with
    | false =>
      have e0 : M.mayEp x = false := by unfold M.mayEp; rw [B0, B1]; simp
      rw [e0]
      go_enter Tryd.func89, Tryd.ntmps89
      go_wp2_with (first
        | (go_at_call 61; refine (areCounts_any _ 1 1 [x 0] _ (Is.newn _ _ (by simp) [x 0] _ _ 1 rfl rfl) (by omega)).mono ?_; rw [B0]; rintro e wx ⟨rfl, rfl⟩)
        | (go_at_call 63; refine (within_int 0 3 _ 8 8 [x 1, x 2, x 3, x 4, x 5, x 6, x 7, x 8] _ (I1.out _ (Fr.alloc (Fr.refl _ _) _)) (by omega)).mono ?_; rw [B1]; rintro e wx ⟨rfl, rfl⟩)
        | (go_at_call 60; refine (told_any _ _).mono ?_; rintro e wx ⟨rfl, rfl⟩))
      go_ret
      exact ⟨rfl, by first | exact (Fr.alloc (Fr.refl _ _) _).trans F2.out (fun _ _ h => h) | (repeat' (first | exact Fr.refl _ _ | refine Fr.alloc ?_ _))⟩
    | true =>
      cases B2 : M.within 0 1099511627776 [x 9, x 10, x 11, x 12, x 13, x 14, x 15, x 16] with
      | false =>
        have e0 : M.mayEp x = false := by unfold M.mayEp; rw [B0, B1, B2]; simp
        rw [e0]
        go_enter Tryd.func89, Tryd.ntmps89
        go_wp2_with (first
          | (go_at_call 61; refine (areCounts_any _ 1 1 [x 0] _ (Is.newn _ _ (by simp) [x 0] _ _ 1 rfl rfl) (by omega)).mono ?_; rw [B0]; rintro e wx ⟨rfl, rfl⟩)
          | (go_at_call 63; refine (within_int 0 3 _ 8 8 [x 1, x 2, x 3, x 4, x 5, x 6, x 7, x 8] _ (I1.out _ (Fr.alloc (Fr.refl _ _) _)) (by omega)).mono ?_; rw [B1]; rintro e wx ⟨rfl, rfl⟩)
          | (go_at_call 91; refine (isVector_any x _).mono ?_; rw [B2]; rintro e w2 ⟨rfl, hf2⟩; have F2 := hid ((Fr.alloc (Fr.refl (fun _ => False) _) _).trans hf2 (fun _ _ h => h)); clear hf2)
          | (go_at_call 60; refine (told_any _ _).mono ?_; rintro e wx ⟨rfl, rfl⟩))
        go_ret
        exact ⟨rfl, by first | exact (Fr.alloc (Fr.refl _ _) _).trans F2.out (fun _ _ h => h) | (repeat' (first | exact Fr.refl _ _ | refine Fr.alloc ?_ _))⟩
      | true =>
        cases B3 : M.within (-1) 7 [x 17, x 18, x 19, x 20, x 21, x 22, x 23, x 24] with
        | false =>
          have e0 : M.mayEp x = false := by unfold M.mayEp; rw [B0, B1, B2, B3]; simp
          rw [e0]
          go_enter Tryd.func89, Tryd.ntmps89
          go_wp2_with (first
            | (have F9 := F2; go_at_call 63; refine (within_int (-1) 7 _ 8 8 [x 17, x 18, x 19, x 20, x 21, x 22, x 23, x 24] _ (I3.out _ F2.out) (by omega)).mono ?_; rw [B3]; rintro e wx ⟨rfl, rfl⟩)
            | (go_at_call 61; refine (areCounts_any _ 1 1 [x 0] _ (Is.newn _ _ (by simp) [x 0] _ _ 1 rfl rfl) (by omega)).mono ?_; rw [B0]; rintro e wx ⟨rfl, rfl⟩)
            | (go_at_call 63; refine (within_int 0 3 _ 8 8 [x 1, x 2, x 3, x 4, x 5, x 6, x 7, x 8] _ (I1.out _ (Fr.alloc (Fr.refl _ _) _)) (by omega)).mono ?_; rw [B1]; rintro e wx ⟨rfl, rfl⟩)
            | (go_at_call 91; refine (isVector_any x _).mono ?_; rw [B2]; rintro e w2 ⟨rfl, hf2⟩; have F2 := hid ((Fr.alloc (Fr.refl (fun _ => False) _) _).trans hf2 (fun _ _ h => h)); clear hf2)
            | (go_at_call 60; refine (told_any _ _).mono ?_; rintro e wx ⟨rfl, rfl⟩))
          go_ret
          exact ⟨rfl, by first | exact (Fr.alloc (Fr.refl _ _) _).trans F2.out (fun _ _ h => h) | (repeat' (first | exact Fr.refl _ _ | refine Fr.alloc ?_ _))⟩
        | true =>
          have e0 : M.mayEp x = true := by unfold M.mayEp; rw [B0, B1, B2, B3]; simp
          rw [e0]
          go_enter Tryd.func89, Tryd.ntmps89
          go_wp2_with (first
            | (have F9 := F2; go_at_call 63; refine (within_int (-1) 7 _ 8 8 [x 17, x 18, x 19, x 20, x 21, x 22, x 23, x 24] _ (I3.out _ F2.out) (by omega)).mono ?_; rw [B3]; rintro e wx ⟨rfl, rfl⟩)
            | (go_at_call 61; refine (areCounts_any _ 1 1 [x 0] _ (Is.newn _ _ (by simp) [x 0] _ _ 1 rfl rfl) (by omega)).mono ?_; rw [B0]; rintro e wx ⟨rfl, rfl⟩)
            | (go_at_call 63; refine (within_int 0 3 _ 8 8 [x 1, x 2, x 3, x 4, x 5, x 6, x 7, x 8] _ (I1.out _ (Fr.alloc (Fr.refl _ _) _)) (by omega)).mono ?_; rw [B1]; rintro e wx ⟨rfl, rfl⟩)
            | (go_at_call 91; refine (isVector_any x _).mono ?_; rw [B2]; rintro e w2 ⟨rfl, hf2⟩; have F2 := hid ((Fr.alloc (Fr.refl (fun _ => False) _) _).trans hf2 (fun _ _ h => h)); clear hf2)
            | (go_at_call 60; refine (told_any _ _).mono ?_; rintro e wx ⟨rfl, rfl⟩))
          go_ret
          exact ⟨rfl, by first | exact (Fr.alloc (Fr.refl _ _) _).trans F2.out (fun _ _ h => h) | (repeat' (first | exact Fr.refl _ _ | refine Fr.alloc ?_ _))⟩

end Go.Proofs.YtfkddpcadgidgaaDoor

/-
  rises, at its two lists; areAttrs.
  areAttrs.
-/
import Derived.Test.YtilbdpnioajkoaaGreatTSameQ
import Derived.Test.YtilbdpnioajkoaaGreatTKidsQ
import Derived.Test.YtilbdpnioajkoaaGreatMg6
namespace Go.Proofs.YtilbdpnioajkoaaGreat
open Go.RowKit Go.Maps
set_option linter.unusedVariables false
set_option linter.unusedSimpArgs false
set_option maxRecDepth 100000
attribute [local go_sem] Oper.semAt_some
theorem T.bl_lt : ∀ a b : List UInt8, Op.bytesLess a b = decide (a < b)
  | [], [] => by simp [Op.bytesLess]
  | [], y :: t => by simp [Op.bytesLess]
  | x :: r, [] => by simp [Op.bytesLess]
  | x :: r, y :: t => by
    rw [Op.bytesLess, T.bl_lt r t]
    simp only [List.cons_lt_cons_iff, Bool.decide_or, Bool.decide_and]
    congr 2
theorem T.bl_blt (a b : ByteArray) : Op.bytesLess a.toList b.toList = T.blt a b := by
  unfold T.blt
  rw [T.bl_lt, ByteArray.toList_eq, ByteArray.toList_eq]
theorem bel1_any (a b : ByteArray) (v v' : ByteArray) (w : World) : Calls Tryz.prog 105 #[.agg #[.string a, .string v], .agg #[.string b, .string v']] w fun e w' => e = .returned (.bool (T.blt a b)) ∧ Fr (fun _ => False) w w' := by
  go_enter Tryz.func105, Tryz.ntmps105
  go_wp2
  go_ret
  exact ⟨ret_bool (T.bl_blt a b), (Fr.alloc (Fr.alloc (Fr.refl _ _) _) _)⟩
/-- each is above the one ahead of it -/
def T.asc {α : Type} (lt : α → α → Bool) : List α → Bool
  | a :: b :: r => lt a b && T.asc lt (b :: r)
  | _ => true
theorem T.asc_iff {α : Type} {lt : α → α → Bool} : ∀ {l : List α}, T.asc lt l = true ↔ ∀ k a b, l[k]? = some a → l[k + 1]? = some b → lt a b = true
  | [] => ⟨fun _ k a b h => by simp at h, fun _ => rfl⟩
  | [x] => ⟨fun _ k a b h h' => by simp at h', fun _ => rfl⟩
  | x :: y :: r => by
    unfold T.asc
    rw [Bool.and_eq_true, T.asc_iff (l := y :: r)]
    constructor
    · rintro ⟨h1, h2⟩ k a b ha hb
      cases k with
      | zero => simp at ha hb; rw [← ha, ← hb]; exact h1
      | succ k => exact h2 k a b (by simpa using ha) (by simpa using hb)
    · intro h
      exact ⟨h 0 x y rfl rfl, fun k a b ha hb => h (k + 1) a b (by simpa using ha) (by simpa using hb)⟩
set_option maxHeartbeats 4000000 in
theorem risesA_any {w : World} {I : Nat → Prop} {ra : Option Addr} {rc : Nat} {l : T.At} (hR : Rw I w 2 ra l.length (T.flatA l)) (hb : l.length ≤ 5000000000000) :
    Calls Tryz.prog 104 #[.slice ra l.length rc, .func (.func 105) #[] #[]] w fun e w' => e = .returned (.bool (T.asc (fun a b => T.blt a.1 b.1) l)) ∧ Fr (fun _ => False) w w' := by
  obtain ⟨n, hn⟩ : ∃ n, l.length = n := ⟨_, rfl⟩
  have HN := hid hn
  have HR := hid hR
  rw [hn] at hb ⊢
  clear hn hR
  have KB := hid bel1_any
  go_enter Tryz.func104, Tryz.ntmps104
  go_wp2
  go_loopw [5] (fun i wr => ∃ k : Nat, i = .int .i64 k ∧ Hid (1 ≤ k ∧ (k ≤ n ∨ k = 1) ∧ (∀ j a b, j + 1 < k → l[j]? = some a → l[j + 1]? = some b → T.blt a.1 b.1 = true) ∧ Fr (fun _ => False) w wr))
    (fun i _ => (n - intOf i).toNat)
  case atStart => exact ⟨1, rfl, hid ⟨Nat.le_refl _, .inr rfl, fun j a b h _ _ => by omega, Fr.refl _ _⟩⟩
  case round =>
    obtain ⟨k, rfl, hall⟩ := hrel
    by_cases hlt : k < n
    · obtain ⟨q, rfl⟩ : ∃ q, k = q + 1 := ⟨k - 1, by have := hall.out.1; omega⟩
      obtain ⟨x, hx1⟩ : ∃ z, l[q]? = some z := ⟨_, List.getElem?_eq_getElem (by rw [HN.out]; omega)⟩
      obtain ⟨y, hy1⟩ : ∃ z, l[q + 1]? = some z := ⟨_, List.getElem?_eq_getElem (by rw [HN.out]; omega)⟩
      have hRr := HR.out.kept hall.out.2.2.2 (fun _ _ h => h)
      obtain ⟨g1, o1, rfl, a0, a1⟩ := T.flatA_cells hRr hx1
      obtain ⟨g2, o2, he, b0, b1⟩ := T.flatA_cells hRr hy1
      cases he
      have i0 : (0 : Int) ≤ (q : Int) := by omega
      have i1 : (q : Int) < (n : Int) := by omega
      have i2 : (0 : Int) ≤ (q : Int) + 1 := by omega
      have i3 : (q : Int) + 1 < (n : Int) := by omega
      obtain ⟨x1, x2⟩ := x
      obtain ⟨y1, y2⟩ := y
      have HX := hid hx1
      have HY := hid hy1
      have e1 : ((q + 1 : Nat) : Int) - 1 = (q : Int) := by omega
      clear hx1 hy1 hRr
      have HC := hid (show ∀ V, Fr (fun _ => False) wr V → V.cell? ⟨g1, o1 + q * 2, none⟩ = some (.string x1) ∧ V.cell? ⟨g1, o1 + q * 2 + 1, none⟩ = some (.string x2) ∧ V.cell? ⟨g1, o1 + (q + 1) * 2, none⟩ = some (.string y1) ∧ V.cell? ⟨g1, o1 + (q + 1) * 2 + 1, none⟩ = some (.string y2) from fun V hf => ⟨cellFr hf (fun h => h) a0, cellFr hf (fun h => h) a1, cellFr hf (fun h => h) b0, cellFr hf (fun h => h) b1⟩)
      have HALL := hid hall.out
      have HWQ := hid (show IntKind.i64.wrap (q : Int) = (q : Int) from by rw [IntKind.wrap_i64]; omega)
      clear hall
      go_wp2_with fail
      have hmx : Tryz.prog.follows .mixedOrders = true := by kernel_rfl
      refine wp_region_held (S := fun V => Fr (fun _ => False) wr V) hmx ?_
      have hS := (Fr.drew (Fr.refl (fun _ => False) wr))
      simp only [List.size_toArray, List.length_cons, List.length_nil, Nat.reduceAdd, Array.replicate_succ, Array.replicate_zero, List.push_toArray, List.nil_append, List.cons_append]
      refine wpAnyH_take (i := 0) (v := ?_) rfl (by kernel_rfl) (by kernel_rfl) (by kernel_rfl) (fun _ _ _ h => h) (Or.inl ⟨by kernel_rfl, ?_⟩) hS ?_
      rotate_left 1
      · (intro w' hS'; clear hS'; go_simp; try with_reducible rfl)
      simp only [List.getElem_toArray, List.getElem_cons_zero, List.getElem_cons_succ, Act.put, List.setIfInBounds_toArray, List.set_cons_zero, List.set_cons_succ]
      refine wpAnyH_take (i := 1) (v := ?_) rfl (by kernel_rfl) (by kernel_rfl) (by kernel_rfl) (fun _ _ _ h => h) (Or.inl ⟨by kernel_rfl, ?_⟩) hS ?_
      rotate_left 1
      · (intro w' hS'; clear hS'; go_simp; try with_reducible rfl)
      simp only [List.getElem_toArray, List.getElem_cons_zero, List.getElem_cons_succ, Act.put, List.setIfInBounds_toArray, List.set_cons_zero, List.set_cons_succ]
      refine wpAnyH_take (i := 2) (v := ?_) rfl (by kernel_rfl) (by kernel_rfl) (by kernel_rfl) (fun _ _ _ h => h) (Or.inl ⟨by kernel_rfl, ?_⟩) hS ?_
      rotate_left 1
      · (intro w' hS'; clear hS'; go_simp; try with_reducible rfl)
      simp only [List.getElem_toArray, List.getElem_cons_zero, List.getElem_cons_succ, Act.put, List.setIfInBounds_toArray, List.set_cons_zero, List.set_cons_succ]
      refine wpAnyH_take (i := 3) (v := .int .i64 (q : Int)) rfl (by kernel_rfl) (by kernel_rfl) (by kernel_rfl) (fun _ _ _ h => h) (Or.inl ⟨by kernel_rfl, fun w' hS' => by clear hS'; go_simp; rw [HWQ.out]⟩) hS ?_
      simp only [List.getElem_toArray, List.getElem_cons_zero, List.getElem_cons_succ, Act.put, List.setIfInBounds_toArray, List.set_cons_zero, List.set_cons_succ]
      refine wpAnyH_take (i := 4) (v := ?_) rfl (by kernel_rfl) (by kernel_rfl) (by kernel_rfl) (fun _ _ _ h => h) (Or.inl ⟨by kernel_rfl, ?_⟩) hS ?_
      rotate_left 1
      · (intro w' hS'; clear hS'; go_simp; try with_reducible rfl)
      simp only [List.getElem_toArray, List.getElem_cons_zero, List.getElem_cons_succ, Act.put, List.setIfInBounds_toArray, List.set_cons_zero, List.set_cons_succ]
      refine wpAnyH_take (i := 5) (v := ?_) rfl (by kernel_rfl) (by kernel_rfl) (by kernel_rfl) (fun _ _ _ h => h) (Or.inl ⟨by kernel_rfl, ?_⟩) hS ?_
      rotate_left 1
      · (intro w' hS'; have h1 := (HC.out w' hS').1; have h2 := (HC.out w' hS').2.1; clear hS'; go_simp; try with_reducible rfl)
      simp only [List.getElem_toArray, List.getElem_cons_zero, List.getElem_cons_succ, Act.put, List.setIfInBounds_toArray, List.set_cons_zero, List.set_cons_succ]
      refine wpAnyH_take (i := 6) (v := ?_) rfl (by kernel_rfl) (by kernel_rfl) (by kernel_rfl) (fun _ _ _ h => h) (Or.inl ⟨by kernel_rfl, ?_⟩) hS ?_
      rotate_left 1
      · (intro w' hS'; clear hS'; go_simp; try with_reducible rfl)
      simp only [List.getElem_toArray, List.getElem_cons_zero, List.getElem_cons_succ, Act.put, List.setIfInBounds_toArray, List.set_cons_zero, List.set_cons_succ]
      refine wpAnyH_take (i := 7) (v := ?_) rfl (by kernel_rfl) (by kernel_rfl) (by kernel_rfl) (fun _ _ _ h => h) (Or.inl ⟨by kernel_rfl, ?_⟩) hS ?_
      rotate_left 1
      · (intro w' hS'; clear hS'; go_simp; try with_reducible rfl)
      simp only [List.getElem_toArray, List.getElem_cons_zero, List.getElem_cons_succ, Act.put, List.setIfInBounds_toArray, List.set_cons_zero, List.set_cons_succ]
      refine wpAnyH_take (i := 8) (v := .pointer (some ⟨g1, o1 + (q + 1) * 2, none⟩)) rfl (by kernel_rfl) (by kernel_rfl) (by kernel_rfl) (fun _ _ _ h => h) (Or.inl ⟨by kernel_rfl, fun w' hS' => by clear hS'; go_simp; try rfl⟩) hS ?_
      simp only [List.getElem_toArray, List.getElem_cons_zero, List.getElem_cons_succ, Act.put, List.setIfInBounds_toArray, List.set_cons_zero, List.set_cons_succ]
      refine wpAnyH_take (i := 9) (v := ?_) rfl (by kernel_rfl) (by kernel_rfl) (by kernel_rfl) (fun _ _ _ h => h) (Or.inl ⟨by kernel_rfl, ?_⟩) hS ?_
      rotate_left 1
      · (intro w' hS'; have h1 := (HC.out w' hS').2.2.1; have h2 := (HC.out w' hS').2.2.2; clear hS'; go_simp; try with_reducible rfl)
      simp only [List.getElem_toArray, List.getElem_cons_zero, List.getElem_cons_succ, Act.put, List.setIfInBounds_toArray, List.set_cons_zero, List.set_cons_succ]
      refine wpAnyH_ready (rs := [10]) (by kernel_rfl) (by simp) ?_
      refine AllReadyH.cons rfl (fun K1 hK1 => ?_) (AllReadyH.nil)
      go_simp
      refine (KB.out _ _ _ _ _).mono ?_
      rintro e w4 ⟨rfl, fx⟩
      have F4 := hid ((Fr.drew (Fr.refl (fun _ => False) wr)).trans fx (fun _ _ h => h))
      refine hK1.out _ _ (hS.trans fx (fun _ _ h => h.elim)) (fun hS => ?_)
      clear fx
      clear hK1 K1
      simp only [List.getElem_toArray, List.getElem_cons_zero, List.getElem_cons_succ, Act.put, List.setIfInBounds_toArray, List.set_cons_zero, List.set_cons_succ]
      refine wpAnyH_take (i := 11) (v := ?_) rfl (by kernel_rfl) (by kernel_rfl) (by kernel_rfl) (fun _ _ _ h => h) (Or.inl ⟨by kernel_rfl, ?_⟩) hS ?_
      rotate_left 1
      · (intro w' hS'; clear hS'; go_simp; try with_reducible rfl)
      simp only [List.getElem_toArray, List.getElem_cons_zero, List.getElem_cons_succ, Act.put, List.setIfInBounds_toArray, List.set_cons_zero, List.set_cons_succ]
      refine wpAnyH_done (by kernel_rfl) ?_ _
      have FW4 := hid (HALL.out.2.2.2.trans hS (fun _ _ h => h))
      clear hS
      cases hbl : T.blt x1 y1 with
      | true =>
        have HREL := hid (show 1 ≤ q + 2 ∧ (q + 2 ≤ n ∨ q + 2 = 1) ∧ (∀ j a b, j + 1 < q + 2 → l[j]? = some a → l[j + 1]? = some b → T.blt a.1 b.1 = true) ∧ Fr (fun _ => False) w w4 from ⟨by omega, .inl (by omega), fun j a b hj ha hb => by
          by_cases e : j = q
          · subst e
            rw [HX.out] at ha
            rw [HY.out] at hb
            cases ha
            cases hb
            exact hbl
          · exact HALL.out.2.2.1 j a b (by omega) ha hb, FW4.out⟩)
        clear hbl a0 a1 b0 b1
        go_wp2
        go_roundw
        case rel => exact ⟨q + 2, by first | go_num | rfl | trivial, HREL⟩
        case measure => simp [intOf]; omega
      | false =>
        have HRF := hid (show T.asc (fun (a b : T.Pr) => T.blt a.1 b.1) l = false from by
          cases h : T.asc (fun (a b : T.Pr) => T.blt a.1 b.1) l with
          | false => rfl
          | true =>
            have := T.asc_iff.1 h q _ _ HX.out HY.out
            rw [hbl] at this
            cases this)
        clear hbl a0 a1 b0 b1
        go_wp2
        go_ret
        exact ⟨ret_bool HRF.out.symm, FW4.out⟩
    · have HRT := hid (show T.asc (fun (a b : T.Pr) => T.blt a.1 b.1) l = true from T.asc_iff.2 (fun j a b ha hb => hall.out.2.2.1 j a b (by
        have := (List.getElem?_eq_some_iff.1 hb).1
        rw [HN.out] at this
        omega) ha hb))
      have HF := hid hall.out.2.2.2
      have hkn : (n : Int) ≤ (k : Int) := by omega
      have hkn2 : ¬ ((k : Int) < (n : Int)) := by omega
      clear hall hlt
      go_wp2
      go_ret
      exact ⟨ret_bool HRT.out.symm, HF.out⟩
end Go.Proofs.YtilbdpnioajkoaaGreat

namespace Go.Proofs.YtilbdpnioajkoaaGreat
open Go.RowKit Go.Maps
set_option linter.unusedVariables false
set_option linter.unusedSimpArgs false
set_option maxRecDepth 100000
attribute [local go_sem] Oper.semAt_some
def T.txts (l : T.At) : Bool := l.all (fun p => T.txt p.1 && T.txt p.2)
set_option maxHeartbeats 4000000 in
theorem areAttrs_any {w : World} {I : Nat → Prop} {ra : Option Addr} {rc : Nat} {l : T.At} (hR : Rw I w 2 ra l.length (T.flatA l)) (hb : l.length ≤ 5000000000000) :
    Calls Tryz.prog 79 #[.slice ra l.length rc] w fun e w' => e = .returned (.bool (T.txts l && T.asc (fun a b => T.blt a.1 b.1) l)) ∧ Fr (fun _ => False) w w' := by
  have KRI := hid (fun (W : World) (hf : Fr (fun _ => False) w W) => risesA_any (rc := rc) (hR.kept hf (fun _ _ h => h)) hb)
  obtain ⟨n, hn⟩ : ∃ n, l.length = n := ⟨_, rfl⟩
  have HN := hid hn
  have HR := hid hR
  rw [hn] at hb KRI ⊢
  clear hn hR
  have KT := hid isText_any
  go_enter Tryz.func79, Tryz.ntmps79
  go_wp2
  go_loopw [7] (fun i wr => ∃ k : Nat, i = .int .i64 k ∧ Hid (k ≤ n ∧ T.txts (l.take k) = true ∧ Fr (fun _ => False) w wr))
    (fun i _ => (n - intOf i).toNat)
  case atStart => exact ⟨0, rfl, hid ⟨Nat.zero_le _, rfl, Fr.refl _ _⟩⟩
  case round =>
    obtain ⟨k, rfl, hall⟩ := hrel
    by_cases hlt : k < n
    · obtain ⟨x, hx1⟩ : ∃ z, l[k]? = some z := ⟨_, List.getElem?_eq_getElem (by rw [HN.out]; omega)⟩
      have hRr := HR.out.kept hall.out.2.2 (fun _ _ h => h)
      obtain ⟨g1, o1, rfl, a0, a1⟩ := T.flatA_cells hRr hx1
      have i0 : (0 : Int) ≤ (k : Int) := by omega
      have i1 : (k : Int) < (n : Int) := by omega
      obtain ⟨x1, x2⟩ := x
      have HX := hid hx1
      have htk : T.txts (l.take (k + 1)) = (T.txt x1 && T.txt x2) := by
        have h1 := hall.out.2.1
        unfold T.txts at h1 ⊢
        rw [List.take_add_one, List.all_append, h1, hx1]
        simp
      have HTK := hid htk
      have hsz : Fr (fun _ => False) w (wr.alloc (.cells #[.string x1, .string x2] 65)) := hall.out.2.2.trans (Fr.alloc (Fr.refl _ _) _) (fun _ _ h => h)
      have HF := hid hsz
      clear hx1 hRr htk hsz hall
      by_cases hb1 : T.txt x1 = true ∧ T.txt x2 = true
      · obtain ⟨hb1, hb2⟩ := hb1
        have HREL := hid (show k + 1 ≤ n ∧ T.txts (l.take (k + 1)) = true ∧ Fr (fun _ => False) w (wr.alloc (.cells #[.string x1, .string x2] 65)) from ⟨hlt, by rw [HTK.out, hb1, hb2]; rfl, HF.out⟩)
        have KT1 := hid (fun W => isText_any x1 W)
        have KT2 := hid (fun W => isText_any x2 W)
        rw [hb1] at KT1
        rw [hb2] at KT2
        clear hb1 hb2 KT
        go_wp2_with fail
        refine (KT1.out _).mono ?_
        rintro e wx ⟨rfl, rfl⟩
        dsimp only
        go_wp2_with fail
        refine (KT2.out _).mono ?_
        rintro e wx ⟨rfl, rfl⟩
        dsimp only
        go_wp2_with fail
        go_roundw
        case rel => exact ⟨k + 1, by first | go_num | rfl | trivial, HREL⟩
        case measure => simp [intOf]; omega
      · have hno : (T.txt x1 && T.txt x2) = false := by
          cases h1 : T.txt x1 <;> cases h2 : T.txt x2 <;> first | rfl | exact absurd ⟨h1, h2⟩ hb1
        have HRF := hid (show T.txts l = false from by
          cases h : T.txts l with
          | false => rfl
          | true =>
            have h3 : (T.txt x1 && T.txt x2) = true := List.all_eq_true.1 h _ (List.mem_of_getElem? HX.out)
            rw [hno] at h3
            cases h3)
        cases hb1' : T.txt x1 with
        | false =>
          have KT1 := hid (fun W => isText_any x1 W)
          rw [hb1'] at KT1
          clear hb1 hb1' hno KT
          go_wp2_with fail
          refine (KT1.out _).mono ?_
          rintro e wx ⟨rfl, rfl⟩
          dsimp only
          go_wp2_with fail
          go_ret
          exact ⟨ret_bool (by rw [HRF.out]; rfl), HF.out⟩
        | true =>
          have hb2 : T.txt x2 = false := by rw [hb1'] at hno; exact hno
          have KT1 := hid (fun W => isText_any x1 W)
          have KT2 := hid (fun W => isText_any x2 W)
          rw [hb1'] at KT1
          rw [hb2] at KT2
          clear hb1 hb1' hb2 hno KT
          go_wp2_with fail
          refine (KT1.out _).mono ?_
          rintro e wx ⟨rfl, rfl⟩
          dsimp only
          go_wp2_with fail
          refine (KT2.out _).mono ?_
          rintro e wx ⟨rfl, rfl⟩
          dsimp only
          go_wp2_with fail
          go_ret
          exact ⟨ret_bool (by rw [HRF.out]; rfl), HF.out⟩
    · obtain rfl : k = n := by have := hall.out.1; omega
      have HRT := hid (show T.txts l = true from by
        have h1 := hall.out.2.1
        rw [List.take_of_length_le (by rw [HN.out]; exact Nat.le_refl _)] at h1
        exact h1)
      have HF := hid hall.out.2.2
      clear hall hlt
      go_wp2_with fail
      refine (KRI.out _ HF.out).mono ?_
      rintro e wy ⟨rfl, hfy⟩
      have HY := hid hfy
      clear hfy
      dsimp only
      go_wp2_with fail
      go_ret
      exact ⟨ret_bool (by rw [HRT.out]; rfl), HF.out.trans HY.out (fun _ _ h => h)⟩
end Go.Proofs.YtilbdpnioajkoaaGreat

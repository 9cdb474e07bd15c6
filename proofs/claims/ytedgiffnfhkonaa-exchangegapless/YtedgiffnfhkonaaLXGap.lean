/-
  ExchangeGapless: the walk.
-/
import Derived.Test.YtedgiffnfhkonaaLXTakes
import Derived.Deep.QuietTactic
namespace Go.Proofs.Ytedgiffnfhkonaa
open Go.RowKit
set_option linter.unusedVariables false
set_option linter.unusedSimpArgs false
set_option maxRecDepth 100000
theorem X.run_idem (e o : Int) : ∀ (l : List S.Op) (nx la : Int), X.run e o nx la (X.run e o nx la l) = X.run e o nx la l
  | [], _, _ => rfl
  | x :: l, nx, la => by
    by_cases h : X.good e o nx la x
    · have h1 : X.run e o nx la (x :: l) = x :: X.run e o (nx + 1) x.t l := by rw [X.run, if_pos h]
      rw [h1, X.run, if_pos h, X.run_idem e o l]
    · have h1 : X.run e o nx la (x :: l) = [] := by rw [X.run, if_neg h]
      rw [h1]; rfl
theorem X.At.good {e o nx la : Int} {l : List S.Op} {k : Nat} {lk : Int} (h : X.At e o nx la l k lk) {x : S.Op} (hx : (X.run e o nx la l)[k]? = some x) : l[k]? = some x ∧ X.good e o (nx + k) lk x := by
  have hk : (l.take k).length = k := by rw [List.length_take]; have := h.le; omega
  rw [h.eq, List.getElem?_append_right (by omega), hk, Nat.sub_self] at hx
  cases hd : l.drop k with
  | nil => rw [hd, X.run] at hx; simp at hx
  | cons y r =>
    rw [hd, X.run] at hx
    split at hx
    · rename_i hg
      simp at hx
      subst hx
      refine ⟨?_, hg⟩
      have := List.getElem?_drop (xs := l) (i := k) (j := 0)
      rw [hd, Nat.add_zero] at this
      simpa using this.symm
    · simp at hx
theorem X.run_mem {e o nx la : Int} {l : List S.Op} {x : S.Op} (h : x ∈ X.run e o nx la l) : x ∈ l := by
  rw [X.run_take] at h
  exact List.mem_of_mem_take h
theorem X.cnt_mem {g : Nat → Int} {o q : Int} {l : List S.Op} {x : S.Op} (h : x ∈ X.cnt g o q l) : x ∈ l := by
  unfold X.cnt at h
  split at h
  · exact List.mem_of_mem_drop (X.run_mem h)
  · cases h
theorem X.cnt_again {g : Nat → Int} {k : Nat} (hk : k < 8) {q : Int} {l : List S.Op} (hm : X.may g (k : Int) q = true) : X.cnt g k (g (29 + k)) (X.cnt g k q l) = X.cnt g k q l := by
  obtain ⟨h0, h4, hq0, hq1⟩ := (X.may_iff hk).1 hm
  have hm2 : X.may g (k : Int) (g (29 + k)) = true := (X.may_iff hk).2 ⟨h0, h4, by omega, Int.le_refl _⟩
  have e1 : X.cnt g k q l = X.run (X.endOf g k) k (g (29 + k)) (max (g (37 + k)) (g 47)) (l.drop (X.skip g k q l.length)) := by unfold X.cnt; rw [if_pos hm]; rfl
  have e2 : ∀ r : List S.Op, X.cnt g k (g (29 + k)) r = X.run (X.endOf g k) k (g (29 + k)) (max (g (37 + k)) (g 47)) r := fun r => by
    unfold X.cnt
    rw [if_pos hm2]
    have : X.skip g k (g (29 + k)) r.length = 0 := by unfold X.skip; rw [Int.toNat_natCast]; omega
    rw [this]; rfl
  rw [e2, e1, X.run_idem]
set_option maxHeartbeats 3200000 in
theorem gapless_none {I : Nat → Prop} {w : World} {g : Nat → Int} {b : Bool} {v : Nat → Value} (hg : X.in64 g) {o q : Int} {l : List S.Op} {a : Option Addr} {c : Nat} (hl : X.Ops I w a l) (hi : ∀ x ∈ l, x.in64) (hln : l.length ≤ c ∧ l.length ≤ 1599289640401) (h0 : X.cnt g o q l = []) :
    Calls Try.prog 4 #[.agg (X.cs g b v), .int .i64 o, .int .i64 q, .slice a l.length c] w fun e w' => e = .returned (.bool true) ∧ Fr (fun _ => False) w w' := by
  obtain ⟨W, hW⟩ : ∃ W, w.alloc (.cells (X.cs g b v) 34) = W := ⟨_, rfl⟩
  have F0 := hid (show Fr (fun _ => False) w W from hW ▸ Fr.alloc (Fr.refl _ _) _)
  have SN := hid (show X.Sn W w.heap.size g b v from X.Sn.of (hW ▸ Go.heap_alloc_new w _))
  have LS := hid (fun (V : World) (hf : Fr (fun _ => False) W V) => (SN.out.kept hf (fun h => h)).load)
  have e0 : ∀ {V V' : World} {e : Ending}, X.New V (X.cnt g o q l) e V' → ∃ a' c', e = .returned (.slice a' 0 c') ∧ Fr (fun _ => False) V V' := fun h => by
    rw [h0] at h
    obtain ⟨a', c', he, _, _, hf⟩ := h
    exact ⟨a', c', he, hf⟩
  have KT := hid (fun (V : World) (hf : Fr (fun _ => False) W V) => (xtake_any V g b v hg o q l a c (hl.fr (F0.out.trans hf (fun _ _ h => h))) hi hln.1 hln.2).mono (fun e w' h => e0 h))
  have RT := hid (fun (V : World) (hf : Fr (fun _ => False) W V) => (rtake_any V g b v hg o q l a c (hl.fr (F0.out.trans hf (fun _ _ h => h))) hi hln.2).mono (fun e w' h => e0 h))
  generalize X.cs g b v = CX at hW LS KT RT ⊢
  have HW := hid hW
  have KB := hid (fun (V : World) (h : V = w.alloc (.cells CX 34)) => xbegun_any V)
  clear hW hl hi hln SN e0 h0
  go_enter Try.func4, Try.ntmps4
  go_wp2_with (first
    | (go_at_call 5; refine (xbegun_any _).mono ?_; rintro e w1 ⟨rfl, f1⟩; rw [HW.out] at f1; have F1 := hid f1; have L1 := hid (LS.out _ f1); clear f1)
    | (refine wpList_load_v L1.out (by exact ⟨_, rfl, rfl⟩) (by kernel_rfl) ?_)
    | (go_at_call 7; refine (KT.out _ F1.out).mono ?_; rintro e w2 ⟨ta, tc, rfl, f2⟩; have F2 := hid (F1.out.trans f2 (fun _ _ h => h)); have L2 := hid (LS.out _ F2.out); clear f2)
    | (refine wpList_load_v L2.out (by exact ⟨_, rfl, rfl⟩) (by kernel_rfl) ?_)
    | (go_at_call 8; refine (RT.out _ F2.out).mono ?_; rintro e w3 ⟨tb, td, rfl, f3⟩; have F3 := hid (F2.out.trans f3 (fun _ _ h => h)); clear f3))
  go_ret
  exact ⟨rfl, F0.out.trans F3.out (fun _ _ h => h)⟩
theorem X.Sn.at {W : World} {k : Nat} {g : Nat → Int} {b : Bool} {v : Nat → Value} (h : X.Sn W k g b v) (j : Nat) (h1 : j < 154) (h2 : j ≠ 2) (h3 : X.sl j = false) : W.cell? ⟨k, j, none⟩ = some (.int .i64 (g j)) := h.num j h1 h2 h3
set_option maxHeartbeats 6400000 in
theorem gapless_some {I : Nat → Prop} {w : World} {g : Nat → Int} {b : Bool} {v : Nat → Value} (hg : X.in64 g) {k : Nat} (hk : k < 8) {q : Int} {l : List S.Op} {a : Option Addr} {c : Nat} (hl : X.Ops I w a l) (hi : ∀ x ∈ l, x.in64) (hln : l.length ≤ c ∧ l.length ≤ 1599289640401) (hm : X.may g (k : Int) q = true) (h0 : X.cnt g k q l ≠ []) :
    Calls Try.prog 4 #[.agg (X.cs g b v), .int .i64 k, .int .i64 q, .slice a l.length c] w fun e w' => e = .returned (.bool true) ∧ Fr (fun _ => False) w w' := by
  obtain ⟨hk0, hk4, hq0, hq1⟩ := (X.may_iff hk).1 hm
  obtain ⟨W, hW⟩ : ∃ W, w.alloc (.cells (X.cs g b v) 34) = W := ⟨_, rfl⟩
  have F0 := hid (show Fr (fun _ => False) w W from hW ▸ Fr.alloc (Fr.refl _ _) _)
  have SN := hid (show X.Sn W w.heap.size g b v from X.Sn.of (hW ▸ Go.heap_alloc_new w _))
  have LS := hid (fun (V : World) (hf : Fr (fun _ => False) W V) => (SN.out.kept hf (fun h => h)).load)
  have CV := hid (fun (V : World) (hf : Fr (fun _ => False) W V) (j : Nat) (h1 : j < 154) (h2 : j ≠ 2) (h3 : X.sl j = false) => (SN.out.kept hf (fun h => h)).at j h1 h2 h3)
  have OL := hid (hl.fr F0.out)
  have KT := hid (fun (V : World) (hf : Fr (fun _ => False) W V) => xtake_any V g b v hg k q l a c (hl.fr (F0.out.trans hf (fun _ _ h => h))) hi hln.1 hln.2)
  have hcnt : X.cnt g k q l = X.run (X.endOf g k) k (g (29 + k)) (max (g (37 + k)) (g 47)) (l.drop (X.skip g k q l.length)) := by unfold X.cnt; rw [if_pos hm]; rfl
  have hR64 : ∀ x ∈ X.cnt g k q l, x.in64 := fun x hx => hi x (X.cnt_mem hx)
  have hRl : (X.cnt g k q l).length ≤ 1599289640401 := Nat.le_trans (X.cnt_le g k q l) hln.2
  have KA := hid (fun (J : Nat → Prop) (V : World) (ta : Option Addr) (tc : Nat) (h : X.Ops J V ta (X.cnt g k q l)) (hc : (X.cnt g k q l).length ≤ tc) => (X.cnt_again hk hm) ▸ xtake_any V g b v hg k (g (29 + k)) (X.cnt g k q l) ta tc h hR64 hc hRl)
  have hRne : (X.cnt g k q l).length ≠ 0 := fun h => h0 (List.eq_nil_of_length_eq_zero h)
  obtain ⟨m, hmm⟩ : ∃ m, X.skip g k q l.length = m := ⟨_, rfl⟩
  have hmin : min (g (29 + k) - q) (l.length : Int) = (m : Int) := by
    rw [← hmm]; unfold X.skip; rw [Int.toNat_natCast]; omega
  rw [hmm] at hcnt
  have hRle : (X.cnt g k q l).length ≤ l.length - m := by
    rw [hcnt, ← List.length_drop]; exact X.run_le _ _ _ _ _
  have HDR := hid (show ∀ i, (l.drop m)[i]? = l[m + i]? from fun i => List.getElem?_drop)
  have hsk : g (29 + k) - q = (m : Int) := by omega
  have HE := hid (show (g (4 + k) = 3 → X.endOf g k ≤ g (12 + k)) from fun h => by unfold X.endOf; rw [if_pos h]; omega)
  have HCNT := hid hcnt
  have hwm : IntKind.i64.wrap (g (29 + k) - q) = (m : Int) := by rw [IntKind.wrap_i64]; have := hln.2; omega
  have hEl := X.endOf_le g k
  obtain ⟨n, hn⟩ : ∃ n, l.length = n := ⟨_, rfl⟩
  have HN := hid hn
  rw [hn] at hRle hln KT ⊢
  generalize X.endOf g k = E at HCNT HE hEl
  generalize l.drop m = l1 at HCNT HDR
  obtain ⟨r, hr⟩ : ∃ r, (X.cnt g k q l).length = r := ⟨_, rfl⟩
  have HRR := hid hr
  rw [hr] at hRle hRl hRne
  generalize X.cnt g k q l = R at KT HCNT hR64 KA HRR
  generalize X.cs g b v = CX at hW LS KT KA ⊢
  have KB2 := hid (fun (J : Nat → Prop) (V : World) (ta : Option Addr) (tc : Nat) (h : X.Ops J V ta R) (hc : R.length ≤ tc) => (KA.out J V ta tc h hc).mono (fun e w' h => show ∃ a' c', e = .returned (.slice a' r c') ∧ X.Ops (fun _ => True) w' a' R ∧ Fr (fun _ => False) V w' from by
    obtain ⟨a', c', he, h1, _, h2⟩ := h
    exact ⟨a', c', by rw [he, HRR.out], h1.mono (fun _ _ => trivial), h2⟩))
  rw [HRR.out] at KB2
  have LO := hid (fun (I J : Nat → Prop) (V : World) (a b : Option Addr) (c d : Nat) (h1 : X.Ops I V a R) (h2 : X.Ops J V b R) => lxops_same V R a b c d h1 h2 (by rw [HRR.out]; exact hRl))
  rw [HRR.out] at LO
  have C0 := hid (fun V hf => CV.out V hf 0 (by omega) (by omega) (X.sl_no (by omega)))
  have C29 := hid (fun V hf => CV.out V hf (29 + k) (by omega) (by omega) (X.sl_no (by omega)))
  have C37 := hid (fun V hf => CV.out V hf (37 + k) (by omega) (by omega) (X.sl_no (by omega)))
  have C47 := hid (fun V hf => CV.out V hf 47 (by omega) (by omega) (X.sl_no (by omega)))
  have C4 := hid (fun V hf => CV.out V hf (4 + k) (by omega) (by omega) (X.sl_no (by omega)))
  have C12 := hid (fun V hf => CV.out V hf (12 + k) (by omega) (by omega) (X.sl_no (by omega)))
  have G29 := hid (hg (29 + k))
  clear CV SN hcnt hmin hmm hm h0 hg hl hi hn hr
  generalize g 0 = g0 at C0 hk0
  generalize g (4 + k) = g4 at C4 hk4 HE
  generalize g (29 + k) = nx at C29 hq1 HCNT KA KB2 G29 hsk hwm
  generalize g (37 + k) = g37 at C37 HCNT
  generalize g 47 = g47 at C47 HCNT
  generalize g (12 + k) = g12 at C12 HE
  have h0' : ((k : Int) == g0) = false := by simp [hk0]
  have hr' : ((r : Int) == 0) = false := by simp [hRne]
  have i0 : (0 : Int) ≤ (k : Int) := by omega
  have i1 : (k : Int) < 8 := by omega
  have i0' : ¬ (k : Int) < 0 := by omega
  have i1' : ¬ (8 : Int) ≤ (k : Int) := by omega
  have hq0' : ¬ q < 0 := by omega
  have hq1' : ¬ nx < q := by omega
  have hwl : wrap64 ((n : Int) - (r : Int)) = (n : Int) - (r : Int) := by unfold wrap64; have := hln.2; omega
  have hsk2 : ¬ ((n : Int) - (r : Int) < (m : Int)) := by omega
  have HB := hid (show m + r ≤ n by omega)
  have HRL := hid hRl
  have HNL := hid hln
  have HEL := hid hEl
  have HW := hid hW
  have HQ := hid (And.intro hq0 hq1)
  have HSK := hid hsk
  clear hW hRle hln hRl hEl hsk
  obtain ⟨la, hla⟩ : ∃ la, max g37 g47 = la := ⟨_, rfl⟩
  rw [hla] at HCNT
  have HLA := hid hla
  clear hla
  go_enter Try.func4, Try.ntmps4
  go_upto_region 6 with (first
    | (go_at_call 5; refine (xbegun_any _).mono ?_; rintro e w1 ⟨rfl, f1⟩; rw [HW.out] at f1; have F1 := hid f1; have L1 := hid (LS.out _ f1); clear f1)
    | (refine wpList_load_v L1.out (by exact ⟨_, rfl, rfl⟩) (by kernel_rfl) ?_)
    | (go_at_call 7; refine (KT.out _ F1.out).mono ?_; rintro e w2 ⟨ta, tc, rfl, hO, hc, f2⟩; have F2 := hid (F1.out.trans f2 (fun _ _ h => h)); have OR := hid (And.intro hO hc); have c0 := C0.out _ F2.out; have c29 := C29.out _ F2.out; have c37 := C37.out _ F2.out; have c47 := C47.out _ F2.out; rw [HRR.out]; clear f2 hO hc))
  clear c37 c47
  go_wp2_with fail
  clear c0 c29 h0' hr' i0' i1' hq0' hq1' hwl hsk2 hq0 hq1 hk0 hk4
  have HOR := hid (show (g37 < g47 ∧ la = g47) ∨ (¬ g37 < g47 ∧ la = g37) by have := HLA.out; by_cases h : g37 < g47 <;> omega)
  have hmx : Try.prog.follows .mixedOrders = true := by kernel_rfl
  refine wp_region_held (S := fun V => Fr (fun _ => False) w2 V) hmx ?_
  have hS := (show Fr (fun _ => False) w2 w2.drew from Fr.drew (Fr.refl _ _))
  simp only [List.size_toArray, List.length_cons, List.length_nil, Nat.reduceAdd, Array.replicate_succ, Array.replicate_zero, List.push_toArray, List.nil_append, List.cons_append]
  refine wpAnyH_take (i := 0) (v := ?_) rfl (by kernel_rfl) (by kernel_rfl) (by kernel_rfl) (fun _ _ _ h => h) (Or.inl ⟨by kernel_rfl, ?_⟩) hS ?_
  rotate_left 1
  · (intro w' hS'; clear hS'; go_simp; try with_reducible rfl)
  simp only [List.getElem_toArray, List.getElem_cons_zero, List.getElem_cons_succ, Act.put, List.setIfInBounds_toArray, List.set_cons_zero, List.set_cons_succ]
  refine wpAnyH_take (i := 1) (v := ?_) rfl (by kernel_rfl) (by kernel_rfl) (by kernel_rfl) (fun _ _ _ h => h) (Or.inl ⟨by kernel_rfl, ?_⟩) hS ?_
  rotate_left 1
  · (intro w' hS'; clear hS'; go_simp; try with_reducible rfl)
  simp only [List.getElem_toArray, List.getElem_cons_zero, List.getElem_cons_succ, Act.put, List.setIfInBounds_toArray, List.set_cons_zero, List.set_cons_succ]
  refine wpAnyH_take (i := 2) (v := ?_) rfl (by kernel_rfl) (by kernel_rfl) (by kernel_rfl) (fun _ _ _ h => h) (Or.inl ⟨by kernel_rfl, ?_⟩) hS ?_
  rotate_left 1
  · (intro w' hS'; clear hS'; go_simp; try with_reducible rfl)
  simp only [List.getElem_toArray, List.getElem_cons_zero, List.getElem_cons_succ, Act.put, List.setIfInBounds_toArray, List.set_cons_zero, List.set_cons_succ]
  refine wpAnyH_take (i := 3) (v := ?_) rfl (by kernel_rfl) (by kernel_rfl) (by kernel_rfl) (fun _ _ _ h => h) (Or.inl ⟨by kernel_rfl, ?_⟩) hS ?_
  rotate_left 1
  · (intro w' hS'; have c37 := C37.out _ (F2.out.trans hS' (fun _ _ h => h)); clear hS'; go_simp; try with_reducible rfl)
  simp only [List.getElem_toArray, List.getElem_cons_zero, List.getElem_cons_succ, Act.put, List.setIfInBounds_toArray, List.set_cons_zero, List.set_cons_succ]
  refine wpAnyH_take (i := 4) (v := ?_) rfl (by kernel_rfl) (by kernel_rfl) (by kernel_rfl) (fun _ _ _ h => h) (Or.inl ⟨by kernel_rfl, ?_⟩) hS ?_
  rotate_left 1
  · (intro w' hS'; clear hS'; go_simp; try with_reducible rfl)
  simp only [List.getElem_toArray, List.getElem_cons_zero, List.getElem_cons_succ, Act.put, List.setIfInBounds_toArray, List.set_cons_zero, List.set_cons_succ]
  refine wpAnyH_take (i := 5) (v := ?_) rfl (by kernel_rfl) (by kernel_rfl) (by kernel_rfl) (fun _ _ _ h => h) (Or.inl ⟨by kernel_rfl, ?_⟩) hS ?_
  rotate_left 1
  · (intro w' hS'; have c47 := C47.out _ (F2.out.trans hS' (fun _ _ h => h)); clear hS'; go_simp; try with_reducible rfl)
  simp only [List.getElem_toArray, List.getElem_cons_zero, List.getElem_cons_succ, Act.put, List.setIfInBounds_toArray, List.set_cons_zero, List.set_cons_succ]
  refine wpAnyH_take (i := 6) (v := .int .i64 la) rfl (by kernel_rfl) (by kernel_rfl) (by kernel_rfl) (fun _ _ _ h => h) (Or.inl ⟨by kernel_rfl, fun w' hS' => by rcases HOR.out with ⟨h, e⟩ | ⟨h, e⟩ <;> (subst e; clear hS'; go_simp)⟩) hS ?_
  simp only [List.getElem_toArray, List.getElem_cons_zero, List.getElem_cons_succ, Act.put, List.setIfInBounds_toArray, List.set_cons_zero, List.set_cons_succ]
  refine wpAnyH_take (i := 7) (v := ?_) rfl (by kernel_rfl) (by kernel_rfl) (by kernel_rfl) (fun _ _ _ h => h) (Or.inl ⟨by kernel_rfl, ?_⟩) hS ?_
  rotate_left 1
  · (intro w' hS'; clear hS'; go_simp; try with_reducible rfl)
  simp only [List.getElem_toArray, List.getElem_cons_zero, List.getElem_cons_succ, Act.put, List.setIfInBounds_toArray, List.set_cons_zero, List.set_cons_succ]
  refine wpAnyH_done (by kernel_rfl) ?_ _
  have F3 := hid (F2.out.trans hS (fun _ _ h => h))
  clear hS hmx
  go_wp2_with fail
  go_loopw [11, 12, 13, 77] (fun last _ _ idx wr => ∃ (i : Nat) (lk : Int), last = .int .i64 lk ∧ idx = .int .i64 i ∧ Hid (i ≤ r ∧ X.At E k nx la l1 i lk ∧ Fr (fun _ => False) w2 wr)) (fun _ _ _ idx _ => r - (intOf idx).toNat)
  case atStart => exact ⟨0, la, rfl, rfl, hid ⟨Nat.zero_le _, X.At.zero _ _ _ _ _, Fr.drew (Fr.refl _ _)⟩⟩
  case round =>
    obtain ⟨i, lk, rfl, rfl, HR⟩ := hrel
    by_cases hlt : i < r
    · have i2 : (0 : Int) ≤ (i : Int) := by omega
      have i3 : (i : Int) < (r : Int) := by omega
      obtain ⟨x, hx⟩ : ∃ x, R[i]? = some x := ⟨_, List.getElem?_eq_getElem (by rw [HRR.out]; exact hlt)⟩
      have hgd := HR.out.2.1.good (by rw [← HCNT.out]; exact hx)
      obtain ⟨xt, xs, xk, xn, xp, xa, xb, xc⟩ := x
      obtain ⟨hx1, hE1, hck, hs, ht⟩ := hgd
      obtain rfl : xs = (k : Int) := hs
      have HNX := hid (HR.out.2.1.next hx1 ⟨hE1, hck, rfl, ht⟩)
      obtain ⟨mi, hmi⟩ : ∃ mi, m + i = mi := ⟨_, rfl⟩
      have hx2 : l[mi]? = some ⟨xt, (k : Int), xk, xn, xp, xa, xb, xc⟩ := by rw [← hmi, ← HDR.out]; exact hx1
      obtain ⟨gb, go, rfl, hgI, hc⟩ := X.Ops.cell (OR.out.1.fr HR.out.2.2) hx
      have L1 := hid (X.load hc)
      have FV := hid (show Fr (fun _ => False) wr (wr.alloc (.cells (S.Op.cs ⟨xt, (k : Int), xk, xn, xp, xa, xb, xc⟩) 43)) from Fr.alloc (Fr.refl _ _) _)
      obtain ⟨g2, o2, rfl, _, hc2⟩ := X.Ops.cell (OL.out.fr (F2.out.trans (HR.out.2.2.trans FV.out (fun _ _ h => h)) (fun _ _ h => h))) hx2
      have hmn : mi < n := by have := HB.out; omega
      have i4 : (0 : Int) ≤ (mi : Int) := by omega
      have i5 : (mi : Int) < (n : Int) := by omega
      have hadd : IntKind.i64.wrap ((m : Int) + (i : Int)) = (mi : Int) := by rw [IntKind.wrap_i64]; have := HNL.out.2; omega
      have hw : IntKind.i64.wrap (nx + (i : Int)) = nx + (i : Int) := by
        rw [IntKind.wrap_i64]
        have h1 := HQ.out
        have h2 := HEL.out
        omega
      have ht' : ¬ xt ≤ lk := by have : lk < xt := ht; omega
      have HW1 := hid (show wrap64 ((i : Int) + 1) = ((i + 1 : Nat) : Int) by have hT := HRL.out; unfold wrap64; omega)
      have HLT := hid hlt
      obtain ⟨V1, hV1⟩ : ∃ V1, wr.alloc (.cells (S.Op.cs ⟨xt, (k : Int), xk, xn, xp, xa, xb, xc⟩) 43) = V1 := ⟨_, rfl⟩
      have HV1 := hid hV1
      rw [hV1] at FV hc2
      have hbx := Go.heap_alloc_new wr (.cells (S.Op.cs ⟨xt, (k : Int), xk, xn, xp, xa, xb, xc⟩) 43)
      rw [hV1] at hbx
      have D0 := hid (fun (V : World) (hf : Fr (fun _ => False) V1 V) => cellFr hf (fun h => h) (cell_at (j := 0) hbx rfl))
      have D1 := hid (fun (V : World) (hf : Fr (fun _ => False) V1 V) => cellFr hf (fun h => h) (cell_at (j := 1) hbx rfl))
      have LB := hid (fun (V : World) (hf : Fr (fun _ => False) V1 V) => X.load (g := wr.heap.size) (q := 0) (k := 0) (o := ⟨xt, (k : Int), xk, xn, xp, xa, xb, xc⟩) (w := V) (fun jj u hu => by
        rw [show 0 + 0 * 8 + jj = jj by omega]
        exact cellFr hf (fun h => h) (cell_at hbx hu)))
      have LL := hid (fun (V : World) (hf : Fr (fun _ => False) V1 V) => X.load (w := V) (fun jj u hu => cellFr hf (fun h => h) (hc2 jj u hu)))
      have HEE := hid hE1
      clear hx hx1 hx2 hc hc2 hck ht hE1 hmi hmn hV1 hbx
      by_cases q3 : g4 = 3
      · have hse : ¬ g12 ≤ nx + (i : Int) := by have h1 := HE.out q3; have h2 := HEE.out; omega
        subst q3
        go_wp2_with (first
          | (refine wpList_load_v L1.out (by exact ⟨_, rfl, rfl⟩) (by kernel_rfl) ?_))
        rw [HV1.out]
        have hmx : Try.prog.follows .mixedOrders = true := by kernel_rfl
        refine wp_region_held (S := fun V => Fr (fun _ => False) V1 V) hmx ?_
        have hS := (show Fr (fun _ => False) V1 V1.drew from Fr.drew (Fr.refl _ _))
        simp only [List.size_toArray, List.length_cons, List.length_nil, Nat.reduceAdd, Array.replicate_succ, Array.replicate_zero, List.push_toArray, List.nil_append, List.cons_append]
        refine wpAnyH_take (i := 0) rfl (by kernel_rfl) (by kernel_rfl) (by kernel_rfl) (fun _ _ _ h => h) (jyload (by kernel_rfl) (by exact ⟨_, rfl, rfl⟩) (fun w' hS' => LB.out w' hS')) hS ?_
        simp only [List.getElem_toArray, List.getElem_cons_zero, List.getElem_cons_succ, Act.put, List.setIfInBounds_toArray, List.set_cons_zero, List.set_cons_succ]
        refine wpAnyH_take (i := 1) (v := ?_) rfl (by kernel_rfl) (by kernel_rfl) (by kernel_rfl) (fun _ _ _ h => h) (Or.inl ⟨by kernel_rfl, ?_⟩) hS ?_
        rotate_left 1
        · (intro w' hS'; clear hS'; go_simp; try with_reducible rfl)
        simp only [List.getElem_toArray, List.getElem_cons_zero, List.getElem_cons_succ, Act.put, List.setIfInBounds_toArray, List.set_cons_zero, List.set_cons_succ]
        refine wpAnyH_take (i := 2) (v := ?_) rfl (by kernel_rfl) (by kernel_rfl) (by kernel_rfl) (fun _ _ _ h => h) (Or.inl ⟨by kernel_rfl, ?_⟩) hS ?_
        rotate_left 1
        · (intro w' hS'; clear hS'; go_simp; try with_reducible rfl)
        simp only [List.getElem_toArray, List.getElem_cons_zero, List.getElem_cons_succ, Act.put, List.setIfInBounds_toArray, List.set_cons_zero, List.set_cons_succ]
        refine wpAnyH_take (i := 3) (v := ?_) rfl (by kernel_rfl) (by kernel_rfl) (by kernel_rfl) (fun _ _ _ h => h) (Or.inl ⟨by kernel_rfl, ?_⟩) hS ?_
        rotate_left 1
        · (intro w' hS'; clear hS'; go_simp; try with_reducible rfl)
        simp only [List.getElem_toArray, List.getElem_cons_zero, List.getElem_cons_succ, Act.put, List.setIfInBounds_toArray, List.set_cons_zero, List.set_cons_succ]
        refine wpAnyH_take (i := 4) (v := ?_) rfl (by kernel_rfl) (by kernel_rfl) (by kernel_rfl) (fun _ _ _ h => h) (Or.inl ⟨by kernel_rfl, ?_⟩) hS ?_
        rotate_left 1
        · (intro w' hS'; clear hS'; go_simp; try with_reducible rfl)
        simp only [List.getElem_toArray, List.getElem_cons_zero, List.getElem_cons_succ, Act.put, List.setIfInBounds_toArray, List.set_cons_zero, List.set_cons_succ]
        refine wpAnyH_take (i := 5) (v := ?_) rfl (by kernel_rfl) (by kernel_rfl) (by kernel_rfl) (fun _ _ _ h => h) (Or.inl ⟨by kernel_rfl, ?_⟩) hS ?_
        rotate_left 1
        · (intro w' hS'; clear hS'; go_simp; try with_reducible rfl)
        simp only [List.getElem_toArray, List.getElem_cons_zero, List.getElem_cons_succ, Act.put, List.setIfInBounds_toArray, List.set_cons_zero, List.set_cons_succ]
        refine wpAnyH_take (i := 6) rfl (by kernel_rfl) (by kernel_rfl) (by kernel_rfl) (fun _ _ _ h => h) (jyload (by kernel_rfl) (by exact ⟨_, rfl, rfl⟩) (fun w' hS' => LL.out w' hS')) hS ?_
        simp only [List.getElem_toArray, List.getElem_cons_zero, List.getElem_cons_succ, Act.put, List.setIfInBounds_toArray, List.set_cons_zero, List.set_cons_succ]
        refine wpAnyH_take (i := 7) (v := .bool false) rfl (by kernel_rfl) (by kernel_rfl) (by kernel_rfl) (fun _ _ _ h => h) (Or.inl ⟨by kernel_rfl, fun w' hS' => by clear hS'; go_simp⟩) hS ?_
        simp only [List.getElem_toArray, List.getElem_cons_zero, List.getElem_cons_succ, Act.put, List.setIfInBounds_toArray, List.set_cons_zero, List.set_cons_succ]
        refine wpAnyH_take (i := 8) (v := ?_) rfl (by kernel_rfl) (by kernel_rfl) (by kernel_rfl) (fun _ _ _ h => h) (Or.inl ⟨by kernel_rfl, ?_⟩) hS ?_
        rotate_left 1
        · (intro w' hS'; clear hS'; go_simp; try with_reducible rfl)
        simp only [List.getElem_toArray, List.getElem_cons_zero, List.getElem_cons_succ, Act.put, List.setIfInBounds_toArray, List.set_cons_zero, List.set_cons_succ]
        refine wpAnyH_take (i := 9) (v := ?_) rfl (by kernel_rfl) (by kernel_rfl) (by kernel_rfl) (fun _ _ _ h => h) (Or.inl ⟨by kernel_rfl, ?_⟩) hS ?_
        rotate_left 1
        · (intro w' hS'; clear hS'; go_simp; try with_reducible rfl)
        simp only [List.getElem_toArray, List.getElem_cons_zero, List.getElem_cons_succ, Act.put, List.setIfInBounds_toArray, List.set_cons_zero, List.set_cons_succ]
        refine wpAnyH_take (i := 10) (v := ?_) rfl (by kernel_rfl) (by kernel_rfl) (by kernel_rfl) (fun _ _ _ h => h) (Or.inl ⟨by kernel_rfl, ?_⟩) hS ?_
        rotate_left 1
        · (intro w' hS'; clear hS'; go_simp; try with_reducible rfl)
        simp only [List.getElem_toArray, List.getElem_cons_zero, List.getElem_cons_succ, Act.put, List.setIfInBounds_toArray, List.set_cons_zero, List.set_cons_succ]
        refine wpAnyH_take (i := 11) (v := ?_) rfl (by kernel_rfl) (by kernel_rfl) (by kernel_rfl) (fun _ _ _ h => h) (Or.inl ⟨by kernel_rfl, ?_⟩) hS ?_
        rotate_left 1
        · (intro w' hS'; have d1 := D1.out w' hS'; clear hS'; go_simp; try with_reducible rfl)
        simp only [List.getElem_toArray, List.getElem_cons_zero, List.getElem_cons_succ, Act.put, List.setIfInBounds_toArray, List.set_cons_zero, List.set_cons_succ]
        refine wpAnyH_take (i := 12) (v := ?_) rfl (by kernel_rfl) (by kernel_rfl) (by kernel_rfl) (fun _ _ _ h => h) (Or.inl ⟨by kernel_rfl, ?_⟩) hS ?_
        rotate_left 1
        · (intro w' hS'; clear hS'; go_simp; try with_reducible rfl)
        simp only [List.getElem_toArray, List.getElem_cons_zero, List.getElem_cons_succ, Act.put, List.setIfInBounds_toArray, List.set_cons_zero, List.set_cons_succ]
        refine wpAnyH_take (i := 13) (v := .bool false) rfl (by kernel_rfl) (by kernel_rfl) (by kernel_rfl) (fun _ _ _ h => h) (Or.inl ⟨by kernel_rfl, fun w' hS' => by clear hS'; go_simp⟩) hS ?_
        simp only [List.getElem_toArray, List.getElem_cons_zero, List.getElem_cons_succ, Act.put, List.setIfInBounds_toArray, List.set_cons_zero, List.set_cons_succ]
        refine wpAnyH_take (i := 14) (v := ?_) rfl (by kernel_rfl) (by kernel_rfl) (by kernel_rfl) (fun _ _ _ h => h) (Or.inl ⟨by kernel_rfl, ?_⟩) hS ?_
        rotate_left 1
        · (intro w' hS'; clear hS'; go_simp; try with_reducible rfl)
        simp only [List.getElem_toArray, List.getElem_cons_zero, List.getElem_cons_succ, Act.put, List.setIfInBounds_toArray, List.set_cons_zero, List.set_cons_succ]
        refine wpAnyH_take (i := 15) (v := ?_) rfl (by kernel_rfl) (by kernel_rfl) (by kernel_rfl) (fun _ _ _ h => h) (Or.inl ⟨by kernel_rfl, ?_⟩) hS ?_
        rotate_left 1
        · (intro w' hS'; clear hS'; go_simp; try with_reducible rfl)
        simp only [List.getElem_toArray, List.getElem_cons_zero, List.getElem_cons_succ, Act.put, List.setIfInBounds_toArray, List.set_cons_zero, List.set_cons_succ]
        refine wpAnyH_take (i := 16) (v := ?_) rfl (by kernel_rfl) (by kernel_rfl) (by kernel_rfl) (fun _ _ _ h => h) (Or.inl ⟨by kernel_rfl, ?_⟩) hS ?_
        rotate_left 1
        · (intro w' hS'; clear hS'; go_simp; try with_reducible rfl)
        simp only [List.getElem_toArray, List.getElem_cons_zero, List.getElem_cons_succ, Act.put, List.setIfInBounds_toArray, List.set_cons_zero, List.set_cons_succ]
        refine wpAnyH_take (i := 17) (v := ?_) rfl (by kernel_rfl) (by kernel_rfl) (by kernel_rfl) (fun _ _ _ h => h) (Or.inl ⟨by kernel_rfl, ?_⟩) hS ?_
        rotate_left 1
        · (intro w' hS'; clear hS'; go_simp; try with_reducible rfl)
        simp only [List.getElem_toArray, List.getElem_cons_zero, List.getElem_cons_succ, Act.put, List.setIfInBounds_toArray, List.set_cons_zero, List.set_cons_succ]
        refine wpAnyH_take (i := 18) (v := ?_) rfl (by kernel_rfl) (by kernel_rfl) (by kernel_rfl) (fun _ _ _ h => h) (Or.inl ⟨by kernel_rfl, ?_⟩) hS ?_
        rotate_left 1
        · (intro w' hS'; have d0 := D0.out w' hS'; clear hS'; go_simp; try with_reducible rfl)
        simp only [List.getElem_toArray, List.getElem_cons_zero, List.getElem_cons_succ, Act.put, List.setIfInBounds_toArray, List.set_cons_zero, List.set_cons_succ]
        refine wpAnyH_take (i := 19) (v := ?_) rfl (by kernel_rfl) (by kernel_rfl) (by kernel_rfl) (fun _ _ _ h => h) (Or.inl ⟨by kernel_rfl, ?_⟩) hS ?_
        rotate_left 1
        · (intro w' hS'; clear hS'; go_simp; try with_reducible rfl)
        simp only [List.getElem_toArray, List.getElem_cons_zero, List.getElem_cons_succ, Act.put, List.setIfInBounds_toArray, List.set_cons_zero, List.set_cons_succ]
        refine wpAnyH_take (i := 20) (v := .bool false) rfl (by kernel_rfl) (by kernel_rfl) (by kernel_rfl) (fun _ _ _ h => h) (Or.inl ⟨by kernel_rfl, fun w' hS' => by clear hS'; go_simp⟩) hS ?_
        simp only [List.getElem_toArray, List.getElem_cons_zero, List.getElem_cons_succ, Act.put, List.setIfInBounds_toArray, List.set_cons_zero, List.set_cons_succ]
        refine wpAnyH_take (i := 21) (v := ?_) rfl (by kernel_rfl) (by kernel_rfl) (by kernel_rfl) (fun _ _ _ h => h) (Or.inl ⟨by kernel_rfl, ?_⟩) hS ?_
        rotate_left 1
        · (intro w' hS'; clear hS'; go_simp; try with_reducible rfl)
        simp only [List.getElem_toArray, List.getElem_cons_zero, List.getElem_cons_succ, Act.put, List.setIfInBounds_toArray, List.set_cons_zero, List.set_cons_succ]
        refine wpAnyH_take (i := 22) (v := ?_) rfl (by kernel_rfl) (by kernel_rfl) (by kernel_rfl) (fun _ _ _ h => h) (Or.inl ⟨by kernel_rfl, ?_⟩) hS ?_
        rotate_left 1
        · (intro w' hS'; clear hS'; go_simp; try with_reducible rfl)
        simp only [List.getElem_toArray, List.getElem_cons_zero, List.getElem_cons_succ, Act.put, List.setIfInBounds_toArray, List.set_cons_zero, List.set_cons_succ]
        refine wpAnyH_take (i := 23) (v := ?_) rfl (by kernel_rfl) (by kernel_rfl) (by kernel_rfl) (fun _ _ _ h => h) (Or.inl ⟨by kernel_rfl, ?_⟩) hS ?_
        rotate_left 1
        · (intro w' hS'; clear hS'; go_simp; try with_reducible rfl)
        simp only [List.getElem_toArray, List.getElem_cons_zero, List.getElem_cons_succ, Act.put, List.setIfInBounds_toArray, List.set_cons_zero, List.set_cons_succ]
        refine wpAnyH_take (i := 24) (v := ?_) rfl (by kernel_rfl) (by kernel_rfl) (by kernel_rfl) (fun _ _ _ h => h) (Or.inl ⟨by kernel_rfl, ?_⟩) hS ?_
        rotate_left 1
        · (intro w' hS'; clear hS'; go_simp; try with_reducible rfl)
        simp only [List.getElem_toArray, List.getElem_cons_zero, List.getElem_cons_succ, Act.put, List.setIfInBounds_toArray, List.set_cons_zero, List.set_cons_succ]
        refine wpAnyH_take (i := 25) (v := ?_) rfl (by kernel_rfl) (by kernel_rfl) (by kernel_rfl) (fun _ _ _ h => h) (Or.inl ⟨by kernel_rfl, ?_⟩) hS ?_
        rotate_left 1
        · (intro w' hS'; clear hS'; go_simp; try with_reducible rfl)
        simp only [List.getElem_toArray, List.getElem_cons_zero, List.getElem_cons_succ, Act.put, List.setIfInBounds_toArray, List.set_cons_zero, List.set_cons_succ]
        refine wpAnyH_take (i := 26) (v := ?_) rfl (by kernel_rfl) (by kernel_rfl) (by kernel_rfl) (fun _ _ _ h => h) (Or.inl ⟨by kernel_rfl, ?_⟩) hS ?_
        rotate_left 1
        · (intro w' hS'; clear hS'; go_simp; try with_reducible rfl)
        simp only [List.getElem_toArray, List.getElem_cons_zero, List.getElem_cons_succ, Act.put, List.setIfInBounds_toArray, List.set_cons_zero, List.set_cons_succ]
        refine wpAnyH_take (i := 27) (v := ?_) rfl (by kernel_rfl) (by kernel_rfl) (by kernel_rfl) (fun _ _ _ h => h) (Or.inl ⟨by kernel_rfl, ?_⟩) hS ?_
        rotate_left 1
        · (intro w' hS'; have d4 := C4.out _ (F2.out.trans (HR.out.2.2.trans (FV.out.trans hS' (fun _ _ h => h)) (fun _ _ h => h)) (fun _ _ h => h)); clear hS'; go_simp; try with_reducible rfl)
        simp only [List.getElem_toArray, List.getElem_cons_zero, List.getElem_cons_succ, Act.put, List.setIfInBounds_toArray, List.set_cons_zero, List.set_cons_succ]
        refine wpAnyH_take (i := 28) (v := .bool true) rfl (by kernel_rfl) (by kernel_rfl) (by kernel_rfl) (fun _ _ _ h => h) (Or.inl ⟨by kernel_rfl, fun w' hS' => by clear hS'; go_simp⟩) hS ?_
        simp only [List.getElem_toArray, List.getElem_cons_zero, List.getElem_cons_succ, Act.put, List.setIfInBounds_toArray, List.set_cons_zero, List.set_cons_succ]
        refine wpAnyH_take (i := 29) (v := ?_) rfl (by kernel_rfl) (by kernel_rfl) (by kernel_rfl) (fun _ _ _ h => h) (Or.inl ⟨by kernel_rfl, ?_⟩) hS ?_
        rotate_left 1
        · (intro w' hS'; clear hS'; go_simp; try with_reducible rfl)
        simp only [List.getElem_toArray, List.getElem_cons_zero, List.getElem_cons_succ, Act.put, List.setIfInBounds_toArray, List.set_cons_zero, List.set_cons_succ]
        refine wpAnyH_take (i := 30) (v := ?_) rfl (by kernel_rfl) (by kernel_rfl) (by kernel_rfl) (fun _ _ _ h => h) (Or.inl ⟨by kernel_rfl, ?_⟩) hS ?_
        rotate_left 1
        · (intro w' hS'; clear hS'; go_simp; try with_reducible rfl)
        simp only [List.getElem_toArray, List.getElem_cons_zero, List.getElem_cons_succ, Act.put, List.setIfInBounds_toArray, List.set_cons_zero, List.set_cons_succ]
        refine wpAnyH_take (i := 31) (v := ?_) rfl (by kernel_rfl) (by kernel_rfl) (by kernel_rfl) (fun _ _ _ h => h) (Or.inl ⟨by kernel_rfl, ?_⟩) hS ?_
        rotate_left 1
        · (intro w' hS'; clear hS'; go_simp; try with_reducible rfl)
        simp only [List.getElem_toArray, List.getElem_cons_zero, List.getElem_cons_succ, Act.put, List.setIfInBounds_toArray, List.set_cons_zero, List.set_cons_succ]
        refine wpAnyH_take (i := 32) (v := ?_) rfl (by kernel_rfl) (by kernel_rfl) (by kernel_rfl) (fun _ _ _ h => h) (Or.inl ⟨by kernel_rfl, ?_⟩) hS ?_
        rotate_left 1
        · (intro w' hS'; clear hS'; go_simp; try with_reducible rfl)
        simp only [List.getElem_toArray, List.getElem_cons_zero, List.getElem_cons_succ, Act.put, List.setIfInBounds_toArray, List.set_cons_zero, List.set_cons_succ]
        refine wpAnyH_take (i := 33) (v := ?_) rfl (by kernel_rfl) (by kernel_rfl) (by kernel_rfl) (fun _ _ _ h => h) (Or.inl ⟨by kernel_rfl, ?_⟩) hS ?_
        rotate_left 1
        · (intro w' hS'; have d29 := C29.out _ (F2.out.trans (HR.out.2.2.trans (FV.out.trans hS' (fun _ _ h => h)) (fun _ _ h => h)) (fun _ _ h => h)); clear hS'; go_simp; try with_reducible rfl)
        simp only [List.getElem_toArray, List.getElem_cons_zero, List.getElem_cons_succ, Act.put, List.setIfInBounds_toArray, List.set_cons_zero, List.set_cons_succ]
        refine wpAnyH_take (i := 34) (v := ?_) rfl (by kernel_rfl) (by kernel_rfl) (by kernel_rfl) (fun _ _ _ h => h) (Or.inl ⟨by kernel_rfl, ?_⟩) hS ?_
        rotate_left 1
        · (intro w' hS'; clear hS'; go_simp; try with_reducible rfl)
        simp only [List.getElem_toArray, List.getElem_cons_zero, List.getElem_cons_succ, Act.put, List.setIfInBounds_toArray, List.set_cons_zero, List.set_cons_succ]
        refine wpAnyH_take (i := 35) (v := ?_) rfl (by kernel_rfl) (by kernel_rfl) (by kernel_rfl) (fun _ _ _ h => h) (Or.inl ⟨by kernel_rfl, ?_⟩) hS ?_
        rotate_left 1
        · (intro w' hS'; clear hS'; go_simp; try with_reducible rfl)
        simp only [List.getElem_toArray, List.getElem_cons_zero, List.getElem_cons_succ, Act.put, List.setIfInBounds_toArray, List.set_cons_zero, List.set_cons_succ]
        refine wpAnyH_take (i := 36) (v := ?_) rfl (by kernel_rfl) (by kernel_rfl) (by kernel_rfl) (fun _ _ _ h => h) (Or.inl ⟨by kernel_rfl, ?_⟩) hS ?_
        rotate_left 1
        · (intro w' hS'; clear hS'; go_simp; try with_reducible rfl)
        simp only [List.getElem_toArray, List.getElem_cons_zero, List.getElem_cons_succ, Act.put, List.setIfInBounds_toArray, List.set_cons_zero, List.set_cons_succ]
        refine wpAnyH_take (i := 37) (v := ?_) rfl (by kernel_rfl) (by kernel_rfl) (by kernel_rfl) (fun _ _ _ h => h) (Or.inl ⟨by kernel_rfl, ?_⟩) hS ?_
        rotate_left 1
        · (intro w' hS'; clear hS'; go_simp; try with_reducible rfl)
        simp only [List.getElem_toArray, List.getElem_cons_zero, List.getElem_cons_succ, Act.put, List.setIfInBounds_toArray, List.set_cons_zero, List.set_cons_succ]
        refine wpAnyH_take (i := 38) (v := ?_) rfl (by kernel_rfl) (by kernel_rfl) (by kernel_rfl) (fun _ _ _ h => h) (Or.inl ⟨by kernel_rfl, ?_⟩) hS ?_
        rotate_left 1
        · (intro w' hS'; clear hS'; go_simp; try with_reducible rfl)
        simp only [List.getElem_toArray, List.getElem_cons_zero, List.getElem_cons_succ, Act.put, List.setIfInBounds_toArray, List.set_cons_zero, List.set_cons_succ]
        refine wpAnyH_take (i := 39) (v := ?_) rfl (by kernel_rfl) (by kernel_rfl) (by kernel_rfl) (fun _ _ _ h => h) (Or.inl ⟨by kernel_rfl, ?_⟩) hS ?_
        rotate_left 1
        · (intro w' hS'; clear hS'; go_simp; try with_reducible rfl)
        simp only [List.getElem_toArray, List.getElem_cons_zero, List.getElem_cons_succ, Act.put, List.setIfInBounds_toArray, List.set_cons_zero, List.set_cons_succ]
        refine wpAnyH_take (i := 40) (v := ?_) rfl (by kernel_rfl) (by kernel_rfl) (by kernel_rfl) (fun _ _ _ h => h) (Or.inl ⟨by kernel_rfl, ?_⟩) hS ?_
        rotate_left 1
        · (intro w' hS'; have d12 := C12.out _ (F2.out.trans (HR.out.2.2.trans (FV.out.trans hS' (fun _ _ h => h)) (fun _ _ h => h)) (fun _ _ h => h)); clear hS'; go_simp; try with_reducible rfl)
        simp only [List.getElem_toArray, List.getElem_cons_zero, List.getElem_cons_succ, Act.put, List.setIfInBounds_toArray, List.set_cons_zero, List.set_cons_succ]
        refine wpAnyH_take (i := 41) (v := .bool false) rfl (by kernel_rfl) (by kernel_rfl) (by kernel_rfl) (fun _ _ _ h => h) (Or.inl ⟨by kernel_rfl, fun w' hS' => by clear hS'; go_simp⟩) hS ?_
        simp only [List.getElem_toArray, List.getElem_cons_zero, List.getElem_cons_succ, Act.put, List.setIfInBounds_toArray, List.set_cons_zero, List.set_cons_succ]
        refine wpAnyH_take (i := 42) (v := ?_) rfl (by kernel_rfl) (by kernel_rfl) (by kernel_rfl) (fun _ _ _ h => h) (Or.inl ⟨by kernel_rfl, ?_⟩) hS ?_
        rotate_left 1
        · (intro w' hS'; clear hS'; go_simp; try with_reducible rfl)
        simp only [List.getElem_toArray, List.getElem_cons_zero, List.getElem_cons_succ, Act.put, List.setIfInBounds_toArray, List.set_cons_zero, List.set_cons_succ]
        refine wpAnyH_take (i := 43) (v := ?_) rfl (by kernel_rfl) (by kernel_rfl) (by kernel_rfl) (fun _ _ _ h => h) (Or.inl ⟨by kernel_rfl, ?_⟩) hS ?_
        rotate_left 1
        · (intro w' hS'; clear hS'; go_simp; try with_reducible rfl)
        simp only [List.getElem_toArray, List.getElem_cons_zero, List.getElem_cons_succ, Act.put, List.setIfInBounds_toArray, List.set_cons_zero, List.set_cons_succ]
        refine wpAnyH_done (by kernel_rfl) ?_ _
        have HF := hid (HR.out.2.2.trans (FV.out.trans hS (fun _ _ h => h)) (fun _ _ h => h))
        have d0 := D0.out _ hS
        clear hS hmx
        go_wp2
        go_roundw
        case rel => exact ⟨i + 1, xt, by first | rfl | trivial, congrArg (Value.int .i64) HW1.out, hid ⟨HLT.out, HNX.out, HF.out⟩⟩
        case measure => exact X.mea HW1.out HLT.out
      · have q3' : (g4 == 3) = false := by simp [q3]
        go_wp2_with (first
          | (refine wpList_load_v L1.out (by exact ⟨_, rfl, rfl⟩) (by kernel_rfl) ?_))
        rw [HV1.out]
        have hmx : Try.prog.follows .mixedOrders = true := by kernel_rfl
        refine wp_region_held (S := fun V => Fr (fun _ => False) V1 V) hmx ?_
        have hS := (show Fr (fun _ => False) V1 V1.drew from Fr.drew (Fr.refl _ _))
        simp only [List.size_toArray, List.length_cons, List.length_nil, Nat.reduceAdd, Array.replicate_succ, Array.replicate_zero, List.push_toArray, List.nil_append, List.cons_append]
        refine wpAnyH_take (i := 0) rfl (by kernel_rfl) (by kernel_rfl) (by kernel_rfl) (fun _ _ _ h => h) (jyload (by kernel_rfl) (by exact ⟨_, rfl, rfl⟩) (fun w' hS' => LB.out w' hS')) hS ?_
        simp only [List.getElem_toArray, List.getElem_cons_zero, List.getElem_cons_succ, Act.put, List.setIfInBounds_toArray, List.set_cons_zero, List.set_cons_succ]
        refine wpAnyH_take (i := 1) (v := ?_) rfl (by kernel_rfl) (by kernel_rfl) (by kernel_rfl) (fun _ _ _ h => h) (Or.inl ⟨by kernel_rfl, ?_⟩) hS ?_
        rotate_left 1
        · (intro w' hS'; clear hS'; go_simp; try with_reducible rfl)
        simp only [List.getElem_toArray, List.getElem_cons_zero, List.getElem_cons_succ, Act.put, List.setIfInBounds_toArray, List.set_cons_zero, List.set_cons_succ]
        refine wpAnyH_take (i := 2) (v := ?_) rfl (by kernel_rfl) (by kernel_rfl) (by kernel_rfl) (fun _ _ _ h => h) (Or.inl ⟨by kernel_rfl, ?_⟩) hS ?_
        rotate_left 1
        · (intro w' hS'; clear hS'; go_simp; try with_reducible rfl)
        simp only [List.getElem_toArray, List.getElem_cons_zero, List.getElem_cons_succ, Act.put, List.setIfInBounds_toArray, List.set_cons_zero, List.set_cons_succ]
        refine wpAnyH_take (i := 3) (v := ?_) rfl (by kernel_rfl) (by kernel_rfl) (by kernel_rfl) (fun _ _ _ h => h) (Or.inl ⟨by kernel_rfl, ?_⟩) hS ?_
        rotate_left 1
        · (intro w' hS'; clear hS'; go_simp; try with_reducible rfl)
        simp only [List.getElem_toArray, List.getElem_cons_zero, List.getElem_cons_succ, Act.put, List.setIfInBounds_toArray, List.set_cons_zero, List.set_cons_succ]
        refine wpAnyH_take (i := 4) (v := ?_) rfl (by kernel_rfl) (by kernel_rfl) (by kernel_rfl) (fun _ _ _ h => h) (Or.inl ⟨by kernel_rfl, ?_⟩) hS ?_
        rotate_left 1
        · (intro w' hS'; clear hS'; go_simp; try with_reducible rfl)
        simp only [List.getElem_toArray, List.getElem_cons_zero, List.getElem_cons_succ, Act.put, List.setIfInBounds_toArray, List.set_cons_zero, List.set_cons_succ]
        refine wpAnyH_take (i := 5) (v := ?_) rfl (by kernel_rfl) (by kernel_rfl) (by kernel_rfl) (fun _ _ _ h => h) (Or.inl ⟨by kernel_rfl, ?_⟩) hS ?_
        rotate_left 1
        · (intro w' hS'; clear hS'; go_simp; try with_reducible rfl)
        simp only [List.getElem_toArray, List.getElem_cons_zero, List.getElem_cons_succ, Act.put, List.setIfInBounds_toArray, List.set_cons_zero, List.set_cons_succ]
        refine wpAnyH_take (i := 6) rfl (by kernel_rfl) (by kernel_rfl) (by kernel_rfl) (fun _ _ _ h => h) (jyload (by kernel_rfl) (by exact ⟨_, rfl, rfl⟩) (fun w' hS' => LL.out w' hS')) hS ?_
        simp only [List.getElem_toArray, List.getElem_cons_zero, List.getElem_cons_succ, Act.put, List.setIfInBounds_toArray, List.set_cons_zero, List.set_cons_succ]
        refine wpAnyH_take (i := 7) (v := .bool false) rfl (by kernel_rfl) (by kernel_rfl) (by kernel_rfl) (fun _ _ _ h => h) (Or.inl ⟨by kernel_rfl, fun w' hS' => by clear hS'; go_simp⟩) hS ?_
        simp only [List.getElem_toArray, List.getElem_cons_zero, List.getElem_cons_succ, Act.put, List.setIfInBounds_toArray, List.set_cons_zero, List.set_cons_succ]
        refine wpAnyH_take (i := 8) (v := ?_) rfl (by kernel_rfl) (by kernel_rfl) (by kernel_rfl) (fun _ _ _ h => h) (Or.inl ⟨by kernel_rfl, ?_⟩) hS ?_
        rotate_left 1
        · (intro w' hS'; clear hS'; go_simp; try with_reducible rfl)
        simp only [List.getElem_toArray, List.getElem_cons_zero, List.getElem_cons_succ, Act.put, List.setIfInBounds_toArray, List.set_cons_zero, List.set_cons_succ]
        refine wpAnyH_take (i := 9) (v := ?_) rfl (by kernel_rfl) (by kernel_rfl) (by kernel_rfl) (fun _ _ _ h => h) (Or.inl ⟨by kernel_rfl, ?_⟩) hS ?_
        rotate_left 1
        · (intro w' hS'; clear hS'; go_simp; try with_reducible rfl)
        simp only [List.getElem_toArray, List.getElem_cons_zero, List.getElem_cons_succ, Act.put, List.setIfInBounds_toArray, List.set_cons_zero, List.set_cons_succ]
        refine wpAnyH_take (i := 10) (v := ?_) rfl (by kernel_rfl) (by kernel_rfl) (by kernel_rfl) (fun _ _ _ h => h) (Or.inl ⟨by kernel_rfl, ?_⟩) hS ?_
        rotate_left 1
        · (intro w' hS'; clear hS'; go_simp; try with_reducible rfl)
        simp only [List.getElem_toArray, List.getElem_cons_zero, List.getElem_cons_succ, Act.put, List.setIfInBounds_toArray, List.set_cons_zero, List.set_cons_succ]
        refine wpAnyH_take (i := 11) (v := ?_) rfl (by kernel_rfl) (by kernel_rfl) (by kernel_rfl) (fun _ _ _ h => h) (Or.inl ⟨by kernel_rfl, ?_⟩) hS ?_
        rotate_left 1
        · (intro w' hS'; have d1 := D1.out w' hS'; clear hS'; go_simp; try with_reducible rfl)
        simp only [List.getElem_toArray, List.getElem_cons_zero, List.getElem_cons_succ, Act.put, List.setIfInBounds_toArray, List.set_cons_zero, List.set_cons_succ]
        refine wpAnyH_take (i := 12) (v := ?_) rfl (by kernel_rfl) (by kernel_rfl) (by kernel_rfl) (fun _ _ _ h => h) (Or.inl ⟨by kernel_rfl, ?_⟩) hS ?_
        rotate_left 1
        · (intro w' hS'; clear hS'; go_simp; try with_reducible rfl)
        simp only [List.getElem_toArray, List.getElem_cons_zero, List.getElem_cons_succ, Act.put, List.setIfInBounds_toArray, List.set_cons_zero, List.set_cons_succ]
        refine wpAnyH_take (i := 13) (v := .bool false) rfl (by kernel_rfl) (by kernel_rfl) (by kernel_rfl) (fun _ _ _ h => h) (Or.inl ⟨by kernel_rfl, fun w' hS' => by clear hS'; go_simp⟩) hS ?_
        simp only [List.getElem_toArray, List.getElem_cons_zero, List.getElem_cons_succ, Act.put, List.setIfInBounds_toArray, List.set_cons_zero, List.set_cons_succ]
        refine wpAnyH_take (i := 14) (v := ?_) rfl (by kernel_rfl) (by kernel_rfl) (by kernel_rfl) (fun _ _ _ h => h) (Or.inl ⟨by kernel_rfl, ?_⟩) hS ?_
        rotate_left 1
        · (intro w' hS'; clear hS'; go_simp; try with_reducible rfl)
        simp only [List.getElem_toArray, List.getElem_cons_zero, List.getElem_cons_succ, Act.put, List.setIfInBounds_toArray, List.set_cons_zero, List.set_cons_succ]
        refine wpAnyH_take (i := 15) (v := ?_) rfl (by kernel_rfl) (by kernel_rfl) (by kernel_rfl) (fun _ _ _ h => h) (Or.inl ⟨by kernel_rfl, ?_⟩) hS ?_
        rotate_left 1
        · (intro w' hS'; clear hS'; go_simp; try with_reducible rfl)
        simp only [List.getElem_toArray, List.getElem_cons_zero, List.getElem_cons_succ, Act.put, List.setIfInBounds_toArray, List.set_cons_zero, List.set_cons_succ]
        refine wpAnyH_take (i := 16) (v := ?_) rfl (by kernel_rfl) (by kernel_rfl) (by kernel_rfl) (fun _ _ _ h => h) (Or.inl ⟨by kernel_rfl, ?_⟩) hS ?_
        rotate_left 1
        · (intro w' hS'; clear hS'; go_simp; try with_reducible rfl)
        simp only [List.getElem_toArray, List.getElem_cons_zero, List.getElem_cons_succ, Act.put, List.setIfInBounds_toArray, List.set_cons_zero, List.set_cons_succ]
        refine wpAnyH_take (i := 17) (v := ?_) rfl (by kernel_rfl) (by kernel_rfl) (by kernel_rfl) (fun _ _ _ h => h) (Or.inl ⟨by kernel_rfl, ?_⟩) hS ?_
        rotate_left 1
        · (intro w' hS'; clear hS'; go_simp; try with_reducible rfl)
        simp only [List.getElem_toArray, List.getElem_cons_zero, List.getElem_cons_succ, Act.put, List.setIfInBounds_toArray, List.set_cons_zero, List.set_cons_succ]
        refine wpAnyH_take (i := 18) (v := ?_) rfl (by kernel_rfl) (by kernel_rfl) (by kernel_rfl) (fun _ _ _ h => h) (Or.inl ⟨by kernel_rfl, ?_⟩) hS ?_
        rotate_left 1
        · (intro w' hS'; have d0 := D0.out w' hS'; clear hS'; go_simp; try with_reducible rfl)
        simp only [List.getElem_toArray, List.getElem_cons_zero, List.getElem_cons_succ, Act.put, List.setIfInBounds_toArray, List.set_cons_zero, List.set_cons_succ]
        refine wpAnyH_take (i := 19) (v := ?_) rfl (by kernel_rfl) (by kernel_rfl) (by kernel_rfl) (fun _ _ _ h => h) (Or.inl ⟨by kernel_rfl, ?_⟩) hS ?_
        rotate_left 1
        · (intro w' hS'; clear hS'; go_simp; try with_reducible rfl)
        simp only [List.getElem_toArray, List.getElem_cons_zero, List.getElem_cons_succ, Act.put, List.setIfInBounds_toArray, List.set_cons_zero, List.set_cons_succ]
        refine wpAnyH_take (i := 20) (v := .bool false) rfl (by kernel_rfl) (by kernel_rfl) (by kernel_rfl) (fun _ _ _ h => h) (Or.inl ⟨by kernel_rfl, fun w' hS' => by clear hS'; go_simp⟩) hS ?_
        simp only [List.getElem_toArray, List.getElem_cons_zero, List.getElem_cons_succ, Act.put, List.setIfInBounds_toArray, List.set_cons_zero, List.set_cons_succ]
        refine wpAnyH_take (i := 21) (v := ?_) rfl (by kernel_rfl) (by kernel_rfl) (by kernel_rfl) (fun _ _ _ h => h) (Or.inl ⟨by kernel_rfl, ?_⟩) hS ?_
        rotate_left 1
        · (intro w' hS'; clear hS'; go_simp; try with_reducible rfl)
        simp only [List.getElem_toArray, List.getElem_cons_zero, List.getElem_cons_succ, Act.put, List.setIfInBounds_toArray, List.set_cons_zero, List.set_cons_succ]
        refine wpAnyH_take (i := 22) (v := ?_) rfl (by kernel_rfl) (by kernel_rfl) (by kernel_rfl) (fun _ _ _ h => h) (Or.inl ⟨by kernel_rfl, ?_⟩) hS ?_
        rotate_left 1
        · (intro w' hS'; clear hS'; go_simp; try with_reducible rfl)
        simp only [List.getElem_toArray, List.getElem_cons_zero, List.getElem_cons_succ, Act.put, List.setIfInBounds_toArray, List.set_cons_zero, List.set_cons_succ]
        refine wpAnyH_take (i := 23) (v := ?_) rfl (by kernel_rfl) (by kernel_rfl) (by kernel_rfl) (fun _ _ _ h => h) (Or.inl ⟨by kernel_rfl, ?_⟩) hS ?_
        rotate_left 1
        · (intro w' hS'; clear hS'; go_simp; try with_reducible rfl)
        simp only [List.getElem_toArray, List.getElem_cons_zero, List.getElem_cons_succ, Act.put, List.setIfInBounds_toArray, List.set_cons_zero, List.set_cons_succ]
        refine wpAnyH_take (i := 24) (v := ?_) rfl (by kernel_rfl) (by kernel_rfl) (by kernel_rfl) (fun _ _ _ h => h) (Or.inl ⟨by kernel_rfl, ?_⟩) hS ?_
        rotate_left 1
        · (intro w' hS'; clear hS'; go_simp; try with_reducible rfl)
        simp only [List.getElem_toArray, List.getElem_cons_zero, List.getElem_cons_succ, Act.put, List.setIfInBounds_toArray, List.set_cons_zero, List.set_cons_succ]
        refine wpAnyH_take (i := 25) (v := ?_) rfl (by kernel_rfl) (by kernel_rfl) (by kernel_rfl) (fun _ _ _ h => h) (Or.inl ⟨by kernel_rfl, ?_⟩) hS ?_
        rotate_left 1
        · (intro w' hS'; clear hS'; go_simp; try with_reducible rfl)
        simp only [List.getElem_toArray, List.getElem_cons_zero, List.getElem_cons_succ, Act.put, List.setIfInBounds_toArray, List.set_cons_zero, List.set_cons_succ]
        refine wpAnyH_take (i := 26) (v := ?_) rfl (by kernel_rfl) (by kernel_rfl) (by kernel_rfl) (fun _ _ _ h => h) (Or.inl ⟨by kernel_rfl, ?_⟩) hS ?_
        rotate_left 1
        · (intro w' hS'; clear hS'; go_simp; try with_reducible rfl)
        simp only [List.getElem_toArray, List.getElem_cons_zero, List.getElem_cons_succ, Act.put, List.setIfInBounds_toArray, List.set_cons_zero, List.set_cons_succ]
        refine wpAnyH_take (i := 27) (v := ?_) rfl (by kernel_rfl) (by kernel_rfl) (by kernel_rfl) (fun _ _ _ h => h) (Or.inl ⟨by kernel_rfl, ?_⟩) hS ?_
        rotate_left 1
        · (intro w' hS'; have d4 := C4.out _ (F2.out.trans (HR.out.2.2.trans (FV.out.trans hS' (fun _ _ h => h)) (fun _ _ h => h)) (fun _ _ h => h)); clear hS'; go_simp; try with_reducible rfl)
        simp only [List.getElem_toArray, List.getElem_cons_zero, List.getElem_cons_succ, Act.put, List.setIfInBounds_toArray, List.set_cons_zero, List.set_cons_succ]
        refine wpAnyH_take (i := 28) (v := .bool false) rfl (by kernel_rfl) (by kernel_rfl) (by kernel_rfl) (fun _ _ _ h => h) (Or.inl ⟨by kernel_rfl, fun w' hS' => by clear hS'; go_simp⟩) hS ?_
        simp only [List.getElem_toArray, List.getElem_cons_zero, List.getElem_cons_succ, Act.put, List.setIfInBounds_toArray, List.set_cons_zero, List.set_cons_succ]
        refine wpAnyH_take (i := 29) (v := ?_) rfl (by kernel_rfl) (by kernel_rfl) (by kernel_rfl) (fun _ _ _ h => h) (Or.inl ⟨by kernel_rfl, ?_⟩) hS ?_
        rotate_left 1
        · (intro w' hS'; clear hS'; go_simp; try with_reducible rfl)
        simp only [List.getElem_toArray, List.getElem_cons_zero, List.getElem_cons_succ, Act.put, List.setIfInBounds_toArray, List.set_cons_zero, List.set_cons_succ]
        refine wpAnyH_take (i := 30) (v := undef) rfl (by kernel_rfl) (by kernel_rfl) (by kernel_rfl) (fun _ _ _ h => h) (Or.inr ⟨by kernel_rfl, rfl⟩) hS ?_
        simp only [List.getElem_toArray, List.getElem_cons_zero, List.getElem_cons_succ, Act.put, List.setIfInBounds_toArray, List.set_cons_zero, List.set_cons_succ]
        refine wpAnyH_take (i := 31) (v := undef) rfl (by kernel_rfl) (by kernel_rfl) (by kernel_rfl) (fun _ _ _ h => h) (Or.inr ⟨by kernel_rfl, rfl⟩) hS ?_
        simp only [List.getElem_toArray, List.getElem_cons_zero, List.getElem_cons_succ, Act.put, List.setIfInBounds_toArray, List.set_cons_zero, List.set_cons_succ]
        refine wpAnyH_take (i := 32) (v := undef) rfl (by kernel_rfl) (by kernel_rfl) (by kernel_rfl) (fun _ _ _ h => h) (Or.inr ⟨by kernel_rfl, rfl⟩) hS ?_
        simp only [List.getElem_toArray, List.getElem_cons_zero, List.getElem_cons_succ, Act.put, List.setIfInBounds_toArray, List.set_cons_zero, List.set_cons_succ]
        refine wpAnyH_take (i := 33) (v := undef) rfl (by kernel_rfl) (by kernel_rfl) (by kernel_rfl) (fun _ _ _ h => h) (Or.inr ⟨by kernel_rfl, rfl⟩) hS ?_
        simp only [List.getElem_toArray, List.getElem_cons_zero, List.getElem_cons_succ, Act.put, List.setIfInBounds_toArray, List.set_cons_zero, List.set_cons_succ]
        refine wpAnyH_take (i := 34) (v := undef) rfl (by kernel_rfl) (by kernel_rfl) (by kernel_rfl) (fun _ _ _ h => h) (Or.inr ⟨by kernel_rfl, rfl⟩) hS ?_
        simp only [List.getElem_toArray, List.getElem_cons_zero, List.getElem_cons_succ, Act.put, List.setIfInBounds_toArray, List.set_cons_zero, List.set_cons_succ]
        refine wpAnyH_take (i := 35) (v := undef) rfl (by kernel_rfl) (by kernel_rfl) (by kernel_rfl) (fun _ _ _ h => h) (Or.inr ⟨by kernel_rfl, rfl⟩) hS ?_
        simp only [List.getElem_toArray, List.getElem_cons_zero, List.getElem_cons_succ, Act.put, List.setIfInBounds_toArray, List.set_cons_zero, List.set_cons_succ]
        refine wpAnyH_take (i := 36) (v := undef) rfl (by kernel_rfl) (by kernel_rfl) (by kernel_rfl) (fun _ _ _ h => h) (Or.inr ⟨by kernel_rfl, rfl⟩) hS ?_
        simp only [List.getElem_toArray, List.getElem_cons_zero, List.getElem_cons_succ, Act.put, List.setIfInBounds_toArray, List.set_cons_zero, List.set_cons_succ]
        refine wpAnyH_take (i := 37) (v := undef) rfl (by kernel_rfl) (by kernel_rfl) (by kernel_rfl) (fun _ _ _ h => h) (Or.inr ⟨by kernel_rfl, rfl⟩) hS ?_
        simp only [List.getElem_toArray, List.getElem_cons_zero, List.getElem_cons_succ, Act.put, List.setIfInBounds_toArray, List.set_cons_zero, List.set_cons_succ]
        refine wpAnyH_take (i := 38) (v := undef) rfl (by kernel_rfl) (by kernel_rfl) (by kernel_rfl) (fun _ _ _ h => h) (Or.inr ⟨by kernel_rfl, rfl⟩) hS ?_
        simp only [List.getElem_toArray, List.getElem_cons_zero, List.getElem_cons_succ, Act.put, List.setIfInBounds_toArray, List.set_cons_zero, List.set_cons_succ]
        refine wpAnyH_take (i := 39) (v := undef) rfl (by kernel_rfl) (by kernel_rfl) (by kernel_rfl) (fun _ _ _ h => h) (Or.inr ⟨by kernel_rfl, rfl⟩) hS ?_
        simp only [List.getElem_toArray, List.getElem_cons_zero, List.getElem_cons_succ, Act.put, List.setIfInBounds_toArray, List.set_cons_zero, List.set_cons_succ]
        refine wpAnyH_take (i := 40) (v := undef) rfl (by kernel_rfl) (by kernel_rfl) (by kernel_rfl) (fun _ _ _ h => h) (Or.inr ⟨by kernel_rfl, rfl⟩) hS ?_
        simp only [List.getElem_toArray, List.getElem_cons_zero, List.getElem_cons_succ, Act.put, List.setIfInBounds_toArray, List.set_cons_zero, List.set_cons_succ]
        refine wpAnyH_take (i := 41) (v := undef) rfl (by kernel_rfl) (by kernel_rfl) (by kernel_rfl) (fun _ _ _ h => h) (Or.inr ⟨by kernel_rfl, rfl⟩) hS ?_
        simp only [List.getElem_toArray, List.getElem_cons_zero, List.getElem_cons_succ, Act.put, List.setIfInBounds_toArray, List.set_cons_zero, List.set_cons_succ]
        refine wpAnyH_take (i := 42) (v := ?_) rfl (by kernel_rfl) (by kernel_rfl) (by kernel_rfl) (fun _ _ _ h => h) (Or.inl ⟨by kernel_rfl, ?_⟩) hS ?_
        rotate_left 1
        · (intro w' hS'; clear hS'; go_simp; try with_reducible rfl)
        simp only [List.getElem_toArray, List.getElem_cons_zero, List.getElem_cons_succ, Act.put, List.setIfInBounds_toArray, List.set_cons_zero, List.set_cons_succ]
        refine wpAnyH_take (i := 43) (v := ?_) rfl (by kernel_rfl) (by kernel_rfl) (by kernel_rfl) (fun _ _ _ h => h) (Or.inl ⟨by kernel_rfl, ?_⟩) hS ?_
        rotate_left 1
        · (intro w' hS'; clear hS'; go_simp; try with_reducible rfl)
        simp only [List.getElem_toArray, List.getElem_cons_zero, List.getElem_cons_succ, Act.put, List.setIfInBounds_toArray, List.set_cons_zero, List.set_cons_succ]
        refine wpAnyH_done (by kernel_rfl) ?_ _
        have HF := hid (HR.out.2.2.trans (FV.out.trans hS (fun _ _ h => h)) (fun _ _ h => h))
        have d0 := D0.out _ hS
        clear hS hmx
        go_wp2
        go_roundw
        case rel => exact ⟨i + 1, xt, by first | rfl | trivial, congrArg (Value.int .i64) HW1.out, hid ⟨HLT.out, HNX.out, HF.out⟩⟩
        case measure => exact X.mea HW1.out HLT.out
    · obtain rfl : i = r := by have := HR.out.1; omega
      have HF := hid HR.out.2.2
      go_wp2_with fail
      have hmx : Try.prog.follows .mixedOrders = true := by kernel_rfl
      refine wp_region_held (S := fun V => Fr (fun _ => False) wr V) hmx ?_
      have hS := (show Fr (fun _ => False) wr wr.drew from Fr.drew (Fr.refl _ _))
      simp only [List.size_toArray, List.length_cons, List.length_nil, Nat.reduceAdd, Array.replicate_succ, Array.replicate_zero, List.push_toArray, List.nil_append, List.cons_append]
      refine wpAnyH_take (i := 0) rfl (by kernel_rfl) (by kernel_rfl) (by kernel_rfl) (fun _ _ _ h => h) (jyload (by kernel_rfl) (by exact ⟨_, rfl, rfl⟩) (fun w' hS' => LS.out w' (F2.out.trans (HF.out.trans hS' (fun _ _ h => h)) (fun _ _ h => h)))) hS ?_
      simp only [List.getElem_toArray, List.getElem_cons_zero, List.getElem_cons_succ, Act.put, List.setIfInBounds_toArray, List.set_cons_zero, List.set_cons_succ]
      refine wpAnyH_take (i := 1) (v := ?_) rfl (by kernel_rfl) (by kernel_rfl) (by kernel_rfl) (fun _ _ _ h => h) (Or.inl ⟨by kernel_rfl, ?_⟩) hS ?_
      rotate_left 1
      · (intro w' hS'; clear hS'; go_simp; try with_reducible rfl)
      simp only [List.getElem_toArray, List.getElem_cons_zero, List.getElem_cons_succ, Act.put, List.setIfInBounds_toArray, List.set_cons_zero, List.set_cons_succ]
      refine wpAnyH_take (i := 2) (v := ?_) rfl (by kernel_rfl) (by kernel_rfl) (by kernel_rfl) (fun _ _ _ h => h) (Or.inl ⟨by kernel_rfl, ?_⟩) hS ?_
      rotate_left 1
      · (intro w' hS'; clear hS'; go_simp; try with_reducible rfl)
      simp only [List.getElem_toArray, List.getElem_cons_zero, List.getElem_cons_succ, Act.put, List.setIfInBounds_toArray, List.set_cons_zero, List.set_cons_succ]
      refine wpAnyH_take (i := 3) (v := ?_) rfl (by kernel_rfl) (by kernel_rfl) (by kernel_rfl) (fun _ _ _ h => h) (Or.inl ⟨by kernel_rfl, ?_⟩) hS ?_
      rotate_left 1
      · (intro w' hS'; clear hS'; go_simp; try with_reducible rfl)
      simp only [List.getElem_toArray, List.getElem_cons_zero, List.getElem_cons_succ, Act.put, List.setIfInBounds_toArray, List.set_cons_zero, List.set_cons_succ]
      refine wpAnyH_take (i := 4) (v := ?_) rfl (by kernel_rfl) (by kernel_rfl) (by kernel_rfl) (fun _ _ _ h => h) (Or.inl ⟨by kernel_rfl, ?_⟩) hS ?_
      rotate_left 1
      · (intro w' hS'; clear hS'; go_simp; try with_reducible rfl)
      simp only [List.getElem_toArray, List.getElem_cons_zero, List.getElem_cons_succ, Act.put, List.setIfInBounds_toArray, List.set_cons_zero, List.set_cons_succ]
      refine wpAnyH_take (i := 5) (v := ?_) rfl (by kernel_rfl) (by kernel_rfl) (by kernel_rfl) (fun _ _ _ h => h) (Or.inl ⟨by kernel_rfl, ?_⟩) hS ?_
      rotate_left 1
      · (intro w' hS'; have c29 := C29.out _ (F2.out.trans (HF.out.trans hS' (fun _ _ h => h)) (fun _ _ h => h)); clear hS'; go_simp; try with_reducible rfl)
      simp only [List.getElem_toArray, List.getElem_cons_zero, List.getElem_cons_succ, Act.put, List.setIfInBounds_toArray, List.set_cons_zero, List.set_cons_succ]
      refine wpAnyH_take (i := 6) (v := ?_) rfl (by kernel_rfl) (by kernel_rfl) (by kernel_rfl) (fun _ _ _ h => h) (Or.inl ⟨by kernel_rfl, ?_⟩) hS ?_
      rotate_left 1
      · (intro w' hS'; clear hS'; go_simp; try with_reducible rfl)
      simp only [List.getElem_toArray, List.getElem_cons_zero, List.getElem_cons_succ, Act.put, List.setIfInBounds_toArray, List.set_cons_zero, List.set_cons_succ]
      refine wpAnyH_take (i := 8) (v := ?_) rfl (by kernel_rfl) (by kernel_rfl) (by kernel_rfl) (fun _ _ _ h => h) (Or.inl ⟨by kernel_rfl, ?_⟩) hS ?_
      rotate_left 1
      · (intro w' hS'; clear hS'; go_simp; try with_reducible rfl)
      simp only [List.getElem_toArray, List.getElem_cons_zero, List.getElem_cons_succ, Act.put, List.setIfInBounds_toArray, List.set_cons_zero, List.set_cons_succ]
      refine wpAnyH_ready (rs := [7]) (by kernel_rfl) (by simp) ?_
      refine AllReadyH.cons rfl (fun K1 hK1 => ?_) (AllReadyH.nil)
      go_simp
      refine (KB2.out _ _ _ _ (OR.out.1.fr (HF.out.trans hS (fun _ _ h => h))) (HRR.out ▸ OR.out.2)).mono ?_
      rintro e w9 ⟨tb, td, rfl, hO, fx⟩
      have O7 := hid (OR.out.1.fr (HF.out.trans (hS.trans fx (fun _ _ h => h)) (fun _ _ h => h)))
      have O8 := hid hO
      refine hK1.out _ _ (hS.trans fx (fun _ _ h => h)) (fun hS => ?_)
      clear fx hO
      clear hK1 K1
      simp only [List.getElem_toArray, List.getElem_cons_zero, List.getElem_cons_succ, Act.put, List.setIfInBounds_toArray, List.set_cons_zero, List.set_cons_succ]
      refine wpAnyH_ready (rs := [9]) (by kernel_rfl) (by simp) ?_
      refine AllReadyH.cons rfl (fun K1 hK1 => ?_) (AllReadyH.nil)
      go_simp
      refine (LO.out _ _ _ _ _ _ _ O8.out O7.out).mono ?_
      rintro e w9 ⟨rfl, fx⟩
      refine hK1.out _ _ (hS.trans fx (fun _ _ h => h)) (fun hS => ?_)
      clear fx
      clear hK1 K1
      simp only [List.getElem_toArray, List.getElem_cons_zero, List.getElem_cons_succ, Act.put, List.setIfInBounds_toArray, List.set_cons_zero, List.set_cons_succ]
      refine wpAnyH_take (i := 10) (v := ?_) rfl (by kernel_rfl) (by kernel_rfl) (by kernel_rfl) (fun _ _ _ h => h) (Or.inl ⟨by kernel_rfl, ?_⟩) hS ?_
      rotate_left 1
      · (intro w' hS'; clear hS'; go_simp; try with_reducible rfl)
      simp only [List.getElem_toArray, List.getElem_cons_zero, List.getElem_cons_succ, Act.put, List.setIfInBounds_toArray, List.set_cons_zero, List.set_cons_succ]
      refine wpAnyH_done (by kernel_rfl) ?_ _
      have F9 := hid (F0.out.trans (F2.out.trans (HF.out.trans hS (fun _ _ h => h)) (fun _ _ h => h)) (fun _ _ h => h))
      clear hS hmx
      go_wp2
      go_ret
      exact ⟨rfl, F9.out⟩
theorem exchangeGapless_walk {I : Nat → Prop} {w : World} {g : Nat → Int} {b : Bool} {v : Nat → Value} (hg : X.in64 g) {o q : Int} {l : List S.Op} {a : Option Addr} {c : Nat} (hl : X.Ops I w a l) (hi : ∀ x ∈ l, x.in64) (hln : l.length ≤ c ∧ l.length ≤ 1599289640401) :
    Calls Try.prog 4 #[.agg (X.cs g b v), .int .i64 o, .int .i64 q, .slice a l.length c] w fun e w' => e = .returned (.bool true) ∧ Fr (fun _ => False) w w' := by
  by_cases h0 : X.cnt g o q l = []
  · exact gapless_none hg hl hi hln h0
  · have hm : X.may g o q = true := by
      cases h : X.may g o q with
      | true => rfl
      | false => exact absurd (by unfold X.cnt; rw [h]; simp) h0
    have hs : X.site o = true := by have h := hm; unfold X.may at h; cases h2 : X.site o <;> simp [h2] at h ⊢
    have hs2 := X.site_iff.1 hs
    obtain ⟨k, rfl⟩ : ∃ k : Nat, o = (k : Int) := ⟨o.toNat, by omega⟩
    exact gapless_some hg (by omega) hl hi hln hm h0
end Go.Proofs.Ytedgiffnfhkonaa

/-
  Same: are two lists of nodes the same?
-/
import Derived.Test.YtilbdpnioajkoaaGreatTNodesQ
namespace Go.Proofs.YtilbdpnioajkoaaGreat
open Go.RowKit Go.Maps
set_option linter.unusedVariables false
set_option linter.unusedSimpArgs false
set_option maxRecDepth 100000
theorem T.flatA_cells {I : Nat → Prop} {w : World} {a : Option Addr} {xs : List T.Pr} (h : Rw I w 2 a xs.length (T.flatA xs)) {k : Nat} {x : T.Pr} (hx : xs[k]? = some x) : ∃ g o, a = some ⟨g, o, none⟩ ∧ w.cell? ⟨g, o + k * 2, none⟩ = some (.string x.1) ∧ w.cell? ⟨g, o + k * 2 + 1, none⟩ = some (.string x.2) := by
  rcases h.2 with h0 | ⟨g, o, h1, _, h2⟩
  · have := (List.getElem?_eq_some_iff.1 hx).1
    omega
  · refine ⟨g, o, h1, h2 (k * 2) _ ?_, ?_⟩
    · rw [T.flatA_get, show k * 2 / 2 = k by omega, hx, show k * 2 % 2 = 0 by omega]; rfl
    · have := h2 (k * 2 + 1) (.string x.2) (by rw [T.flatA_get, show (k * 2 + 1) / 2 = k by omega, hx, show (k * 2 + 1) % 2 = 1 by omega]; rfl)
      rw [← Nat.add_assoc] at this
      exact this
set_option maxHeartbeats 1600000 in
theorem equalA_any {I J : Nat → Prop} {w : World} {a b : Option Addr} {ca cb : Nat} {xs ys : List T.Pr} (h1 : Rw I w 2 a xs.length (T.flatA xs)) (h2 : Rw J w 2 b ys.length (T.flatA ys)) (hx : xs.length ≤ 9000000000000) :
    Calls Tryz.prog 85 #[.slice a xs.length ca, .slice b ys.length cb] w fun e w' => e = .returned (.bool (decide (xs = ys))) ∧ Fr (fun _ => False) w w' := by
  have H1 := hid h1
  have H2 := hid h2
  clear h1 h2
  by_cases hl : xs.length = ys.length
  · obtain ⟨r, hr⟩ : ∃ r, decide (xs = ys) = r := ⟨_, rfl⟩
    rw [hr]
    have HR := hid hr
    obtain ⟨n, hn⟩ : ∃ n, xs.length = n := ⟨_, rfl⟩
    have hn2 : ys.length = n := by omega
    rw [hn, hn2]
    rw [hn] at hx
    have HN := hid hn
    have HN2 := hid hn2
    clear hr hn hn2 hl
    go_enter Tryz.func85, Tryz.ntmps85
    go_wp2
    go_loopw [5, 13] (fun _ i wr => ∃ k : Nat, i = .int .i64 k ∧ Hid (k ≤ n ∧ xs.take k = ys.take k ∧ Fr (fun _ => False) w wr))
      (fun _ i _ => n - (intOf i).toNat)
    case atStart => exact ⟨0, rfl, hid ⟨Nat.zero_le _, rfl, Fr.refl _ _⟩⟩
    case round =>
      obtain ⟨k, rfl, hall⟩ := hrel
      by_cases hlt : k < n
      · obtain ⟨x, hx1⟩ : ∃ q, xs[k]? = some q := ⟨_, List.getElem?_eq_getElem (by rw [HN.out]; exact hlt)⟩
        obtain ⟨y, hy1⟩ : ∃ q, ys[k]? = some q := ⟨_, List.getElem?_eq_getElem (by rw [HN2.out]; exact hlt)⟩
        obtain ⟨g1, o1, rfl, a0, a1⟩ := T.flatA_cells (H1.out.kept hall.out.2.2 (fun _ _ h => h)) hx1
        obtain ⟨g2, o2, rfl, b0, b1⟩ := T.flatA_cells (H2.out.kept hall.out.2.2 (fun _ _ h => h)) hy1
        have i0 : (0 : Int) ≤ (k : Int) := by omega
        have i1 : (k : Int) < (n : Int) := by omega
        obtain ⟨x1, x2⟩ := x
        obtain ⟨y1, y2⟩ := y
        have HX := hid hx1
        have HY := hid hy1
        clear hx1 hy1
        by_cases hxy : ((x1, x2) : T.Pr) = (y1, y2)
        · have HR2 := hid (show xs.take (k + 1) = ys.take (k + 1) from by rw [List.take_add_one, List.take_add_one, HX.out, HY.out, hall.out.2.1, hxy])
          have HK := hid (show k + 1 ≤ n from hlt)
          have HF := hid hall.out.2.2
          obtain ⟨rfl, rfl⟩ : x1 = y1 ∧ x2 = y2 := by cases hxy; exact ⟨rfl, rfl⟩
          clear hxy hall
          go_wp2
          go_quiet (fail)
          go_wp2
          go_roundw
          case rel => exact ⟨k + 1, by first | go_num | rfl | trivial, hid ⟨HK.out, HR2.out, HF.out.trans (Fr.drewN _ _) (fun _ _ h => h)⟩⟩
          case measure => simp [intOf]; omega
        · have HRF := hid (show r = false from by
            rw [← HR.out]
            refine decide_eq_false (fun e => hxy ?_)
            have h3 := HX.out
            rw [e, HY.out] at h3
            exact (Option.some.inj h3).symm)
          have HF := hid hall.out.2.2
          have q : (x1.toList == y1.toList) = false ∨ ((x1.toList == y1.toList) = true ∧ (x2.toList == y2.toList) = false) := by
            cases q1 : (x1.toList == y1.toList) with
            | false => exact .inl rfl
            | true =>
              refine .inr ⟨rfl, ?_⟩
              cases q2 : (x2.toList == y2.toList) with
              | false => rfl
              | true =>
                have e1 : x1 = y1 := T.ba_ext (by rw [← ByteArray.toList_eq, ← ByteArray.toList_eq]; exact eq_of_beq q1)
                have e2 : x2 = y2 := T.ba_ext (by rw [← ByteArray.toList_eq, ← ByteArray.toList_eq]; exact eq_of_beq q2)
                exact absurd (by rw [e1, e2]) hxy
          clear hxy hall
          rcases q with q | ⟨q, q2⟩
          · go_wp2
            go_quiet (fail)
            go_wp2
            go_ret
            exact ⟨ret_bool HRF.out.symm, HF.out.trans (Fr.drewN _ _) (fun _ _ h => h)⟩
          · go_wp2
            go_quiet (fail)
            go_wp2
            go_ret
            exact ⟨ret_bool HRF.out.symm, HF.out.trans (Fr.drewN _ _) (fun _ _ h => h)⟩
      · obtain rfl : k = n := by have := hall.out.1; omega
        have HRT := hid (show r = true from by
          rw [← HR.out]
          refine decide_eq_true ?_
          have h3 := hall.out.2.1
          rw [List.take_of_length_le (by rw [HN.out]; exact Nat.le_refl _), List.take_of_length_le (by rw [HN2.out]; exact Nat.le_refl _)] at h3
          exact h3)
        have HF := hid hall.out.2.2
        clear hall
        go_wp2
        go_ret
        exact ⟨ret_bool HRT.out.symm, HF.out⟩
  · have hd : decide (xs = ys) = false := decide_eq_false (fun e => hl (by rw [e]))
    rw [hd]
    obtain ⟨n, hn⟩ : ∃ n, xs.length = n := ⟨_, rfl⟩
    obtain ⟨m, hm⟩ : ∃ m, ys.length = m := ⟨_, rfl⟩
    rw [hn, hm] at hl ⊢
    have e1 : (n : Int) ≠ (m : Int) := by omega
    have e2 : ((n : Int) == (m : Int)) = false := by simp; omega
    clear hd hn hm
    go_enter Tryz.func85, Tryz.ntmps85
    go_wp2
    go_ret
    exact ⟨rfl, Fr.refl _ _⟩
/-- are two nodes the same? -/
def T.same (p q : Int × T.Nd) : Bool := (p.1 == q.1) && ((p.2.par == q.2.par) && ((p.2.nm.toList == q.2.nm.toList) && decide (p.2.ats = q.2.ats)))
theorem T.same_iff {p q : Int × T.Nd} : T.same p q = true ↔ p = q := by
  unfold T.same
  simp only [Bool.and_eq_true, beq_iff_eq, decide_eq_true_eq]
  constructor
  · rintro ⟨h1, h2, h3, h4⟩
    have h5 : p.2.nm = q.2.nm := T.ba_ext (by rw [← ByteArray.toList_eq, ← ByteArray.toList_eq]; exact h3)
    refine Prod.ext h1 ?_
    cases hp : p.2
    cases hq : q.2
    rw [hp, hq] at h2 h5 h4
    simp only at h2 h5 h4
    rw [h2, h5, h4]
  · rintro rfl
    simp
abbrev T.aggN (z : T.Tn) : Value := .agg #[.int .i64 z.1.1, .int .i64 z.1.2.par, .string z.1.2.nm, .slice z.2.1 z.1.2.ats.length z.2.2]
set_option maxHeartbeats 1600000 in
theorem isSame_any {I J : Nat → Prop} {w : World} (x y : T.Tn) (h1 : Rw I w 2 x.2.1 x.1.2.ats.length (T.flatA x.1.2.ats)) (h2 : Rw J w 2 y.2.1 y.1.2.ats.length (T.flatA y.1.2.ats)) (hx : x.1.2.ats.length ≤ 9000000000000) :
    Calls Tryz.prog 55 #[T.aggN x, T.aggN y] w fun e w' => e = .returned (.bool (T.same x.1 y.1)) ∧ Fr (fun _ => False) w w' := by
  obtain ⟨⟨n1, ⟨p1, s1, l1⟩⟩, ⟨a1, c1⟩⟩ := x
  obtain ⟨⟨n2, ⟨p2, s2, l2⟩⟩, ⟨a2, c2⟩⟩ := y
  simp only at h1 h2 hx
  obtain ⟨W, hW⟩ : ∃ W, (w.alloc (.cells #[.int .i64 n1, .int .i64 p1, .string s1, .slice a1 l1.length c1] 63)).alloc (.cells #[.int .i64 n2, .int .i64 p2, .string s2, .slice a2 l2.length c2] 63) = W := ⟨_, rfl⟩
  have fW : Fr (fun _ => False) w W := by rw [← hW]; exact Fr.alloc (Fr.alloc (Fr.refl _ _) _) _
  have KE := hid (equalA_any (ca := c1) (cb := c2) (h1.kept fW (fun _ _ h => h)) (h2.kept fW (fun _ _ h => h)) hx)
  have FW := hid fW
  have HW := hid hW
  obtain ⟨m1, hm1⟩ : ∃ m, l1.length = m := ⟨_, rfl⟩
  obtain ⟨m2, hm2⟩ : ∃ m, l2.length = m := ⟨_, rfl⟩
  obtain ⟨r4, hr4⟩ : ∃ r, decide (l1 = l2) = r := ⟨_, rfl⟩
  rw [hm1, hm2, hr4] at KE
  rw [hm1, hm2] at HW
  unfold T.aggN T.same
  simp only
  rw [hm1, hm2, hr4]
  clear h1 h2 hx fW hW hm1 hm2 hr4
  cases q1 : (n1 == n2) <;> cases q2 : (p1 == p2) <;> cases q3 : (s1.toList == s2.toList)
  all_goals
    go_enter Tryz.func55, Tryz.ntmps55
    go_wp2_with (first
      | (go_at_call 85; rw [HW.out]; refine KE.out.mono ?_; rintro e w2 ⟨rfl, hf⟩; have F2 := hid hf; clear hf))
    go_ret
    exact ⟨rfl, by first | (rw [HW.out]; exact FW.out) | exact FW.out.trans F2.out (fun _ _ h => h)⟩
/-- what a list of nodes reads as, in blocks of I -/
def T.Nr (I : Nat → Prop) (w : World) (a : Option Addr) (zs : List T.Tn) : Prop := Rw I w 4 a zs.length (T.flatN zs) ∧ ∀ z ∈ zs, Rw I w 2 z.2.1 z.1.2.ats.length (T.flatA z.1.2.ats)
theorem T.Nr.kept {I S : Nat → Prop} {w w' : World} {a : Option Addr} {zs : List T.Tn} (h : T.Nr I w a zs) (hf : Fr S w w') (hS : ∀ i, I i → ¬ S i) : T.Nr I w' a zs := ⟨h.1.kept hf hS, fun z hz => (h.2 z hz).kept hf hS⟩
theorem T.Nr.mono {I J : Nat → Prop} {w : World} {a : Option Addr} {zs : List T.Tn} (h : T.Nr I w a zs) (hJ : ∀ i, I i → J i) : T.Nr J w a zs := ⟨h.1.mono hJ, fun z hz => (h.2 z hz).mono hJ⟩
theorem T.Lx.nr {b : Nat} {w : World} {a : Option Addr} {c : Nat} {zs : List T.Tn} (h : T.Lx b w a c zs) : T.Nr (fun i => b ≤ i ∧ i < w.heap.size) w a zs :=
  ⟨Rw.of_ro h.row (fun g hg => ⟨h.new g hg, h.row.lt g hg⟩), fun z hz => (h.el z hz).mono (fun i hi => ⟨hi.1, hi.2.1⟩)⟩
theorem T.flatN_get : ∀ (xs : List T.Tn) (j : Nat), (T.flatN xs)[j]? = (xs[j / 4]?).bind (fun x => (T.cellsN x)[j % 4]?)
  | [], j => by simp [T.flatN]
  | x :: r, 0 => rfl
  | x :: r, 1 => rfl
  | x :: r, 2 => rfl
  | x :: r, 3 => rfl
  | x :: r, j + 4 => by
    have e : T.flatN (x :: r) = T.cellsN x ++ T.flatN r := rfl
    rw [e, List.getElem?_append_right (by simp [T.cellsN]), show j + 4 - (T.cellsN x).length = j by simp [T.cellsN], T.flatN_get r j, show (j + 4) / 4 = j / 4 + 1 by omega, show (j + 4) % 4 = j % 4 by omega, List.getElem?_cons_succ]
theorem T.flatN_cells {I : Nat → Prop} {w : World} {a : Option Addr} {xs : List T.Tn} (h : Rw I w 4 a xs.length (T.flatN xs)) {k : Nat} {x : T.Tn} (hx : xs[k]? = some x) : ∃ g o, a = some ⟨g, o, none⟩ ∧ I g ∧ w.cell? ⟨g, o + k * 4, none⟩ = some (.int .i64 x.1.1) ∧ w.cell? ⟨g, o + k * 4 + 1, none⟩ = some (.int .i64 x.1.2.par) ∧ w.cell? ⟨g, o + k * 4 + 2, none⟩ = some (.string x.1.2.nm) ∧ w.cell? ⟨g, o + k * 4 + 3, none⟩ = some (.slice x.2.1 x.1.2.ats.length x.2.2) := by
  rcases h.2 with h0 | ⟨g, o, h1, hI, h2⟩
  · have := (List.getElem?_eq_some_iff.1 hx).1
    omega
  · have key : ∀ j u, j < 4 → (T.cellsN x)[j]? = some u → w.cell? ⟨g, o + k * 4 + j, none⟩ = some u := fun j u hj hu => by
      have := h2 (k * 4 + j) u (by rw [T.flatN_get, show (k * 4 + j) / 4 = k by omega, hx, show (k * 4 + j) % 4 = j by omega]; exact hu)
      rw [← Nat.add_assoc] at this
      exact this
    exact ⟨g, o, h1, hI, key 0 _ (by omega) rfl, key 1 _ (by omega) rfl, key 2 _ (by omega) rfl, key 3 _ (by omega) rfl⟩
/-- the same nodes, one by one -/
def T.sames : List T.Tn → List T.Tn → Bool
  | [], [] => true
  | x :: r, y :: s => T.same x.1 y.1 && T.sames r s
  | _, _ => false
theorem T.sames_iff : ∀ {xs ys : List T.Tn}, T.sames xs ys = true ↔ xs.map Prod.fst = ys.map Prod.fst
  | [], [] => by simp [T.sames]
  | [], y :: s => by simp [T.sames]
  | x :: r, [] => by simp [T.sames]
  | x :: r, y :: s => by
    unfold T.sames
    rw [Bool.and_eq_true, T.same_iff, T.sames_iff (xs := r) (ys := s)]
    simp
set_option maxHeartbeats 1600000 in
theorem equalN_any {I J : Nat → Prop} {w : World} {a b : Option Addr} {ca cb : Nat} {xs ys : List T.Tn} (h1 : T.Nr I w a xs) (h2 : T.Nr J w b ys) (hx : xs.length ≤ 9000000000000) (hl : ∀ x ∈ xs, x.1.2.ats.length ≤ 9000000000000) :
    Calls Tryz.prog 54 #[.slice a xs.length ca, .slice b ys.length cb, .func (.func 55) #[] #[]] w fun e w' => e = .returned (.bool (T.sames xs ys)) ∧ Fr (fun _ => False) w w' := by
  have H1 := hid h1
  have H2 := hid h2
  have HL := hid hl
  clear h1 h2 hl
  by_cases hl : xs.length = ys.length
  · obtain ⟨r, hr⟩ : ∃ r, T.sames xs ys = r := ⟨_, rfl⟩
    rw [hr]
    have HR := hid hr
    obtain ⟨n, hn⟩ : ∃ n, xs.length = n := ⟨_, rfl⟩
    have hn2 : ys.length = n := by omega
    rw [hn, hn2]
    rw [hn] at hx
    have HN := hid hn
    have HN2 := hid hn2
    clear hr hn hn2 hl
    go_enter Tryz.func54, Tryz.ntmps54
    go_wp2
    go_loopw [7, 8, 9, 17] (fun _ _ _ i wr => ∃ k : Nat, i = .int .i64 k ∧ Hid (k ≤ n ∧ T.sames (xs.drop k) (ys.drop k) = r ∧ Fr (fun _ => False) w wr))
      (fun _ _ _ i _ => n - (intOf i).toNat)
    case atStart => exact ⟨0, rfl, hid ⟨Nat.zero_le _, HR.out, Fr.refl _ _⟩⟩
    case round =>
      obtain ⟨k, rfl, hall⟩ := hrel
      by_cases hlt : k < n
      · obtain ⟨x, hx1⟩ : ∃ q, xs[k]? = some q := ⟨_, List.getElem?_eq_getElem (by rw [HN.out]; exact hlt)⟩
        obtain ⟨y, hy1⟩ : ∃ q, ys[k]? = some q := ⟨_, List.getElem?_eq_getElem (by rw [HN2.out]; exact hlt)⟩
        have hA := H1.out.kept hall.out.2.2 (fun _ _ h => h)
        have hB := H2.out.kept hall.out.2.2 (fun _ _ h => h)
        obtain ⟨g1, o1, rfl, _, a0, a1, a2, a3⟩ := T.flatN_cells hA.1 hx1
        obtain ⟨V1, hV1⟩ : ∃ V, wr.alloc (.cells #[.int .i64 x.1.1, .int .i64 x.1.2.par, .string x.1.2.nm, .slice x.2.1 x.1.2.ats.length x.2.2] 63) = V := ⟨_, rfl⟩
        have f1 : Fr (fun _ => False) wr V1 := by rw [← hV1]; exact Fr.alloc (Fr.refl _ _) _
        have z1 : V1.heap.size = wr.heap.size + 1 := by rw [← hV1, alloc_size]
        have k1 : V1.heap[wr.heap.size]? = some (.cells #[.int .i64 x.1.1, .int .i64 x.1.2.par, .string x.1.2.nm, .slice x.2.1 x.1.2.ats.length x.2.2] 63 (0, 0)) := by rw [← hV1]; exact Go.heap_alloc_new wr _
        obtain ⟨g2, o2, rfl, _, b0, b1, b2, b3⟩ := T.flatN_cells (hB.kept f1 (fun _ _ h => h)).1 hy1
        obtain ⟨V2, hV2⟩ : ∃ V, V1.alloc (.cells #[.int .i64 y.1.1, .int .i64 y.1.2.par, .string y.1.2.nm, .slice y.2.1 y.1.2.ats.length y.2.2] 63) = V := ⟨_, rfl⟩
        have f2 : Fr (fun _ => False) V1 V2 := by rw [← hV2]; exact Fr.alloc (Fr.refl _ _) _
        have k1' := f2.cells k1 (fun h => h)
        have k2 : V2.heap[V1.heap.size]? = some (.cells #[.int .i64 y.1.1, .int .i64 y.1.2.par, .string y.1.2.nm, .slice y.2.1 y.1.2.ats.length y.2.2] 63 (0, 0)) := by rw [← hV2]; exact Go.heap_alloc_new V1 _
        have i0 : (0 : Int) ≤ (k : Int) := by omega
        have i1 : (k : Int) < (n : Int) := by omega
        have hxm := List.mem_of_getElem? hx1
        have hym := List.mem_of_getElem? hy1
        have f12 := f1.trans f2 (fun _ _ h => h)
        have KC := hid (isSame_any x y ((hA.2 x hxm).kept f12 (fun _ _ h => h)) ((hB.2 y hym).kept f12 (fun _ _ h => h)) (HL.out x hxm))
        have hdr : T.sames (xs.drop k) (ys.drop k) = (T.same x.1 y.1 && T.sames (xs.drop (k + 1)) (ys.drop (k + 1))) := by
          have e1 : xs.drop k = x :: xs.drop (k + 1) := by
            obtain ⟨h3, rfl⟩ := List.getElem?_eq_some_iff.1 hx1
            exact List.drop_eq_getElem_cons h3
          have e2 : ys.drop k = y :: ys.drop (k + 1) := by
            obtain ⟨h3, rfl⟩ := List.getElem?_eq_some_iff.1 hy1
            exact List.drop_eq_getElem_cons h3
          rw [e1, e2]
          rfl
        have HD := hid (hdr ▸ hall.out.2.1)
        have HF := hid (hall.out.2.2.trans f12 (fun _ _ h => h))
        have HV1 := hid hV1
        have HV2 := hid hV2
        have K1 := hid k1'
        have K2 := hid k2
        have HZ := hid z1
        have HB := hid (And.intro b0 (And.intro b1 (And.intro b2 b3)))
        obtain ⟨⟨n1, ⟨p1, s1, l1⟩⟩, ⟨ad1, c1⟩⟩ := x
        obtain ⟨⟨n2, ⟨p2, s2, l2⟩⟩, ⟨ad2, c2⟩⟩ := y
        unfold T.aggN at KC
        simp only at KC HV1 HV2 K1 K2 a0 a1 a2 a3 HB HD
        obtain ⟨m1, hm1⟩ : ∃ m, l1.length = m := ⟨_, rfl⟩
        obtain ⟨m2, hm2⟩ : ∃ m, l2.length = m := ⟨_, rfl⟩
        obtain ⟨rs, hrs⟩ : ∃ r, T.same (n1, ⟨p1, s1, l1⟩) (n2, ⟨p2, s2, l2⟩) = r := ⟨_, rfl⟩
        rw [hm1, hm2, hrs] at KC
        rw [hm1] at HV1 K1 a3
        rw [hm2] at HV2 K2 HB
        rw [hrs] at HD
        clear hx1 hy1 hA hB hV1 f1 z1 k1 b0 b1 b2 b3 hV2 f2 k1' k2 hxm hym f12 hdr hm1 hm2 hrs hall
        go_upto_region 6 with fail
        rw [HV1.out]
        clear a0 a1 a2 a3
        obtain ⟨b0, b1, b2, b3⟩ := HB.out
        go_upto_region 7 with fail
        rw [HV2.out]
        clear b0 b1 b2 b3
        have q0 : V2.cell? ⟨wr.heap.size, 0, none⟩ = some (.int .i64 n1) := cellA (j := 0) K1.out rfl
        have q1 : V2.cell? ⟨wr.heap.size, 1, none⟩ = some (.int .i64 p1) := cellA (j := 1) K1.out rfl
        have q2 : V2.cell? ⟨wr.heap.size, 2, none⟩ = some (.string s1) := cellA (j := 2) K1.out rfl
        have q3 : V2.cell? ⟨wr.heap.size, 3, none⟩ = some (.slice ad1 m1 c1) := cellA (j := 3) K1.out rfl
        have r0 : V2.cell? ⟨V1.heap.size, 0, none⟩ = some (.int .i64 n2) := cellA (j := 0) K2.out rfl
        have r1 : V2.cell? ⟨V1.heap.size, 1, none⟩ = some (.int .i64 p2) := cellA (j := 1) K2.out rfl
        have r2 : V2.cell? ⟨V1.heap.size, 2, none⟩ = some (.string s2) := cellA (j := 2) K2.out rfl
        have r3 : V2.cell? ⟨V1.heap.size, 3, none⟩ = some (.slice ad2 m2 c2) := cellA (j := 3) K2.out rfl
        cases rs with
        | true =>
          go_wp2_with (first | (go_at_call 55; refine KC.out.mono ?_; rintro e w2 ⟨rfl, hf⟩; have F2 := hid hf; clear hf))
          clear q0 q1 q2 q3 r0 r1 r2 r3
          go_roundw
          case rel => exact ⟨k + 1, by first | go_num | rfl | trivial, hid ⟨hlt, by have := HD.out; rw [Bool.true_and] at this; exact this, HF.out.trans F2.out (fun _ _ h => h)⟩⟩
          case measure => simp [intOf]; omega
        | false =>
          have HRF := hid (show r = false from by have := HD.out; rw [Bool.false_and] at this; exact this.symm)
          go_wp2_with (first | (go_at_call 55; refine KC.out.mono ?_; rintro e w2 ⟨rfl, hf⟩; have F2 := hid hf; clear hf))
          go_ret
          exact ⟨ret_bool HRF.out.symm, HF.out.trans F2.out (fun _ _ h => h)⟩
      · obtain rfl : k = n := by have := hall.out.1; omega
        have HRT := hid (show r = true from by
          rw [← hall.out.2.1, List.drop_eq_nil_of_le (by rw [HN.out]; exact Nat.le_refl _), List.drop_eq_nil_of_le (by rw [HN2.out]; exact Nat.le_refl _)]
          rfl)
        have HF := hid hall.out.2.2
        clear hall
        go_wp2
        go_ret
        exact ⟨ret_bool HRT.out.symm, HF.out⟩
  · have hd : T.sames xs ys = false := by
      cases h : T.sames xs ys with
      | false => rfl
      | true => exact absurd (by have := congrArg List.length (T.sames_iff.1 h); simpa using this) hl
    rw [hd]
    obtain ⟨n, hn⟩ : ∃ n, xs.length = n := ⟨_, rfl⟩
    obtain ⟨m, hm⟩ : ∃ m, ys.length = m := ⟨_, rfl⟩
    rw [hn, hm] at hl ⊢
    have e1 : (n : Int) ≠ (m : Int) := by omega
    have e2 : ((n : Int) == (m : Int)) = false := by simp; omega
    clear hd hn hm
    go_enter Tryz.func54, Tryz.ntmps54
    go_wp2
    go_ret
    exact ⟨rfl, Fr.refl _ _⟩
/-- Same, of two lists of nodes in memory -/
theorem same_any {I J : Nat → Prop} {w : World} {a b : Option Addr} {ca cb : Nat} {xs ys : List T.Tn} (h1 : T.Nr I w a xs) (h2 : T.Nr J w b ys) (hx : xs.length ≤ 9000000000000) (hl : ∀ x ∈ xs, x.1.2.ats.length ≤ 9000000000000) :
    Calls Tryz.prog 17 #[.slice a xs.length ca, .slice b ys.length cb] w fun e w' => e = .returned (.bool (T.sames xs ys)) ∧ Fr (fun _ => False) w w' := by
  have K := hid (equalN_any (ca := ca) (cb := cb) h1 h2 hx hl)
  obtain ⟨n, hn⟩ : ∃ n, xs.length = n := ⟨_, rfl⟩
  obtain ⟨m, hm⟩ : ∃ m, ys.length = m := ⟨_, rfl⟩
  rw [hn, hm] at K ⊢
  clear h1 h2 hx hl hn hm
  go_enter Tryz.func17, Tryz.ntmps17
  go_wp2_with (first | (go_at_call 54; refine K.out.mono ?_; rintro e w2 ⟨rfl, hf⟩; have F2 := hid hf; clear hf))
  go_ret
  exact ⟨rfl, F2.out⟩
end Go.Proofs.YtilbdpnioajkoaaGreat

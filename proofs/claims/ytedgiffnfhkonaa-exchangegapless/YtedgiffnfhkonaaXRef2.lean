/-
  the document's Take, where it may.
-/
import Derived.Test.YtedgiffnfhkonaaXRef
namespace Go.Proofs.Ytedgiffnfhkonaa
open Go.RowKit
set_option linter.unusedVariables false
set_option linter.unusedSimpArgs false
set_option maxRecDepth 100000
theorem X.rleaf {w w1 w' : World} {R l1 : List S.Op} {ra : Option Addr} {rc n1 j : Nat} (hst : R = l1.take j) (hn : l1.length = n1) (hj : j ≤ n1) (hr : Ro w' 43 8 ra j rc (X.flat (l1.take j))) (hb : ∀ k, blk ra = some k → w1.heap.size ≤ k) (h1 : Fr (fun _ => False) w w1) (hf : Fr (fun _ => False) w1 w') : X.New w R (.returned (.slice ra j rc)) w' := by
  have hl : R.length = j := by rw [hst, List.length_take]; omega
  rw [← hst] at hr
  refine ⟨ra, rc, by rw [hl], ?_, by rw [hl]; exact hr.le.1, h1.trans hf (fun _ _ h => h)⟩
  have := Rw.of_ro (I := fun g => w.heap.size ≤ g ∧ g < w'.heap.size) hr (fun g hg => ⟨Nat.le_trans h1.size (hb g hg), hr.lt g hg⟩)
  rw [← hl] at this
  exact this
/-- where the document's loop is -/
structure X.Rt (w1 wr : World) (E k nx la F q : Int) (l1 : List S.Op) (n m i j : Nat) (nn lr lk : Int) (ra : Option Addr) (rc : Nat) : Prop where
  i_le : i ≤ n
  j_eq : j = i - m
  nn_eq : nn = q + i
  lk_eq : max lr F = lk
  at_ : X.At E k nx la l1 j lk
  ro : Ro wr 43 8 ra j rc (X.flat (l1.take j))
  blk_ : ∀ b, blk ra = some b → w1.heap.size ≤ b
  fr : Fr (fun _ => False) w1 wr
theorem X.Rt.skip {w1 wr wn : World} {E k nx la F q : Int} {l1 : List S.Op} {n m i j : Nat} {nn lr lk : Int} {ra : Option Addr} {rc : Nat} (h : X.Rt w1 wr E k nx la F q l1 n m i j nn lr lk ra rc) (hi : i < n) (hm : i < m) (hf : Fr (fun _ => False) wr wn) : X.Rt w1 wn E k nx la F q l1 n m (i + 1) j (nn + 1) lr lk ra rc :=
  ⟨hi, by have := h.j_eq; omega, by have := h.nn_eq; omega, h.lk_eq, h.at_, h.ro.kept hf (fun _ _ h => h), h.blk_, h.fr.trans hf (fun _ _ h => h)⟩
theorem X.Rt.more {w1 wr wa wn : World} {E k nx la F q : Int} {l1 : List S.Op} {n m i j : Nat} {nn lr lk : Int} {ra ra' : Option Addr} {rc rc' : Nat} (h : X.Rt w1 wr E k nx la F q l1 n m i j nn lr lk ra rc) {x : S.Op} (hx : l1[j]? = some x) (hi : i < n) (hm : m ≤ i) (hF : F < x.t) (hg : X.good E k (nx + j) lk x)
    (ha : Fr (fun _ => False) wr wa) (hr : Ro wn 43 8 ra' (j + 1) rc' (X.flat (l1.take j) ++ x.cs.toList)) (hf : Fr (fun b => blk ra = some b) wa wn) (hb : ∀ b, blk ra' = some b → blk ra = some b ∨ wa.heap.size ≤ b) : X.Rt w1 wn E k nx la F q l1 n m (i + 1) (j + 1) (nn + 1) x.t x.t ra' rc' := by
  refine ⟨hi, by have := h.j_eq; omega, by have := h.nn_eq; omega, by omega, h.at_.next hx hg, ?_, fun b hb2 => ?_, ?_⟩
  · rw [List.take_add_one, hx, X.flat_append]
    simp only [Option.toList, X.flat_one]
    exact hr
  · rcases hb b hb2 with h1 | h1
    · exact h.blk_ b h1
    · exact Nat.le_trans (Nat.le_trans h.fr.size ha.size) h1
  · refine (h.fr.trans ha (fun _ _ h => h)).trans hf (fun b hb2 hb3 => ?_)
    have := h.blk_ b hb3
    omega
set_option maxHeartbeats 6400000 in
theorem rtake_ok {I : Nat → Prop} (w : World) (g : Nat → Int) (b : Bool) (v : Nat → Value) (hg : X.in64 g) (k : Nat) (hk : k < 8) (q : Int) (l : List S.Op) (a : Option Addr) (c : Nat) (hl : X.Ops I w a l) (hi : ∀ x ∈ l, x.in64) (hln : l.length ≤ 1599289640401) (hm : X.may g (k : Int) q = true) (hV : ¬ 1099511627776 < g (29 + k)) :
    Calls Try.prog 8 #[.agg (X.cs g b v), .int .i64 k, .int .i64 q, .slice a l.length c] w fun e w' => X.New w (X.cnt g k q l) e w' := by
  obtain ⟨h0, h4, hq0, hq1⟩ := (X.may_iff hk).1 hm
  have F0 := hid (show Fr (fun _ => False) w (w.alloc (.cells (X.cs g b v) 34)) from Fr.alloc (Fr.refl _ _) _)
  have SB := hid (X.Sc.of (Go.heap_alloc_new w (.cells (X.cs g b v) 34)))
  have BX := hid (X.boxed w g b v)
  have KS := hid (fun W => xrsite_any W (k : Int))
  rw [X.site_iff.2 ⟨by omega, by omega⟩] at KS
  have c0 := BX.out 0 (by omega) (by omega) (X.sl_no (by omega))
  have c4 := BX.out (4 + k) (by omega) (by omega) (X.sl_no (by omega))
  have c29 := BX.out (29 + k) (by omega) (by omega) (X.sl_no (by omega))
  have c37 := BX.out (37 + k) (by omega) (by omega) (X.sl_no (by omega))
  have hcnt : X.cnt g k q l = X.run (X.endOf g k) k (g (29 + k)) (max (g (37 + k)) (g 47)) (l.drop (X.skip g k q l.length)) := by unfold X.cnt; rw [if_pos hm]; rfl
  rw [hcnt]
  obtain ⟨m, hmm⟩ : ∃ m, X.skip g k q l.length = m := ⟨_, rfl⟩
  have hmin : min (g (29 + k) - q) (l.length : Int) = (m : Int) := by
    rw [← hmm]; unfold X.skip; rw [Int.toNat_natCast]; omega
  have hml : m ≤ l.length := by omega
  rw [hmm]
  have OP := hid (hl.fr F0.out)
  have HI := hid hi
  obtain ⟨n, hn⟩ : ∃ n, l.length = n := ⟨_, rfl⟩
  have HN := hid hn
  have HDR := hid (show ∀ i, (l.drop m)[i]? = l[m + i]? from fun i => List.getElem?_drop)
  have hn1 : (l.drop m).length = n - m := by rw [List.length_drop, hn]
  have HN1 := hid hn1
  rw [hn] at hmin hln hml ⊢
  have HE : Hid ((g (4 + k) = 3 ∧ X.endOf g k = min 1099511627776 (g (12 + k))) ∨ (g (4 + k) ≠ 3 ∧ X.endOf g k = 1099511627776)) := hid (by unfold X.endOf; by_cases h : g (4 + k) = 3 <;> simp [h])
  have CV := hid (fun (W : World) (hf : Fr (fun _ => False) (w.alloc (.cells (X.cs g b v) 34)) W) (j : Nat) (hj : j < 154) (hj2 : j ≠ 2) (hj3 : X.sl j = false) => SB.out.kept hf (fun h => h) j hj hj2 hj3)
  have C29 := hid (fun W hf => CV.out W hf (29 + k) (by omega) (by omega) (X.sl_no (by omega)))
  have C4 := hid (fun W hf => CV.out W hf (4 + k) (by omega) (by omega) (X.sl_no (by omega)))
  have C12 := hid (fun W hf => CV.out W hf (12 + k) (by omega) (by omega) (X.sl_no (by omega)))
  have C47 := hid (fun W hf => CV.out W hf 47 (by omega) (by omega) (X.sl_no (by omega)))
  clear BX SB CV hcnt hmm hm hl hi hn1 hn
  generalize l.drop m = l1 at HDR HN1 ⊢
  generalize X.cs g b v = CX at F0 OP c0 c4 c29 c37 C29 C4 C12 C47 ⊢
  generalize X.endOf g k = E at HE ⊢
  generalize g 0 = g0 at c0 h0
  generalize g (4 + k) = g4 at c4 h4 HE C4
  generalize g (29 + k) = nx at c29 hq1 hmin C29 hV ⊢
  generalize g (37 + k) = g37 at c37 ⊢
  generalize g 47 = g47 at C47 ⊢
  generalize g (12 + k) = g12 at C12 HE
  have HV := hid hV
  have HMIN := hid hmin
  have HQ := hid (And.intro hq0 hq1)
  have HT := hid (And.intro hln hml)
  have h0' : ((k : Int) == g0) = false := by simp [h0]
  have h4' : (g4 == 0) = false := by simp [h4]
  have i0 : (0 : Int) ≤ (k : Int) := by omega
  have i1 : (k : Int) < 8 := by omega
  have hq0' : ¬ q < 0 := by omega
  have hq1' : ¬ nx < q := by omega
  obtain ⟨la, hla⟩ : ∃ la, max g37 g47 = la := ⟨_, rfl⟩
  rw [hla]
  have HLA := hid hla
  clear hla hmin hln hml
  obtain ⟨W1, hW1⟩ : ∃ W1, w.alloc (.cells CX 34) = W1 := ⟨_, rfl⟩
  have HW1 := hid hW1
  have hsz : W1.heap.size = w.heap.size + 1 := by rw [← hW1]; simp
  have HSZ := hid hsz
  rw [hW1] at F0 OP C29 C4 C12 C47
  clear hW1 hsz
  go_enter Try.func8, Try.ntmps8
  go_wp2_with (first
    | (go_at_call 12; refine (KS.out _).mono ?_; rintro e w1 ⟨rfl, rfl⟩))
  clear hq0 hq1 hq0' hq1' h0' h4' h0 h4 c0 c4 c29 c37 KS
  go_loopw [9, 10, 11, 12] (fun sl last num idx wr => ∃ (i j : Nat) (nn lr lk : Int) (ra : Option Addr) (rc : Nat), sl = .slice ra j rc ∧ last = .int .i64 lr ∧ num = .int .i64 nn ∧ idx = .int .i64 i ∧ Hid (X.Rt W1 wr E k nx la g47 q l1 n m i j nn lr lk ra rc)) (fun _ _ _ idx _ => n - (intOf idx).toNat)
  case atStart => exact ⟨0, 0, q, g37, la, none, 0, rfl, rfl, rfl, rfl, hid ⟨Nat.zero_le _, by omega, by omega, HLA.out, X.At.zero _ _ _ _ _, by simpa [X.flat] using Ro.nil _ _ _, fun _ h => by simp [blk] at h, by rw [HW1.out]; exact Fr.refl _ _⟩⟩
  case round =>
    obtain ⟨i, j, nn, lr, lk, ra, rc, rfl, rfl, rfl, rfl, HR⟩ := hrel
    by_cases hlt : i < n
    · have i0 : (0 : Int) ≤ (i : Int) := by omega
      have i1 : (i : Int) < (n : Int) := by omega
      obtain ⟨x, hx⟩ : ∃ x, l[i]? = some x := ⟨_, List.getElem?_eq_getElem (by rw [HN.out]; exact hlt)⟩
      obtain ⟨xt, xs, xk, xn, xp, xa, xb, xc⟩ := x
      have HX := hid hx
      have KC := hid (fun W => rscheckop_any ⟨xt, xs, xk, xn, xp, xa, xb, xc⟩ (HI.out _ (List.mem_of_getElem? hx)) W)
      obtain ⟨gb, go, rfl, hgI, hc⟩ := X.Ops.cell (OP.out.fr HR.out.fr) hx
      have L1 := hid (X.load hc)
      have FV := hid (show Fr (fun _ => False) wr (wr.alloc (.cells (S.Op.cs ⟨xt, xs, xk, xn, xp, xa, xb, xc⟩) 43)) from Fr.alloc (Fr.refl _ _) _)
      have D0 := hid (fun (V : World) (hf : Fr (fun _ => False) (wr.alloc (.cells (S.Op.cs ⟨xt, xs, xk, xn, xp, xa, xb, xc⟩) 43)) V) => cellFr hf (fun h => h) (cell_at (j := 0) (Go.heap_alloc_new wr (.cells (S.Op.cs ⟨xt, xs, xk, xn, xp, xa, xb, xc⟩) 43)) rfl))
      have D1 := hid (fun (V : World) (hf : Fr (fun _ => False) (wr.alloc (.cells (S.Op.cs ⟨xt, xs, xk, xn, xp, xa, xb, xc⟩) 43)) V) => cellFr hf (fun h => h) (cell_at (j := 1) (Go.heap_alloc_new wr (.cells (S.Op.cs ⟨xt, xs, xk, xn, xp, xa, xb, xc⟩) 43)) rfl))
      have HW2 := hid (show wrap64 ((i : Int) + 1) = ((i + 1 : Nat) : Int) by have hT := HT.out.1; unfold wrap64; omega)
      have HW3 := hid (show wrap64 (nn + 1) = nn + 1 by
        have h1 := HR.out.nn_eq
        have h2 := HQ.out
        have h3 := HV.out
        have h4 := HT.out
        unfold wrap64
        omega)
      have d29 := C29.out _ (HR.out.fr.trans FV.out (fun _ _ h => h))
      have HLT := hid hlt
      have DL := hid (fun (V : World) (hf : Fr (fun _ => False) (wr.alloc (.cells (S.Op.cs ⟨xt, xs, xk, xn, xp, xa, xb, xc⟩) 43)) V) => X.load (g := wr.heap.size) (q := 0) (k := 0) (o := ⟨xt, xs, xk, xn, xp, xa, xb, xc⟩) (w := V) (fun jj u hu => by
        rw [show 0 + 0 * 8 + jj = jj by omega]
        exact cellFr hf (fun h => h) (cell_at (Go.heap_alloc_new wr _) hu)))
      have HJ2 := hid (show j ≤ 2000000000000 by have h1 := HR.out.j_eq; have h2 := HT.out; omega)
      obtain ⟨cx, hcx⟩ : ∃ cx, S.chk ⟨xt, xs, xk, xn, xp, xa, xb, xc⟩ = cx := ⟨_, rfl⟩
      rw [hcx] at KC
      have HCX := hid hcx
      clear hx hcx hc
      by_cases q1 : nx ≤ nn
      · have HMI := hid (show m ≤ i by
          have h1 := HR.out.nn_eq
          have h2 := HMIN.out
          omega)
        have HX2 := hid (show l1[j]? = some ⟨xt, xs, xk, xn, xp, xa, xb, xc⟩ by rw [HDR.out, HR.out.j_eq, show m + (i - m) = i by have := HMI.out; omega]; exact HX.out)
        have HJ := hid (show j ≤ n - m by have h1 := HR.out.j_eq; omega)
        have HNJ := hid (show nx + (j : Int) = nn by
          have h1 := HR.out.nn_eq
          have h2 := HMIN.out
          have h3 := HR.out.j_eq
          have h4 := HMI.out
          omega)
        have d4 := C4.out _ (HR.out.fr.trans FV.out (fun _ _ h => h))
        have d12 := C12.out _ (HR.out.fr.trans FV.out (fun _ _ h => h))
        by_cases q2 : 1099511627776 ≤ nn
        · have HEE := hid (show E ≤ 1099511627776 by rcases HE.out with h | h <;> omega)
          have hst := hid (HR.out.at_.stop HX2.out (fun h => by have h1 := h.1; have h2 := HEE.out; have h3 := HNJ.out; omega))
          go_wp2_with (first
            | (refine wpList_load_v L1.out (by exact ⟨_, rfl, rfl⟩) (by kernel_rfl) ?_)
            | (go_at_call 13; refine (KC.out _).mono ?_; rintro e w3 ⟨rfl, f3⟩; have d0 := D0.out _ f3; have d1 := D1.out _ f3; have d47 := C47.out _ (HR.out.fr.trans (FV.out.trans f3 (fun _ _ h => h)) (fun _ _ h => h)); have F3 := hid (FV.out.trans f3 (fun _ _ h => h)); clear f3))
          go_ret
          exact X.rleaf hst.out HN1.out HJ.out (HR.out.ro.kept FV.out (fun _ _ h => h)) HR.out.blk_ F0.out (HR.out.fr.trans FV.out (fun _ _ h => h))
        · by_cases q3 : g4 = 3
          · have hE : E = min 1099511627776 g12 := by rcases HE.out with h | h <;> omega
            obtain rfl : g4 = 3 := q3
            by_cases q4 : g12 ≤ nn
            · have HEE := hid (show E ≤ nn by omega)
              clear hE
              have hst := hid (HR.out.at_.stop HX2.out (fun h => by have h1 := h.1; have h2 := HEE.out; have h3 := HNJ.out; omega))
              go_wp2_with (first
                | (refine wpList_load_v L1.out (by exact ⟨_, rfl, rfl⟩) (by kernel_rfl) ?_)
                | (go_at_call 13; refine (KC.out _).mono ?_; rintro e w3 ⟨rfl, f3⟩; have d0 := D0.out _ f3; have d1 := D1.out _ f3; have d47 := C47.out _ (HR.out.fr.trans (FV.out.trans f3 (fun _ _ h => h)) (fun _ _ h => h)); have F3 := hid (FV.out.trans f3 (fun _ _ h => h)); clear f3))
              go_ret
              exact X.rleaf hst.out HN1.out HJ.out (HR.out.ro.kept FV.out (fun _ _ h => h)) HR.out.blk_ F0.out (HR.out.fr.trans FV.out (fun _ _ h => h))
            · have HEL := hid (show nx + (j : Int) < E by have h3 := HNJ.out; omega)
              clear hE
              by_cases q5 : cx = 0
              · subst q5
                by_cases q6 : xs = (k : Int)
                · subst q6
                  by_cases q7 : xt ≤ lr
                  · have hst := hid (HR.out.at_.stop HX2.out (fun h => by have h1 := h.2.2.2; have h2 := HR.out.lk_eq; simp only at h1; omega))
                    go_wp2_with (first
                      | (refine wpList_load_v L1.out (by exact ⟨_, rfl, rfl⟩) (by kernel_rfl) ?_)
                      | (go_at_call 13; refine (KC.out _).mono ?_; rintro e w3 ⟨rfl, f3⟩; have d0 := D0.out _ f3; have d1 := D1.out _ f3; have d47 := C47.out _ (HR.out.fr.trans (FV.out.trans f3 (fun _ _ h => h)) (fun _ _ h => h)); have F3 := hid (FV.out.trans f3 (fun _ _ h => h)); clear f3))
                    go_ret
                    exact X.rleaf hst.out HN1.out HJ.out (HR.out.ro.kept F3.out (fun _ _ h => h)) HR.out.blk_ F0.out (HR.out.fr.trans F3.out (fun _ _ h => h))
                  · by_cases q8 : xt ≤ g47
                    · have hst := hid (HR.out.at_.stop HX2.out (fun h => by have h1 := h.2.2.2; have h2 := HR.out.lk_eq; simp only at h1; omega))
                      go_wp2_with (first
                        | (refine wpList_load_v L1.out (by exact ⟨_, rfl, rfl⟩) (by kernel_rfl) ?_)
                        | (go_at_call 13; refine (KC.out _).mono ?_; rintro e w3 ⟨rfl, f3⟩; have d0 := D0.out _ f3; have d1 := D1.out _ f3; have d47 := C47.out _ (HR.out.fr.trans (FV.out.trans f3 (fun _ _ h => h)) (fun _ _ h => h)); have F3 := hid (FV.out.trans f3 (fun _ _ h => h)); clear f3))
                      go_ret
                      exact X.rleaf hst.out HN1.out HJ.out (HR.out.ro.kept F3.out (fun _ _ h => h)) HR.out.blk_ F0.out (HR.out.fr.trans F3.out (fun _ _ h => h))
                    · have HG := hid (show X.good E k (nx + (j : Int)) lk ⟨xt, (k : Int), xk, xn, xp, xa, xb, xc⟩ from ⟨HEL.out, HCX.out, rfl, by have h2 := HR.out.lk_eq; show lk < xt; omega⟩)
                      have HF := hid (show g47 < xt by omega)
                      go_wp2_with (first
                        | (refine wpList_load_v L1.out (by exact ⟨_, rfl, rfl⟩) (by kernel_rfl) ?_)
                        | (go_at_call 13; refine (KC.out _).mono ?_; rintro e w3 ⟨rfl, f3⟩; have d0 := D0.out _ f3; have d1 := D1.out _ f3; have d47 := C47.out _ (HR.out.fr.trans (FV.out.trans f3 (fun _ _ h => h)) (fun _ _ h => h)); have F3 := hid (FV.out.trans f3 (fun _ _ h => h)); have L2 := hid (DL.out _ f3); obtain ⟨ra2, rc2, w4, hr4, h5, h6, h7⟩ := X.append w3 ra rc j _ (HR.out.ro.kept F3.out (fun _ _ h => h)) HJ2.out ⟨xt, (k : Int), xk, xn, xp, xa, xb, xc⟩; have RA := hid hr4; have RB := hid h5; have RC := hid h6; have RD := hid h7; have e0 := cellFr h6 (fun hb => absurd (HR.out.ro.lt _ hb) (Nat.lt_irrefl _)) d0; clear hr4 h5 h6 h7; clear f3)
                        | (refine wpList_load_v L2.out (by exact ⟨_, rfl, rfl⟩) (by kernel_rfl) ?_)
                        | (at_builtin; refine wpList_append_eq _ _ rfl (.tmp 115) (.tmp 117) _ rfl _ _ _ rfl rfl RA.out ?_))
                      go_roundw
                      case rel => exact ⟨i + 1, j + 1, nn + 1, xt, xt, ra2, rc2, rfl, rfl, by first | rfl | exact congrArg (Value.int .i64) HW3.out, congrArg (Value.int .i64) HW2.out, hid (HR.out.more HX2.out HLT.out HMI.out HF.out HG.out F3.out RB.out RC.out RD.out)⟩
                      case measure => exact X.mea HW2.out HLT.out
                · have q6' : (xs == (k : Int)) = false := by simp [q6]
                  have hst := hid (HR.out.at_.stop HX2.out (fun h => q6 h.2.2.1))
                  go_wp2_with (first
                    | (refine wpList_load_v L1.out (by exact ⟨_, rfl, rfl⟩) (by kernel_rfl) ?_)
                    | (go_at_call 13; refine (KC.out _).mono ?_; rintro e w3 ⟨rfl, f3⟩; have d0 := D0.out _ f3; have d1 := D1.out _ f3; have d47 := C47.out _ (HR.out.fr.trans (FV.out.trans f3 (fun _ _ h => h)) (fun _ _ h => h)); have F3 := hid (FV.out.trans f3 (fun _ _ h => h)); clear f3))
                  go_ret
                  exact X.rleaf hst.out HN1.out HJ.out (HR.out.ro.kept F3.out (fun _ _ h => h)) HR.out.blk_ F0.out (HR.out.fr.trans F3.out (fun _ _ h => h))
              · have q5' : (cx == 0) = false := by simp [q5]
                have hst := hid (HR.out.at_.stop HX2.out (fun h => q5 (HCX.out ▸ h.2.1)))
                go_wp2_with (first
                  | (refine wpList_load_v L1.out (by exact ⟨_, rfl, rfl⟩) (by kernel_rfl) ?_)
                  | (go_at_call 13; refine (KC.out _).mono ?_; rintro e w3 ⟨rfl, f3⟩; have d0 := D0.out _ f3; have d1 := D1.out _ f3; have d47 := C47.out _ (HR.out.fr.trans (FV.out.trans f3 (fun _ _ h => h)) (fun _ _ h => h)); have F3 := hid (FV.out.trans f3 (fun _ _ h => h)); clear f3))
                go_ret
                exact X.rleaf hst.out HN1.out HJ.out (HR.out.ro.kept F3.out (fun _ _ h => h)) HR.out.blk_ F0.out (HR.out.fr.trans F3.out (fun _ _ h => h))
          · have hE : E = 1099511627776 := by rcases HE.out with h | h <;> omega
            have HEL := hid (show nx + (j : Int) < E by have h3 := HNJ.out; omega)
            have q3' : (g4 == 3) = false := by simp [q3]
            clear hE
            by_cases q5 : cx = 0
            · subst q5
              by_cases q6 : xs = (k : Int)
              · subst q6
                by_cases q7 : xt ≤ lr
                · have hst := hid (HR.out.at_.stop HX2.out (fun h => by have h1 := h.2.2.2; have h2 := HR.out.lk_eq; simp only at h1; omega))
                  go_wp2_with (first
                    | (refine wpList_load_v L1.out (by exact ⟨_, rfl, rfl⟩) (by kernel_rfl) ?_)
                    | (go_at_call 13; refine (KC.out _).mono ?_; rintro e w3 ⟨rfl, f3⟩; have d0 := D0.out _ f3; have d1 := D1.out _ f3; have d47 := C47.out _ (HR.out.fr.trans (FV.out.trans f3 (fun _ _ h => h)) (fun _ _ h => h)); have F3 := hid (FV.out.trans f3 (fun _ _ h => h)); clear f3))
                  go_ret
                  exact X.rleaf hst.out HN1.out HJ.out (HR.out.ro.kept F3.out (fun _ _ h => h)) HR.out.blk_ F0.out (HR.out.fr.trans F3.out (fun _ _ h => h))
                · by_cases q8 : xt ≤ g47
                  · have hst := hid (HR.out.at_.stop HX2.out (fun h => by have h1 := h.2.2.2; have h2 := HR.out.lk_eq; simp only at h1; omega))
                    go_wp2_with (first
                      | (refine wpList_load_v L1.out (by exact ⟨_, rfl, rfl⟩) (by kernel_rfl) ?_)
                      | (go_at_call 13; refine (KC.out _).mono ?_; rintro e w3 ⟨rfl, f3⟩; have d0 := D0.out _ f3; have d1 := D1.out _ f3; have d47 := C47.out _ (HR.out.fr.trans (FV.out.trans f3 (fun _ _ h => h)) (fun _ _ h => h)); have F3 := hid (FV.out.trans f3 (fun _ _ h => h)); clear f3))
                    go_ret
                    exact X.rleaf hst.out HN1.out HJ.out (HR.out.ro.kept F3.out (fun _ _ h => h)) HR.out.blk_ F0.out (HR.out.fr.trans F3.out (fun _ _ h => h))
                  · have HG := hid (show X.good E k (nx + (j : Int)) lk ⟨xt, (k : Int), xk, xn, xp, xa, xb, xc⟩ from ⟨HEL.out, HCX.out, rfl, by have h2 := HR.out.lk_eq; show lk < xt; omega⟩)
                    have HF := hid (show g47 < xt by omega)
                    go_wp2_with (first
                      | (refine wpList_load_v L1.out (by exact ⟨_, rfl, rfl⟩) (by kernel_rfl) ?_)
                      | (go_at_call 13; refine (KC.out _).mono ?_; rintro e w3 ⟨rfl, f3⟩; have d0 := D0.out _ f3; have d1 := D1.out _ f3; have d47 := C47.out _ (HR.out.fr.trans (FV.out.trans f3 (fun _ _ h => h)) (fun _ _ h => h)); have F3 := hid (FV.out.trans f3 (fun _ _ h => h)); have L2 := hid (DL.out _ f3); obtain ⟨ra2, rc2, w4, hr4, h5, h6, h7⟩ := X.append w3 ra rc j _ (HR.out.ro.kept F3.out (fun _ _ h => h)) HJ2.out ⟨xt, (k : Int), xk, xn, xp, xa, xb, xc⟩; have RA := hid hr4; have RB := hid h5; have RC := hid h6; have RD := hid h7; have e0 := cellFr h6 (fun hb => absurd (HR.out.ro.lt _ hb) (Nat.lt_irrefl _)) d0; clear hr4 h5 h6 h7; clear f3)
                      | (refine wpList_load_v L2.out (by exact ⟨_, rfl, rfl⟩) (by kernel_rfl) ?_)
                      | (at_builtin; refine wpList_append_eq _ _ rfl (.tmp 115) (.tmp 117) _ rfl _ _ _ rfl rfl RA.out ?_))
                    go_roundw
                    case rel => exact ⟨i + 1, j + 1, nn + 1, xt, xt, ra2, rc2, rfl, rfl, by first | rfl | exact congrArg (Value.int .i64) HW3.out, congrArg (Value.int .i64) HW2.out, hid (HR.out.more HX2.out HLT.out HMI.out HF.out HG.out F3.out RB.out RC.out RD.out)⟩
                    case measure => exact X.mea HW2.out HLT.out
              · have q6' : (xs == (k : Int)) = false := by simp [q6]
                have hst := hid (HR.out.at_.stop HX2.out (fun h => q6 h.2.2.1))
                go_wp2_with (first
                  | (refine wpList_load_v L1.out (by exact ⟨_, rfl, rfl⟩) (by kernel_rfl) ?_)
                  | (go_at_call 13; refine (KC.out _).mono ?_; rintro e w3 ⟨rfl, f3⟩; have d0 := D0.out _ f3; have d1 := D1.out _ f3; have d47 := C47.out _ (HR.out.fr.trans (FV.out.trans f3 (fun _ _ h => h)) (fun _ _ h => h)); have F3 := hid (FV.out.trans f3 (fun _ _ h => h)); clear f3))
                go_ret
                exact X.rleaf hst.out HN1.out HJ.out (HR.out.ro.kept F3.out (fun _ _ h => h)) HR.out.blk_ F0.out (HR.out.fr.trans F3.out (fun _ _ h => h))
            · have q5' : (cx == 0) = false := by simp [q5]
              have hst := hid (HR.out.at_.stop HX2.out (fun h => q5 (HCX.out ▸ h.2.1)))
              go_wp2_with (first
                | (refine wpList_load_v L1.out (by exact ⟨_, rfl, rfl⟩) (by kernel_rfl) ?_)
                | (go_at_call 13; refine (KC.out _).mono ?_; rintro e w3 ⟨rfl, f3⟩; have d0 := D0.out _ f3; have d1 := D1.out _ f3; have d47 := C47.out _ (HR.out.fr.trans (FV.out.trans f3 (fun _ _ h => h)) (fun _ _ h => h)); have F3 := hid (FV.out.trans f3 (fun _ _ h => h)); clear f3))
              go_ret
              exact X.rleaf hst.out HN1.out HJ.out (HR.out.ro.kept F3.out (fun _ _ h => h)) HR.out.blk_ F0.out (HR.out.fr.trans F3.out (fun _ _ h => h))
      · have HMI := hid (show i < m by
          have h1 := HR.out.nn_eq
          have h2 := HMIN.out
          omega)
        go_wp2_with (first
          | (refine wpList_load_v L1.out (by exact ⟨_, rfl, rfl⟩) (by kernel_rfl) ?_))
        go_roundw
        case rel => exact ⟨i + 1, j, nn + 1, lr, lk, ra, rc, rfl, rfl, by first | rfl | exact congrArg (Value.int .i64) HW3.out, congrArg (Value.int .i64) HW2.out, hid (HR.out.skip HLT.out HMI.out FV.out)⟩
        case measure => exact X.mea HW2.out HLT.out
    · obtain rfl : i = n := by have := HR.out.i_le; omega
      have HJ := hid (show j ≤ i - m by have h1 := HR.out.j_eq; omega)
      have hst := hid (show X.run E k nx la l1 = l1.take j from by
        rw [List.take_of_length_le (by rw [HN1.out, HR.out.j_eq]; exact Nat.le_refl _)]
        exact HR.out.at_.done (by rw [HN1.out, HR.out.j_eq]; exact Nat.le_refl _))
      go_wp2
      go_ret
      exact X.rleaf hst.out HN1.out HJ.out HR.out.ro HR.out.blk_ F0.out HR.out.fr
end Go.Proofs.Ytedgiffnfhkonaa

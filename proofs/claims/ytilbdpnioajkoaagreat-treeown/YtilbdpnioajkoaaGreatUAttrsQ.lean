/-
  The document's tree: attrs.
-/
import Derived.Test.YtilbdpnioajkoaaGreatMg26
import Derived.Test.YtilbdpnioajkoaaGreatMg32
import Derived.Test.YtilbdpnioajkoaaGreatMg20
namespace Go.Proofs.YtilbdpnioajkoaaGreat
open Go.RowKit Go.Maps
set_option linter.unusedVariables false
set_option linter.unusedSimpArgs false
set_option maxRecDepth 100000
attribute [local go_sem] Oper.semAt_some
theorem T.leq_op (w : World) (a b : ByteArray) : (Op.stringOp .leq a b).run Tryz.prog w = .ok (.bool (!T.blt b a)) w := by
  unfold Op.stringOp
  simp only [Sem.run_pure]
  congr 2
  rw [T.bl_blt]
  by_cases h : a = b
  · subst h
    rw [T.blt_irrefl]
    simp
  · have hne : (a.toList == b.toList) = false := by
      cases hq : (a.toList == b.toList) with
      | false => rfl
      | true => exact absurd (T.ba_ext (by rw [← ByteArray.toList_eq, ← ByteArray.toList_eq]; exact eq_of_beq hq)) h
    rw [hne, Bool.or_false]
    cases hb : T.blt a b with
    | true =>
      cases hc : T.blt b a with
      | false => rfl
      | true => have := T.blt_trans hb hc; rw [T.blt_irrefl] at this; cases this
    | false => rw [T.blt_total (fun e => h e) (by rw [hb]; simp)]; rfl
theorem T.leq_str (w : World) (a b : ByteArray) : (binOp .leq 9 (.string a) (.string b)).run Tryz.prog w = .ok (.bool (!T.blt b a)) w := by
  have h := T.leq_op w a b
  unfold binOp
  simp [Tryz.underlying9, go_sem, h]
set_option maxHeartbeats 8000000 in
theorem uattrs_any {w : World} {I : Nat → Prop} {ra : Option Addr} {rc : Nat} {l : T.At} (hR : Rw I w 2 ra l.length (T.flatA l)) (hb : l.length ≤ 5000000000000) :
    Calls Tryz.prog 49 #[.slice ra l.length rc] w fun e w' => e = .returned (.bool (T.txts l && T.asc (fun a b => T.blt a.1 b.1) l)) ∧ Fr (fun _ => False) w w' := by
  obtain ⟨n, hn⟩ : ∃ n, l.length = n := ⟨_, rfl⟩
  have HN := hid hn
  have HR := hid hR
  rw [hn] at hb ⊢
  clear hn hR
  go_enter Tryz.func49, Tryz.ntmps49
  go_wp2
  go_loopw [3] (fun i wr => ∃ k : Nat, i = .int .i64 k ∧ Hid (k ≤ n ∧ (∀ j p, j < k → l[j]? = some p → (T.txt p.1 && T.txt p.2) = true) ∧ (∀ j a b, j + 1 < k → l[j]? = some a → l[j + 1]? = some b → T.blt a.1 b.1 = true) ∧ Fr (fun _ => False) w wr))
    (fun i _ => (n - intOf i).toNat)
  case atStart => exact ⟨0, rfl, hid ⟨Nat.zero_le _, fun j p hj => by omega, fun j a b hj => by omega, Fr.refl _ _⟩⟩
  case round =>
    obtain ⟨k, rfl, hall⟩ := hrel
    obtain ⟨hk, htx, has, hfr⟩ := hall.out
    have HFR := hid hfr
    by_cases hlt : k < n
    · obtain ⟨p, hp⟩ : ∃ p, l[k]? = some p := ⟨_, List.getElem?_eq_getElem (by rw [HN.out]; exact hlt)⟩
      have hRr := HR.out.kept hfr (fun _ _ h => h)
      obtain ⟨g, o, rfl, c0, c1⟩ := T.flatA_cells hRr hp
      have i0 : (0 : Int) ≤ (k : Int) := by omega
      have i1 : (k : Int) < (n : Int) := by omega
      cases hgood : (T.txt p.1 && T.txt p.2) with
      | true =>
        have hgood' := hgood
        rw [Bool.and_eq_true] at hgood'
        have g1 := T.txt_ne hgood'.1
        have g2 := T.txt_ne hgood'.2
        have e1 := g1.1
        have e2 := g2.1
        have e3 : ¬ (255 : Int) < (p.1.size : Int) := by omega
        have e4 : ¬ (255 : Int) < (p.2.size : Int) := by omega
        have htx2 : ∀ j q, j < k + 1 → l[j]? = some q → (T.txt q.1 && T.txt q.2) = true := fun j q hj hq => by
          rcases Nat.lt_succ_iff_lt_or_eq.1 hj with e | e
          · exact htx j q e hq
          · subst e; rw [hp] at hq; cases hq; exact hgood
        rcases Nat.eq_zero_or_pos k with hk0 | hk0
        · subst hk0
          rw [Nat.zero_mul, Nat.add_zero] at c0 c1
          have HH := hid (show 0 + 1 ≤ n ∧ (∀ j p, j < 0 + 1 → l[j]? = some p → (T.txt p.1 && T.txt p.2) = true) ∧ (∀ j a b, j + 1 < 0 + 1 → l[j]? = some a → l[j + 1]? = some b → T.blt a.1 b.1 = true) from ⟨hlt, htx2, fun j a b hj => by omega⟩)
          clear hall hk htx has hgood hgood' hRr hlt hp g1 g2 htx2 hfr
          go_wp2
          have hmx : Tryz.prog.follows .mixedOrders = true := by kernel_rfl
          refine wp_region_held (S := fun V => Fr (fun _ => False) wr V) hmx ?_
          have hS := (Fr.drew (Fr.refl (fun _ => False) wr))
          simp only [List.size_toArray, List.length_cons, List.length_nil, Nat.reduceAdd, Array.replicate_succ, Array.replicate_zero, List.push_toArray, List.nil_append, List.cons_append]
          refine tk (i := 0) (d := some 10) (v := ?_) rfl (Or.inl ⟨by kernel_rfl, ?_⟩) hS ?_; rotate_left 1; (intro w' hS'; clear hS'; go_simp; try with_reducible rfl); simp only [Act.put, q1, q2, q3]
          refine tk (i := 1) (d := some 11) (v := ?_) rfl (Or.inl ⟨by kernel_rfl, ?_⟩) hS ?_; rotate_left 1; (intro w' hS'; clear hS'; go_simp; try with_reducible rfl); simp only [Act.put, q1, q2, q3]
          refine tk (i := 2) (d := some 12) (v := ?_) rfl (Or.inl ⟨by kernel_rfl, ?_⟩) hS ?_; rotate_left 1; (intro w' hS'; clear hS'; go_simp; try with_reducible rfl); simp only [Act.put, q1, q2, q3]
          refine tk (i := 3) (d := some 13) (v := ?_) rfl (Or.inl ⟨by kernel_rfl, ?_⟩) hS ?_; rotate_left 1; (intro w' hS'; clear hS'; go_simp; try with_reducible rfl); simp only [Act.put, q1, q2, q3]
          refine tk (i := 4) (d := some 14) (v := ?_) rfl (Or.inl ⟨by kernel_rfl, ?_⟩) hS ?_; rotate_left 1; (intro w' hS'; have h1 := cellFr hS' (fun h => h) c0; clear hS'; go_simp; try with_reducible rfl); simp only [Act.put, q1, q2, q3]
          refine tk (i := 5) (d := some 15) (v := ?_) rfl (Or.inl ⟨by kernel_rfl, ?_⟩) hS ?_; rotate_left 1; (intro w' hS'; clear hS'; go_simp; try with_reducible rfl); simp only [Act.put, q1, q2, q3]
          refine tk (i := 6) (d := some 16) (v := ?_) rfl (Or.inl ⟨by kernel_rfl, ?_⟩) hS ?_; rotate_left 1; (intro w' hS'; clear hS'; go_simp; try with_reducible rfl); simp only [Act.put, q1, q2, q3]
          refine tk (i := 7) (d := some 17) (v := ?_) rfl (Or.inl ⟨by kernel_rfl, ?_⟩) hS ?_; rotate_left 1; (intro w' hS'; clear hS'; go_simp; try with_reducible rfl); simp only [Act.put, q1, q2, q3]
          refine tk (i := 8) (d := some 18) (v := ?_) rfl (Or.inl ⟨by kernel_rfl, ?_⟩) hS ?_; rotate_left 1; (intro w' hS'; clear hS'; go_simp; try with_reducible rfl); simp only [Act.put, q1, q2, q3]
          refine tk (i := 9) (d := some 19) (v := ?_) rfl (Or.inl ⟨by kernel_rfl, ?_⟩) hS ?_; rotate_left 1; (intro w' hS'; clear hS'; go_simp; try with_reducible rfl); simp only [Act.put, q1, q2, q3]
          refine tk (i := 10) (d := some 20) (v := ?_) rfl (Or.inl ⟨by kernel_rfl, ?_⟩) hS ?_; rotate_left 1; (intro w' hS'; clear hS'; go_simp; try with_reducible rfl); simp only [Act.put, q1, q2, q3]
          refine tk (i := 11) (d := some 21) (v := ?_) rfl (Or.inl ⟨by kernel_rfl, ?_⟩) hS ?_; rotate_left 1; (intro w' hS'; have h1 := cellFr hS' (fun h => h) c0; clear hS'; go_simp; try with_reducible rfl); simp only [Act.put, q1, q2, q3]
          refine tk (i := 12) (d := some 22) (v := ?_) rfl (Or.inl ⟨by kernel_rfl, ?_⟩) hS ?_; rotate_left 1; (intro w' hS'; clear hS'; go_simp; try with_reducible rfl); simp only [Act.put, q1, q2, q3]
          refine tk (i := 13) (d := some 23) (v := .bool false) rfl (Or.inl ⟨by kernel_rfl, fun w' hS' => by clear hS'; go_simp; try rw [decide_eq_false e3]⟩) hS ?_; simp only [Act.put, q1, q2, q3]
          refine tk (i := 14) (d := some 24) (v := ?_) rfl (Or.inl ⟨by kernel_rfl, ?_⟩) hS ?_; rotate_left 1; (intro w' hS'; clear hS'; go_simp; try with_reducible rfl); simp only [Act.put, q1, q2, q3]
          refine tk (i := 15) (d := some 25) (v := ?_) rfl (Or.inl ⟨by kernel_rfl, ?_⟩) hS ?_; rotate_left 1; (intro w' hS'; clear hS'; go_simp; try with_reducible rfl); simp only [Act.put, q1, q2, q3]
          refine tk (i := 16) (d := some 26) (v := ?_) rfl (Or.inl ⟨by kernel_rfl, ?_⟩) hS ?_; rotate_left 1; (intro w' hS'; clear hS'; go_simp; try with_reducible rfl); simp only [Act.put, q1, q2, q3]
          refine tk (i := 17) (d := some 27) (v := ?_) rfl (Or.inl ⟨by kernel_rfl, ?_⟩) hS ?_; rotate_left 1; (intro w' hS'; clear hS'; go_simp; try with_reducible rfl); simp only [Act.put, q1, q2, q3]
          refine tk (i := 18) (d := some 28) (v := ?_) rfl (Or.inl ⟨by kernel_rfl, ?_⟩) hS ?_; rotate_left 1; (intro w' hS'; clear hS'; go_simp; try with_reducible rfl); simp only [Act.put, q1, q2, q3]
          refine tk (i := 19) (d := some 29) (v := ?_) rfl (Or.inl ⟨by kernel_rfl, ?_⟩) hS ?_; rotate_left 1; (intro w' hS'; clear hS'; go_simp; try with_reducible rfl); simp only [Act.put, q1, q2, q3]
          refine tk (i := 20) (d := some 30) (v := ?_) rfl (Or.inl ⟨by kernel_rfl, ?_⟩) hS ?_; rotate_left 1; (intro w' hS'; have h1 := cellFr hS' (fun h => h) c1; clear hS'; go_simp; try with_reducible rfl); simp only [Act.put, q1, q2, q3]
          refine tk (i := 21) (d := some 31) (v := ?_) rfl (Or.inl ⟨by kernel_rfl, ?_⟩) hS ?_; rotate_left 1; (intro w' hS'; clear hS'; go_simp; try with_reducible rfl); simp only [Act.put, q1, q2, q3]
          refine tk (i := 22) (d := some 32) (v := ?_) rfl (Or.inl ⟨by kernel_rfl, ?_⟩) hS ?_; rotate_left 1; (intro w' hS'; clear hS'; go_simp; try with_reducible rfl); simp only [Act.put, q1, q2, q3]
          refine tk (i := 23) (d := some 33) (v := ?_) rfl (Or.inl ⟨by kernel_rfl, ?_⟩) hS ?_; rotate_left 1; (intro w' hS'; clear hS'; go_simp; try with_reducible rfl); simp only [Act.put, q1, q2, q3]
          refine tk (i := 24) (d := some 34) (v := ?_) rfl (Or.inl ⟨by kernel_rfl, ?_⟩) hS ?_; rotate_left 1; (intro w' hS'; clear hS'; go_simp; try with_reducible rfl); simp only [Act.put, q1, q2, q3]
          refine tk (i := 25) (d := some 35) (v := ?_) rfl (Or.inl ⟨by kernel_rfl, ?_⟩) hS ?_; rotate_left 1; (intro w' hS'; clear hS'; go_simp; try with_reducible rfl); simp only [Act.put, q1, q2, q3]
          refine tk (i := 26) (d := some 36) (v := ?_) rfl (Or.inl ⟨by kernel_rfl, ?_⟩) hS ?_; rotate_left 1; (intro w' hS'; clear hS'; go_simp; try with_reducible rfl); simp only [Act.put, q1, q2, q3]
          refine tk (i := 27) (d := some 37) (v := ?_) rfl (Or.inl ⟨by kernel_rfl, ?_⟩) hS ?_; rotate_left 1; (intro w' hS'; clear hS'; go_simp; try with_reducible rfl); simp only [Act.put, q1, q2, q3]
          refine tk (i := 28) (d := some 38) (v := ?_) rfl (Or.inl ⟨by kernel_rfl, ?_⟩) hS ?_; rotate_left 1; (intro w' hS'; have h1 := cellFr hS' (fun h => h) c1; clear hS'; go_simp; try with_reducible rfl); simp only [Act.put, q1, q2, q3]
          refine tk (i := 29) (d := some 39) (v := ?_) rfl (Or.inl ⟨by kernel_rfl, ?_⟩) hS ?_; rotate_left 1; (intro w' hS'; clear hS'; go_simp; try with_reducible rfl); simp only [Act.put, q1, q2, q3]
          refine tk (i := 30) (d := some 40) (v := .bool false) rfl (Or.inl ⟨by kernel_rfl, fun w' hS' => by clear hS'; go_simp; try rw [decide_eq_false e4]⟩) hS ?_; simp only [Act.put, q1, q2, q3]
          refine tk (i := 31) (d := some 41) (v := ?_) rfl (Or.inl ⟨by kernel_rfl, ?_⟩) hS ?_; rotate_left 1; (intro w' hS'; clear hS'; go_simp; try with_reducible rfl); simp only [Act.put, q1, q2, q3]
          refine tk (i := 32) (d := some 42) (v := ?_) rfl (Or.inl ⟨by kernel_rfl, ?_⟩) hS ?_; rotate_left 1; (intro w' hS'; clear hS'; go_simp; try with_reducible rfl); simp only [Act.put, q1, q2, q3]
          refine tk (i := 33) (d := some 43) (v := ?_) rfl (Or.inl ⟨by kernel_rfl, ?_⟩) hS ?_; rotate_left 1; (intro w' hS'; clear hS'; go_simp; try with_reducible rfl); simp only [Act.put, q1, q2, q3]
          refine tk (i := 34) (d := some 44) (v := ?_) rfl (Or.inl ⟨by kernel_rfl, ?_⟩) hS ?_; rotate_left 1; (intro w' hS'; clear hS'; go_simp; try with_reducible rfl); simp only [Act.put, q1, q2, q3]
          refine tk (i := 35) (d := some 45) (v := ?_) rfl (Or.inl ⟨by kernel_rfl, ?_⟩) hS ?_; rotate_left 1; (intro w' hS'; clear hS'; go_simp; try with_reducible rfl); simp only [Act.put, q1, q2, q3]
          refine tks (i := 36) (d := some 46) rfl hS ?_; simp only [Act.put, q1, q2, q3]
          refine tks (i := 37) (d := some 47) rfl hS ?_; simp only [Act.put, q1, q2, q3]
          refine tks (i := 38) (d := some 48) rfl hS ?_; simp only [Act.put, q1, q2, q3]
          refine tks (i := 39) (d := some 49) rfl hS ?_; simp only [Act.put, q1, q2, q3]
          refine tks (i := 40) (d := some 50) rfl hS ?_; simp only [Act.put, q1, q2, q3]
          refine tks (i := 41) (d := some 51) rfl hS ?_; simp only [Act.put, q1, q2, q3]
          refine tks (i := 42) (d := some 52) rfl hS ?_; simp only [Act.put, q1, q2, q3]
          refine tks (i := 43) (d := some 53) rfl hS ?_; simp only [Act.put, q1, q2, q3]
          refine tks (i := 44) (d := some 54) rfl hS ?_; simp only [Act.put, q1, q2, q3]
          refine tks (i := 45) (d := some 55) rfl hS ?_; simp only [Act.put, q1, q2, q3]
          refine tks (i := 46) (d := some 56) rfl hS ?_; simp only [Act.put, q1, q2, q3]
          refine tks (i := 47) (d := some 57) rfl hS ?_; simp only [Act.put, q1, q2, q3]
          refine tk (i := 48) (d := some 58) (v := ?_) rfl (Or.inl ⟨by kernel_rfl, ?_⟩) hS ?_; rotate_left 1; (intro w' hS'; clear hS'; go_simp; try with_reducible rfl); simp only [Act.put, q1, q2, q3]
          refine tk (i := 49) (d := some 59) (v := ?_) rfl (Or.inl ⟨by kernel_rfl, ?_⟩) hS ?_; rotate_left 1; (intro w' hS'; clear hS'; go_simp; try with_reducible rfl); simp only [Act.put, q1, q2, q3]
          refine wpAnyH_done (by kernel_rfl) ?_ _
          have FZ := hid (HFR.out.trans hS (fun _ _ h => h))
          clear hS
          go_wp2
          go_roundw
          case rel => exact ⟨0 + 1, by first | rfl | go_num | trivial, hid ⟨HH.out.1, HH.out.2.1, HH.out.2.2, FZ.out⟩⟩
          case measure => simp [intOf]; omega
        · obtain ⟨q, rfl⟩ : ∃ q, k = q + 1 := ⟨k - 1, by omega⟩
          obtain ⟨y, hy⟩ : ∃ p, l[q]? = some p := ⟨_, List.getElem?_eq_getElem (by rw [HN.out]; omega)⟩
          obtain ⟨g', o', e', d0, _⟩ := T.flatA_cells hRr hy
          cases e'
          have e5 : ((q + 1 : Nat) : Int) - 1 = (q : Int) := by omega
          have i2 : (0 : Int) < ((q + 1 : Nat) : Int) := by omega
          have i3 : (0 : Int) ≤ (q : Int) := by omega
          have i4 : (q : Int) < (n : Int) := by omega
          have i5 : (0 : Int) ≤ (q : Int) + 1 := by omega
          have i6 : (q : Int) + 1 < (n : Int) := by omega
          have i7 : (0 : Int) < (q : Int) + 1 := by omega
          have e6 : (q : Int) + 1 - 1 = (q : Int) := by omega
          have hw : IntKind.i64.wrap (q : Int) = (q : Int) := by rw [IntKind.wrap_i64]; omega
          cases hbl : T.blt y.1 p.1 with
          | true =>
            have HH := hid (show q + 1 + 1 ≤ n ∧ (∀ j p, j < q + 1 + 1 → l[j]? = some p → (T.txt p.1 && T.txt p.2) = true) ∧ (∀ j a b, j + 1 < q + 1 + 1 → l[j]? = some a → l[j + 1]? = some b → T.blt a.1 b.1 = true) from ⟨hlt, htx2, fun j a b hj ha hb => by
              by_cases e : j = q
              · subst e; rw [hy] at ha; rw [hp] at hb; cases ha; cases hb; exact hbl
              · exact has j a b (by omega) ha hb⟩)
            clear hall hk htx has hgood hgood' hRr hlt hp hy g1 g2 htx2 hfr
            go_wp2
            have hmx : Tryz.prog.follows .mixedOrders = true := by kernel_rfl
            refine wp_region_held (S := fun V => Fr (fun _ => False) wr V) hmx ?_
            have hS := (Fr.drew (Fr.refl (fun _ => False) wr))
            simp only [List.size_toArray, List.length_cons, List.length_nil, Nat.reduceAdd, Array.replicate_succ, Array.replicate_zero, List.push_toArray, List.nil_append, List.cons_append]
            refine tk (i := 0) (d := some 10) (v := ?_) rfl (Or.inl ⟨by kernel_rfl, ?_⟩) hS ?_; rotate_left 1; (intro w' hS'; clear hS'; go_simp; try with_reducible rfl); simp only [Act.put, q1, q2, q3]
            refine tk (i := 1) (d := some 11) (v := ?_) rfl (Or.inl ⟨by kernel_rfl, ?_⟩) hS ?_; rotate_left 1; (intro w' hS'; clear hS'; go_simp; try with_reducible rfl); simp only [Act.put, q1, q2, q3]
            refine tk (i := 2) (d := some 12) (v := ?_) rfl (Or.inl ⟨by kernel_rfl, ?_⟩) hS ?_; rotate_left 1; (intro w' hS'; clear hS'; go_simp; try with_reducible rfl); simp only [Act.put, q1, q2, q3]
            refine tk (i := 3) (d := some 13) (v := ?_) rfl (Or.inl ⟨by kernel_rfl, ?_⟩) hS ?_; rotate_left 1; (intro w' hS'; clear hS'; go_simp; try with_reducible rfl); simp only [Act.put, q1, q2, q3]
            refine tk (i := 4) (d := some 14) (v := ?_) rfl (Or.inl ⟨by kernel_rfl, ?_⟩) hS ?_; rotate_left 1; (intro w' hS'; have h1 := cellFr hS' (fun h => h) c0; clear hS'; go_simp; try with_reducible rfl); simp only [Act.put, q1, q2, q3]
            refine tk (i := 5) (d := some 15) (v := ?_) rfl (Or.inl ⟨by kernel_rfl, ?_⟩) hS ?_; rotate_left 1; (intro w' hS'; clear hS'; go_simp; try with_reducible rfl); simp only [Act.put, q1, q2, q3]
            refine tk (i := 6) (d := some 16) (v := ?_) rfl (Or.inl ⟨by kernel_rfl, ?_⟩) hS ?_; rotate_left 1; (intro w' hS'; clear hS'; go_simp; try with_reducible rfl); simp only [Act.put, q1, q2, q3]
            refine tk (i := 7) (d := some 17) (v := ?_) rfl (Or.inl ⟨by kernel_rfl, ?_⟩) hS ?_; rotate_left 1; (intro w' hS'; clear hS'; go_simp; try with_reducible rfl); simp only [Act.put, q1, q2, q3]
            refine tk (i := 8) (d := some 18) (v := ?_) rfl (Or.inl ⟨by kernel_rfl, ?_⟩) hS ?_; rotate_left 1; (intro w' hS'; clear hS'; go_simp; try with_reducible rfl); simp only [Act.put, q1, q2, q3]
            refine tk (i := 9) (d := some 19) (v := ?_) rfl (Or.inl ⟨by kernel_rfl, ?_⟩) hS ?_; rotate_left 1; (intro w' hS'; clear hS'; go_simp; try with_reducible rfl); simp only [Act.put, q1, q2, q3]
            refine tk (i := 10) (d := some 20) (v := ?_) rfl (Or.inl ⟨by kernel_rfl, ?_⟩) hS ?_; rotate_left 1; (intro w' hS'; clear hS'; go_simp; try with_reducible rfl); simp only [Act.put, q1, q2, q3]
            refine tk (i := 11) (d := some 21) (v := ?_) rfl (Or.inl ⟨by kernel_rfl, ?_⟩) hS ?_; rotate_left 1; (intro w' hS'; have h1 := cellFr hS' (fun h => h) c0; clear hS'; go_simp; try with_reducible rfl); simp only [Act.put, q1, q2, q3]
            refine tk (i := 12) (d := some 22) (v := ?_) rfl (Or.inl ⟨by kernel_rfl, ?_⟩) hS ?_; rotate_left 1; (intro w' hS'; clear hS'; go_simp; try with_reducible rfl); simp only [Act.put, q1, q2, q3]
            refine tk (i := 13) (d := some 23) (v := .bool false) rfl (Or.inl ⟨by kernel_rfl, fun w' hS' => by clear hS'; go_simp; try rw [decide_eq_false e3]⟩) hS ?_; simp only [Act.put, q1, q2, q3]
            refine tk (i := 14) (d := some 24) (v := ?_) rfl (Or.inl ⟨by kernel_rfl, ?_⟩) hS ?_; rotate_left 1; (intro w' hS'; clear hS'; go_simp; try with_reducible rfl); simp only [Act.put, q1, q2, q3]
            refine tk (i := 15) (d := some 25) (v := ?_) rfl (Or.inl ⟨by kernel_rfl, ?_⟩) hS ?_; rotate_left 1; (intro w' hS'; clear hS'; go_simp; try with_reducible rfl); simp only [Act.put, q1, q2, q3]
            refine tk (i := 16) (d := some 26) (v := ?_) rfl (Or.inl ⟨by kernel_rfl, ?_⟩) hS ?_; rotate_left 1; (intro w' hS'; clear hS'; go_simp; try with_reducible rfl); simp only [Act.put, q1, q2, q3]
            refine tk (i := 17) (d := some 27) (v := ?_) rfl (Or.inl ⟨by kernel_rfl, ?_⟩) hS ?_; rotate_left 1; (intro w' hS'; clear hS'; go_simp; try with_reducible rfl); simp only [Act.put, q1, q2, q3]
            refine tk (i := 18) (d := some 28) (v := ?_) rfl (Or.inl ⟨by kernel_rfl, ?_⟩) hS ?_; rotate_left 1; (intro w' hS'; clear hS'; go_simp; try with_reducible rfl); simp only [Act.put, q1, q2, q3]
            refine tk (i := 19) (d := some 29) (v := ?_) rfl (Or.inl ⟨by kernel_rfl, ?_⟩) hS ?_; rotate_left 1; (intro w' hS'; clear hS'; go_simp; try with_reducible rfl); simp only [Act.put, q1, q2, q3]
            refine tk (i := 20) (d := some 30) (v := ?_) rfl (Or.inl ⟨by kernel_rfl, ?_⟩) hS ?_; rotate_left 1; (intro w' hS'; have h1 := cellFr hS' (fun h => h) c1; clear hS'; go_simp; try with_reducible rfl); simp only [Act.put, q1, q2, q3]
            refine tk (i := 21) (d := some 31) (v := ?_) rfl (Or.inl ⟨by kernel_rfl, ?_⟩) hS ?_; rotate_left 1; (intro w' hS'; clear hS'; go_simp; try with_reducible rfl); simp only [Act.put, q1, q2, q3]
            refine tk (i := 22) (d := some 32) (v := ?_) rfl (Or.inl ⟨by kernel_rfl, ?_⟩) hS ?_; rotate_left 1; (intro w' hS'; clear hS'; go_simp; try with_reducible rfl); simp only [Act.put, q1, q2, q3]
            refine tk (i := 23) (d := some 33) (v := ?_) rfl (Or.inl ⟨by kernel_rfl, ?_⟩) hS ?_; rotate_left 1; (intro w' hS'; clear hS'; go_simp; try with_reducible rfl); simp only [Act.put, q1, q2, q3]
            refine tk (i := 24) (d := some 34) (v := ?_) rfl (Or.inl ⟨by kernel_rfl, ?_⟩) hS ?_; rotate_left 1; (intro w' hS'; clear hS'; go_simp; try with_reducible rfl); simp only [Act.put, q1, q2, q3]
            refine tk (i := 25) (d := some 35) (v := ?_) rfl (Or.inl ⟨by kernel_rfl, ?_⟩) hS ?_; rotate_left 1; (intro w' hS'; clear hS'; go_simp; try with_reducible rfl); simp only [Act.put, q1, q2, q3]
            refine tk (i := 26) (d := some 36) (v := ?_) rfl (Or.inl ⟨by kernel_rfl, ?_⟩) hS ?_; rotate_left 1; (intro w' hS'; clear hS'; go_simp; try with_reducible rfl); simp only [Act.put, q1, q2, q3]
            refine tk (i := 27) (d := some 37) (v := ?_) rfl (Or.inl ⟨by kernel_rfl, ?_⟩) hS ?_; rotate_left 1; (intro w' hS'; clear hS'; go_simp; try with_reducible rfl); simp only [Act.put, q1, q2, q3]
            refine tk (i := 28) (d := some 38) (v := ?_) rfl (Or.inl ⟨by kernel_rfl, ?_⟩) hS ?_; rotate_left 1; (intro w' hS'; have h1 := cellFr hS' (fun h => h) c1; clear hS'; go_simp; try with_reducible rfl); simp only [Act.put, q1, q2, q3]
            refine tk (i := 29) (d := some 39) (v := ?_) rfl (Or.inl ⟨by kernel_rfl, ?_⟩) hS ?_; rotate_left 1; (intro w' hS'; clear hS'; go_simp; try with_reducible rfl); simp only [Act.put, q1, q2, q3]
            refine tk (i := 30) (d := some 40) (v := .bool false) rfl (Or.inl ⟨by kernel_rfl, fun w' hS' => by clear hS'; go_simp; try rw [decide_eq_false e4]⟩) hS ?_; simp only [Act.put, q1, q2, q3]
            refine tk (i := 31) (d := some 41) (v := ?_) rfl (Or.inl ⟨by kernel_rfl, ?_⟩) hS ?_; rotate_left 1; (intro w' hS'; clear hS'; go_simp; try with_reducible rfl); simp only [Act.put, q1, q2, q3]
            refine tk (i := 32) (d := some 42) (v := ?_) rfl (Or.inl ⟨by kernel_rfl, ?_⟩) hS ?_; rotate_left 1; (intro w' hS'; clear hS'; go_simp; try with_reducible rfl); simp only [Act.put, q1, q2, q3]
            refine tk (i := 33) (d := some 43) (v := ?_) rfl (Or.inl ⟨by kernel_rfl, ?_⟩) hS ?_; rotate_left 1; (intro w' hS'; clear hS'; go_simp; try with_reducible rfl); simp only [Act.put, q1, q2, q3]
            refine tk (i := 34) (d := some 44) (v := .bool true) rfl (Or.inl ⟨by kernel_rfl, fun w' hS' => by clear hS'; go_simp; try rw [decide_eq_true i7]⟩) hS ?_; simp only [Act.put, q1, q2, q3]
            refine tk (i := 35) (d := some 45) (v := ?_) rfl (Or.inl ⟨by kernel_rfl, ?_⟩) hS ?_; rotate_left 1; (intro w' hS'; clear hS'; go_simp; try with_reducible rfl); simp only [Act.put, q1, q2, q3]
            refine tk (i := 36) (d := some 46) (v := ?_) rfl (Or.inl ⟨by kernel_rfl, ?_⟩) hS ?_; rotate_left 1; (intro w' hS'; clear hS'; go_simp; try with_reducible rfl); simp only [Act.put, q1, q2, q3]
            refine tk (i := 37) (d := some 47) (v := ?_) rfl (Or.inl ⟨by kernel_rfl, ?_⟩) hS ?_; rotate_left 1; (intro w' hS'; clear hS'; go_simp; try with_reducible rfl); simp only [Act.put, q1, q2, q3]
            refine tk (i := 38) (d := some 48) (v := ?_) rfl (Or.inl ⟨by kernel_rfl, ?_⟩) hS ?_; rotate_left 1; (intro w' hS'; clear hS'; go_simp; try with_reducible rfl); simp only [Act.put, q1, q2, q3]
            refine tk (i := 39) (d := some 49) (v := ?_) rfl (Or.inl ⟨by kernel_rfl, ?_⟩) hS ?_; rotate_left 1; (intro w' hS'; clear hS'; go_simp; try with_reducible rfl); simp only [Act.put, q1, q2, q3]
            refine tk (i := 40) (d := some 50) (v := ?_) rfl (Or.inl ⟨by kernel_rfl, ?_⟩) hS ?_; rotate_left 1; (intro w' hS'; have h1 := cellFr hS' (fun h => h) c0; clear hS'; go_simp; try with_reducible rfl); simp only [Act.put, q1, q2, q3]
            refine tk (i := 41) (d := some 51) (v := ?_) rfl (Or.inl ⟨by kernel_rfl, ?_⟩) hS ?_; rotate_left 1; (intro w' hS'; clear hS'; go_simp; try with_reducible rfl); simp only [Act.put, q1, q2, q3]
            refine tk (i := 42) (d := some 52) (v := ?_) rfl (Or.inl ⟨by kernel_rfl, ?_⟩) hS ?_; rotate_left 1; (intro w' hS'; clear hS'; go_simp; try with_reducible rfl); simp only [Act.put, q1, q2, q3]
            refine tk (i := 43) (d := some 53) (v := ?_) rfl (Or.inl ⟨by kernel_rfl, ?_⟩) hS ?_; rotate_left 1; (intro w' hS'; clear hS'; go_simp; try with_reducible rfl); simp only [Act.put, q1, q2, q3]
            refine tk (i := 44) (d := some 54) (v := ?_) rfl (Or.inl ⟨by kernel_rfl, ?_⟩) hS ?_; rotate_left 1; (intro w' hS'; clear hS'; go_simp; try with_reducible rfl); simp only [Act.put, q1, q2, q3]
            refine tk (i := 45) (d := some 55) (v := ?_) rfl (Or.inl ⟨by kernel_rfl, ?_⟩) hS ?_; rotate_left 1; (intro w' hS'; clear hS'; go_simp; try with_reducible rfl); simp only [Act.put, q1, q2, q3]
            refine tk (i := 46) (d := some 56) (v := ?_) rfl (Or.inl ⟨by kernel_rfl, ?_⟩) hS ?_; rotate_left 1; (intro w' hS'; have h1 := cellFr hS' (fun h => h) d0; clear hS'; go_simp; try with_reducible rfl); simp only [Act.put, q1, q2, q3]
            refine tk (i := 47) (d := some 57) (v := ?_) rfl (Or.inl ⟨by kernel_rfl, ?_⟩) hS ?_; rotate_left 1; (intro w' hS'; have h1 := T.leq_str w' p.1 y.1; have h2 := T.leq_op w' p.1 y.1; clear hS'; go_simp; try with_reducible rfl); simp only [Act.put, q1, q2, q3]
            refine tk (i := 48) (d := some 58) (v := ?_) rfl (Or.inl ⟨by kernel_rfl, ?_⟩) hS ?_; rotate_left 1; (intro w' hS'; clear hS'; go_simp; try with_reducible rfl); simp only [Act.put, q1, q2, q3]
            refine tk (i := 49) (d := some 59) (v := ?_) rfl (Or.inl ⟨by kernel_rfl, ?_⟩) hS ?_; rotate_left 1; (intro w' hS'; clear hS'; go_simp; try with_reducible rfl); simp only [Act.put, q1, q2, q3]
            refine wpAnyH_done (by kernel_rfl) ?_ _
            have FZ := hid (HFR.out.trans hS (fun _ _ h => h))
            clear hS
            go_wp2
            go_roundw
            case rel => exact ⟨q + 1 + 1, by first | rfl | go_num | trivial, hid ⟨HH.out.1, HH.out.2.1, HH.out.2.2, FZ.out⟩⟩
            case measure => simp [intOf]; omega
          | false =>
            have HRF := hid (show (T.txts l && T.asc (fun a b => T.blt a.1 b.1) l) = false from by
              cases hq : T.asc (fun (a b : T.Pr) => T.blt a.1 b.1) l with
              | false => rw [Bool.and_false]
              | true => have := T.asc_iff.1 hq q _ _ hy hp; rw [hbl] at this; cases this)
            clear hall hk htx has hgood hgood' hRr hlt hp hy g1 g2 htx2 hfr
            go_wp2
            have hmx : Tryz.prog.follows .mixedOrders = true := by kernel_rfl
            refine wp_region_held (S := fun V => Fr (fun _ => False) wr V) hmx ?_
            have hS := (Fr.drew (Fr.refl (fun _ => False) wr))
            simp only [List.size_toArray, List.length_cons, List.length_nil, Nat.reduceAdd, Array.replicate_succ, Array.replicate_zero, List.push_toArray, List.nil_append, List.cons_append]
            refine tk (i := 0) (d := some 10) (v := ?_) rfl (Or.inl ⟨by kernel_rfl, ?_⟩) hS ?_; rotate_left 1; (intro w' hS'; clear hS'; go_simp; try with_reducible rfl); simp only [Act.put, q1, q2, q3]
            refine tk (i := 1) (d := some 11) (v := ?_) rfl (Or.inl ⟨by kernel_rfl, ?_⟩) hS ?_; rotate_left 1; (intro w' hS'; clear hS'; go_simp; try with_reducible rfl); simp only [Act.put, q1, q2, q3]
            refine tk (i := 2) (d := some 12) (v := ?_) rfl (Or.inl ⟨by kernel_rfl, ?_⟩) hS ?_; rotate_left 1; (intro w' hS'; clear hS'; go_simp; try with_reducible rfl); simp only [Act.put, q1, q2, q3]
            refine tk (i := 3) (d := some 13) (v := ?_) rfl (Or.inl ⟨by kernel_rfl, ?_⟩) hS ?_; rotate_left 1; (intro w' hS'; clear hS'; go_simp; try with_reducible rfl); simp only [Act.put, q1, q2, q3]
            refine tk (i := 4) (d := some 14) (v := ?_) rfl (Or.inl ⟨by kernel_rfl, ?_⟩) hS ?_; rotate_left 1; (intro w' hS'; have h1 := cellFr hS' (fun h => h) c0; clear hS'; go_simp; try with_reducible rfl); simp only [Act.put, q1, q2, q3]
            refine tk (i := 5) (d := some 15) (v := ?_) rfl (Or.inl ⟨by kernel_rfl, ?_⟩) hS ?_; rotate_left 1; (intro w' hS'; clear hS'; go_simp; try with_reducible rfl); simp only [Act.put, q1, q2, q3]
            refine tk (i := 6) (d := some 16) (v := ?_) rfl (Or.inl ⟨by kernel_rfl, ?_⟩) hS ?_; rotate_left 1; (intro w' hS'; clear hS'; go_simp; try with_reducible rfl); simp only [Act.put, q1, q2, q3]
            refine tk (i := 7) (d := some 17) (v := ?_) rfl (Or.inl ⟨by kernel_rfl, ?_⟩) hS ?_; rotate_left 1; (intro w' hS'; clear hS'; go_simp; try with_reducible rfl); simp only [Act.put, q1, q2, q3]
            refine tk (i := 8) (d := some 18) (v := ?_) rfl (Or.inl ⟨by kernel_rfl, ?_⟩) hS ?_; rotate_left 1; (intro w' hS'; clear hS'; go_simp; try with_reducible rfl); simp only [Act.put, q1, q2, q3]
            refine tk (i := 9) (d := some 19) (v := ?_) rfl (Or.inl ⟨by kernel_rfl, ?_⟩) hS ?_; rotate_left 1; (intro w' hS'; clear hS'; go_simp; try with_reducible rfl); simp only [Act.put, q1, q2, q3]
            refine tk (i := 10) (d := some 20) (v := ?_) rfl (Or.inl ⟨by kernel_rfl, ?_⟩) hS ?_; rotate_left 1; (intro w' hS'; clear hS'; go_simp; try with_reducible rfl); simp only [Act.put, q1, q2, q3]
            refine tk (i := 11) (d := some 21) (v := ?_) rfl (Or.inl ⟨by kernel_rfl, ?_⟩) hS ?_; rotate_left 1; (intro w' hS'; have h1 := cellFr hS' (fun h => h) c0; clear hS'; go_simp; try with_reducible rfl); simp only [Act.put, q1, q2, q3]
            refine tk (i := 12) (d := some 22) (v := ?_) rfl (Or.inl ⟨by kernel_rfl, ?_⟩) hS ?_; rotate_left 1; (intro w' hS'; clear hS'; go_simp; try with_reducible rfl); simp only [Act.put, q1, q2, q3]
            refine tk (i := 13) (d := some 23) (v := .bool false) rfl (Or.inl ⟨by kernel_rfl, fun w' hS' => by clear hS'; go_simp; try rw [decide_eq_false e3]⟩) hS ?_; simp only [Act.put, q1, q2, q3]
            refine tk (i := 14) (d := some 24) (v := ?_) rfl (Or.inl ⟨by kernel_rfl, ?_⟩) hS ?_; rotate_left 1; (intro w' hS'; clear hS'; go_simp; try with_reducible rfl); simp only [Act.put, q1, q2, q3]
            refine tk (i := 15) (d := some 25) (v := ?_) rfl (Or.inl ⟨by kernel_rfl, ?_⟩) hS ?_; rotate_left 1; (intro w' hS'; clear hS'; go_simp; try with_reducible rfl); simp only [Act.put, q1, q2, q3]
            refine tk (i := 16) (d := some 26) (v := ?_) rfl (Or.inl ⟨by kernel_rfl, ?_⟩) hS ?_; rotate_left 1; (intro w' hS'; clear hS'; go_simp; try with_reducible rfl); simp only [Act.put, q1, q2, q3]
            refine tk (i := 17) (d := some 27) (v := ?_) rfl (Or.inl ⟨by kernel_rfl, ?_⟩) hS ?_; rotate_left 1; (intro w' hS'; clear hS'; go_simp; try with_reducible rfl); simp only [Act.put, q1, q2, q3]
            refine tk (i := 18) (d := some 28) (v := ?_) rfl (Or.inl ⟨by kernel_rfl, ?_⟩) hS ?_; rotate_left 1; (intro w' hS'; clear hS'; go_simp; try with_reducible rfl); simp only [Act.put, q1, q2, q3]
            refine tk (i := 19) (d := some 29) (v := ?_) rfl (Or.inl ⟨by kernel_rfl, ?_⟩) hS ?_; rotate_left 1; (intro w' hS'; clear hS'; go_simp; try with_reducible rfl); simp only [Act.put, q1, q2, q3]
            refine tk (i := 20) (d := some 30) (v := ?_) rfl (Or.inl ⟨by kernel_rfl, ?_⟩) hS ?_; rotate_left 1; (intro w' hS'; have h1 := cellFr hS' (fun h => h) c1; clear hS'; go_simp; try with_reducible rfl); simp only [Act.put, q1, q2, q3]
            refine tk (i := 21) (d := some 31) (v := ?_) rfl (Or.inl ⟨by kernel_rfl, ?_⟩) hS ?_; rotate_left 1; (intro w' hS'; clear hS'; go_simp; try with_reducible rfl); simp only [Act.put, q1, q2, q3]
            refine tk (i := 22) (d := some 32) (v := ?_) rfl (Or.inl ⟨by kernel_rfl, ?_⟩) hS ?_; rotate_left 1; (intro w' hS'; clear hS'; go_simp; try with_reducible rfl); simp only [Act.put, q1, q2, q3]
            refine tk (i := 23) (d := some 33) (v := ?_) rfl (Or.inl ⟨by kernel_rfl, ?_⟩) hS ?_; rotate_left 1; (intro w' hS'; clear hS'; go_simp; try with_reducible rfl); simp only [Act.put, q1, q2, q3]
            refine tk (i := 24) (d := some 34) (v := ?_) rfl (Or.inl ⟨by kernel_rfl, ?_⟩) hS ?_; rotate_left 1; (intro w' hS'; clear hS'; go_simp; try with_reducible rfl); simp only [Act.put, q1, q2, q3]
            refine tk (i := 25) (d := some 35) (v := ?_) rfl (Or.inl ⟨by kernel_rfl, ?_⟩) hS ?_; rotate_left 1; (intro w' hS'; clear hS'; go_simp; try with_reducible rfl); simp only [Act.put, q1, q2, q3]
            refine tk (i := 26) (d := some 36) (v := ?_) rfl (Or.inl ⟨by kernel_rfl, ?_⟩) hS ?_; rotate_left 1; (intro w' hS'; clear hS'; go_simp; try with_reducible rfl); simp only [Act.put, q1, q2, q3]
            refine tk (i := 27) (d := some 37) (v := ?_) rfl (Or.inl ⟨by kernel_rfl, ?_⟩) hS ?_; rotate_left 1; (intro w' hS'; clear hS'; go_simp; try with_reducible rfl); simp only [Act.put, q1, q2, q3]
            refine tk (i := 28) (d := some 38) (v := ?_) rfl (Or.inl ⟨by kernel_rfl, ?_⟩) hS ?_; rotate_left 1; (intro w' hS'; have h1 := cellFr hS' (fun h => h) c1; clear hS'; go_simp; try with_reducible rfl); simp only [Act.put, q1, q2, q3]
            refine tk (i := 29) (d := some 39) (v := ?_) rfl (Or.inl ⟨by kernel_rfl, ?_⟩) hS ?_; rotate_left 1; (intro w' hS'; clear hS'; go_simp; try with_reducible rfl); simp only [Act.put, q1, q2, q3]
            refine tk (i := 30) (d := some 40) (v := .bool false) rfl (Or.inl ⟨by kernel_rfl, fun w' hS' => by clear hS'; go_simp; try rw [decide_eq_false e4]⟩) hS ?_; simp only [Act.put, q1, q2, q3]
            refine tk (i := 31) (d := some 41) (v := ?_) rfl (Or.inl ⟨by kernel_rfl, ?_⟩) hS ?_; rotate_left 1; (intro w' hS'; clear hS'; go_simp; try with_reducible rfl); simp only [Act.put, q1, q2, q3]
            refine tk (i := 32) (d := some 42) (v := ?_) rfl (Or.inl ⟨by kernel_rfl, ?_⟩) hS ?_; rotate_left 1; (intro w' hS'; clear hS'; go_simp; try with_reducible rfl); simp only [Act.put, q1, q2, q3]
            refine tk (i := 33) (d := some 43) (v := ?_) rfl (Or.inl ⟨by kernel_rfl, ?_⟩) hS ?_; rotate_left 1; (intro w' hS'; clear hS'; go_simp; try with_reducible rfl); simp only [Act.put, q1, q2, q3]
            refine tk (i := 34) (d := some 44) (v := .bool true) rfl (Or.inl ⟨by kernel_rfl, fun w' hS' => by clear hS'; go_simp; try rw [decide_eq_true i7]⟩) hS ?_; simp only [Act.put, q1, q2, q3]
            refine tk (i := 35) (d := some 45) (v := ?_) rfl (Or.inl ⟨by kernel_rfl, ?_⟩) hS ?_; rotate_left 1; (intro w' hS'; clear hS'; go_simp; try with_reducible rfl); simp only [Act.put, q1, q2, q3]
            refine tk (i := 36) (d := some 46) (v := ?_) rfl (Or.inl ⟨by kernel_rfl, ?_⟩) hS ?_; rotate_left 1; (intro w' hS'; clear hS'; go_simp; try with_reducible rfl); simp only [Act.put, q1, q2, q3]
            refine tk (i := 37) (d := some 47) (v := ?_) rfl (Or.inl ⟨by kernel_rfl, ?_⟩) hS ?_; rotate_left 1; (intro w' hS'; clear hS'; go_simp; try with_reducible rfl); simp only [Act.put, q1, q2, q3]
            refine tk (i := 38) (d := some 48) (v := ?_) rfl (Or.inl ⟨by kernel_rfl, ?_⟩) hS ?_; rotate_left 1; (intro w' hS'; clear hS'; go_simp; try with_reducible rfl); simp only [Act.put, q1, q2, q3]
            refine tk (i := 39) (d := some 49) (v := ?_) rfl (Or.inl ⟨by kernel_rfl, ?_⟩) hS ?_; rotate_left 1; (intro w' hS'; clear hS'; go_simp; try with_reducible rfl); simp only [Act.put, q1, q2, q3]
            refine tk (i := 40) (d := some 50) (v := ?_) rfl (Or.inl ⟨by kernel_rfl, ?_⟩) hS ?_; rotate_left 1; (intro w' hS'; have h1 := cellFr hS' (fun h => h) c0; clear hS'; go_simp; try with_reducible rfl); simp only [Act.put, q1, q2, q3]
            refine tk (i := 41) (d := some 51) (v := ?_) rfl (Or.inl ⟨by kernel_rfl, ?_⟩) hS ?_; rotate_left 1; (intro w' hS'; clear hS'; go_simp; try with_reducible rfl); simp only [Act.put, q1, q2, q3]
            refine tk (i := 42) (d := some 52) (v := ?_) rfl (Or.inl ⟨by kernel_rfl, ?_⟩) hS ?_; rotate_left 1; (intro w' hS'; clear hS'; go_simp; try with_reducible rfl); simp only [Act.put, q1, q2, q3]
            refine tk (i := 43) (d := some 53) (v := ?_) rfl (Or.inl ⟨by kernel_rfl, ?_⟩) hS ?_; rotate_left 1; (intro w' hS'; clear hS'; go_simp; try with_reducible rfl); simp only [Act.put, q1, q2, q3]
            refine tk (i := 44) (d := some 54) (v := ?_) rfl (Or.inl ⟨by kernel_rfl, ?_⟩) hS ?_; rotate_left 1; (intro w' hS'; clear hS'; go_simp; try with_reducible rfl); simp only [Act.put, q1, q2, q3]
            refine tk (i := 45) (d := some 55) (v := ?_) rfl (Or.inl ⟨by kernel_rfl, ?_⟩) hS ?_; rotate_left 1; (intro w' hS'; clear hS'; go_simp; try with_reducible rfl); simp only [Act.put, q1, q2, q3]
            refine tk (i := 46) (d := some 56) (v := ?_) rfl (Or.inl ⟨by kernel_rfl, ?_⟩) hS ?_; rotate_left 1; (intro w' hS'; have h1 := cellFr hS' (fun h => h) d0; clear hS'; go_simp; try with_reducible rfl); simp only [Act.put, q1, q2, q3]
            refine tk (i := 47) (d := some 57) (v := ?_) rfl (Or.inl ⟨by kernel_rfl, ?_⟩) hS ?_; rotate_left 1; (intro w' hS'; have h1 := T.leq_str w' p.1 y.1; have h2 := T.leq_op w' p.1 y.1; clear hS'; go_simp; try with_reducible rfl); simp only [Act.put, q1, q2, q3]
            refine tk (i := 48) (d := some 58) (v := ?_) rfl (Or.inl ⟨by kernel_rfl, ?_⟩) hS ?_; rotate_left 1; (intro w' hS'; clear hS'; go_simp; try with_reducible rfl); simp only [Act.put, q1, q2, q3]
            refine tk (i := 49) (d := some 59) (v := ?_) rfl (Or.inl ⟨by kernel_rfl, ?_⟩) hS ?_; rotate_left 1; (intro w' hS'; clear hS'; go_simp; try with_reducible rfl); simp only [Act.put, q1, q2, q3]
            refine wpAnyH_done (by kernel_rfl) ?_ _
            have FZ := hid (HFR.out.trans hS (fun _ _ h => h))
            clear hS
            go_wp2
            go_ret
            exact ⟨ret_bool HRF.out.symm, FZ.out⟩
      | false =>
        have HRF := hid (show (T.txts l && T.asc (fun a b => T.blt a.1 b.1) l) = false from by
          cases hq : T.txts l with
          | false => rfl
          | true =>
            unfold T.txts at hq
            have := List.all_eq_true.1 hq p (List.mem_of_getElem? hp)
            rw [hgood] at this
            cases this)
        clear hall hk htx has hRr hlt hp hfr
        unfold T.txt at hgood
        cases e1 : p.1.toList.isEmpty with
        | true =>
          clear hgood
          go_wp2
          have hmx : Tryz.prog.follows .mixedOrders = true := by kernel_rfl
          refine wp_region_held (S := fun V => Fr (fun _ => False) wr V) hmx ?_
          have hS := (Fr.drew (Fr.refl (fun _ => False) wr))
          simp only [List.size_toArray, List.length_cons, List.length_nil, Nat.reduceAdd, Array.replicate_succ, Array.replicate_zero, List.push_toArray, List.nil_append, List.cons_append]
          refine tk (i := 0) (d := some 10) (v := ?_) rfl (Or.inl ⟨by kernel_rfl, ?_⟩) hS ?_; rotate_left 1; (intro w' hS'; clear hS'; go_simp; try with_reducible rfl); simp only [Act.put, q1, q2, q3]
          refine tk (i := 1) (d := some 11) (v := ?_) rfl (Or.inl ⟨by kernel_rfl, ?_⟩) hS ?_; rotate_left 1; (intro w' hS'; clear hS'; go_simp; try with_reducible rfl); simp only [Act.put, q1, q2, q3]
          refine tk (i := 2) (d := some 12) (v := ?_) rfl (Or.inl ⟨by kernel_rfl, ?_⟩) hS ?_; rotate_left 1; (intro w' hS'; clear hS'; go_simp; try with_reducible rfl); simp only [Act.put, q1, q2, q3]
          refine tk (i := 3) (d := some 13) (v := ?_) rfl (Or.inl ⟨by kernel_rfl, ?_⟩) hS ?_; rotate_left 1; (intro w' hS'; clear hS'; go_simp; try with_reducible rfl); simp only [Act.put, q1, q2, q3]
          refine tk (i := 4) (d := some 14) (v := ?_) rfl (Or.inl ⟨by kernel_rfl, ?_⟩) hS ?_; rotate_left 1; (intro w' hS'; have h1 := cellFr hS' (fun h => h) c0; clear hS'; go_simp; try with_reducible rfl); simp only [Act.put, q1, q2, q3]
          refine tk (i := 5) (d := some 15) (v := ?_) rfl (Or.inl ⟨by kernel_rfl, ?_⟩) hS ?_; rotate_left 1; (intro w' hS'; clear hS'; go_simp; try with_reducible rfl); simp only [Act.put, q1, q2, q3]
          refine tk (i := 6) (d := some 16) (v := ?_) rfl (Or.inl ⟨by kernel_rfl, ?_⟩) hS ?_; rotate_left 1; (intro w' hS'; clear hS'; go_simp; try with_reducible rfl); simp only [Act.put, q1, q2, q3]
          refine tks (i := 7) (d := some 17) rfl hS ?_; simp only [Act.put, q1, q2, q3]
          refine tks (i := 8) (d := some 18) rfl hS ?_; simp only [Act.put, q1, q2, q3]
          refine tks (i := 9) (d := some 19) rfl hS ?_; simp only [Act.put, q1, q2, q3]
          refine tks (i := 10) (d := some 20) rfl hS ?_; simp only [Act.put, q1, q2, q3]
          refine tks (i := 11) (d := some 21) rfl hS ?_; simp only [Act.put, q1, q2, q3]
          refine tks (i := 12) (d := some 22) rfl hS ?_; simp only [Act.put, q1, q2, q3]
          refine tks (i := 13) (d := some 23) rfl hS ?_; simp only [Act.put, q1, q2, q3]
          refine tk (i := 14) (d := some 24) (v := ?_) rfl (Or.inl ⟨by kernel_rfl, ?_⟩) hS ?_; rotate_left 1; (intro w' hS'; clear hS'; go_simp; try with_reducible rfl); simp only [Act.put, q1, q2, q3]
          refine tk (i := 15) (d := some 25) (v := ?_) rfl (Or.inl ⟨by kernel_rfl, ?_⟩) hS ?_; rotate_left 1; (intro w' hS'; clear hS'; go_simp; try with_reducible rfl); simp only [Act.put, q1, q2, q3]
          refine tks (i := 16) (d := some 26) rfl hS ?_; simp only [Act.put, q1, q2, q3]
          refine tks (i := 17) (d := some 27) rfl hS ?_; simp only [Act.put, q1, q2, q3]
          refine tks (i := 18) (d := some 28) rfl hS ?_; simp only [Act.put, q1, q2, q3]
          refine tks (i := 19) (d := some 29) rfl hS ?_; simp only [Act.put, q1, q2, q3]
          refine tks (i := 20) (d := some 30) rfl hS ?_; simp only [Act.put, q1, q2, q3]
          refine tks (i := 21) (d := some 31) rfl hS ?_; simp only [Act.put, q1, q2, q3]
          refine tk (i := 22) (d := some 32) (v := ?_) rfl (Or.inl ⟨by kernel_rfl, ?_⟩) hS ?_; rotate_left 1; (intro w' hS'; clear hS'; go_simp; try with_reducible rfl); simp only [Act.put, q1, q2, q3]
          refine tk (i := 23) (d := some 33) (v := ?_) rfl (Or.inl ⟨by kernel_rfl, ?_⟩) hS ?_; rotate_left 1; (intro w' hS'; clear hS'; go_simp; try with_reducible rfl); simp only [Act.put, q1, q2, q3]
          refine tks (i := 24) (d := some 34) rfl hS ?_; simp only [Act.put, q1, q2, q3]
          refine tks (i := 25) (d := some 35) rfl hS ?_; simp only [Act.put, q1, q2, q3]
          refine tks (i := 26) (d := some 36) rfl hS ?_; simp only [Act.put, q1, q2, q3]
          refine tks (i := 27) (d := some 37) rfl hS ?_; simp only [Act.put, q1, q2, q3]
          refine tks (i := 28) (d := some 38) rfl hS ?_; simp only [Act.put, q1, q2, q3]
          refine tks (i := 29) (d := some 39) rfl hS ?_; simp only [Act.put, q1, q2, q3]
          refine tks (i := 30) (d := some 40) rfl hS ?_; simp only [Act.put, q1, q2, q3]
          refine tk (i := 31) (d := some 41) (v := ?_) rfl (Or.inl ⟨by kernel_rfl, ?_⟩) hS ?_; rotate_left 1; (intro w' hS'; clear hS'; go_simp; try with_reducible rfl); simp only [Act.put, q1, q2, q3]
          refine tk (i := 32) (d := some 42) (v := ?_) rfl (Or.inl ⟨by kernel_rfl, ?_⟩) hS ?_; rotate_left 1; (intro w' hS'; clear hS'; go_simp; try with_reducible rfl); simp only [Act.put, q1, q2, q3]
          refine tks (i := 33) (d := some 43) rfl hS ?_; simp only [Act.put, q1, q2, q3]
          refine tks (i := 34) (d := some 44) rfl hS ?_; simp only [Act.put, q1, q2, q3]
          refine tks (i := 35) (d := some 45) rfl hS ?_; simp only [Act.put, q1, q2, q3]
          refine tks (i := 36) (d := some 46) rfl hS ?_; simp only [Act.put, q1, q2, q3]
          refine tks (i := 37) (d := some 47) rfl hS ?_; simp only [Act.put, q1, q2, q3]
          refine tks (i := 38) (d := some 48) rfl hS ?_; simp only [Act.put, q1, q2, q3]
          refine tks (i := 39) (d := some 49) rfl hS ?_; simp only [Act.put, q1, q2, q3]
          refine tks (i := 40) (d := some 50) rfl hS ?_; simp only [Act.put, q1, q2, q3]
          refine tks (i := 41) (d := some 51) rfl hS ?_; simp only [Act.put, q1, q2, q3]
          refine tks (i := 42) (d := some 52) rfl hS ?_; simp only [Act.put, q1, q2, q3]
          refine tks (i := 43) (d := some 53) rfl hS ?_; simp only [Act.put, q1, q2, q3]
          refine tks (i := 44) (d := some 54) rfl hS ?_; simp only [Act.put, q1, q2, q3]
          refine tks (i := 45) (d := some 55) rfl hS ?_; simp only [Act.put, q1, q2, q3]
          refine tks (i := 46) (d := some 56) rfl hS ?_; simp only [Act.put, q1, q2, q3]
          refine tks (i := 47) (d := some 57) rfl hS ?_; simp only [Act.put, q1, q2, q3]
          refine tks (i := 48) (d := some 58) rfl hS ?_; simp only [Act.put, q1, q2, q3]
          refine tk (i := 49) (d := some 59) (v := ?_) rfl (Or.inl ⟨by kernel_rfl, ?_⟩) hS ?_; rotate_left 1; (intro w' hS'; clear hS'; go_simp; try with_reducible rfl); simp only [Act.put, q1, q2, q3]
          refine wpAnyH_done (by kernel_rfl) ?_ _
          have FZ := hid (HFR.out.trans hS (fun _ _ h => h))
          clear hS
          go_wp2
          go_ret
          exact ⟨ret_bool HRF.out.symm, FZ.out⟩
        | false =>
          by_cases e3' : 255 < p.1.size
          · have e3 : (255 : Int) < (p.1.size : Int) := by omega
            clear hgood e3'
            go_wp2
            have hmx : Tryz.prog.follows .mixedOrders = true := by kernel_rfl
            refine wp_region_held (S := fun V => Fr (fun _ => False) wr V) hmx ?_
            have hS := (Fr.drew (Fr.refl (fun _ => False) wr))
            simp only [List.size_toArray, List.length_cons, List.length_nil, Nat.reduceAdd, Array.replicate_succ, Array.replicate_zero, List.push_toArray, List.nil_append, List.cons_append]
            refine tk (i := 0) (d := some 10) (v := ?_) rfl (Or.inl ⟨by kernel_rfl, ?_⟩) hS ?_; rotate_left 1; (intro w' hS'; clear hS'; go_simp; try with_reducible rfl); simp only [Act.put, q1, q2, q3]
            refine tk (i := 1) (d := some 11) (v := ?_) rfl (Or.inl ⟨by kernel_rfl, ?_⟩) hS ?_; rotate_left 1; (intro w' hS'; clear hS'; go_simp; try with_reducible rfl); simp only [Act.put, q1, q2, q3]
            refine tk (i := 2) (d := some 12) (v := ?_) rfl (Or.inl ⟨by kernel_rfl, ?_⟩) hS ?_; rotate_left 1; (intro w' hS'; clear hS'; go_simp; try with_reducible rfl); simp only [Act.put, q1, q2, q3]
            refine tk (i := 3) (d := some 13) (v := ?_) rfl (Or.inl ⟨by kernel_rfl, ?_⟩) hS ?_; rotate_left 1; (intro w' hS'; clear hS'; go_simp; try with_reducible rfl); simp only [Act.put, q1, q2, q3]
            refine tk (i := 4) (d := some 14) (v := ?_) rfl (Or.inl ⟨by kernel_rfl, ?_⟩) hS ?_; rotate_left 1; (intro w' hS'; have h1 := cellFr hS' (fun h => h) c0; clear hS'; go_simp; try with_reducible rfl); simp only [Act.put, q1, q2, q3]
            refine tk (i := 5) (d := some 15) (v := ?_) rfl (Or.inl ⟨by kernel_rfl, ?_⟩) hS ?_; rotate_left 1; (intro w' hS'; clear hS'; go_simp; try with_reducible rfl); simp only [Act.put, q1, q2, q3]
            refine tk (i := 6) (d := some 16) (v := ?_) rfl (Or.inl ⟨by kernel_rfl, ?_⟩) hS ?_; rotate_left 1; (intro w' hS'; clear hS'; go_simp; try with_reducible rfl); simp only [Act.put, q1, q2, q3]
            refine tk (i := 7) (d := some 17) (v := ?_) rfl (Or.inl ⟨by kernel_rfl, ?_⟩) hS ?_; rotate_left 1; (intro w' hS'; clear hS'; go_simp; try with_reducible rfl); simp only [Act.put, q1, q2, q3]
            refine tk (i := 8) (d := some 18) (v := ?_) rfl (Or.inl ⟨by kernel_rfl, ?_⟩) hS ?_; rotate_left 1; (intro w' hS'; clear hS'; go_simp; try with_reducible rfl); simp only [Act.put, q1, q2, q3]
            refine tk (i := 9) (d := some 19) (v := ?_) rfl (Or.inl ⟨by kernel_rfl, ?_⟩) hS ?_; rotate_left 1; (intro w' hS'; clear hS'; go_simp; try with_reducible rfl); simp only [Act.put, q1, q2, q3]
            refine tk (i := 10) (d := some 20) (v := ?_) rfl (Or.inl ⟨by kernel_rfl, ?_⟩) hS ?_; rotate_left 1; (intro w' hS'; clear hS'; go_simp; try with_reducible rfl); simp only [Act.put, q1, q2, q3]
            refine tk (i := 11) (d := some 21) (v := ?_) rfl (Or.inl ⟨by kernel_rfl, ?_⟩) hS ?_; rotate_left 1; (intro w' hS'; have h1 := cellFr hS' (fun h => h) c0; clear hS'; go_simp; try with_reducible rfl); simp only [Act.put, q1, q2, q3]
            refine tk (i := 12) (d := some 22) (v := ?_) rfl (Or.inl ⟨by kernel_rfl, ?_⟩) hS ?_; rotate_left 1; (intro w' hS'; clear hS'; go_simp; try with_reducible rfl); simp only [Act.put, q1, q2, q3]
            refine tk (i := 13) (d := some 23) (v := .bool true) rfl (Or.inl ⟨by kernel_rfl, fun w' hS' => by clear hS'; go_simp; try rw [decide_eq_true e3]⟩) hS ?_; simp only [Act.put, q1, q2, q3]
            refine tk (i := 14) (d := some 24) (v := ?_) rfl (Or.inl ⟨by kernel_rfl, ?_⟩) hS ?_; rotate_left 1; (intro w' hS'; clear hS'; go_simp; try with_reducible rfl); simp only [Act.put, q1, q2, q3]
            refine tk (i := 15) (d := some 25) (v := ?_) rfl (Or.inl ⟨by kernel_rfl, ?_⟩) hS ?_; rotate_left 1; (intro w' hS'; clear hS'; go_simp; try with_reducible rfl); simp only [Act.put, q1, q2, q3]
            refine tks (i := 16) (d := some 26) rfl hS ?_; simp only [Act.put, q1, q2, q3]
            refine tks (i := 17) (d := some 27) rfl hS ?_; simp only [Act.put, q1, q2, q3]
            refine tks (i := 18) (d := some 28) rfl hS ?_; simp only [Act.put, q1, q2, q3]
            refine tks (i := 19) (d := some 29) rfl hS ?_; simp only [Act.put, q1, q2, q3]
            refine tks (i := 20) (d := some 30) rfl hS ?_; simp only [Act.put, q1, q2, q3]
            refine tks (i := 21) (d := some 31) rfl hS ?_; simp only [Act.put, q1, q2, q3]
            refine tk (i := 22) (d := some 32) (v := ?_) rfl (Or.inl ⟨by kernel_rfl, ?_⟩) hS ?_; rotate_left 1; (intro w' hS'; clear hS'; go_simp; try with_reducible rfl); simp only [Act.put, q1, q2, q3]
            refine tk (i := 23) (d := some 33) (v := ?_) rfl (Or.inl ⟨by kernel_rfl, ?_⟩) hS ?_; rotate_left 1; (intro w' hS'; clear hS'; go_simp; try with_reducible rfl); simp only [Act.put, q1, q2, q3]
            refine tks (i := 24) (d := some 34) rfl hS ?_; simp only [Act.put, q1, q2, q3]
            refine tks (i := 25) (d := some 35) rfl hS ?_; simp only [Act.put, q1, q2, q3]
            refine tks (i := 26) (d := some 36) rfl hS ?_; simp only [Act.put, q1, q2, q3]
            refine tks (i := 27) (d := some 37) rfl hS ?_; simp only [Act.put, q1, q2, q3]
            refine tks (i := 28) (d := some 38) rfl hS ?_; simp only [Act.put, q1, q2, q3]
            refine tks (i := 29) (d := some 39) rfl hS ?_; simp only [Act.put, q1, q2, q3]
            refine tks (i := 30) (d := some 40) rfl hS ?_; simp only [Act.put, q1, q2, q3]
            refine tk (i := 31) (d := some 41) (v := ?_) rfl (Or.inl ⟨by kernel_rfl, ?_⟩) hS ?_; rotate_left 1; (intro w' hS'; clear hS'; go_simp; try with_reducible rfl); simp only [Act.put, q1, q2, q3]
            refine tk (i := 32) (d := some 42) (v := ?_) rfl (Or.inl ⟨by kernel_rfl, ?_⟩) hS ?_; rotate_left 1; (intro w' hS'; clear hS'; go_simp; try with_reducible rfl); simp only [Act.put, q1, q2, q3]
            refine tks (i := 33) (d := some 43) rfl hS ?_; simp only [Act.put, q1, q2, q3]
            refine tks (i := 34) (d := some 44) rfl hS ?_; simp only [Act.put, q1, q2, q3]
            refine tks (i := 35) (d := some 45) rfl hS ?_; simp only [Act.put, q1, q2, q3]
            refine tks (i := 36) (d := some 46) rfl hS ?_; simp only [Act.put, q1, q2, q3]
            refine tks (i := 37) (d := some 47) rfl hS ?_; simp only [Act.put, q1, q2, q3]
            refine tks (i := 38) (d := some 48) rfl hS ?_; simp only [Act.put, q1, q2, q3]
            refine tks (i := 39) (d := some 49) rfl hS ?_; simp only [Act.put, q1, q2, q3]
            refine tks (i := 40) (d := some 50) rfl hS ?_; simp only [Act.put, q1, q2, q3]
            refine tks (i := 41) (d := some 51) rfl hS ?_; simp only [Act.put, q1, q2, q3]
            refine tks (i := 42) (d := some 52) rfl hS ?_; simp only [Act.put, q1, q2, q3]
            refine tks (i := 43) (d := some 53) rfl hS ?_; simp only [Act.put, q1, q2, q3]
            refine tks (i := 44) (d := some 54) rfl hS ?_; simp only [Act.put, q1, q2, q3]
            refine tks (i := 45) (d := some 55) rfl hS ?_; simp only [Act.put, q1, q2, q3]
            refine tks (i := 46) (d := some 56) rfl hS ?_; simp only [Act.put, q1, q2, q3]
            refine tks (i := 47) (d := some 57) rfl hS ?_; simp only [Act.put, q1, q2, q3]
            refine tks (i := 48) (d := some 58) rfl hS ?_; simp only [Act.put, q1, q2, q3]
            refine tk (i := 49) (d := some 59) (v := ?_) rfl (Or.inl ⟨by kernel_rfl, ?_⟩) hS ?_; rotate_left 1; (intro w' hS'; clear hS'; go_simp; try with_reducible rfl); simp only [Act.put, q1, q2, q3]
            refine wpAnyH_done (by kernel_rfl) ?_ _
            have FZ := hid (HFR.out.trans hS (fun _ _ h => h))
            clear hS
            go_wp2
            go_ret
            exact ⟨ret_bool HRF.out.symm, FZ.out⟩
          · have e3 : ¬ (255 : Int) < (p.1.size : Int) := by omega
            cases e2 : p.2.toList.isEmpty with
            | true =>
              clear hgood e3'
              go_wp2
              have hmx : Tryz.prog.follows .mixedOrders = true := by kernel_rfl
              refine wp_region_held (S := fun V => Fr (fun _ => False) wr V) hmx ?_
              have hS := (Fr.drew (Fr.refl (fun _ => False) wr))
              simp only [List.size_toArray, List.length_cons, List.length_nil, Nat.reduceAdd, Array.replicate_succ, Array.replicate_zero, List.push_toArray, List.nil_append, List.cons_append]
              refine tk (i := 0) (d := some 10) (v := ?_) rfl (Or.inl ⟨by kernel_rfl, ?_⟩) hS ?_; rotate_left 1; (intro w' hS'; clear hS'; go_simp; try with_reducible rfl); simp only [Act.put, q1, q2, q3]
              refine tk (i := 1) (d := some 11) (v := ?_) rfl (Or.inl ⟨by kernel_rfl, ?_⟩) hS ?_; rotate_left 1; (intro w' hS'; clear hS'; go_simp; try with_reducible rfl); simp only [Act.put, q1, q2, q3]
              refine tk (i := 2) (d := some 12) (v := ?_) rfl (Or.inl ⟨by kernel_rfl, ?_⟩) hS ?_; rotate_left 1; (intro w' hS'; clear hS'; go_simp; try with_reducible rfl); simp only [Act.put, q1, q2, q3]
              refine tk (i := 3) (d := some 13) (v := ?_) rfl (Or.inl ⟨by kernel_rfl, ?_⟩) hS ?_; rotate_left 1; (intro w' hS'; clear hS'; go_simp; try with_reducible rfl); simp only [Act.put, q1, q2, q3]
              refine tk (i := 4) (d := some 14) (v := ?_) rfl (Or.inl ⟨by kernel_rfl, ?_⟩) hS ?_; rotate_left 1; (intro w' hS'; have h1 := cellFr hS' (fun h => h) c0; clear hS'; go_simp; try with_reducible rfl); simp only [Act.put, q1, q2, q3]
              refine tk (i := 5) (d := some 15) (v := ?_) rfl (Or.inl ⟨by kernel_rfl, ?_⟩) hS ?_; rotate_left 1; (intro w' hS'; clear hS'; go_simp; try with_reducible rfl); simp only [Act.put, q1, q2, q3]
              refine tk (i := 6) (d := some 16) (v := ?_) rfl (Or.inl ⟨by kernel_rfl, ?_⟩) hS ?_; rotate_left 1; (intro w' hS'; clear hS'; go_simp; try with_reducible rfl); simp only [Act.put, q1, q2, q3]
              refine tk (i := 7) (d := some 17) (v := ?_) rfl (Or.inl ⟨by kernel_rfl, ?_⟩) hS ?_; rotate_left 1; (intro w' hS'; clear hS'; go_simp; try with_reducible rfl); simp only [Act.put, q1, q2, q3]
              refine tk (i := 8) (d := some 18) (v := ?_) rfl (Or.inl ⟨by kernel_rfl, ?_⟩) hS ?_; rotate_left 1; (intro w' hS'; clear hS'; go_simp; try with_reducible rfl); simp only [Act.put, q1, q2, q3]
              refine tk (i := 9) (d := some 19) (v := ?_) rfl (Or.inl ⟨by kernel_rfl, ?_⟩) hS ?_; rotate_left 1; (intro w' hS'; clear hS'; go_simp; try with_reducible rfl); simp only [Act.put, q1, q2, q3]
              refine tk (i := 10) (d := some 20) (v := ?_) rfl (Or.inl ⟨by kernel_rfl, ?_⟩) hS ?_; rotate_left 1; (intro w' hS'; clear hS'; go_simp; try with_reducible rfl); simp only [Act.put, q1, q2, q3]
              refine tk (i := 11) (d := some 21) (v := ?_) rfl (Or.inl ⟨by kernel_rfl, ?_⟩) hS ?_; rotate_left 1; (intro w' hS'; have h1 := cellFr hS' (fun h => h) c0; clear hS'; go_simp; try with_reducible rfl); simp only [Act.put, q1, q2, q3]
              refine tk (i := 12) (d := some 22) (v := ?_) rfl (Or.inl ⟨by kernel_rfl, ?_⟩) hS ?_; rotate_left 1; (intro w' hS'; clear hS'; go_simp; try with_reducible rfl); simp only [Act.put, q1, q2, q3]
              refine tk (i := 13) (d := some 23) (v := .bool false) rfl (Or.inl ⟨by kernel_rfl, fun w' hS' => by clear hS'; go_simp; try rw [decide_eq_false e3]⟩) hS ?_; simp only [Act.put, q1, q2, q3]
              refine tk (i := 14) (d := some 24) (v := ?_) rfl (Or.inl ⟨by kernel_rfl, ?_⟩) hS ?_; rotate_left 1; (intro w' hS'; clear hS'; go_simp; try with_reducible rfl); simp only [Act.put, q1, q2, q3]
              refine tk (i := 15) (d := some 25) (v := ?_) rfl (Or.inl ⟨by kernel_rfl, ?_⟩) hS ?_; rotate_left 1; (intro w' hS'; clear hS'; go_simp; try with_reducible rfl); simp only [Act.put, q1, q2, q3]
              refine tk (i := 16) (d := some 26) (v := ?_) rfl (Or.inl ⟨by kernel_rfl, ?_⟩) hS ?_; rotate_left 1; (intro w' hS'; clear hS'; go_simp; try with_reducible rfl); simp only [Act.put, q1, q2, q3]
              refine tk (i := 17) (d := some 27) (v := ?_) rfl (Or.inl ⟨by kernel_rfl, ?_⟩) hS ?_; rotate_left 1; (intro w' hS'; clear hS'; go_simp; try with_reducible rfl); simp only [Act.put, q1, q2, q3]
              refine tk (i := 18) (d := some 28) (v := ?_) rfl (Or.inl ⟨by kernel_rfl, ?_⟩) hS ?_; rotate_left 1; (intro w' hS'; clear hS'; go_simp; try with_reducible rfl); simp only [Act.put, q1, q2, q3]
              refine tk (i := 19) (d := some 29) (v := ?_) rfl (Or.inl ⟨by kernel_rfl, ?_⟩) hS ?_; rotate_left 1; (intro w' hS'; clear hS'; go_simp; try with_reducible rfl); simp only [Act.put, q1, q2, q3]
              refine tk (i := 20) (d := some 30) (v := ?_) rfl (Or.inl ⟨by kernel_rfl, ?_⟩) hS ?_; rotate_left 1; (intro w' hS'; have h1 := cellFr hS' (fun h => h) c1; clear hS'; go_simp; try with_reducible rfl); simp only [Act.put, q1, q2, q3]
              refine tk (i := 21) (d := some 31) (v := ?_) rfl (Or.inl ⟨by kernel_rfl, ?_⟩) hS ?_; rotate_left 1; (intro w' hS'; clear hS'; go_simp; try with_reducible rfl); simp only [Act.put, q1, q2, q3]
              refine tk (i := 22) (d := some 32) (v := ?_) rfl (Or.inl ⟨by kernel_rfl, ?_⟩) hS ?_; rotate_left 1; (intro w' hS'; clear hS'; go_simp; try with_reducible rfl); simp only [Act.put, q1, q2, q3]
              refine tk (i := 23) (d := some 33) (v := ?_) rfl (Or.inl ⟨by kernel_rfl, ?_⟩) hS ?_; rotate_left 1; (intro w' hS'; clear hS'; go_simp; try with_reducible rfl); simp only [Act.put, q1, q2, q3]
              refine tks (i := 24) (d := some 34) rfl hS ?_; simp only [Act.put, q1, q2, q3]
              refine tks (i := 25) (d := some 35) rfl hS ?_; simp only [Act.put, q1, q2, q3]
              refine tks (i := 26) (d := some 36) rfl hS ?_; simp only [Act.put, q1, q2, q3]
              refine tks (i := 27) (d := some 37) rfl hS ?_; simp only [Act.put, q1, q2, q3]
              refine tks (i := 28) (d := some 38) rfl hS ?_; simp only [Act.put, q1, q2, q3]
              refine tks (i := 29) (d := some 39) rfl hS ?_; simp only [Act.put, q1, q2, q3]
              refine tks (i := 30) (d := some 40) rfl hS ?_; simp only [Act.put, q1, q2, q3]
              refine tk (i := 31) (d := some 41) (v := ?_) rfl (Or.inl ⟨by kernel_rfl, ?_⟩) hS ?_; rotate_left 1; (intro w' hS'; clear hS'; go_simp; try with_reducible rfl); simp only [Act.put, q1, q2, q3]
              refine tk (i := 32) (d := some 42) (v := ?_) rfl (Or.inl ⟨by kernel_rfl, ?_⟩) hS ?_; rotate_left 1; (intro w' hS'; clear hS'; go_simp; try with_reducible rfl); simp only [Act.put, q1, q2, q3]
              refine tks (i := 33) (d := some 43) rfl hS ?_; simp only [Act.put, q1, q2, q3]
              refine tks (i := 34) (d := some 44) rfl hS ?_; simp only [Act.put, q1, q2, q3]
              refine tks (i := 35) (d := some 45) rfl hS ?_; simp only [Act.put, q1, q2, q3]
              refine tks (i := 36) (d := some 46) rfl hS ?_; simp only [Act.put, q1, q2, q3]
              refine tks (i := 37) (d := some 47) rfl hS ?_; simp only [Act.put, q1, q2, q3]
              refine tks (i := 38) (d := some 48) rfl hS ?_; simp only [Act.put, q1, q2, q3]
              refine tks (i := 39) (d := some 49) rfl hS ?_; simp only [Act.put, q1, q2, q3]
              refine tks (i := 40) (d := some 50) rfl hS ?_; simp only [Act.put, q1, q2, q3]
              refine tks (i := 41) (d := some 51) rfl hS ?_; simp only [Act.put, q1, q2, q3]
              refine tks (i := 42) (d := some 52) rfl hS ?_; simp only [Act.put, q1, q2, q3]
              refine tks (i := 43) (d := some 53) rfl hS ?_; simp only [Act.put, q1, q2, q3]
              refine tks (i := 44) (d := some 54) rfl hS ?_; simp only [Act.put, q1, q2, q3]
              refine tks (i := 45) (d := some 55) rfl hS ?_; simp only [Act.put, q1, q2, q3]
              refine tks (i := 46) (d := some 56) rfl hS ?_; simp only [Act.put, q1, q2, q3]
              refine tks (i := 47) (d := some 57) rfl hS ?_; simp only [Act.put, q1, q2, q3]
              refine tks (i := 48) (d := some 58) rfl hS ?_; simp only [Act.put, q1, q2, q3]
              refine tk (i := 49) (d := some 59) (v := ?_) rfl (Or.inl ⟨by kernel_rfl, ?_⟩) hS ?_; rotate_left 1; (intro w' hS'; clear hS'; go_simp; try with_reducible rfl); simp only [Act.put, q1, q2, q3]
              refine wpAnyH_done (by kernel_rfl) ?_ _
              have FZ := hid (HFR.out.trans hS (fun _ _ h => h))
              clear hS
              go_wp2
              go_ret
              exact ⟨ret_bool HRF.out.symm, FZ.out⟩
            | false =>
              have e4 : (255 : Int) < (p.2.size : Int) := by
                rw [e1, e2, decide_eq_true (by omega : p.1.size ≤ 255)] at hgood
                simp at hgood
                omega
              clear hgood e3'
              go_wp2
              have hmx : Tryz.prog.follows .mixedOrders = true := by kernel_rfl
              refine wp_region_held (S := fun V => Fr (fun _ => False) wr V) hmx ?_
              have hS := (Fr.drew (Fr.refl (fun _ => False) wr))
              simp only [List.size_toArray, List.length_cons, List.length_nil, Nat.reduceAdd, Array.replicate_succ, Array.replicate_zero, List.push_toArray, List.nil_append, List.cons_append]
              refine tk (i := 0) (d := some 10) (v := ?_) rfl (Or.inl ⟨by kernel_rfl, ?_⟩) hS ?_; rotate_left 1; (intro w' hS'; clear hS'; go_simp; try with_reducible rfl); simp only [Act.put, q1, q2, q3]
              refine tk (i := 1) (d := some 11) (v := ?_) rfl (Or.inl ⟨by kernel_rfl, ?_⟩) hS ?_; rotate_left 1; (intro w' hS'; clear hS'; go_simp; try with_reducible rfl); simp only [Act.put, q1, q2, q3]
              refine tk (i := 2) (d := some 12) (v := ?_) rfl (Or.inl ⟨by kernel_rfl, ?_⟩) hS ?_; rotate_left 1; (intro w' hS'; clear hS'; go_simp; try with_reducible rfl); simp only [Act.put, q1, q2, q3]
              refine tk (i := 3) (d := some 13) (v := ?_) rfl (Or.inl ⟨by kernel_rfl, ?_⟩) hS ?_; rotate_left 1; (intro w' hS'; clear hS'; go_simp; try with_reducible rfl); simp only [Act.put, q1, q2, q3]
              refine tk (i := 4) (d := some 14) (v := ?_) rfl (Or.inl ⟨by kernel_rfl, ?_⟩) hS ?_; rotate_left 1; (intro w' hS'; have h1 := cellFr hS' (fun h => h) c0; clear hS'; go_simp; try with_reducible rfl); simp only [Act.put, q1, q2, q3]
              refine tk (i := 5) (d := some 15) (v := ?_) rfl (Or.inl ⟨by kernel_rfl, ?_⟩) hS ?_; rotate_left 1; (intro w' hS'; clear hS'; go_simp; try with_reducible rfl); simp only [Act.put, q1, q2, q3]
              refine tk (i := 6) (d := some 16) (v := ?_) rfl (Or.inl ⟨by kernel_rfl, ?_⟩) hS ?_; rotate_left 1; (intro w' hS'; clear hS'; go_simp; try with_reducible rfl); simp only [Act.put, q1, q2, q3]
              refine tk (i := 7) (d := some 17) (v := ?_) rfl (Or.inl ⟨by kernel_rfl, ?_⟩) hS ?_; rotate_left 1; (intro w' hS'; clear hS'; go_simp; try with_reducible rfl); simp only [Act.put, q1, q2, q3]
              refine tk (i := 8) (d := some 18) (v := ?_) rfl (Or.inl ⟨by kernel_rfl, ?_⟩) hS ?_; rotate_left 1; (intro w' hS'; clear hS'; go_simp; try with_reducible rfl); simp only [Act.put, q1, q2, q3]
              refine tk (i := 9) (d := some 19) (v := ?_) rfl (Or.inl ⟨by kernel_rfl, ?_⟩) hS ?_; rotate_left 1; (intro w' hS'; clear hS'; go_simp; try with_reducible rfl); simp only [Act.put, q1, q2, q3]
              refine tk (i := 10) (d := some 20) (v := ?_) rfl (Or.inl ⟨by kernel_rfl, ?_⟩) hS ?_; rotate_left 1; (intro w' hS'; clear hS'; go_simp; try with_reducible rfl); simp only [Act.put, q1, q2, q3]
              refine tk (i := 11) (d := some 21) (v := ?_) rfl (Or.inl ⟨by kernel_rfl, ?_⟩) hS ?_; rotate_left 1; (intro w' hS'; have h1 := cellFr hS' (fun h => h) c0; clear hS'; go_simp; try with_reducible rfl); simp only [Act.put, q1, q2, q3]
              refine tk (i := 12) (d := some 22) (v := ?_) rfl (Or.inl ⟨by kernel_rfl, ?_⟩) hS ?_; rotate_left 1; (intro w' hS'; clear hS'; go_simp; try with_reducible rfl); simp only [Act.put, q1, q2, q3]
              refine tk (i := 13) (d := some 23) (v := .bool false) rfl (Or.inl ⟨by kernel_rfl, fun w' hS' => by clear hS'; go_simp; try rw [decide_eq_false e3]⟩) hS ?_; simp only [Act.put, q1, q2, q3]
              refine tk (i := 14) (d := some 24) (v := ?_) rfl (Or.inl ⟨by kernel_rfl, ?_⟩) hS ?_; rotate_left 1; (intro w' hS'; clear hS'; go_simp; try with_reducible rfl); simp only [Act.put, q1, q2, q3]
              refine tk (i := 15) (d := some 25) (v := ?_) rfl (Or.inl ⟨by kernel_rfl, ?_⟩) hS ?_; rotate_left 1; (intro w' hS'; clear hS'; go_simp; try with_reducible rfl); simp only [Act.put, q1, q2, q3]
              refine tk (i := 16) (d := some 26) (v := ?_) rfl (Or.inl ⟨by kernel_rfl, ?_⟩) hS ?_; rotate_left 1; (intro w' hS'; clear hS'; go_simp; try with_reducible rfl); simp only [Act.put, q1, q2, q3]
              refine tk (i := 17) (d := some 27) (v := ?_) rfl (Or.inl ⟨by kernel_rfl, ?_⟩) hS ?_; rotate_left 1; (intro w' hS'; clear hS'; go_simp; try with_reducible rfl); simp only [Act.put, q1, q2, q3]
              refine tk (i := 18) (d := some 28) (v := ?_) rfl (Or.inl ⟨by kernel_rfl, ?_⟩) hS ?_; rotate_left 1; (intro w' hS'; clear hS'; go_simp; try with_reducible rfl); simp only [Act.put, q1, q2, q3]
              refine tk (i := 19) (d := some 29) (v := ?_) rfl (Or.inl ⟨by kernel_rfl, ?_⟩) hS ?_; rotate_left 1; (intro w' hS'; clear hS'; go_simp; try with_reducible rfl); simp only [Act.put, q1, q2, q3]
              refine tk (i := 20) (d := some 30) (v := ?_) rfl (Or.inl ⟨by kernel_rfl, ?_⟩) hS ?_; rotate_left 1; (intro w' hS'; have h1 := cellFr hS' (fun h => h) c1; clear hS'; go_simp; try with_reducible rfl); simp only [Act.put, q1, q2, q3]
              refine tk (i := 21) (d := some 31) (v := ?_) rfl (Or.inl ⟨by kernel_rfl, ?_⟩) hS ?_; rotate_left 1; (intro w' hS'; clear hS'; go_simp; try with_reducible rfl); simp only [Act.put, q1, q2, q3]
              refine tk (i := 22) (d := some 32) (v := ?_) rfl (Or.inl ⟨by kernel_rfl, ?_⟩) hS ?_; rotate_left 1; (intro w' hS'; clear hS'; go_simp; try with_reducible rfl); simp only [Act.put, q1, q2, q3]
              refine tk (i := 23) (d := some 33) (v := ?_) rfl (Or.inl ⟨by kernel_rfl, ?_⟩) hS ?_; rotate_left 1; (intro w' hS'; clear hS'; go_simp; try with_reducible rfl); simp only [Act.put, q1, q2, q3]
              refine tk (i := 24) (d := some 34) (v := ?_) rfl (Or.inl ⟨by kernel_rfl, ?_⟩) hS ?_; rotate_left 1; (intro w' hS'; clear hS'; go_simp; try with_reducible rfl); simp only [Act.put, q1, q2, q3]
              refine tk (i := 25) (d := some 35) (v := ?_) rfl (Or.inl ⟨by kernel_rfl, ?_⟩) hS ?_; rotate_left 1; (intro w' hS'; clear hS'; go_simp; try with_reducible rfl); simp only [Act.put, q1, q2, q3]
              refine tk (i := 26) (d := some 36) (v := ?_) rfl (Or.inl ⟨by kernel_rfl, ?_⟩) hS ?_; rotate_left 1; (intro w' hS'; clear hS'; go_simp; try with_reducible rfl); simp only [Act.put, q1, q2, q3]
              refine tk (i := 27) (d := some 37) (v := ?_) rfl (Or.inl ⟨by kernel_rfl, ?_⟩) hS ?_; rotate_left 1; (intro w' hS'; clear hS'; go_simp; try with_reducible rfl); simp only [Act.put, q1, q2, q3]
              refine tk (i := 28) (d := some 38) (v := ?_) rfl (Or.inl ⟨by kernel_rfl, ?_⟩) hS ?_; rotate_left 1; (intro w' hS'; have h1 := cellFr hS' (fun h => h) c1; clear hS'; go_simp; try with_reducible rfl); simp only [Act.put, q1, q2, q3]
              refine tk (i := 29) (d := some 39) (v := ?_) rfl (Or.inl ⟨by kernel_rfl, ?_⟩) hS ?_; rotate_left 1; (intro w' hS'; clear hS'; go_simp; try with_reducible rfl); simp only [Act.put, q1, q2, q3]
              refine tk (i := 30) (d := some 40) (v := .bool true) rfl (Or.inl ⟨by kernel_rfl, fun w' hS' => by clear hS'; go_simp; try rw [decide_eq_true e4]⟩) hS ?_; simp only [Act.put, q1, q2, q3]
              refine tk (i := 31) (d := some 41) (v := ?_) rfl (Or.inl ⟨by kernel_rfl, ?_⟩) hS ?_; rotate_left 1; (intro w' hS'; clear hS'; go_simp; try with_reducible rfl); simp only [Act.put, q1, q2, q3]
              refine tk (i := 32) (d := some 42) (v := ?_) rfl (Or.inl ⟨by kernel_rfl, ?_⟩) hS ?_; rotate_left 1; (intro w' hS'; clear hS'; go_simp; try with_reducible rfl); simp only [Act.put, q1, q2, q3]
              refine tks (i := 33) (d := some 43) rfl hS ?_; simp only [Act.put, q1, q2, q3]
              refine tks (i := 34) (d := some 44) rfl hS ?_; simp only [Act.put, q1, q2, q3]
              refine tks (i := 35) (d := some 45) rfl hS ?_; simp only [Act.put, q1, q2, q3]
              refine tks (i := 36) (d := some 46) rfl hS ?_; simp only [Act.put, q1, q2, q3]
              refine tks (i := 37) (d := some 47) rfl hS ?_; simp only [Act.put, q1, q2, q3]
              refine tks (i := 38) (d := some 48) rfl hS ?_; simp only [Act.put, q1, q2, q3]
              refine tks (i := 39) (d := some 49) rfl hS ?_; simp only [Act.put, q1, q2, q3]
              refine tks (i := 40) (d := some 50) rfl hS ?_; simp only [Act.put, q1, q2, q3]
              refine tks (i := 41) (d := some 51) rfl hS ?_; simp only [Act.put, q1, q2, q3]
              refine tks (i := 42) (d := some 52) rfl hS ?_; simp only [Act.put, q1, q2, q3]
              refine tks (i := 43) (d := some 53) rfl hS ?_; simp only [Act.put, q1, q2, q3]
              refine tks (i := 44) (d := some 54) rfl hS ?_; simp only [Act.put, q1, q2, q3]
              refine tks (i := 45) (d := some 55) rfl hS ?_; simp only [Act.put, q1, q2, q3]
              refine tks (i := 46) (d := some 56) rfl hS ?_; simp only [Act.put, q1, q2, q3]
              refine tks (i := 47) (d := some 57) rfl hS ?_; simp only [Act.put, q1, q2, q3]
              refine tks (i := 48) (d := some 58) rfl hS ?_; simp only [Act.put, q1, q2, q3]
              refine tk (i := 49) (d := some 59) (v := ?_) rfl (Or.inl ⟨by kernel_rfl, ?_⟩) hS ?_; rotate_left 1; (intro w' hS'; clear hS'; go_simp; try with_reducible rfl); simp only [Act.put, q1, q2, q3]
              refine wpAnyH_done (by kernel_rfl) ?_ _
              have FZ := hid (HFR.out.trans hS (fun _ _ h => h))
              clear hS
              go_wp2
              go_ret
              exact ⟨ret_bool HRF.out.symm, FZ.out⟩
    · have HRT := hid (show (T.txts l && T.asc (fun a b => T.blt a.1 b.1) l) = true from by
        rw [Bool.and_eq_true]
        refine ⟨List.all_eq_true.2 (fun p hp => ?_), T.asc_iff.2 (fun j a b ha hb => has j a b (by
          have := (List.getElem?_eq_some_iff.1 hb).1
          rw [HN.out] at this
          omega) ha hb)⟩
        obtain ⟨j, hj, e⟩ := List.getElem_of_mem hp
        exact htx j p (by rw [HN.out] at hj; omega) (by rw [List.getElem?_eq_getElem hj, e]))
      have hkn : ¬ ((k : Int) < (n : Int)) := by omega
      clear hall hk htx has hlt hfr
      go_wp2
      go_ret
      exact ⟨ret_bool HRT.out.symm, HFR.out⟩
end Go.Proofs.YtilbdpnioajkoaaGreat

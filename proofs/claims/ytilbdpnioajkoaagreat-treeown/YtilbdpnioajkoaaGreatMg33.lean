/-
  The document's tree: set.
  Tree's laws begin with a node that comes under the root: begun.
  A tree by operations: made.
-/
import Derived.Test.YtilbdpnioajkoaaGreatMg30
import Derived.Test.YtilbdpnioajkoaaGreatTSameQ
import Derived.Test.YtilbdpnioajkoaaGreatMg5
import Derived.Test.YtilbdpnioajkoaaGreatMg32
import Derived.Test.YtilbdpnioajkoaaGreatTDo1Q
import Derived.Test.YtilbdpnioajkoaaGreatMg12
namespace Go.Proofs.YtilbdpnioajkoaaGreat
open Go.RowKit Go.Maps
set_option linter.unusedVariables false
set_option linter.unusedSimpArgs false
set_option maxRecDepth 100000
attribute [local go_sem] Oper.semAt_some
theorem T.geq_op (w : World) (a b : ByteArray) : (Op.stringOp .geq a b).run Tryz.prog w = .ok (.bool (!T.blt a b)) w := by
  unfold Op.stringOp
  simp only [Sem.run_pure]
  rw [T.bl_blt]
theorem T.geq_str (w : World) (a b : ByteArray) : (binOp .geq 9 (.string a) (.string b)).run Tryz.prog w = .ok (.bool (!T.blt a b)) w := by
  have h := T.geq_op w a b
  unfold binOp
  simp [Tryz.underlying9, go_sem, h]
/-- what set has gathered, in memory -/
def U.Sv (w wr : World) (a : Option Addr) (c m : Nat) (xs : T.At) : Prop := xs.length = m ∧ Ro wr 65 2 a m c (T.flatA xs) ∧ (∀ g, blk a = some g → w.heap.size ≤ g) ∧ Fr (fun _ => False) w wr
theorem U.Sv.add {w wr : World} {a : Option Addr} {c m : Nat} {xs : T.At} (h : U.Sv w wr a c m xs) (hb : m ≤ 5000000000000) (x : T.Pr) :
    ∃ a' c' w', (Builtin.append_ #[61, 61] 61 #[.slice a m c, .slice (some ⟨wr.heap.size, 0, none⟩) 1 1]).run Tryz.prog (wr.alloc (.cells #[.string x.1, .string x.2] 65)) = .ok (.slice a' (m + 1) c') w' ∧ U.Sv w w' a' c' (m + 1) (xs ++ [x]) := by
  obtain ⟨h1, h2, h3, h4⟩ := h
  obtain ⟨a', c', w', hr, ho, hg, hn⟩ := T.attr_append wr a c m (T.flatA xs) h2 hb x
  have f0 : Fr (fun _ => False) wr (wr.alloc (.cells #[.string x.1, .string x.2] 65)) := Fr.alloc (Fr.refl _ _) _
  have f1 : Fr (fun k => blk a = some k) wr w' := (f0.mono (fun _ _ h => h.elim)).trans (Fr.of_grown hg) (fun i _ e => by simpa using e)
  refine ⟨a', c', w', hr, by rw [List.length_append, h1]; rfl, ?_, fun g hg => ?_, h4.trans f1 (fun i hi e => by have := h3 i e; omega)⟩
  · rw [T.flatA_append]; exact ho
  · rcases hn g hg with h | h
    · exact h3 g h
    · exact Nat.le_trans h4.size h
set_option maxHeartbeats 4000000 in
theorem uset_any {w : World} {I : Nat → Prop} {ra : Option Addr} {rc : Nat} {l : T.At} (hR : Rw I w 2 ra l.length (T.flatA l)) (hb : l.length ≤ 2000000000000) (k v : ByteArray) :
    Calls Tryz.prog 57 #[.slice ra l.length rc, .string k, .string v] w fun e w' => ∃ a c, e = .returned (.slice a (U.sfin k v (U.sgo k v l)).length c) ∧ Ro w' 65 2 a (U.sfin k v (U.sgo k v l)).length c (T.flatA (U.sfin k v (U.sgo k v l))) ∧ (∀ g, blk a = some g → w.heap.size ≤ g) ∧ Fr (fun _ => False) w w' := by
  obtain ⟨n, hn⟩ : ∃ n, l.length = n := ⟨_, rfl⟩
  have HN := hid hn
  have HR := hid hR
  have hnil : U.sgo k v [] = ([], v.toList.isEmpty) := rfl
  rw [hn] at hb ⊢
  clear hn hR
  obtain ⟨ve, hve⟩ : ∃ b, v.toList.isEmpty = b := ⟨_, rfl⟩
  have q0 : (v.toList == [])  = ve := by rw [← hve]; cases v.toList <;> rfl
  rw [hve] at hnil
  have HNI := hid hnil
  clear hnil
  go_enter Tryz.func57, Tryz.ntmps57
  go_wp2_with fail
  go_loopw [7, 8, 9] (fun out dn i wr => ∃ (j m : Nat) (a : Option Addr) (c : Nat) (d : Bool), i = .int .i64 j ∧ out = .slice a m c ∧ dn = .bool d ∧ Hid (j ≤ n ∧ ∃ xs, U.sgo k v (l.take j) = (xs, d) ∧ U.Sv w wr a c m xs))
    (fun _ _ i _ => (n - intOf i).toNat)
  case atStart => exact ⟨0, 0, none, 0, ve, rfl, rfl, by first | rfl | (rw [hve]) | (simp [hve]), hid ⟨Nat.zero_le _, [], by rw [List.take_zero]; exact HNI.out, rfl, Ro.nil _ _ _, by simp [blk], Fr.refl _ _⟩⟩
  case round =>
    obtain ⟨j, m, a, c, d, rfl, rfl, rfl, hall⟩ := hrel
    obtain ⟨hk, xs, hgo, hsv⟩ := hall.out
    have hm2 : m ≤ 4000000000000 := by
      have h1 := U.sgo_len k v (l.take j)
      rw [hgo, List.length_take, HN.out] at h1
      have h2 := hsv.1
      simp only at h1
      omega
    have HSV := hid hsv
    by_cases hlt : j < n
    · obtain ⟨p, hp⟩ : ∃ p, l[j]? = some p := ⟨_, List.getElem?_eq_getElem (by rw [HN.out]; exact hlt)⟩
      have hst := U.sgo_take (k := k) (v := v) hp
      rw [hgo] at hst
      obtain ⟨g, o, rfl, a0, a1⟩ := T.flatA_cells (HR.out.kept hsv.2.2.2 (fun _ _ h => h)) hp
      have HA := hid (fun (V : World) (hf : Fr (fun _ => False) w V) => by
        obtain ⟨g', o', e, b0, b1⟩ := T.flatA_cells (HR.out.kept hf (fun _ _ h => h)) hp
        cases e
        exact And.intro b0 b1)
      obtain ⟨p1, p2⟩ := p
      simp only at a0 a1
      have i0 : (0 : Int) ≤ (j : Int) := by omega
      have i1 : (j : Int) < (n : Int) := by omega
      have hj1 : j + 1 ≤ n := hlt
      have HGE := hid (T.geq_str)
      have ge := T.geq_str
      cases d with
      | true =>
        by_cases e : p1 = k
        · have HREL := hid (show j + 1 ≤ n ∧ ∃ xs, U.sgo k v (l.take (j + 1)) = (xs, true) ∧ U.Sv w wr a c m xs from ⟨hj1, xs, by rw [hst]; simp [U.sstep, e], hsv⟩)
          have q1 : (p1.toList == k.toList) = true := by rw [e]; simp
          clear hall hk hgo hsv hlt hp hst hj1 e
          go_wp2_with fail
          go_roundw
          case rel => exact ⟨j + 1, m, a, c, true, by first | go_num | rfl | trivial, by first | rfl | trivial, by first | rfl | trivial, HREL⟩
          case measure => simp [intOf]; omega
        · obtain ⟨a', c', w2, hr, hs2⟩ := hsv.add (by omega) (p1, p2)
          have HREL := hid (show j + 1 ≤ n ∧ ∃ xs, U.sgo k v (l.take (j + 1)) = (xs, true) ∧ U.Sv w w2 a' c' (m + 1) xs from ⟨hj1, xs ++ [(p1, p2)], by rw [hst]; simp [U.sstep, e], hs2⟩)
          have q1 : (p1.toList == k.toList) = false := by
            cases hq : (p1.toList == k.toList) with
            | false => rfl
            | true => exact absurd (T.ba_ext (by rw [← ByteArray.toList_eq, ← ByteArray.toList_eq]; exact eq_of_beq hq)) e
          have R := hid hr
          clear hall hk hgo hsv hlt hp hst hj1 e hr hs2
          go_wp2_with (first
            | (at_builtin; refine wpList_append_eq _ _ rfl _ _ _ rfl _ _ _ rfl rfl (by exact R.out) ?_))
          go_roundw
          case rel => exact ⟨j + 1, m + 1, a', c', true, by first | go_num | rfl | trivial, by first | rfl | trivial, by first | rfl | trivial, HREL⟩
          case measure => simp [intOf]; omega
      | false =>
        cases hbl : T.blt p1 k with
        | true =>
          have e : p1 ≠ k := fun e => by rw [e, T.blt_irrefl] at hbl; cases hbl
          obtain ⟨a', c', w2, hr, hs2⟩ := hsv.add (by omega) (p1, p2)
          have HREL := hid (show j + 1 ≤ n ∧ ∃ xs, U.sgo k v (l.take (j + 1)) = (xs, false) ∧ U.Sv w w2 a' c' (m + 1) xs from ⟨hj1, xs ++ [(p1, p2)], by rw [hst]; simp [U.sstep, e, hbl], hs2⟩)
          have q1 : (p1.toList == k.toList) = false := by
            cases hq : (p1.toList == k.toList) with
            | false => rfl
            | true => exact absurd (T.ba_ext (by rw [← ByteArray.toList_eq, ← ByteArray.toList_eq]; exact eq_of_beq hq)) e
          have R := hid hr
          have ge2 := fun W => ge W p1 k
          simp only [hbl, Bool.not_true] at ge2
          clear hall hk hgo hsv hlt hp hst hj1 e hr hs2 ge
          go_wp2_with (first
            | (at_builtin; refine wpList_append_eq _ _ rfl _ _ _ rfl _ _ _ rfl rfl (by exact R.out) ?_))
          go_roundw
          case rel => exact ⟨j + 1, m + 1, a', c', false, by first | go_num | rfl | trivial, by first | rfl | trivial, by first | rfl | trivial, HREL⟩
          case measure => simp [intOf]; omega
        | false =>
          obtain ⟨a', c', w2, hr, hs2⟩ := hsv.add (by omega) (k, v)
          obtain ⟨b0, b1⟩ := HA.out w2 hs2.2.2.2
          simp only at b0 b1
          have ge2 := fun W => ge W p1 k
          simp only [hbl, Bool.not_false] at ge2
          have R := hid hr
          by_cases e : p1 = k
          · have HREL := hid (show j + 1 ≤ n ∧ ∃ xs, U.sgo k v (l.take (j + 1)) = (xs, true) ∧ U.Sv w w2 a' c' (m + 1) xs from ⟨hj1, xs ++ [(k, v)], by rw [hst]; simp [U.sstep, e, T.blt_irrefl], hs2⟩)
            have q1 : (p1.toList == k.toList) = true := by rw [e]; simp
            clear hall hk hgo hsv hlt hp hst hj1 e hr hs2 ge
            go_wp2_with (first
              | (at_builtin; refine wpList_append_eq _ _ rfl _ _ _ rfl _ _ _ rfl rfl (by exact R.out) ?_))
            go_roundw
            case rel => exact ⟨j + 1, m + 1, a', c', true, by first | go_num | rfl | trivial, by first | rfl | trivial, by first | rfl | trivial, HREL⟩
            case measure => simp [intOf]; omega
          · obtain ⟨a2, c2, w3, hr2, hs3⟩ := hs2.add (by omega) (p1, p2)
            have HREL := hid (show j + 1 ≤ n ∧ ∃ xs, U.sgo k v (l.take (j + 1)) = (xs, true) ∧ U.Sv w w3 a2 c2 (m + 1 + 1) xs from ⟨hj1, xs ++ [(k, v)] ++ [(p1, p2)], by rw [hst]; simp [U.sstep, e, hbl], hs3⟩)
            have q1 : (p1.toList == k.toList) = false := by
              cases hq : (p1.toList == k.toList) with
              | false => rfl
              | true => exact absurd (T.ba_ext (by rw [← ByteArray.toList_eq, ← ByteArray.toList_eq]; exact eq_of_beq hq)) e
            have R2 := hid hr2
            clear hall hk hgo hsv hlt hp hst hj1 e hr hs2 ge hr2 hs3
            go_wp2_with (first
              | (at_builtin; refine wpList_append_eq _ _ rfl _ _ _ rfl _ _ _ rfl rfl (by exact R.out) ?_)
              | (at_builtin; refine wpList_append_eq _ _ rfl _ _ _ rfl _ _ _ rfl rfl (by exact R2.out) ?_))
            go_roundw
            case rel => exact ⟨j + 1, m + 1 + 1, a2, c2, true, by first | go_num | rfl | trivial, by first | rfl | trivial, by first | rfl | trivial, HREL⟩
            case measure => simp [intOf]; omega
    · have hjn : j = n := by omega
      subst hjn
      have hnn : ¬ ((j : Int) < (j : Int)) := by omega
      rw [List.take_of_length_le (by rw [HN.out]; exact Nat.le_refl _)] at hgo
      cases d with
      | true =>
        have FIN := hid (show ∃ a c', Ending.returned (.slice a m c) = Ending.returned (.slice a m c) ∧ True from ⟨a, c, rfl, trivial⟩)
        have HFN := hid (show (U.sfin k v (U.sgo k v l)) = xs from by rw [hgo]; rfl)
        clear hall hk hgo hsv hlt FIN
        go_wp2_with fail
        go_ret
        obtain ⟨s1, s2, s3, s4⟩ := HSV.out
        rw [HFN.out, s1]
        exact ⟨a, c, rfl, s2, s3, s4⟩
      | false =>
        obtain ⟨a', c', w2, hr, hs2⟩ := hsv.add (by omega) (k, v)
        have HS2 := hid hs2
        have R := hid hr
        have HFN := hid (show (U.sfin k v (U.sgo k v l)) = xs ++ [(k, v)] from by rw [hgo]; rfl)
        clear hall hk hgo hsv hlt hr hs2
        go_wp2_with (first
          | (at_builtin; refine wpList_append_eq _ _ rfl _ _ _ rfl _ _ _ rfl rfl (by exact R.out) ?_))
        go_ret
        obtain ⟨s1, s2, s3, s4⟩ := HS2.out
        rw [HFN.out, s1]
        exact ⟨a', c', rfl, s2, s3, s4⟩
end Go.Proofs.YtilbdpnioajkoaaGreat

namespace Go.Proofs.YtilbdpnioajkoaaGreat
open Go.RowKit Go.Maps
set_option linter.unusedVariables false
set_option maxRecDepth 100000
set_option linter.unusedSimpArgs false

def T.op5 : S.Op := ⟨0, 0, 1, 5, 1, ⟨#[97]⟩, ⟨#[]⟩, ⟨#[]⟩⟩
theorem T.kids_zero (n : Int) (s : ByteArray) : T.kids T.zero n s = [] := by simp [T.kids, T.zero]
theorem T.up_zero : A.Up T.zero := by simp [A.Up, T.zero]
theorem T.may5 : T.may1 T.zero T.op5 = true := by
  have h : T.nam T.op5.a = true := by simp [T.nam, T.txt, T.slash, T.op5, ByteArray.toList_eq, ByteArray.size]
  simp [T.may1, h]
  decide
theorem T.look5 : T.lookup (A.put 5 ⟨1, ⟨#[97]⟩, []⟩ T.zero) 1 ⟨#[97]⟩ = some 5 := by decide
theorem T.len5 : (A.put 5 ⟨1, ⟨#[97]⟩, []⟩ T.zero : T.Tr).length = 3 := by decide
set_option maxHeartbeats 1600000 in
theorem tbegun_any (w : World) : Calls Tryz.prog 8 #[] w fun e w' => e = .returned (.bool true) ∧ Fr (fun _ => False) w w' := by
  have KN := hid tnew_any
  have KD := hid (show ∀ (c : Nat → Option T.Col) (V : World) (p : Nat), Tm c V 0 p 0 0 T.zero → Lo c V.heap.size → Calls Tryz.prog 19 #[ptr p, .agg T.op5.cs] V fun e w' => Fr (fun i => c i ≠ none) V w' ∧ ∃ d c' mb' f', e = .returned (.tuple #[.agg #[ptr d], .bool true]) ∧ Tf c' w' 2 p 1 1 (A.put 5 ⟨1, ⟨#[97]⟩, []⟩ T.zero) mb' f' from fun c V p ⟨mb, f, hT⟩ hl =>
    (do1_any hT hl (by decide) (by decide) (by decide) T.up_zero (by decide) T.op5 (by unfold S.Op.in64 T.op5; decide) rfl T.may5 (T.kids_zero _)).mono (fun e w' ⟨h1, d, v, c', f', h2, h3, h4, h5, h6⟩ => ⟨h1, d, c', mb, f', h2, h5⟩))
  go_enter Tryz.func8, Tryz.ntmps8
  go_wp2_with (first
    | (go_at_call 6; refine (KN.out _).mono ?_; rintro e w1 ⟨p, c, rfl, hT, f1, hlo⟩; have HT := hid hT; have F1 := hid f1; have HLO := hid hlo; clear hT f1 hlo))
  have LO := hid (show Lo c w1.heap.size from fun i hi => (HLO.out i hi).2)
  refine (KD.out c w1 p HT.out LO.out).mono ?_
  rintro e w2 ⟨fx, d, c', mb, f, rfl, hT⟩
  have F2 := hid (F1.out.trans fx (fun i hi e => absurd (HLO.out i e).1 (by omega)))
  have hT := hT.kept (Fr.alloc (Fr.refl (fun _ => False) w2) (.cells #[ptr d] 53)) (fun _ _ h => h)
  have KL := hid (lookup_any hT (n := 1) (by decide) (s := ⟨#[97]⟩) (by decide))
  rw [T.look5] at KL
  have KS := hid (tlen_any hT)
  rw [T.len5] at KS
  clear fx hT
  dsimp only
  go_wp2_with (first
    | (go_at_call 24; refine KL.out.mono ?_; rintro e wx ⟨rfl, rfl⟩)
    | (go_at_call 10; refine KS.out.mono ?_; rintro e wx ⟨rfl, rfl⟩))
  go_ret
  exact ⟨rfl, Fr.alloc F2.out _⟩
end Go.Proofs.YtilbdpnioajkoaaGreat

namespace Go.Proofs.YtilbdpnioajkoaaGreat
open Go.RowKit Go.Maps
set_option linter.unusedVariables false
set_option linter.unusedSimpArgs false
set_option maxRecDepth 100000
/-- operations, done one by one, each if the guard takes it -/
noncomputable def T.step (t : T.Tr) (o : S.Op) : T.Tr := if T.guard t o = true then T.doOp t o else t
noncomputable def T.play (t : T.Tr) (l : List S.Op) : T.Tr := l.foldl T.step t
theorem T.play_take {t : T.Tr} {l : List S.Op} {k : Nat} {o : S.Op} (h : l[k]? = some o) : T.play t (l.take (k + 1)) = T.step (T.play t (l.take k)) o := by
  unfold T.play
  rw [List.take_add_one, h, List.foldl_append]
  rfl
/-- a list of operations in memory -/
def T.Ops (I : Nat → Prop) (w : World) (a : Option Addr) (os : List S.Op) : Prop := Rw I w 8 a os.length (os.map (fun o => o.cs.toList)).flatten
theorem T.Ops.kept {I M : Nat → Prop} {w w' : World} {a : Option Addr} {os : List S.Op} (h : T.Ops I w a os) (hf : Fr M w w') (hS : ∀ i, I i → ¬ M i) : T.Ops I w' a os := Rw.kept h hf hS
theorem T.ops_get : ∀ (xs : List S.Op) (j : Nat), ((xs.map (fun o => o.cs.toList)).flatten)[j]? = (xs[j / 8]?).bind (fun x => x.cs.toList[j % 8]?)
  | [], j => by simp
  | x :: r, j => by
    have e : ((x :: r).map (fun o : S.Op => o.cs.toList)).flatten = x.cs.toList ++ (r.map (fun o => o.cs.toList)).flatten := rfl
    rw [e]
    by_cases h : j < 8
    · rw [List.getElem?_append_left (by simpa using h), show j / 8 = 0 by omega, show j % 8 = j by omega]
      rfl
    · rw [List.getElem?_append_right (by simp; omega), T.ops_get r]
      have : x.cs.toList.length = 8 := rfl
      rw [this, show (j - 8) / 8 = j / 8 - 1 by omega, show (j - 8) % 8 = j % 8 by omega, show j / 8 = (j / 8 - 1) + 1 by omega, List.getElem?_cons_succ]
      rfl
theorem T.Ops.cell {I : Nat → Prop} {w : World} {a : Option Addr} {os : List S.Op} (h : T.Ops I w a os) {k : Nat} {o : S.Op} (ho : os[k]? = some o) : ∃ g q, a = some ⟨g, q, none⟩ ∧ I g ∧ ∀ j u, j < 8 → o.cs.toList[j]? = some u → w.cell? ⟨g, q + k * 8 + j, none⟩ = some u := by
  rcases h.2 with h0 | ⟨g, q, h1, hI, h2⟩
  · have := (List.getElem?_eq_some_iff.1 ho).1
    omega
  · refine ⟨g, q, h1, hI, fun j u hj hu => ?_⟩
    have := h2 (k * 8 + j) u (by rw [T.ops_get, show (k * 8 + j) / 8 = k by omega, ho, show (k * 8 + j) % 8 = j by omega]; exact hu)
    rw [← Nat.add_assoc] at this
    exact this
/-- what is done, or not, in one -/
theorem tstep_any {c : Nat → Option T.Col} {w : World} {bud p : Nat} {dos last : Int} {t : T.Tr} {mb : Nat} {f : Int → Nat} (h : Gd c w bud p dos last t mb f) (hb : bud < 8000000000000) (hd : dos < 1000000000000000000) (o : S.Op) (hi : o.in64) :
    Calls Tryz.prog 19 #[ptr p, .agg o.cs] w fun e w' => Fr (fun i => c i ≠ none) w w' ∧ ((T.guard t o = false ∧ e = .returned (.tuple #[.agg #[.pointer none], .bool false]) ∧ Gd c w' bud p dos last t mb f ∧ Fr (fun _ => False) w w') ∨ (T.guard t o = true ∧ ∃ d v un c' f' bud', e = .returned (.tuple #[.agg #[ptr d], .bool true]) ∧ More c c' w.heap.size ∧ Gd c' w' bud' p (dos + 1) (dos + 1) (T.doOp t o) mb f' ∧ T.Held c' w' p ⟨d, dos + 1, last, v, un⟩ ∧ T.Undoes f' un (T.doOp t o) t ∧ (∀ k, (A.get k t).isSome = true → f' k = f k) ∧ bud' + T.U.sp ⟨d, dos + 1, last, v, un⟩ = bud + 2)) := by
  cases hg : T.guard t o with
  | false =>
    refine (do_no (v := ptr p) o (fun V hf => ?_)).mono ?_
    · have := tmay_any (h.kept hf (fun _ _ h => h)) o hi
      rw [hg] at this
      exact this
    · rintro e w' ⟨rfl, hf⟩
      exact ⟨hf.mono (fun _ _ h => h.elim), .inl ⟨rfl, rfl, h.kept hf (fun _ _ h => h), hf⟩⟩
  | true =>
    refine (tdo_any h hb hd o hi hg).mono ?_
    rintro e w' ⟨h1, h2⟩
    exact ⟨h1, .inr ⟨rfl, h2⟩⟩
theorem T.infoU : (Tryz.prog.info? 53).map (fun i => (i.zero, i.size, i.bytes)) = some (some (.agg #[.pointer none]), 1, 8) := by kernel_rfl
theorem T.info_u : ∃ i z, Tryz.prog.info? 53 = some i ∧ i.zero = some z ∧ i.size = 1 ∧ i.bytes = 8 ∧ z.cells.size = 1 := by
  have h1 := T.infoU
  cases hi : Tryz.prog.info? 53 with
  | none => rw [hi] at h1; cases h1
  | some i =>
    rw [hi] at h1
    simp only [Option.map_some, Option.some.injEq, Prod.mk.injEq] at h1
    exact ⟨i, _, rfl, h1.1, h1.2.1, h1.2.2, rfl⟩
/-- one more Undo, behind the others -/
theorem T.undo_append (w : World) (ra : Option Addr) (rc n : Nat) (xs : List Value) (hrow : Ro w 53 1 ra n rc xs) (hb : n ≤ 10000000000000) (d : Nat) :
    ∃ ra' rc' w', (Builtin.append_ #[58, 58] 58 #[.slice ra n rc, .slice (some ⟨w.heap.size, 0, none⟩) 1 1]).run Tryz.prog (w.alloc (.cells #[ptr d] 53)) = .ok (.slice ra' (n + 1) rc') w' ∧
      Ro w' 53 1 ra' (n + 1) rc' (xs ++ [ptr d]) ∧ Fr (fun k => blk ra = some k) w w' ∧ (∀ k, blk ra' = some k → blk ra = some k ∨ w.heap.size ≤ k) := by
  obtain ⟨i0, z0, hi, hz0, hz1, hz2, hz3⟩ := T.info_u
  have f0 : Fr (fun _ => False) w (w.alloc (.cells #[ptr d] 53)) := Fr.alloc (Fr.refl _ _) _
  have hn := Go.heap_alloc_new w (.cells #[ptr d] 53)
  obtain ⟨a', c', w', hr, h2, h3, h4⟩ := run_append_o (P := Tryz.prog) (w.alloc (.cells #[ptr d] 53)) 58 58 53 i0 z0 1 8 Tryz.underlying58 hi hz0 hz1 hz2 hz3 (by omega) ra n rc xs (hrow.kept f0 (fun _ _ h => h)) ⟨w.heap.size, 0, none⟩ 1 1 [ptr d] rfl (fun j u hu => by
    rw [Addr.add_lit, Nat.zero_add]
    exact cellA hn (by rw [← Array.getElem?_toList]; exact hu)) (fun u hu => by simp at hu; subst hu; rfl) (by omega) (by omega) (by omega)
  refine ⟨a', c', w', hr, h2, (f0.mono (fun _ _ h => h.elim)).trans (Fr.of_grown h3) (fun i hi e => e), fun k hk => ?_⟩
  rcases h4 with ⟨rfl, _⟩ | ⟨rfl, _⟩
  · exact .inl hk
  · simp [blk] at hk; exact .inr (by omega)
set_option maxHeartbeats 3200000 in
theorem made_any {I : Nat → Prop} {w : World} {a : Option Addr} {cap : Nat} {os : List S.Op} (h : T.Ops I w a os) (hi : ∀ o ∈ os, o.in64) (hl : os.length ≤ 1599289640401) (hI : ∀ g, I g → g < w.heap.size) :
    Calls Tryz.prog 21 #[.slice a os.length cap] w fun e w' => ∃ p la ln lc c bud dos mb f, e = .returned (.tuple #[ptr p, .slice la ln lc]) ∧ Gd c w' bud p dos dos (T.play T.zero os) mb f ∧ dos ≤ os.length ∧ bud ≤ 2 * os.length ∧ (∀ n x, A.get n (T.play T.zero os) = some x → x.ats.length ≤ os.length) ∧ (T.play T.zero os).length ≤ os.length + 2 ∧ Fr (fun _ => False) w w' ∧ (∀ i, c i ≠ none → w.heap.size ≤ i) := by
  have KN := hid (tnew_any w)
  have H := hid h
  have HI := hid hi
  have HB := hid hI
  obtain ⟨len, hn⟩ : ∃ len, os.length = len := ⟨_, rfl⟩
  rw [hn] at hl ⊢
  have HN := hid hn
  clear h hi hI hn
  go_enter Tryz.func21, Tryz.ntmps21
  go_wp2_with (first
    | (go_at_call 6; refine KN.out.mono ?_; rintro e w1 ⟨p, c, rfl, ⟨mb, f, hT⟩, f1, hlo⟩; have HT := hid hT; have F1 := hid f1; have HLO := hid hlo; clear hT f1 hlo))
  have HL := hid hl
  go_loopw [5, 7, 8, 9, 15] (fun l _ _ _ i wr => ∃ (k m : Nat) (la : Option Addr) (lc : Nat), i = .int .i64 k ∧ l = .slice la m lc ∧ Hid (k ≤ len ∧ m ≤ k ∧ ∃ c bud dos f xs, Gd c wr bud p dos dos (T.play T.zero (os.take k)) mb f ∧ dos ≤ k ∧ bud ≤ 2 * k ∧ (∀ n x, A.get n (T.play T.zero (os.take k)) = some x → x.ats.length ≤ k) ∧ (T.play T.zero (os.take k)).length ≤ k + 2 ∧ Fr (fun _ => False) w wr ∧ (∀ i, c i ≠ none → w.heap.size ≤ i) ∧ Ro wr 53 1 la m lc xs ∧ (∀ i, blk la = some i → w.heap.size ≤ i ∧ c i = none)))
    (fun _ _ _ _ i _ => len - (intOf i).toNat)
  case atStart =>
    refine ⟨0, 0, none, 0, rfl, rfl, hid ⟨Nat.zero_le _, Nat.le_refl _, c, 0, 0, f, [], ⟨HT.out, fun i hi => (HLO.out i hi).2, T.Wf.zero, fun n x hx => ?_, Int.le_refl _⟩, Int.le_refl _, Nat.le_refl _, fun n x hx => ?_, Nat.le_refl _, F1.out, fun i hi => (HLO.out i hi).1, Ro.nil _ _ _, by simp [blk]⟩⟩
    all_goals
      have := A.get_mem hx
      simp only [T.play, List.take_zero, List.foldl_nil, T.zero, List.mem_cons, Prod.mk.injEq, List.not_mem_nil, or_false] at this
      rcases this with ⟨_, rfl⟩ | ⟨_, rfl⟩ <;> simp [T.zn]
  case round =>
    obtain ⟨k, m, la, lc, rfl, rfl, hall⟩ := hrel
    by_cases hlt : k < len
    · obtain ⟨o, ho⟩ : ∃ q, os[k]? = some q := ⟨_, List.getElem?_eq_getElem (by rw [HN.out]; exact hlt)⟩
      obtain ⟨hk, hmk, c, bud, dos, f, xs, hG, hdk, hbk, hfk, htk, hfw, hcw, hro, hlw⟩ := hall.out
      have hoi := HI.out o (List.mem_of_getElem? ho)
      obtain ⟨g, q, rfl, hIg, hcell⟩ := (H.out.kept hfw (fun _ _ h => h)).cell ho
      have a0 : wr.cell? ⟨g, q + k * 8, none⟩ = some (.int .i64 o.t) := hcell 0 _ (by omega) rfl
      have a1 : wr.cell? ⟨g, q + k * 8 + 1, none⟩ = some (.int .i64 o.s) := hcell 1 _ (by omega) rfl
      have a2 : wr.cell? ⟨g, q + k * 8 + 2, none⟩ = some (.int .i64 o.k) := hcell 2 _ (by omega) rfl
      have a3 : wr.cell? ⟨g, q + k * 8 + 3, none⟩ = some (.int .i64 o.n) := hcell 3 _ (by omega) rfl
      have a4 : wr.cell? ⟨g, q + k * 8 + 4, none⟩ = some (.int .i64 o.p) := hcell 4 _ (by omega) rfl
      have a5 : wr.cell? ⟨g, q + k * 8 + 5, none⟩ = some (.string o.a) := hcell 5 _ (by omega) rfl
      have a6 : wr.cell? ⟨g, q + k * 8 + 6, none⟩ = some (.string o.b) := hcell 6 _ (by omega) rfl
      have a7 : wr.cell? ⟨g, q + k * 8 + 7, none⟩ = some (.string o.c) := hcell 7 _ (by omega) rfl
      have i0 : (0 : Int) ≤ (k : Int) := by omega
      have i1 : (k : Int) < (len : Int) := by omega
      obtain ⟨V1, hV1⟩ : ∃ V, wr.alloc (.cells o.cs 35) = V := ⟨_, rfl⟩
      have f1 : Fr (fun _ => False) wr V1 := by rw [← hV1]; exact Fr.alloc (Fr.refl _ _) _
      have z1 : V1.heap.size = wr.heap.size + 1 := by rw [← hV1, alloc_size]
      have k1 : V1.heap[wr.heap.size]? = some (.cells o.cs 35 (0, 0)) := by rw [← hV1]; exact Go.heap_alloc_new wr _
      have LP := hid (load_whole k1 (ty := 35) Tryz.underlying35 rfl (by kernel_rfl))
      have hG1 := hG.kept f1 (fun _ _ h => h)
      have KD := hid (tstep_any hG1 (by omega) (by omega) o hoi)
      have HV1 := hid hV1
      have ALL := hid (And.intro hk (And.intro hmk (And.intro hG (And.intro hdk (And.intro hbk (And.intro hfk (And.intro htk (And.intro hfw (And.intro hcw (And.intro hro hlw))))))))))
      have F1b := hid f1
      have Z1 := hid z1
      have HO := hid ho
      have HOI := hid hoi
      clear ho hk hmk hG hdk hbk hfk htk hfw hcw hro hlw hoi hIg hcell hV1 f1 z1 k1 hG1 hall
      go_upto_region 8 with fail
      clear a0 a1 a2 a3 a4 a5 a6 a7
      rw [HV1.out]
      go_wp2_with (first
        | (refine wpList_load_v LP.out (by exact ⟨_, rfl, rfl⟩) (by kernel_rfl) ?_))
      refine KD.out.mono ?_
      rintro e w2 ⟨hfr, (⟨hgd, rfl, hG2, hf2⟩ | ⟨hgd, d, v, un, c', f', bud', rfl, hM, hG2, hH, hU, hff, hbs⟩)⟩
      · obtain ⟨hk, hmk, hG, hdk, hbk, hfk, htk, hfw, hcw, hro, hlw⟩ := ALL.out
        have hpl : T.play T.zero (os.take (k + 1)) = T.play T.zero (os.take k) := by rw [T.play_take HO.out]; unfold T.step; rw [hgd]; rfl
        have fA : Fr (fun _ => False) w2 (w2.alloc (.cells #[.pointer none] 53)) := Fr.alloc (Fr.refl _ _) _
        have f12 := (F1b.out.trans hf2 (fun _ _ h => h)).trans fA (fun _ _ h => h)
        have FIN := hid (show k + 1 ≤ len ∧ m ≤ k + 1 ∧ ∃ c bud dos f xs, Gd c (w2.alloc (.cells #[.pointer none] 53)) bud p dos dos (T.play T.zero (os.take (k + 1))) mb f ∧ dos ≤ ((k + 1 : Nat) : Int) ∧ bud ≤ 2 * (k + 1) ∧ (∀ n x, A.get n (T.play T.zero (os.take (k + 1))) = some x → x.ats.length ≤ k + 1) ∧ (T.play T.zero (os.take (k + 1))).length ≤ k + 1 + 2 ∧ Fr (fun _ => False) w (w2.alloc (.cells #[.pointer none] 53)) ∧ (∀ i, c i ≠ none → w.heap.size ≤ i) ∧ Ro (w2.alloc (.cells #[.pointer none] 53)) 53 1 la m lc xs ∧ (∀ i, blk la = some i → w.heap.size ≤ i ∧ c i = none) from by
          rw [hpl]
          exact ⟨hlt, by omega, c, bud, dos, f, xs, hG2.kept fA (fun _ _ h => h), by omega, by omega, fun n x hx => by have := hfk n x hx; omega, by omega, hfw.trans f12 (fun _ _ h => h), hcw, hro.kept f12 (fun _ _ h => h), hlw⟩)
        clear hgd hG2 hf2 hfr hk hmk hG hdk hbk hfk htk hfw hcw hro hlw hpl fA f12
        dsimp only
        go_wp2
        go_roundw
        case rel => exact ⟨k + 1, m, la, lc, by first | go_num | rfl | trivial, by first | rfl | trivial, FIN⟩
        case measure => simp [intOf]; omega
      · obtain ⟨hk, hmk, hG, hdk, hbk, hfk, htk, hfw, hcw, hro, hlw⟩ := ALL.out
        have hpl : T.play T.zero (os.take (k + 1)) = T.doOp (T.play T.zero (os.take k)) o := by rw [T.play_take HO.out]; unfold T.step; rw [hgd]; rfl
        obtain ⟨V, hV⟩ : ∃ V, w2.alloc (.cells #[ptr d] 53) = V := ⟨_, rfl⟩
        have fA : Fr (fun _ => False) w2 V := by rw [← hV]; exact Fr.alloc (Fr.refl _ _) _
        have hrow2 := hro.kept ((F1b.out.mono (fun _ _ h => h.elim)).trans hfr (fun _ _ h => h)) (fun j hj e => e (hlw j hj).2)
        obtain ⟨la', lc', w3, hr3, hro3, hf3, hn3⟩ := T.undo_append V la lc m xs (hrow2.kept fA (fun _ _ h => h)) (by have := HL.out; omega) d
        have fw1 : Fr (fun _ => False) w V := ((hfw.trans F1b.out (fun _ _ h => h)).trans hfr (fun i hi e => by have := hcw i e; omega)).trans fA (fun _ _ h => h)
        have fw3 : Fr (fun _ => False) w w3 := fw1.trans hf3 (fun i hi e => by have := (hlw i e).1; omega)
        have hcl : ∀ i, blk la = some i → c' i = none := fun i hi => by
          rw [hM i (by have := hro.lt i hi; have := Z1.out; omega)]
          exact (hlw i hi).2
        have hG3 : Gd c' w3 bud' p (dos + 1) (dos + 1) (T.doOp (T.play T.zero (os.take k)) o) mb f' := (hG2.kept fA (fun _ _ h => h)).kept hf3 (fun i hi e => hi (hcl i e))
        have hcn : ∀ i, c' i ≠ none → w.heap.size ≤ i := fun i hi => by
          by_cases h : i < V1.heap.size
          · rw [hM i h] at hi; exact hcw i hi
          · have := hfw.size; have := Z1.out; omega
        have FIN := hid (show k + 1 ≤ len ∧ m + 1 ≤ k + 1 ∧ ∃ c bud dos f xs, Gd c w3 bud p dos dos (T.play T.zero (os.take (k + 1))) mb f ∧ dos ≤ ((k + 1 : Nat) : Int) ∧ bud ≤ 2 * (k + 1) ∧ (∀ n x, A.get n (T.play T.zero (os.take (k + 1))) = some x → x.ats.length ≤ k + 1) ∧ (T.play T.zero (os.take (k + 1))).length ≤ k + 1 + 2 ∧ Fr (fun _ => False) w w3 ∧ (∀ i, c i ≠ none → w.heap.size ≤ i) ∧ Ro w3 53 1 la' (m + 1) lc' xs ∧ (∀ i, blk la' = some i → w.heap.size ≤ i ∧ c i = none) from by
          rw [hpl]
          refine ⟨hlt, by omega, c', bud', dos + 1, f', _, hG3, by omega, by omega, T.few_step hG.wf hfk o, by have := T.length_step hG.wf.up o; omega, fw3, hcn, hro3, fun i hi => ?_⟩
          rcases hn3 i hi with h1 | h1
          · exact ⟨(hlw i h1).1, hcl i h1⟩
          · have h2 := fA.size
            refine ⟨by have := fw1.size; omega, ?_⟩
            cases hci : c' i with
            | none => rfl
            | some col => have := hG2.lo i (by rw [hci]; simp); omega)
        have R3 := hid hr3
        have HV := hid hV
        have B0 := hid (show V.heap[w2.heap.size]? = some (.cells #[ptr d] 53 (0, 0)) from by rw [← hV]; exact Go.heap_alloc_new w2 _)
        clear hgd hG2 hM hH hU hff hbs hfr hk hmk hG hdk hbk hfk htk hfw hcw hro hlw hpl fA hrow2 hro3 hf3 hn3 fw1 fw3 hcl hG3 hcn hr3 hV
        dsimp only
        go_upto_region 10 with fail
        rw [HV.out]
        have b0 : V.cell? ⟨w2.heap.size, 0, none⟩ = some (ptr d) := cellA (j := 0) B0.out rfl
        go_wp2_with (first | (at_builtin; refine wpList_append_eq _ _ rfl (.tmp 26) (.tmp 28) _ rfl _ _ _ rfl rfl R3.out ?_))
        go_roundw
        case rel => exact ⟨k + 1, m + 1, la', lc', by first | go_num | rfl | trivial, by first | go_num | rfl | trivial, FIN⟩
        case measure => simp [intOf]; omega
    · obtain rfl : k = len := by have := hall.out.1; omega
      obtain ⟨hk, hmk, c, bud, dos, f, xs, hG, hdk, hbk, hfk, htk, hfw, hcw, hro, hlw⟩ := hall.out
      have e : os.take k = os := List.take_of_length_le (by rw [HN.out]; exact Nat.le_refl _)
      rw [e] at hG hfk htk
      have FIN := hid (And.intro hG (And.intro hdk (And.intro hbk (And.intro hfk (And.intro htk (And.intro hfw hcw))))))
      clear hk hmk hG hdk hbk hfk htk hfw hcw hro hlw e hall
      go_wp2
      go_ret2
      exact ⟨p, la, m, lc, c, bud, dos, mb, f, rfl, FIN.out⟩
end Go.Proofs.YtilbdpnioajkoaaGreat

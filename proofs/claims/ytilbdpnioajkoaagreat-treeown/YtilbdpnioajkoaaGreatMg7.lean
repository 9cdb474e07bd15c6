/-
  The guard: what it says of a make.
  Whether a node stands below another one: Below.
  The guard, of any operation.
-/
import Derived.Test.YtilbdpnioajkoaaGreatMg6
namespace Go.Proofs.YtilbdpnioajkoaaGreat
open Go.RowKit Go.Maps
set_option linter.unusedVariables false
set_option maxRecDepth 100000
set_option linter.unusedSimpArgs false

/-- may a node be made? -/
def T.may1 (t : T.Tr) (o : S.Op) : Bool := decide (2 < o.n) && (!(A.get o.n t).isSome && ((A.get o.p t).isSome && T.nam o.a))
set_option maxHeartbeats 1600000 in
theorem may1_any {c : Nat → Option T.Col} {w : World} {bud p : Nat} {dos last : Int} {t : T.Tr} {mb : Nat} {f : Int → Nat} (h : Tf c w bud p dos last t mb f) (hl : Lo c w.heap.size) (o : S.Op) (hi : o.in64) (hk : o.k = 1) :
    Calls Tryz.prog 40 #[ptr p, .agg o.cs] w fun e w' => e = .returned (.bool (T.may1 t o)) ∧ Fr (fun _ => False) w w' := by
  obtain ⟨W, hW⟩ : ∃ W, w.alloc (.cells o.cs 35) = W := ⟨_, rfl⟩
  have fW : Fr (fun _ => False) w W := by rw [← hW]; exact Fr.alloc (Fr.refl _ _) _
  have hTW := h.kept fW (fun _ _ h => h)
  have K1 := hid (has_any hTW (wfT hi.1.1 hi.1.2))
  have K2 := hid (has_any hTW (wfT hi.2.1 hi.2.2))
  have KN := hid (tname_any o.a)
  have hbx : W.heap[w.heap.size]? = some (.cells o.cs 35 (0, 0)) := by rw [← hW]; exact Go.heap_alloc_new w _
  have c4 : W.cell? ⟨w.heap.size, 4, none⟩ = some (.int .i64 o.p) := cellA (j := 4) hbx rfl
  have c5 : W.cell? ⟨w.heap.size, 5, none⟩ = some (.string o.a) := cellA (j := 5) hbx rfl
  have FW := hid fW
  have HW := hid hW
  obtain ⟨t', s', k', n', p', a', b', c'⟩ := o
  simp only at hk hi K1 K2 KN HW c4 c5
  subst hk
  clear h hl hi hTW hW fW hbx
  simp only [T.may1]
  by_cases h2 : 2 < n' <;> cases hg : A.get n' t <;> cases hq : A.get p' t <;> cases hnm : T.nam a' <;>
  · rw [hg] at K1
    rw [hq] at K2
    rw [hnm] at KN
    simp only [Option.isSome_none, Option.isSome_some] at K1 K2
    go_enter Tryz.func40, Tryz.ntmps40
    go_wp2_with (first
      | (go_at_call 66; rw [HW.out]; refine K1.out.mono ?_; rintro e wx ⟨rfl, rfl⟩)
      | (go_at_call 66; refine K2.out.mono ?_; rintro e wx ⟨rfl, rfl⟩)
      | (go_at_call 67; refine (KN.out _).mono ?_; rintro e wx ⟨rfl, rfl⟩))
    all_goals (go_ret; exact ⟨by simp [h2], by first | exact FW.out | (rw [HW.out]; exact FW.out)⟩)
end Go.Proofs.YtilbdpnioajkoaaGreat

namespace Go.Proofs.YtilbdpnioajkoaaGreat
open Go.RowKit Go.Maps
set_option linter.unusedVariables false
set_option maxRecDepth 100000
set_option linter.unusedSimpArgs false
namespace T
/-- within k steps up there is no node any more -/
def ends (t : Tr) : Nat → Int → Prop
  | 0, n => A.get n t = none
  | k + 1, n => ∀ x, A.get n t = some x → ends t k x.par
/-- how many steps up, k at most -/
def hgt (t : Tr) : Nat → Int → Nat
  | 0, _ => 0
  | k + 1, n => match A.get n t with
    | none => 0
    | some x => hgt t k x.par + 1
/-- is a node below another one, as far as k steps up show? -/
def up (t : Tr) : Nat → Int → Int → Bool
  | 0, _, _ => false
  | k + 1, n, a => match A.get n t with
    | none => false
    | some x => if n = a then true else up t k x.par a
theorem ends_succ {t : Tr} : ∀ {k : Nat} {n : Int}, ends t k n → ends t (k + 1) n
  | 0, n, h => fun x hx => by rw [show A.get n t = none from h] at hx; cases hx
  | k + 1, n, h => fun x hx => ends_succ (h x hx)
theorem hgt_succ {t : Tr} : ∀ {k : Nat} {n : Int}, ends t k n → hgt t (k + 1) n = hgt t k n
  | 0, n, h => by
    have h : A.get n t = none := h
    simp only [hgt, h]
  | k + 1, n, h => by
    unfold hgt
    cases hx : A.get n t with
    | none => rfl
    | some x => simp only []; rw [hgt_succ (h x hx)]
theorem up_succ {t : Tr} {a : Int} : ∀ {k : Nat} {n : Int}, ends t k n → up t (k + 1) n a = up t k n a
  | 0, n, h => by
    have h : A.get n t = none := h
    simp only [up, h]
  | k + 1, n, h => by
    unfold up
    cases hx : A.get n t with
    | none => rfl
    | some x =>
      simp only []
      by_cases e : n = a
      · rw [if_pos e, if_pos e]
      · rw [if_neg e, if_neg e, up_succ (h x hx)]
end T
set_option maxHeartbeats 1600000 in
theorem below_any {c : Nat → Option T.Col} {w : World} {bud p : Nat} {dos last : Int} {t : T.Tr} {mb : Nat} {f : Int → Nat} (h : Tf c w bud p dos last t mb f) (hw : ∀ k x, A.get k t = some x → (Lit.int .i64 x.par).wf = true) {K : Nat} (hK : ∀ n, T.ends t K n) {n : Int} (hn : (Lit.int .i64 n).wf = true) (a : Int) :
    Calls Tryz.prog 34 #[ptr p, .int .i64 n, .int .i64 a] w fun e w' => e = .returned (.bool (T.up t K n a)) ∧ w = w' := by
  have KA := hid (fun (m : Int) (hm : (Lit.int .i64 m).wf = true) => at_any h hm)
  have HN := hid (fun (m : Int) (x : T.Nd) (hx : A.get m t = some x) => show w.cell? ⟨f m, 0, none⟩ = some (.int .i64 x.par) by
    obtain ⟨av, uv, g, mm, hN⟩ := h.node m x hx
    exact cellA (j := 0) hN.cells rfl)
  have HWF := hid hw
  have HK := hid hK
  have HS := hid (fun (m : Int) (x : T.Nd) (hx : A.get m t = some x) => show T.hgt t K x.par < T.hgt t K m ∧ T.up t K m a = if m = a then true else T.up t K x.par a by
    have e := hK m
    cases K with
    | zero => rw [show A.get m t = none from e] at hx; cases hx
    | succ K =>
      have e2 := e x hx
      refine ⟨?_, ?_⟩
      · rw [T.hgt_succ e2]
        show T.hgt t K x.par < T.hgt t (K + 1) m
        simp only [T.hgt, hx]
        omega
      · rw [T.up_succ e2]
        simp only [T.up, hx])
  clear h hw hK
  have K0 := hid (KA.out n hn)
  have HWN := hid hn
  clear hn
  go_enter Tryz.func34, Tryz.ntmps34
  go_wp2_with (go_at_call 58; refine K0.out.mono ?_; rintro e wx ⟨rfl, rfl⟩)
  obtain ⟨r, hr⟩ : ∃ r, T.up t K n a = r := ⟨_, rfl⟩
  go_loopw [1, 7] (fun i v wr => ∃ (m : Int), i = .int .i64 m ∧ v = T.loc f t m ∧ Hid ((Lit.int .i64 m).wf = true) ∧ Hid (T.up t K m a = T.up t K n a) ∧ wr = w) (fun i _ _ => T.hgt t K (intOf i))
  case atStart => exact ⟨n, rfl, rfl, HWN, hid rfl, rfl⟩
  case round =>
    obtain ⟨m, rfl, rfl, HM, HU, rfl⟩ := hrel
    cases hg : A.get m t with
    | none =>
      have HA := hid (show T.up t K n a = false by
        rw [← HU.out]
        cases K with
        | zero => rfl
        | succ K => simp only [T.up, hg])
      rw [T.loc_none hg]
      clear hr
      go_wp2
      go_ret
      exact ⟨ret_bool HA.out.symm, rfl⟩
    | some x =>
      obtain ⟨s1, s2⟩ := HS.out m x hg
      have HS1 := hid s1
      have c0 := HN.out m x hg
      have HWX := hid (HWF.out m x hg)
      have KX := hid (KA.out x.par HWX.out)
      by_cases e : m = a
      · have HA := hid (show T.up t K n a = true by rw [← HU.out, s2, if_pos e])
        have e2 : (m == a) = true := by simp [e]
        rw [T.loc_some hg]
        clear hr s1 s2
        subst e
        go_wp2
        go_ret
        exact ⟨ret_bool HA.out.symm, rfl⟩
      · have HU2 := hid (show T.up t K x.par a = T.up t K n a by rw [← HU.out, s2, if_neg e])
        have e2 : (m == a) = false := by simp [e]
        rw [T.loc_some hg]
        clear hr s1 s2
        go_wp2_with (go_at_call 58; refine KX.out.mono ?_; rintro e wx ⟨rfl, rfl⟩)
        go_roundw
        case rel => exact ⟨x.par, by first | rfl | trivial, by first | rfl | trivial, HWX, HU2, by first | rfl | trivial⟩
        case measure => exact HS1.out
end Go.Proofs.YtilbdpnioajkoaaGreat

namespace Go.Proofs.YtilbdpnioajkoaaGreat
open Go.RowKit Go.Maps
set_option linter.unusedVariables false
set_option maxRecDepth 100000
set_option linter.unusedSimpArgs false

def T.may2 (t : T.Tr) (K : Nat) (o : S.Op) : Bool := decide (2 < o.n) && ((A.get o.n t).isSome && ((A.get o.p t).isSome && (T.nam o.a && !T.up t K o.p o.n)))
def T.may3 (t : T.Tr) (o : S.Op) : Bool := (A.get o.n t).isSome && (T.txt o.b && decide (o.c.size ≤ 255))
/-- the guard -/
def T.may (t : T.Tr) (K : Nat) (o : S.Op) : Bool := if o.k = 1 then T.may1 t o else if o.k = 2 then T.may2 t K o else if o.k = 3 then T.may3 t o else false
set_option maxHeartbeats 3200000 in
theorem may_any {c : Nat → Option T.Col} {w : World} {bud p : Nat} {dos last : Int} {t : T.Tr} {mb : Nat} {f : Int → Nat} (h : Tf c w bud p dos last t mb f) (hl : Lo c w.heap.size) (hw : ∀ k x, A.get k t = some x → (Lit.int .i64 x.par).wf = true) {K : Nat} (hK : ∀ n, T.ends t K n) (o : S.Op) (hi : o.in64) :
    Calls Tryz.prog 40 #[ptr p, .agg o.cs] w fun e w' => e = .returned (.bool (T.may t K o)) ∧ Fr (fun _ => False) w w' := by
  by_cases k1 : o.k = 1
  · rw [show T.may t K o = T.may1 t o by unfold T.may; rw [if_pos k1]]
    exact may1_any h hl o hi k1
  obtain ⟨W, hW⟩ : ∃ W, w.alloc (.cells o.cs 35) = W := ⟨_, rfl⟩
  have fW : Fr (fun _ => False) w W := by rw [← hW]; exact Fr.alloc (Fr.refl _ _) _
  have hTW := h.kept fW (fun _ _ h => h)
  have K1 := hid (has_any hTW (wfT hi.1.1 hi.1.2))
  have K2 := hid (has_any hTW (wfT hi.2.1 hi.2.2))
  have KN := hid (tname_any o.a)
  have KB := hid (below_any hTW hw hK (wfT hi.2.1 hi.2.2) o.n)
  have KT := hid (isText_any o.b)
  have KF := hid (fits_any o.c)
  have hbx : W.heap[w.heap.size]? = some (.cells o.cs 35 (0, 0)) := by rw [← hW]; exact Go.heap_alloc_new w _
  have c2 : W.cell? ⟨w.heap.size, 2, none⟩ = some (.int .i64 o.k) := cellA (j := 2) hbx rfl
  have c3 : W.cell? ⟨w.heap.size, 3, none⟩ = some (.int .i64 o.n) := cellA (j := 3) hbx rfl
  have c4 : W.cell? ⟨w.heap.size, 4, none⟩ = some (.int .i64 o.p) := cellA (j := 4) hbx rfl
  have c5 : W.cell? ⟨w.heap.size, 5, none⟩ = some (.string o.a) := cellA (j := 5) hbx rfl
  have c6 : W.cell? ⟨w.heap.size, 6, none⟩ = some (.string o.b) := cellA (j := 6) hbx rfl
  have c7 : W.cell? ⟨w.heap.size, 7, none⟩ = some (.string o.c) := cellA (j := 7) hbx rfl
  have FW := hid fW
  have HW := hid hW
  have e1 : (o.k == 1) = false := by simp [k1]
  by_cases k2 : o.k = 2
  · rw [show T.may t K o = T.may2 t K o by unfold T.may; rw [if_neg k1, if_pos k2]]
    clear hw hK h hl hTW hi hbx fW hW KT KF k1 c2 e1 c6 c7
    unfold T.may2
    by_cases h2 : 2 < o.n
    · cases hg : A.get o.n t with
      | none =>
        rw [hg] at K1
        simp only [Option.isSome_none] at K1
        clear K2 KN KB
        go_enter Tryz.func40, Tryz.ntmps40
        go_wp2_with (first
          | (go_at_call 66; rw [HW.out]; refine K1.out.mono ?_; rintro e wx ⟨rfl, rfl⟩))
        go_ret
        exact ⟨by simp [h2], FW.out⟩
      | some x =>
        rw [hg] at K1
        cases hq : A.get o.p t <;> cases hnm : T.nam o.a <;> cases hu : T.up t K o.p o.n <;>
        · rw [hq] at K2
          rw [hnm] at KN
          rw [hu] at KB
          simp only [Option.isSome_none, Option.isSome_some] at K1 K2
          go_enter Tryz.func40, Tryz.ntmps40
          go_wp2_with (first
            | (go_at_call 66; rw [HW.out]; refine K1.out.mono ?_; rintro e wx ⟨rfl, rfl⟩)
            | (go_at_call 66; refine K2.out.mono ?_; rintro e wx ⟨rfl, rfl⟩)
            | (go_at_call 67; refine (KN.out _).mono ?_; rintro e wx ⟨rfl, rfl⟩)
            | (go_at_call 34; refine KB.out.mono ?_; rintro e wx ⟨rfl, rfl⟩))
          go_ret
          exact ⟨by simp [h2], FW.out⟩
    · clear K1 K2 KN KB
      go_enter Tryz.func40, Tryz.ntmps40
      go_wp2
      go_ret
      exact ⟨ret_bool (by rw [decide_eq_false (show ¬ 2 < o.n by omega)]; rfl), by rw [HW.out]; exact FW.out⟩
  · have e2 : (o.k == 2) = false := by simp [k2]
    by_cases k3 : o.k = 3
    · rw [show T.may t K o = T.may3 t o by unfold T.may; rw [if_neg k1, if_neg k2, if_pos k3]]
      clear hw hK h hl hTW hi hbx fW hW K2 KN KB k1 k2 c2 e1 e2 c3 c4 c5
      unfold T.may3
      cases hg : A.get o.n t <;> cases hnm : T.txt o.b <;> cases hu : decide (o.c.size ≤ 255) <;>
      · rw [hg] at K1
        rw [hnm] at KT
        rw [hu] at KF
        simp only [Option.isSome_none, Option.isSome_some] at K1
        go_enter Tryz.func40, Tryz.ntmps40
        go_wp2_with (first
          | (go_at_call 66; rw [HW.out]; refine K1.out.mono ?_; rintro e wx ⟨rfl, rfl⟩)
          | (go_at_call 68; refine (KT.out _).mono ?_; rintro e wx ⟨rfl, rfl⟩)
          | (go_at_call 69; refine (KF.out _).mono ?_; rintro e wx ⟨rfl, rfl⟩))
        go_ret
        exact ⟨by simp, FW.out⟩
    · have e3 : (o.k == 3) = false := by simp [k3]
      rw [show T.may t K o = false by unfold T.may; rw [if_neg k1, if_neg k2, if_neg k3]]
      clear hw hK h hl hTW hi hbx fW hW K1 K2 KN KB KT KF c2 c3 c4 c5 c6 c7
      go_enter Tryz.func40, Tryz.ntmps40
      go_wp2
      go_ret
      exact ⟨rfl, by rw [HW.out]; exact FW.out⟩
end Go.Proofs.YtilbdpnioajkoaaGreat

/-
  Which operations may be: CheckOp.
-/
import Derived.Test.YtfkddpcadgidgaaDoorQTab
namespace Go.Proofs.YtfkddpcadgidgaaDoor
open Go.RowKit
set_option linter.unusedVariables false

set_option maxHeartbeats 800000 in
theorem told_any (b : Bool) (w : World) : Calls Tryd.prog 60 #[.bool b] w fun e w' => e = .returned (.int .i64 (if b then 0 else 40)) ∧ w = w' := by
  cases b
  · go_enter Tryd.func60, Tryd.ntmps60
    go_wp2
    go_ret
    exact ⟨rfl, rfl⟩
  · go_enter Tryd.func60, Tryd.ntmps60
    go_wp2
    go_ret
    exact ⟨rfl, rfl⟩
set_option maxHeartbeats 800000 in
theorem areCounts_any (a : Option Addr) (len c : Nat) (ns : List Int) (w : World) (h : Is w a len ns) (hm : len ≤ 9223372036854775807) :
    Calls Tryd.prog 61 #[.slice a len c] w fun e w' => e = .returned (.bool (M.within 0 1099511627776 ns)) ∧ w = w' := by
  have K := hid (within_int64 0 1099511627776 a len c ns w h hm)
  clear h
  go_enter Tryd.func61, Tryd.ntmps61
  go_wp2_with (first | (go_at_call 64; refine K.out.mono ?_; rintro e w1 ⟨rfl, rfl⟩))
  go_ret
  exact ⟨rfl, rfl⟩
set_option maxHeartbeats 800000 in
theorem areSites_any (a : Option Addr) (len c : Nat) (ns : List Int) (w : World) (h : Is w a len ns) (hm : len ≤ 9223372036854775807) :
    Calls Tryd.prog 62 #[.slice a len c] w fun e w' => e = .returned (.bool (M.within 0 7 ns)) ∧ w = w' := by
  have K := hid (within_int 0 7 a len c ns w h hm)
  clear h
  go_enter Tryd.func62, Tryd.ntmps62
  go_wp2_with (first | (go_at_call 63; refine K.out.mono ?_; rintro e w1 ⟨rfl, rfl⟩))
  go_ret
  exact ⟨rfl, rfl⟩
/-- what a slice of texts reads as -/
def Ts (w : World) (a : Option Addr) (len : Nat) (ss : List ByteArray) : Prop :=
  ss.length = len ∧ (len = 0 ∨ ∃ b off, a = some ⟨b, off, none⟩ ∧ ∀ k x, ss[k]? = some x → w.cell? ⟨b, off + k, none⟩ = some (.string x))
theorem Ts.at {w : World} {a : Option Addr} {len : Nat} {ss : List ByteArray} (h : Ts w a len ss) {k : Nat} (hk : k < len) :
    ∃ b off x, a = some ⟨b, off, none⟩ ∧ ss[k]? = some x ∧ w.cell? ⟨b, off + k, none⟩ = some (.string x) := by
  obtain ⟨hl, h⟩ := h
  rcases h with h | ⟨b, off, ha, hc⟩
  · omega
  · have hx : ss[k]? = some ss[k] := by simp [hl, hk]
    exact ⟨b, off, ss[k], ha, hx, hc k _ hx⟩
theorem Ts.new (w : World) (ss : List ByteArray) (cs : Array Value) (t : TypeId) (n : Nat) (hn : ss.length = n) (h : cs.toList = ss.map (fun x => Value.string x)) : Ts (w.alloc (.cells cs t)) (some ⟨w.heap.size, 0, none⟩) n ss := by
  refine ⟨hn, .inr ⟨_, _, rfl, fun k x hx => ?_⟩⟩
  rw [Nat.zero_add]
  refine cell_at (Go.heap_alloc_new w _) ?_
  rw [← Array.getElem?_toList, h, List.getElem?_map, hx]
  rfl
theorem Ts.newn (w : World) (g : Nat) (hg : w.heap.size = g) (ss : List ByteArray) (cs : Array Value) (t : TypeId) (n : Nat) (hn : ss.length = n) (h : cs.toList = ss.map (fun x => Value.string x)) : Ts (w.alloc (.cells cs t)) (some ⟨g, 0, none⟩) n ss := by
  subst hg
  exact Ts.new w ss cs t n hn h
def M.texts (ss : List ByteArray) : Bool := ss.all (fun x => decide (x.size ≤ 255))
theorem M.texts_false {ss : List ByteArray} {x : ByteArray} {k : Nat} (hx : ss[k]? = some x) (h : 255 < x.size) : M.texts ss = false := by
  unfold M.texts
  rw [List.all_eq_false]
  exact ⟨x, List.mem_of_getElem? hx, by simp; omega⟩
theorem take_nextT {ns : List ByteArray} {k : Nat} {x : ByteArray} (h : ns[k]? = some x) : ns.take (k + 1) = ns.take k ++ [x] := by
  rw [List.take_add_one, h]; rfl
set_option maxHeartbeats 800000 in
theorem areTexts_any (a : Option Addr) (len c : Nat) (ss : List ByteArray) (w : World) (h : Ts w a len ss) (hm : len ≤ 9223372036854775807) :
    Calls Tryd.prog 65 #[.slice a len c] w fun e w' => e = .returned (.bool (M.texts ss)) ∧ w = w' := by
  have HI := hid h
  clear h
  go_enter Tryd.func65, Tryd.ntmps65
  go_wp2
  go_loop [7] (fun i => ∃ k : Nat, k ≤ len ∧ i = .int .i64 k ∧ M.texts (ss.take k) = true) (fun i => len - (intOf i).toNat)
  case atStart => exact ⟨0, by omega, rfl, rfl⟩
  case round =>
    obtain ⟨k, hk, rfl, hw⟩ := hrel
    have HW := hid hw
    clear hw
    by_cases hlt : k < len
    · obtain ⟨b, off, x, rfl, hx, hc⟩ := HI.out.at hlt
      have HX := hid hx
      clear hx
      have hi : (k : Int) < (len : Int) := by omega
      by_cases h1 : 255 < x.size
      · go_wp2
        go_ret
        exact ⟨ret_bool (M.texts_false HX.out h1).symm, rfl⟩
      · go_wp2
        go_round
        case rel => exact ⟨k + 1, by omega, by go_num, by rw [take_nextT HX.out]; unfold M.texts; rw [List.all_append]; have h2 := HW.out; unfold M.texts at h2; rw [h2]; simp; omega⟩
        case measure => simp [intOf]; omega
    · obtain rfl : k = len := by omega
      go_wp2
      go_ret
      refine ⟨ret_bool ?_, rfl⟩
      have := HW.out
      rw [List.take_of_length_le (by rw [HI.out.1]; exact Nat.le_refl _)] at this
      exact this.symm
/-- an operation -/
structure M.Op where
  t : Int
  s : Int
  k : Int
  n : Int
  p : Int
  a : ByteArray
  b : ByteArray
  c : ByteArray
def M.Op.cs (o : M.Op) : Array Value := #[.int .i64 o.t, .int .i64 o.s, .int .i64 o.k, .int .i64 o.n, .int .i64 o.p, .string o.a, .string o.b, .string o.c]
def M.mayOp (o : M.Op) : Bool := M.within 0 1099511627776 [o.t] && M.within 0 7 [o.s] && M.within 1 3 [o.k] && M.within 0 1125899906842624 [o.n, o.p] && M.texts [o.a, o.b, o.c]
set_option maxRecDepth 20000 in
set_option maxHeartbeats 1600000 in
theorem checkOp_any (o : M.Op) (w : World) : Calls Tryd.prog 36 #[.agg o.cs] w fun e w' => e = .returned (.int .i64 (if M.mayOp o then 0 else 40)) ∧ Fr (fun _ => False) w w' := by
  unfold M.Op.cs
  cases B0 : M.within 0 1099511627776 [o.t] with
  | false =>
    have e0 : M.mayOp o = false := by unfold M.mayOp; rw [B0]; simp
    rw [e0]
    go_enter Tryd.func36, Tryd.ntmps36
    go_wp2_with (first
      | (go_at_call 61; refine (areCounts_any _ 1 1 [o.t] _ (Is.newn _ _ (by simp) [o.t] _ _ 1 rfl rfl) (by omega)).mono ?_; rw [B0]; rintro e wx ⟨rfl, rfl⟩)
      | (go_at_call 60; refine (told_any _ _).mono ?_; rintro e wx ⟨rfl, rfl⟩))
    go_ret
    exact ⟨rfl, by repeat' (first | exact Fr.refl _ _ | refine Fr.alloc ?_ _)⟩
  | true =>
    cases B1 : M.within 0 7 [o.s] with
    | false =>
      have e0 : M.mayOp o = false := by unfold M.mayOp; rw [B0, B1]; simp
      rw [e0]
      go_enter Tryd.func36, Tryd.ntmps36
      go_wp2_with (first
        | (go_at_call 61; refine (areCounts_any _ 1 1 [o.t] _ (Is.newn _ _ (by simp) [o.t] _ _ 1 rfl rfl) (by omega)).mono ?_; rw [B0]; rintro e wx ⟨rfl, rfl⟩)
        | (go_at_call 62; refine (areSites_any _ 1 1 [o.s] _ (Is.newn _ _ (by simp) [o.s] _ _ 1 rfl rfl) (by omega)).mono ?_; rw [B1]; rintro e wx ⟨rfl, rfl⟩)
        | (go_at_call 60; refine (told_any _ _).mono ?_; rintro e wx ⟨rfl, rfl⟩))
      go_ret
      exact ⟨rfl, by repeat' (first | exact Fr.refl _ _ | refine Fr.alloc ?_ _)⟩
    | true =>
      cases B2 : M.within 1 3 [o.k] with
      | false =>
        have e0 : M.mayOp o = false := by unfold M.mayOp; rw [B0, B1, B2]; simp
        rw [e0]
        go_enter Tryd.func36, Tryd.ntmps36
        go_wp2_with (first
          | (go_at_call 61; refine (areCounts_any _ 1 1 [o.t] _ (Is.newn _ _ (by simp) [o.t] _ _ 1 rfl rfl) (by omega)).mono ?_; rw [B0]; rintro e wx ⟨rfl, rfl⟩)
          | (go_at_call 62; refine (areSites_any _ 1 1 [o.s] _ (Is.newn _ _ (by simp) [o.s] _ _ 1 rfl rfl) (by omega)).mono ?_; rw [B1]; rintro e wx ⟨rfl, rfl⟩)
          | (go_at_call 63; refine (within_int 1 3 _ 1 1 [o.k] _ (Is.newn _ _ (by simp) [o.k] _ _ 1 rfl rfl) (by omega)).mono ?_; rw [B2]; rintro e wx ⟨rfl, rfl⟩)
          | (go_at_call 60; refine (told_any _ _).mono ?_; rintro e wx ⟨rfl, rfl⟩))
        go_ret
        exact ⟨rfl, by repeat' (first | exact Fr.refl _ _ | refine Fr.alloc ?_ _)⟩
      | true =>
        cases B3 : M.within 0 1125899906842624 [o.n, o.p] with
        | false =>
          have e0 : M.mayOp o = false := by unfold M.mayOp; rw [B0, B1, B2, B3]; simp
          rw [e0]
          go_enter Tryd.func36, Tryd.ntmps36
          go_wp2_with (first
            | (go_at_call 61; refine (areCounts_any _ 1 1 [o.t] _ (Is.newn _ _ (by simp) [o.t] _ _ 1 rfl rfl) (by omega)).mono ?_; rw [B0]; rintro e wx ⟨rfl, rfl⟩)
            | (go_at_call 62; refine (areSites_any _ 1 1 [o.s] _ (Is.newn _ _ (by simp) [o.s] _ _ 1 rfl rfl) (by omega)).mono ?_; rw [B1]; rintro e wx ⟨rfl, rfl⟩)
            | (go_at_call 63; refine (within_int 1 3 _ 1 1 [o.k] _ (Is.newn _ _ (by simp) [o.k] _ _ 1 rfl rfl) (by omega)).mono ?_; rw [B2]; rintro e wx ⟨rfl, rfl⟩)
            | (go_at_call 64; refine (within_int64 0 1125899906842624 _ 2 2 [o.n, o.p] _ (Is.newn _ _ (by simp) [o.n, o.p] _ _ 2 rfl rfl) (by omega)).mono ?_; rw [B3]; rintro e wx ⟨rfl, rfl⟩)
            | (go_at_call 60; refine (told_any _ _).mono ?_; rintro e wx ⟨rfl, rfl⟩))
          go_ret
          exact ⟨rfl, by repeat' (first | exact Fr.refl _ _ | refine Fr.alloc ?_ _)⟩
        | true =>
          cases B4 : M.texts [o.a, o.b, o.c] with
          | false =>
            have e0 : M.mayOp o = false := by unfold M.mayOp; rw [B0, B1, B2, B3, B4]; simp
            rw [e0]
            go_enter Tryd.func36, Tryd.ntmps36
            go_wp2_with (first
              | (go_at_call 61; refine (areCounts_any _ 1 1 [o.t] _ (Is.newn _ _ (by simp) [o.t] _ _ 1 rfl rfl) (by omega)).mono ?_; rw [B0]; rintro e wx ⟨rfl, rfl⟩)
              | (go_at_call 62; refine (areSites_any _ 1 1 [o.s] _ (Is.newn _ _ (by simp) [o.s] _ _ 1 rfl rfl) (by omega)).mono ?_; rw [B1]; rintro e wx ⟨rfl, rfl⟩)
              | (go_at_call 63; refine (within_int 1 3 _ 1 1 [o.k] _ (Is.newn _ _ (by simp) [o.k] _ _ 1 rfl rfl) (by omega)).mono ?_; rw [B2]; rintro e wx ⟨rfl, rfl⟩)
              | (go_at_call 64; refine (within_int64 0 1125899906842624 _ 2 2 [o.n, o.p] _ (Is.newn _ _ (by simp) [o.n, o.p] _ _ 2 rfl rfl) (by omega)).mono ?_; rw [B3]; rintro e wx ⟨rfl, rfl⟩)
              | (go_at_call 65; refine (areTexts_any _ 3 3 [o.a, o.b, o.c] _ (Ts.newn _ _ (by simp) [o.a, o.b, o.c] _ _ 3 rfl rfl) (by omega)).mono ?_; rw [B4]; rintro e wx ⟨rfl, rfl⟩)
              | (go_at_call 60; refine (told_any _ _).mono ?_; rintro e wx ⟨rfl, rfl⟩))
            go_ret
            exact ⟨rfl, by repeat' (first | exact Fr.refl _ _ | refine Fr.alloc ?_ _)⟩
          | true =>
            have e0 : M.mayOp o = true := by unfold M.mayOp; rw [B0, B1, B2, B3, B4]; simp
            rw [e0]
            go_enter Tryd.func36, Tryd.ntmps36
            go_wp2_with (first
              | (go_at_call 61; refine (areCounts_any _ 1 1 [o.t] _ (Is.newn _ _ (by simp) [o.t] _ _ 1 rfl rfl) (by omega)).mono ?_; rw [B0]; rintro e wx ⟨rfl, rfl⟩)
              | (go_at_call 62; refine (areSites_any _ 1 1 [o.s] _ (Is.newn _ _ (by simp) [o.s] _ _ 1 rfl rfl) (by omega)).mono ?_; rw [B1]; rintro e wx ⟨rfl, rfl⟩)
              | (go_at_call 63; refine (within_int 1 3 _ 1 1 [o.k] _ (Is.newn _ _ (by simp) [o.k] _ _ 1 rfl rfl) (by omega)).mono ?_; rw [B2]; rintro e wx ⟨rfl, rfl⟩)
              | (go_at_call 64; refine (within_int64 0 1125899906842624 _ 2 2 [o.n, o.p] _ (Is.newn _ _ (by simp) [o.n, o.p] _ _ 2 rfl rfl) (by omega)).mono ?_; rw [B3]; rintro e wx ⟨rfl, rfl⟩)
              | (go_at_call 65; refine (areTexts_any _ 3 3 [o.a, o.b, o.c] _ (Ts.newn _ _ (by simp) [o.a, o.b, o.c] _ _ 3 rfl rfl) (by omega)).mono ?_; rw [B4]; rintro e wx ⟨rfl, rfl⟩)
              | (go_at_call 60; refine (told_any _ _).mono ?_; rintro e wx ⟨rfl, rfl⟩))
            go_ret
            exact ⟨rfl, by repeat' (first | exact Fr.refl _ _ | refine Fr.alloc ?_ _)⟩

end Go.Proofs.YtfkddpcadgidgaaDoor

/-
  A reader of fields: behind an error nothing is taken; one number.
-/
import Derived.Test.YtfkddpcadgidgaaDoorQEntry
namespace Go.Proofs.YtfkddpcadgidgaaDoor
open Go.RowKit
set_option linter.unusedVariables false

/-- what a slice of pointers reads as -/
def Pl (w : World) (a : Option Addr) (len : Nat) (ps : List (Nat × Nat)) : Prop :=
  ps.length = len ∧ (len = 0 ∨ ∃ b off, a = some ⟨b, off, none⟩ ∧ ∀ k x, ps[k]? = some x → w.cell? ⟨b, off + k, none⟩ = some (.pointer (some ⟨x.1, x.2, none⟩)))
theorem Pl.at {w : World} {a : Option Addr} {len : Nat} {ps : List (Nat × Nat)} (h : Pl w a len ps) {k : Nat} (hk : k < len) :
    ∃ b off x, a = some ⟨b, off, none⟩ ∧ ps[k]? = some x ∧ w.cell? ⟨b, off + k, none⟩ = some (.pointer (some ⟨x.1, x.2, none⟩)) := by
  obtain ⟨hl, h⟩ := h
  rcases h with h | ⟨b, off, ha, hc⟩
  · omega
  · have hx : ps[k]? = some ps[k] := by simp [hl, hk]
    exact ⟨b, off, ps[k], ha, hx, hc k _ hx⟩
theorem Pl.newn (w : World) (g : Nat) (hg : w.heap.size = g) (ps : List (Nat × Nat)) (cs : Array Value) (t : TypeId) (n : Nat) (hn : ps.length = n) (h : cs.toList = ps.map (fun x => Value.pointer (some ⟨x.1, x.2, none⟩))) : Pl (w.alloc (.cells cs t)) (some ⟨g, 0, none⟩) n ps := by
  subst hg
  refine ⟨hn, .inr ⟨_, _, rfl, fun k x hx => ?_⟩⟩
  rw [Nat.zero_add]
  refine cell_at (Go.heap_alloc_new w _) ?_
  rw [← Array.getElem?_toList, h, List.getElem?_map, hx]
  rfl
theorem Pl.kept {w w' : World} {a : Option Addr} {len : Nat} {ps : List (Nat × Nat)} (h : Pl w a len ps) (hf : Fr (fun _ => False) w w') : Pl w' a len ps := by
  refine ⟨h.1, ?_⟩
  rcases h.2 with h0 | ⟨b, off, rfl, hc⟩
  · exact .inl h0
  · exact .inr ⟨b, off, rfl, fun k x hx => cellFr hf (fun h => h) (hc k x hx)⟩
/-- a block that is as it was is not touched -/
theorem Fr.same {w w' : World} {q : Nat} (hf : Fr (fun k => k = q) w w') (h : w'.heap[q]? = w.heap[q]?) : Fr (fun _ => False) w w' :=
  ⟨hf.os, hf.tape, hf.output, hf.size, fun k hk _ => by
    by_cases e : k = q
    · rw [e]; exact h
    · exact hf.block k hk e⟩
set_option maxRecDepth 20000 in
set_option maxHeartbeats 1600000 in
theorem frInt64s_err {w : World} {g : Nat} {er : Int} (d1 : w.cell? ⟨g, 1, none⟩ = some (.int .i64 er)) (he : er ≠ 0) (la : Option Addr) (len lc : Nat) (ps : List (Nat × Nat)) (hP : Pl w la len ps) (hm : len ≤ 9223372036854775807) :
    Calls Tryd.prog 99 #[.pointer (some ⟨g, 0, none⟩), .slice la len lc] w fun e w' => (∃ v, e = .returned v) ∧ w = w' := by
  have HP := hid hP
  have he2 : (er == 0) = false := by simpa using he
  clear hP
  go_enter Tryd.func99, Tryd.ntmps99
  go_wp2
  go_loop [8] (fun i => ∃ k : Nat, k ≤ len ∧ i = .int .i64 k) (fun i => len - (intOf i).toNat)
  case atStart => exact ⟨0, by omega, rfl⟩
  case round =>
    obtain ⟨k, hk, rfl⟩ := hrel
    by_cases hlt : k < len
    · obtain ⟨b, off, x, rfl, hx, hc⟩ := HP.out.at hlt
      have hi : (k : Int) < (len : Int) := by omega
      clear hx
      go_wp2
      go_round
      case rel => exact ⟨k + 1, by omega, by go_num⟩
      case measure => simp [intOf]; omega
    · obtain rfl : k = len := by omega
      go_wp2
      go_end0
      exact ⟨⟨_, rfl⟩, rfl⟩
set_option maxRecDepth 20000 in
set_option maxHeartbeats 1600000 in
theorem frTexts_err {w : World} {g : Nat} {er : Int} (d1 : w.cell? ⟨g, 1, none⟩ = some (.int .i64 er)) (he : er ≠ 0) (la : Option Addr) (len lc : Nat) (ps : List (Nat × Nat)) (hP : Pl w la len ps) (hm : len ≤ 9223372036854775807) :
    Calls Tryd.prog 108 #[.pointer (some ⟨g, 0, none⟩), .slice la len lc] w fun e w' => (∃ v, e = .returned v) ∧ w = w' := by
  have HP := hid hP
  have he2 : (er == 0) = false := by simpa using he
  clear hP
  go_enter Tryd.func108, Tryd.ntmps108
  go_wp2
  go_loop [8] (fun i => ∃ k : Nat, k ≤ len ∧ i = .int .i64 k) (fun i => len - (intOf i).toNat)
  case atStart => exact ⟨0, by omega, rfl⟩
  case round =>
    obtain ⟨k, hk, rfl⟩ := hrel
    by_cases hlt : k < len
    · obtain ⟨b, off, x, rfl, hx, hc⟩ := HP.out.at hlt
      have hi : (k : Int) < (len : Int) := by omega
      clear hx
      go_wp2
      go_round
      case rel => exact ⟨k + 1, by omega, by go_num⟩
      case measure => simp [intOf]; omega
    · obtain rfl : k = len := by omega
      go_wp2
      go_end0
      exact ⟨⟨_, rfl⟩, rfl⟩
set_option maxRecDepth 20000 in
set_option maxHeartbeats 1600000 in
theorem frInts_err {w : World} {g : Nat} {er : Int} (d1 : w.cell? ⟨g, 1, none⟩ = some (.int .i64 er)) (he : er ≠ 0) (la : Option Addr) (len lc : Nat) (ps : List (Nat × Nat)) (hP : Pl w la len ps) (hm : len ≤ 9223372036854775807) (hZ : ∀ x ∈ ps, ∃ cs t, w.heap[x.1]? = some (.cells cs t (0, 0)) ∧ cs[x.2]? = some (.int .i64 0)) :
    Calls Tryd.prog 77 #[.pointer (some ⟨g, 0, none⟩), .slice la len lc] w fun e w' => (∃ v, e = .returned v) ∧ Fr (fun _ => False) w w' := by
  have HP := hid hP
  have HZ := hid hZ
  have D1 := hid d1
  clear hP hZ d1
  go_enter Tryd.func77, Tryd.ntmps77
  go_wp2
  go_loopw [9] (fun i wr => ∃ k : Nat, k ≤ len ∧ i = .int .i64 k ∧ Fr (fun _ => False) w wr) (fun i _ => len - (intOf i).toNat)
  case atStart => exact ⟨0, by omega, rfl, Fr.refl _ _⟩
  case round =>
    obtain ⟨k, hk, rfl, hfr⟩ := hrel
    by_cases hlt : k < len
    · obtain ⟨b, off, x, rfl, hx, hc⟩ := (HP.out.kept hfr).at hlt
      obtain ⟨cs, t, hz1, hz2⟩ := HZ.out x (List.mem_of_getElem? hx)
      have f1 : Fr (fun _ => False) wr ((wr.alloc (.cells #[.int .i64 0] 2)).alloc (.cells #[.pointer (some ⟨wr.heap.size, 0, none⟩)] 155)) := Fr.alloc (Fr.alloc (Fr.refl _ _) _) _
      have hrow := (hfr.trans f1 (fun _ _ h => h)).cells hz1 (fun h => h)
      have dd := cellFr (hfr.trans f1 (fun _ _ h => h)) (fun h => h) D1.out
      have KI := hid (frInt64s_err dd he (some ⟨wr.heap.size + 1, 0, none⟩) 1 1 [(wr.heap.size, 0)] (Pl.newn _ _ (by simp) [(wr.heap.size, 0)] _ _ 1 rfl rfl) (by omega))
      have t0 := cell_at (j := x.2) hrow hz2
      have t1 := frozen_of_row (j := x.2) hrow
      have HFR := hid hfr
      have HROW := hid (hfr.cells hz1 (fun h => h))
      have HZ2 := hid hz2
      have HZ1 := hid hz1
      have hi : (k : Int) < (len : Int) := by omega
      have hne : x.1 < wr.heap.size := Nat.lt_of_lt_of_le (lt_of_row hz1) hfr.size
      clear hx hfr hz1 hz2 f1 hrow dd
      obtain ⟨xb, xo⟩ := x
      simp only at hc t0 t1 HROW HZ2 HZ1 hne
      go_wp2_with (first | (go_at_call 99; refine KI.out.mono ?_; rintro e wx ⟨⟨v, rfl⟩, rfl⟩))
      go_roundw
      case rel =>
        refine ⟨k + 1, by omega, by go_num, ?_⟩
        have f2 : Fr (fun k => k = xb) wr (wr.setCell ⟨xb, xo, none⟩ (.int .i64 0)) := Fr.setCell (p := ⟨xb, xo, none⟩) (S := fun k => k = xb) (Fr.refl _ _) (fun _ => rfl) _
        exact Fr.alloc (Fr.alloc (HFR.out.trans (f2.same (by rw [setCell_row HROW.out, set_same HZ2.out, HROW.out])) (fun _ _ h => h)) _) _
      case measure => simp [intOf]; omega
    · obtain rfl : k = len := by omega
      have HFR := hid hfr
      clear hfr
      go_wp2
      go_end0
      exact ⟨⟨_, rfl⟩, HFR.out⟩

end Go.Proofs.YtfkddpcadgidgaaDoor

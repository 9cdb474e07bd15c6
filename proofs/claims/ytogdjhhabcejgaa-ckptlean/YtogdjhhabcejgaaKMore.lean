/-
  The contracts of a disk: Size, SetFuse, Crash, Restart.
-/
import Derived.Test.YtogdjhhabcejgaaKBegun
namespace Go.Proofs.Ytogdjhhabcejgaa
open Go.RowKit Go.Maps
set_option linter.unusedVariables false

/-- what Size answers -/
def Sz (d : K.DK) (n : K.Nm) (e : Ending) : Prop :=
  (K.fnd d n ≠ 0 ∧ e = .returned (.tuple #[.int .i64 0, .int .i64 0, .int .i64 (K.fnd d n)])) ∨ (K.fnd d n = 0 ∧ ∃ f, K.get n d.fs = some f ∧ e = .returned (.tuple #[.int .i64 (f.len : Nat), .int .i64 (f.sf.length : Nat), .int .i64 0]))
theorem quiet_flip' {P : Program} {f : FuncId} {args : Array Value} {w : World} {n : Nat} {v : Value} (h : Calls P f args (w.drewN n) fun e w' => e = .returned v ∧ ∃ m, w' = (w.drewN n).drewN m) :
    Calls P f args (w.drewN n) fun e w' => e = .returned v ∧ ∃ m, w' = w.drewN m := h.mono (fun e w' ⟨h1, m, h2⟩ => ⟨h1, n + m, by rw [h2]; simp [World.drewN, Nat.add_assoc]⟩)
theorem Dk.tn {S : Nat → Prop} {w : World} {p : Nat} {d : K.DK} (h : Dk S w p d) : ∃ c mb l, (∀ k, S k → k < w.heap.size) ∧ K.Ok d ∧ (∀ k, c k ≠ none → S k) ∧ Dm c w p mb l d := by
  obtain ⟨h1, h2, c, mb, l, h3, h4⟩ := h
  exact ⟨c, mb, l, h1, h2, h3, h4⟩

set_option maxHeartbeats 1600000 in
theorem fuse_any {S : Nat → Prop} {w : World} {p : Nat} {d : K.DK} (h : Dk S w p d) (k keep : Int) (hk : k ≤ 9223372036854775807) (hp : keep ≤ 9223372036854775807) :
    Calls Try.prog 17 #[.pointer (some ⟨p, 0, none⟩), .int .i64 k, .int .i64 keep] w fun e w' => e = .returned (.int .i64 (K.fuse d k keep).1) ∧ Td S w p (K.fuse d k keep).2 w' := by
  have HK := hid h
  have hok := K.ok_fuse h.2.1 k keep hk hp
  obtain ⟨c, mb, l, hS, ho, hc, hd⟩ := h.tn
  obtain ⟨k0, k1, k2, k3, k4⟩ := hd.k
  have q2 := frozen_of_row (j := 3) hd.at_
  have q3 := frozen_of_row (j := 4) hd.at_
  have hcp : c p ≠ none := by rw [hd.cp]; simp
  have HOK := hid hok
  have HT := hid (show Tn c w p mb { d with left := k, keep := keep } ((w.setCell ⟨p, 3, none⟩ (.int .i64 k)).setCell ⟨p, 4, none⟩ (.int .i64 keep)) from
    ⟨c, l, hd.own (Fr.setCell (p := ⟨p, 4, none⟩) (S := fun k => k = p) (Fr.setCell (p := ⟨p, 3, none⟩) (S := fun k => k = p) (Fr.refl _ _) (fun _ => rfl) _) (fun _ => rfl) _) (by rw [setCell_row (setCell_row hd.at_ _) _]; rfl) rfl,
      Fr.setCell (p := ⟨p, 4, none⟩) (Fr.setCell (p := ⟨p, 3, none⟩) (Fr.refl _ _) (fun _ => hcp) _) (fun _ => hcp) _, fun k hk => .inl hk⟩)
  have HS := hid hS
  have HC := hid hc
  clear h hS ho hc hd hok hcp
  by_cases e1 : k < 0
  · have e : K.fuse d k keep = (1, d) := by unfold K.fuse; rw [if_pos (.inl e1)]
    rw [e]
    clear HT e
    go_enter Try.func17, Try.ntmps17
    go_wp2_with (first | (go_at_call 43; refine (made_any _ p mb k1).mono ?_; rintro e w' ⟨rfl, rfl⟩))
    go_ret
    exact ⟨rfl, Td.refl HK.out (Fr.refl _ _)⟩
  · by_cases e2 : keep < 0
    · have e : K.fuse d k keep = (1, d) := by unfold K.fuse; rw [if_pos (.inr e2)]
      rw [e]
      clear HT e
      go_enter Try.func17, Try.ntmps17
      go_wp2_with (first | (go_at_call 43; refine (made_any _ p mb k1).mono ?_; rintro e w' ⟨rfl, rfl⟩))
      go_ret
      exact ⟨rfl, Td.refl HK.out (Fr.refl _ _)⟩
    · by_cases e3 : d.down = true
      · have e : K.fuse d k keep = (7, d) := by unfold K.fuse; rw [if_neg (by omega), if_pos e3]
        rw [e]
        rw [e3] at k4
        clear HT e
        go_enter Try.func17, Try.ntmps17
        go_wp2_with (first | (go_at_call 43; refine (made_any _ p mb k1).mono ?_; rintro e w' ⟨rfl, rfl⟩))
        go_ret
        exact ⟨rfl, Td.refl HK.out (Fr.refl _ _)⟩
      · have e3 : d.down = false := by simpa using e3
        have e : K.fuse d k keep = (0, { d with left := k, keep := keep }) := by unfold K.fuse; rw [if_neg (by omega), if_neg (by simp [e3])]
        rw [e] at HOK ⊢
        rw [e3] at k4
        clear e
        go_enter Try.func17, Try.ntmps17
        go_wp2_with (first | (go_at_call 43; refine (made_any _ p mb k1).mono ?_; rintro e w' ⟨rfl, rfl⟩))
        go_ret
        exact ⟨rfl, HT.out.td HS.out HC.out HOK.out⟩

set_option maxHeartbeats 1600000 in
theorem restart_any {S : Nat → Prop} {w : World} {p : Nat} {d : K.DK} (h : Dk S w p d) :
    Calls Try.prog 42 #[.pointer (some ⟨p, 0, none⟩)] w fun e w' => e = .returned (.int .i64 (K.restart d).1) ∧ Td S w p (K.restart d).2 w' := by
  have HK := hid h
  have HOK := hid (K.ok_restart h.2.1)
  obtain ⟨c, mb, l, hS, ho, hc, hd⟩ := h.tn
  obtain ⟨k0, k1, k2, k3, k4⟩ := hd.k
  have q4 := frozen_of_row (j := 5) hd.at_
  have hcp : c p ≠ none := by rw [hd.cp]; simp
  have HT := hid (show Tn c w p mb { d with down := false } (w.setCell ⟨p, 5, none⟩ (.bool false)) from
    ⟨c, l, hd.own (Fr.setCell (p := ⟨p, 5, none⟩) (S := fun k => k = p) (Fr.refl _ _) (fun _ => rfl) _) (by rw [setCell_row hd.at_ _]; rfl) rfl, Fr.setCell (p := ⟨p, 5, none⟩) (Fr.refl _ _) (fun _ => hcp) _, fun k hk => .inl hk⟩)
  have HS := hid hS
  have HC := hid hc
  by_cases e3 : d.down = true
  · have e : K.restart d = (0, { d with down := false }) := by unfold K.restart; rw [if_pos e3]
    rw [e] at HOK ⊢
    rw [e3] at k4
    clear h hS ho hc hd e hcp
    go_enter Try.func42, Try.ntmps42
    go_wp2_with (first | (go_at_call 43; refine (made_any _ p mb k1).mono ?_; rintro e w' ⟨rfl, rfl⟩))
    go_ret
    exact ⟨rfl, HT.out.td HS.out HC.out HOK.out⟩
  · have e3 : d.down = false := by simpa using e3
    have e : K.restart d = (1, d) := by unfold K.restart; rw [if_neg (by simp [e3])]
    rw [e]
    rw [e3] at k4
    clear h hS ho hc hd e HOK HT hcp
    go_enter Try.func42, Try.ntmps42
    go_wp2_with (first | (go_at_call 43; refine (made_any _ p mb k1).mono ?_; rintro e w' ⟨rfl, rfl⟩))
    go_ret
    exact ⟨rfl, Td.refl HK.out (Fr.refl _ _)⟩

end Go.Proofs.Ytogdjhhabcejgaa

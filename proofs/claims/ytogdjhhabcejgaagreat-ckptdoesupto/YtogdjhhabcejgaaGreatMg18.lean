/-
  A string out of bytes; a disk that comes: 'begun'.
  The contracts of a disk: Size, SetFuse, Crash, Restart.
-/
import Derived.Test.YtogdjhhabcejgaaGreatKApp2Q
import Derived.Lib.ConvBytes
import Derived.Lib.SlBytesConst
namespace Go.Proofs.YtogdjhhabcejgaaGreat
open Go.RowKit Go.Maps
set_option linter.unusedVariables false

def kstr (bs : List UInt8) : ByteArray := ⟨bs.toArray⟩
theorem kstr_size (bs : List UInt8) : (kstr bs).size = bs.length := by simp [kstr, ByteArray.size]
theorem kstr_toList (bs : List UInt8) : (kstr bs).data.toList = bs := by simp [kstr]
theorem knums_str (bs : List UInt8) : (⟨((bs.map fun x => (x.toNat : Int)).map fun n => UInt8.ofNat n.toNat).toArray⟩ : ByteArray) = kstr bs := by
  unfold kstr
  congr 2
  rw [List.map_map]
  conv => rhs; rw [← List.map_id bs]
  apply List.map_congr_left
  intro x _
  simp
theorem krun_str (w : World) (a : Option Addr) (len c : Nat) (bs : List UInt8) (h : Sl w a len bs) :
    (convert 31 9 (.slice a len c)).run Tryz.prog w = .ok (.string (kstr bs)) w := by
  have hl := h.1
  cases a with
  | none =>
    have h0 : len = 0 := by
      rcases h.2 with h0 | ⟨_, _, e, _⟩
      · exact h0
      · cases e
    subst h0
    have := List.eq_nil_of_length_eq_zero hl
    subst this
    exact run_convert_bytes_nil w _ _ Tryz.underlying31 Tryz.underlying5 0 c _ Tryz.underlying9
  | some a =>
    have hc := h.cells
    have hload : (loadCells a len).run Tryz.prog w = .ok ((bs.map fun x => (x.toNat : Int)).map (Value.int .u8)).toArray w := by
      have := run_loadCells_list (P := Tryz.prog) w a ((bs.map fun x => (x.toNat : Int)).map (Value.int .u8)) (fun j v hj => by
        apply hc j v
        simpa using hj)
      simpa [hl] using this
    rw [run_convert_bytes_string w _ _ _ _ len c Tryz.underlying31 Tryz.underlying5 Tryz.underlying9, run_bytesToString w a len c _ hload, foldl_push_bytes]
    have : (ByteArray.empty.data ++ ((bs.map fun x => (x.toNat : Int)).map fun n => UInt8.ofNat n.toNat).toArray) = ((bs.map fun x => (x.toNat : Int)).map fun n => UInt8.ofNat n.toNat).toArray := by
      simp [ByteArray.empty, ByteArray.emptyWithCapacity]
      rfl
    rw [this, knums_str]

theorem Td.ge {S : Nat → Prop} {w w' : World} {p b : Nat} {d : K.DK} (h : Td S w p d w') (hS : ∀ k, S k → b ≤ k) (hb : b ≤ w.heap.size) : ∃ S', Dk S' w' p d ∧ (∀ k, S' k → b ≤ k) ∧ Fr S w w' ∧ (∀ k, S' k → S k ∨ w.heap.size ≤ k) :=
  ⟨_, h.1, fun k hk => hk.1.elim (hS k) (Nat.le_trans hb), h.2, fun k hk => hk.1⟩
def hello : List UInt8 := [104, 101, 108, 108, 111]
def worlds : List UInt8 := [119, 111, 114, 108, 100, 115]
def dHello : K.DK := { K.mk 10 with fs := [([97], ⟨[], hello⟩)] }
theorem app_hello : K.app (K.mk 10) [97] hello = (0, dHello) := by rfl
theorem app_worlds : K.app dHello [98] worlds = (6, dHello) := by rfl
theorem fnd_hello : K.fnd dHello [97] = 0 := by rfl
theorem get_hello : K.get [97] dHello.fs = some ⟨[], hello⟩ := by rfl
theorem used_hello : dHello.used = 5 := by rfl

theorem sl_lit (w : World) (bs : List UInt8) (t : TypeId) (m : Nat × Nat) : Sl (w.alloc (.cells (bs.map B).toArray t m)) (some ⟨w.heap.size, 0, none⟩) bs.length bs :=
  ⟨rfl, .inr ⟨_, _, rfl, fun k x hx => cell_of (Go.heap_alloc_new w _) (by simp [hx])⟩⟩
theorem sl_hello (w : World) (m : Nat × Nat) : Sl (w.alloc (.cells #[.int .u8 104, .int .u8 101, .int .u8 108, .int .u8 108, .int .u8 111] 5 m)) (some ⟨w.heap.size, 0, none⟩) 5 hello := sl_lit w hello _ m
theorem sl_worlds (w : World) (m : Nat × Nat) : Sl (w.alloc (.cells #[.int .u8 119, .int .u8 111, .int .u8 114, .int .u8 108, .int .u8 100, .int .u8 115] 5 m)) (some ⟨w.heap.size, 0, none⟩) 6 worlds := sl_lit w worlds _ m

end Go.Proofs.YtogdjhhabcejgaaGreat

namespace Go.Proofs.YtogdjhhabcejgaaGreat
open Go.RowKit Go.Maps
set_option linter.unusedVariables false

/-- what Size answers -/
def Sz (d : K.DK) (n : K.Nm) (e : Ending) : Prop :=
  (K.fnd d n ≠ 0 ∧ e = .returned (.tuple #[.int .i64 0, .int .i64 0, .int .i64 (K.fnd d n)])) ∨ (K.fnd d n = 0 ∧ ∃ f, K.get n d.fs = some f ∧ e = .returned (.tuple #[.int .i64 (f.len : Nat), .int .i64 (f.sf.length : Nat), .int .i64 0]))
theorem quiet_flip' {P : Program} {f : FuncId} {args : Array Value} {w : World} {n : Nat} {v : Value} (h : Calls P f args (w.drewN n) fun e w' => e = .returned v ∧ ∃ m, w' = (w.drewN n).drewN m) :
    Calls P f args (w.drewN n) fun e w' => e = .returned v ∧ ∃ m, w' = w.drewN m := h.mono (fun e w' ⟨h1, m, h2⟩ => ⟨h1, n + m, by rw [h2]; simp [World.drewN, Nat.add_assoc]⟩)
theorem Dk.tn {S : Nat → Prop} {w : World} {p : Nat} {d : K.DK} (h : Dk S w p d) : ∃ c mb l, (∀ k, S k → k < w.heap.size) ∧ K.Ok d ∧ (∀ k, c k ≠ none → S k) ∧ Dm c w p mb l d := by
  obtain ⟨h1, h2, c, mb, l, h3, h4⟩ := h
  exact ⟨c, mb, l, h1, h2, h3, h4⟩

set_option maxHeartbeats 1600000 in
theorem fuse_any {S : Nat → Prop} {w : World} {p : Nat} {d : K.DK} (h : Dk S w p d) (k keep : Int) (hk : k ≤ 9223372036854775807) (hp : keep ≤ 9223372036854775807) :
    Calls Tryz.prog 19 #[.pointer (some ⟨p, 0, none⟩), .int .i64 k, .int .i64 keep] w fun e w' => e = .returned (.int .i64 (K.fuse d k keep).1) ∧ Td S w p (K.fuse d k keep).2 w' := by
  have HK := hid h
  have hok := K.ok_fuse h.2.1 k keep hk hp
  obtain ⟨c, mb, l, hS, ho, hc, hd⟩ := h.tn
  obtain ⟨k0, k1, k2, k3, k4⟩ := hd.k
  have q2 := frozen_of_row (j := 3) hd.at_
  have q3 := frozen_of_row (j := 4) hd.at_
  have hcp : c p ≠ none := by rw [hd.cp]; simp
  have HOK := hid hok
  have HT := hid (show Tn c w p mb { d with left := k, keep := keep } ((w.setCell ⟨p, 3, none⟩ (.int .i64 k)).setCell ⟨p, 4, none⟩ (.int .i64 keep)) from
    ⟨c, l, hd.own (Fr.setCell (p := ⟨p, 4, none⟩) (S := fun k => k = p) (Fr.setCell (p := ⟨p, 3, none⟩) (S := fun k => k = p) (Fr.refl _ _) (fun _ => rfl) _) (fun _ => rfl) _) (by rw [setCell_row (setCell_row hd.at_ _) _]; rfl) rfl,
      Fr.setCell (p := ⟨p, 4, none⟩) (Fr.setCell (p := ⟨p, 3, none⟩) (Fr.refl _ _) (fun _ => hcp) _) (fun _ => hcp) _, fun k hk => .inl hk⟩)
  have HS := hid hS
  have HC := hid hc
  clear h hS ho hc hd hok hcp
  by_cases e1 : k < 0
  · have e : K.fuse d k keep = (1, d) := by unfold K.fuse; rw [if_pos (.inl e1)]
    rw [e]
    clear HT e
    go_enter Tryz.func19, Tryz.ntmps19
    go_wp2_with (first | (go_at_call 27; refine (made_any _ p mb k1).mono ?_; rintro e w' ⟨rfl, rfl⟩))
    go_ret
    exact ⟨rfl, Td.refl HK.out (Fr.refl _ _)⟩
  · by_cases e2 : keep < 0
    · have e : K.fuse d k keep = (1, d) := by unfold K.fuse; rw [if_pos (.inr e2)]
      rw [e]
      clear HT e
      go_enter Tryz.func19, Tryz.ntmps19
      go_wp2_with (first | (go_at_call 27; refine (made_any _ p mb k1).mono ?_; rintro e w' ⟨rfl, rfl⟩))
      go_ret
      exact ⟨rfl, Td.refl HK.out (Fr.refl _ _)⟩
    · by_cases e3 : d.down = true
      · have e : K.fuse d k keep = (7, d) := by unfold K.fuse; rw [if_neg (by omega), if_pos e3]
        rw [e]
        rw [e3] at k4
        clear HT e
        go_enter Tryz.func19, Tryz.ntmps19
        go_wp2_with (first | (go_at_call 27; refine (made_any _ p mb k1).mono ?_; rintro e w' ⟨rfl, rfl⟩))
        go_ret
        exact ⟨rfl, Td.refl HK.out (Fr.refl _ _)⟩
      · have e3 : d.down = false := by simpa using e3
        have e : K.fuse d k keep = (0, { d with left := k, keep := keep }) := by unfold K.fuse; rw [if_neg (by omega), if_neg (by simp [e3])]
        rw [e] at HOK ⊢
        rw [e3] at k4
        clear e
        go_enter Tryz.func19, Tryz.ntmps19
        go_wp2_with (first | (go_at_call 27; refine (made_any _ p mb k1).mono ?_; rintro e w' ⟨rfl, rfl⟩))
        go_ret
        exact ⟨rfl, HT.out.td HS.out HC.out HOK.out⟩

set_option maxHeartbeats 1600000 in
theorem crash_any {S : Nat → Prop} {w : World} {p : Nat} {d : K.DK} (h : Dk S w p d) (keep : Int) (hp : keep ≤ 9223372036854775807) :
    Calls Tryz.prog 21 #[.pointer (some ⟨p, 0, none⟩), .int .i64 keep] w fun e w' => e = .returned (.int .i64 (K.crash d keep).1) ∧ Td S w p (K.crash d keep).2 w' := by
  have HK := hid h
  have HOK := hid (K.ok_crash h.2.1 keep)
  obtain ⟨c, mb, l, hS, ho, hc, hd⟩ := h.tn
  obtain ⟨k0, k1, k2, k3, k4⟩ := hd.k
  have HS := hid hS
  have HC := hid hc
  by_cases e1 : keep < 0
  · have e : K.crash d keep = (1, d) := by unfold K.crash; rw [if_pos e1]
    rw [e]
    clear h hS ho hc hd e HOK
    go_enter Tryz.func21, Tryz.ntmps21
    go_wp2_with (first | (go_at_call 27; refine (made_any _ p mb k1).mono ?_; rintro e w' ⟨rfl, rfl⟩))
    go_ret
    exact ⟨rfl, Td.refl HK.out (Fr.refl _ _)⟩
  · by_cases e3 : d.down = true
    · have e : K.crash d keep = (7, d) := by unfold K.crash; rw [if_neg e1, if_pos e3]
      rw [e]
      rw [e3] at k4
      clear h hS ho hc hd e HOK
      go_enter Tryz.func21, Tryz.ntmps21
      go_wp2_with (first | (go_at_call 27; refine (made_any _ p mb k1).mono ?_; rintro e w' ⟨rfl, rfl⟩))
      go_ret
      exact ⟨rfl, Td.refl HK.out (Fr.refl _ _)⟩
    · have e3 : d.down = false := by simpa using e3
      have e : K.crash d keep = (0, K.fall keep d) := by unfold K.crash; rw [if_neg e1, if_neg (by simp [e3])]
      have HF := hid (fall_any c w p mb l d hd ho keep (by omega) hp)
      rw [e] at HOK ⊢
      rw [e3] at k4
      clear h hS ho hc hd e
      go_enter Tryz.func21, Tryz.ntmps21
      go_wp2_with (first | (go_at_call 27; refine (made_any _ p mb k1).mono ?_; rintro e w' ⟨rfl, rfl⟩) | (go_at_call 43; refine HF.out.mono ?_; rintro e w' ⟨⟨v, rfl⟩, ht⟩; have HT := hid ht; clear ht))
      go_ret
      exact ⟨rfl, HT.out.td HS.out HC.out HOK.out⟩

set_option maxHeartbeats 1600000 in
theorem restart_any {S : Nat → Prop} {w : World} {p : Nat} {d : K.DK} (h : Dk S w p d) :
    Calls Tryz.prog 23 #[.pointer (some ⟨p, 0, none⟩)] w fun e w' => e = .returned (.int .i64 (K.restart d).1) ∧ Td S w p (K.restart d).2 w' := by
  have HK := hid h
  have HOK := hid (K.ok_restart h.2.1)
  obtain ⟨c, mb, l, hS, ho, hc, hd⟩ := h.tn
  obtain ⟨k0, k1, k2, k3, k4⟩ := hd.k
  have q4 := frozen_of_row (j := 5) hd.at_
  have hcp : c p ≠ none := by rw [hd.cp]; simp
  have HT := hid (show Tn c w p mb { d with down := false } (w.setCell ⟨p, 5, none⟩ (.bool false)) from
    ⟨c, l, hd.own (Fr.setCell (p := ⟨p, 5, none⟩) (S := fun k => k = p) (Fr.refl _ _) (fun _ => rfl) _) (by rw [setCell_row hd.at_ _]; rfl) rfl, Fr.setCell (p := ⟨p, 5, none⟩) (Fr.refl _ _) (fun _ => hcp) _, fun k hk => .inl hk⟩)
  have HS := hid hS
  have HC := hid hc
  by_cases e3 : d.down = true
  · have e : K.restart d = (0, { d with down := false }) := by unfold K.restart; rw [if_pos e3]
    rw [e] at HOK ⊢
    rw [e3] at k4
    clear h hS ho hc hd e hcp
    go_enter Tryz.func23, Tryz.ntmps23
    go_wp2_with (first | (go_at_call 27; refine (made_any _ p mb k1).mono ?_; rintro e w' ⟨rfl, rfl⟩))
    go_ret
    exact ⟨rfl, HT.out.td HS.out HC.out HOK.out⟩
  · have e3 : d.down = false := by simpa using e3
    have e : K.restart d = (1, d) := by unfold K.restart; rw [if_neg (by simp [e3])]
    rw [e]
    rw [e3] at k4
    clear h hS ho hc hd e HOK HT hcp
    go_enter Tryz.func23, Tryz.ntmps23
    go_wp2_with (first | (go_at_call 27; refine (made_any _ p mb k1).mono ?_; rintro e w' ⟨rfl, rfl⟩))
    go_ret
    exact ⟨rfl, Td.refl HK.out (Fr.refl _ _)⟩

end Go.Proofs.YtogdjhhabcejgaaGreat

/-
  A string out of bytes; a disk that comes: 'begun'.
-/
import Derived.Test.YtnfpceeacfdldaaKApp2
import Derived.Lib.ConvBytes
import Derived.Lib.SlBytesConst
namespace Go.Proofs.Ytnfpceeacfdldaa
open Go.RowKit Go.Maps
set_option linter.unusedVariables false

def str (bs : List UInt8) : ByteArray := ⟨bs.toArray⟩
theorem str_size (bs : List UInt8) : (str bs).size = bs.length := by simp [str, ByteArray.size]
theorem str_toList (bs : List UInt8) : (str bs).data.toList = bs := by simp [str]
theorem nums_str (bs : List UInt8) : (⟨((bs.map fun x => (x.toNat : Int)).map fun n => UInt8.ofNat n.toNat).toArray⟩ : ByteArray) = str bs := by
  unfold str
  congr 2
  rw [List.map_map]
  conv => rhs; rw [← List.map_id bs]
  apply List.map_congr_left
  intro x _
  simp
theorem run_str (w : World) (a : Option Addr) (len c : Nat) (bs : List UInt8) (h : Sl w a len bs) :
    (convert 31 9 (.slice a len c)).run Try.prog w = .ok (.string (str bs)) w := by
  have hl := h.1
  cases a with
  | none =>
    have h0 : len = 0 := by
      rcases h.2 with h0 | ⟨_, _, e, _⟩
      · exact h0
      · cases e
    subst h0
    have := List.eq_nil_of_length_eq_zero hl
    subst this
    exact run_convert_bytes_nil w _ _ Try.underlying31 Try.underlying5 0 c _ Try.underlying9
  | some a =>
    have hc := h.cells
    have hload : (loadCells a len).run Try.prog w = .ok ((bs.map fun x => (x.toNat : Int)).map (Value.int .u8)).toArray w := by
      have := run_loadCells_list (P := Try.prog) w a ((bs.map fun x => (x.toNat : Int)).map (Value.int .u8)) (fun j v hj => by
        apply hc j v
        simpa using hj)
      simpa [hl] using this
    rw [run_convert_bytes_string w _ _ _ _ len c Try.underlying31 Try.underlying5 Try.underlying9, run_bytesToString w a len c _ hload, foldl_push_bytes]
    have : (ByteArray.empty.data ++ ((bs.map fun x => (x.toNat : Int)).map fun n => UInt8.ofNat n.toNat).toArray) = ((bs.map fun x => (x.toNat : Int)).map fun n => UInt8.ofNat n.toNat).toArray := by
      simp [ByteArray.empty, ByteArray.emptyWithCapacity]
      rfl
    rw [this, nums_str]

theorem Td.ge {S : Nat → Prop} {w w' : World} {p b : Nat} {d : K.DK} (h : Td S w p d w') (hS : ∀ k, S k → b ≤ k) (hb : b ≤ w.heap.size) : ∃ S', Dk S' w' p d ∧ (∀ k, S' k → b ≤ k) ∧ Fr S w w' ∧ (∀ k, S' k → S k ∨ w.heap.size ≤ k) :=
  ⟨_, h.1, fun k hk => hk.1.elim (hS k) (Nat.le_trans hb), h.2, fun k hk => hk.1⟩
def hello : List UInt8 := [104, 101, 108, 108, 111]
def worlds : List UInt8 := [119, 111, 114, 108, 100, 115]
def dHello : K.DK := { K.mk 10 with fs := [([97], ⟨[], hello⟩)] }
theorem app_hello : K.app (K.mk 10) [97] hello = (0, dHello) := by rfl
theorem app_worlds : K.app dHello [98] worlds = (6, dHello) := by rfl
theorem fnd_hello : K.fnd dHello [97] = 0 := by rfl
theorem get_hello : K.get [97] dHello.fs = some ⟨[], hello⟩ := by rfl
theorem used_hello : dHello.used = 5 := by rfl

theorem sl_lit (w : World) (bs : List UInt8) (t : TypeId) (m : Nat × Nat) : Sl (w.alloc (.cells (bs.map B).toArray t m)) (some ⟨w.heap.size, 0, none⟩) bs.length bs :=
  ⟨rfl, .inr ⟨_, _, rfl, fun k x hx => cell_of (Go.heap_alloc_new w _) (by simp [hx])⟩⟩
theorem sl_hello (w : World) (m : Nat × Nat) : Sl (w.alloc (.cells #[.int .u8 104, .int .u8 101, .int .u8 108, .int .u8 108, .int .u8 111] 5 m)) (some ⟨w.heap.size, 0, none⟩) 5 hello := sl_lit w hello _ m
theorem sl_worlds (w : World) (m : Nat × Nat) : Sl (w.alloc (.cells #[.int .u8 119, .int .u8 111, .int .u8 114, .int .u8 108, .int .u8 100, .int .u8 115] 5 m)) (some ⟨w.heap.size, 0, none⟩) 6 worlds := sl_lit w worlds _ m

set_option maxHeartbeats 3200000 in
set_option maxRecDepth 20000 in
theorem begun_any (w : World) : Calls Try.prog 10 #[] w fun e w' => e = .returned (.bool true) ∧ Fr (fun _ => False) w w' := by
  have kc := fun (w : World) (C : Array Value) (n c : Nat) => Lib.run_convert_bytes_const (P := Try.prog) w 31 5 C n c Try.underlying31 Try.underlying5
  go_enter Try.func10, Try.ntmps10
  go_wp2_with fail
  refine (new_any 10 (by decide) (by decide) w).mono ?_
  rintro e w1 ⟨rfl, ht1⟩
  obtain ⟨S1, hd1, hS1, hf1, _⟩ := ht1.ge (b := w.heap.size) (fun _ h => h.elim) (Nat.le_refl _)
  have HD1 := hid hd1
  have F1 := hid hf1
  have HS1 := hid hS1
  generalize w.heap.size + 1 = p at HD1 ⊢
  clear hd1 hf1 hS1 ht1
  have hz1 := F1.out.size
  go_wp2_with fail
  refine (append_any (HD1.out.kept (Fr.alloc (Fr.refl (fun _ => False) _) _) (fun _ _ h => h)) ⟨#[97]⟩ (by decide) _ 5 _ hello (sl_hello w1 _) (by decide) (fun _ => by show 0 + 5 ≤ 200000000000000; omega)).mono ?_
  rw [show (ByteArray.mk #[97]).data.toList = [97] from rfl, app_hello]
  rintro e w2 ⟨rfl, ht2⟩
  obtain ⟨S2, hd2, hS2, hf2, _⟩ := ht2.ge HS1.out (by simp; omega)
  have HD2 := hid hd2
  have F2 := hid (F1.out.trans ((Fr.alloc (Fr.refl S1 w1) _).trans hf2 (fun _ _ h => h)) (fun i hi e => by have := HS1.out i e; omega))
  have HS2 := hid hS2
  clear hd2 hf2 hS2 ht2
  have hz2 := F2.out.size
  go_wp2_with fail
  refine (append_any (HD2.out.kept (Fr.alloc (Fr.refl (fun _ => False) _) _) (fun _ _ h => h)) ⟨#[98]⟩ (by decide) _ 6 _ worlds (sl_worlds w2 _) (by decide) (fun h => absurd h (by rw [used_hello]; decide))).mono ?_
  rw [show (ByteArray.mk #[98]).data.toList = [98] from rfl, app_worlds]
  rintro e w3 ⟨rfl, ht3⟩
  obtain ⟨S3, hd3, hS3, hf3, _⟩ := ht3.ge HS2.out (by simp; omega)
  have HD3 := hid hd3
  have F3 := hid (F2.out.trans ((Fr.alloc (Fr.refl S2 w2) _).trans hf3 (fun _ _ h => h)) (fun i hi e => by have := HS2.out i e; omega))
  clear hd3 hf3 hS3 ht3
  go_wp2_with fail
  refine (read_any HD3.out ⟨#[97]⟩ (by decide)).mono ?_
  rw [show (ByteArray.mk #[97]).data.toList = [97] from rfl]
  rintro e w4 ⟨⟨hne, _⟩ | ⟨_, f, a4, c4, hg4, rfl, ho4⟩, hf4⟩
  · exact absurd fnd_hello hne
  · rw [get_hello] at hg4
    cases hg4
    have HU := hid (used_dk (HD3.out.kept hf4 (fun _ _ h => h)))
    rw [used_hello] at HU
    have hcv := run_str w4 a4 5 c4 hello ho4.sl
    have F4 := hid (F3.out.trans hf4 (fun _ _ h => h))
    have e5 : (K.F.all ⟨[], hello⟩).length = 5 := rfl
    rw [e5]
    have estr : str hello = ⟨#[104, 101, 108, 108, 111]⟩ := rfl
    rw [estr] at hcv
    clear ho4 hf4 estr e5
    go_wp2_with (first | (go_at_call 14; refine HU.out.mono ?_; rintro e w5 ⟨rfl, hf5⟩; have F5 := hid hf5; clear hf5))
    go_ret
    exact ⟨rfl, F4.out.trans F5.out (fun _ _ h => h)⟩

end Go.Proofs.Ytnfpceeacfdldaa

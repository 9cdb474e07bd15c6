/-
  The contracts of fold, appendInt and bytes.Clone.
-/
import Derived.Test.YtfkddpcadgidgaaDoorRows
import Derived.Test.YtfkddpcadgidgaaDoorMaths
import Derived.Test.YtfkddpcadgidgaaDoorMem
import Derived.WalkKit
import Derived.Outline
import Derived.WalkSpells
import Derived.Laws.BytesArg
namespace Go.Proofs.YtfkddpcadgidgaaDoor
open Go.RowKit
set_option linter.unusedVariables false


set_option maxHeartbeats 400000 in
theorem fold_any (n : Int) (h1 : -9223372036854775808 ≤ n) (h2 : n ≤ 9223372036854775807) (w : World) :
    Calls Tryd.prog 81 #[.int .i64 n] w fun e w' => e = .returned (.int .u64 (M.fd n : Nat)) ∧ w = w' := by
  by_cases h : n < 0
  · go_enter Tryd.func81, Tryd.ntmps81
    go_wp2
    go_ret
    exact ⟨ret_int (M.fd_neg n (by assumption) h1), rfl⟩
  · go_enter Tryd.func81, Tryd.ntmps81
    go_wp2
    go_ret
    exact ⟨ret_int (M.fd_pos n (by omega)), rfl⟩

/-- A ROW THAT LAY AT a IN w LIES AT a' IN w' NOW: nothing else that was there has turned. -/
def Grew (base : Nat) (w : World) (a : Option Addr) (w' : World) (a' : Option Addr) (c' : Nat) (bs' : List UInt8) : Prop :=
  Ow base w' a' c' bs' ∧ Fr (fun k => blk a = some k) w w' ∧ (blk a' = blk a ∨ ∀ k, blk a' = some k → w.heap.size ≤ k)
theorem Grew.start {base : Nat} {w : World} {a : Option Addr} {c : Nat} {bs : List UInt8} (h : Ow base w a c bs) : Grew base w a w a c bs := ⟨h, Fr.refl _ _, .inl rfl⟩
theorem Grew.alloc {base : Nat} {w : World} {a : Option Addr} {w' : World} {a' : Option Addr} {c' : Nat} {bs' : List UInt8} (h : Grew base w a w' a' c' bs') (o : Obj) : Grew base w a (w'.alloc o) a' c' bs' :=
  ⟨h.1.kept (Fr.alloc (Fr.refl (fun _ => False) _) o) (fun _ _ h => h), h.2.1.alloc o, h.2.2⟩
theorem Grew.size {base : Nat} {w : World} {a : Option Addr} {w' : World} {a' : Option Addr} {c' : Nat} {bs' : List UInt8} (h : Grew base w a w' a' c' bs') : w.heap.size ≤ w'.heap.size := h.2.1.size
theorem Grew.step {base : Nat} {w : World} {a : Option Addr} {w1 : World} {a1 : Option Addr} {c1 : Nat} {bs1 : List UInt8} (h : Grew base w a w1 a1 c1 bs1)
    {w2 : World} {a2 : Option Addr} {c2 n : Nat} {bs2 : List UInt8} (h2 : Ow base w2 a2 c2 bs2) (hg : w1.grownBy w2 (blk a1))
    (hat : (a2 = a1 ∧ c2 = c1 ∧ n ≤ c1) ∨ (a2 = some ⟨w1.heap.size, 0, none⟩ ∧ c1 < n ∧ w1.grownBy w2 none)) : Grew base w a w2 a2 c2 bs2 := by
  refine ⟨h2, h.2.1.trans (Fr.of_grown hg) (fun i hi e => ?_), ?_⟩
  · rcases h.2.2 with h3 | h3
    · rw [← h3]; exact e
    · have := h3 i e; omega
  · rcases hat with ⟨rfl, _⟩ | ⟨rfl, _⟩
    · exact h.2.2
    · right
      intro k hk
      simp [blk] at hk
      subst hk
      exact h.2.1.size

/-- the one byte that an append lays down ahead -/
theorem Sl.one (w : World) (n : Int) (x : UInt8) (t : TypeId) (h : n = (x.toNat : Int)) : Sl (w.alloc (.cells #[.int .u8 n] t)) (some ⟨w.heap.size, 0, none⟩) 1 [x] := by
  subst h
  refine ⟨rfl, .inr ⟨_, _, rfl, fun k y hy => ?_⟩⟩
  match k, hy with
  | 0, hy =>
    simp at hy
    subst hy
    simp

set_option maxHeartbeats 400000 in
theorem appendInt_any (base : Nat) (a : Option Addr) (len c : Nat) (bs : List UInt8) (n : Int) (w : World) (hl : bs.length = len) (h : Ow base w a c bs) (h1 : -9223372036854775808 ≤ n) (h2 : n ≤ 9223372036854775807)
    (hb : base ≤ w.heap.size) (hbd : len ≤ 70368744177664) :
    Calls Tryd.prog 58 #[.slice a len c, .int .i64 n] w fun e w' => ∃ a' c', e = .returned (.slice a' (len + (M.enc (M.fd n)).length) c') ∧ Grew base w a w' a' c' (bs ++ M.enc (M.fd n)) := by
  have hu := M.fd_lt n h1 h2
  have ht := M.enc_ten _ hu
  go_enter Tryd.func58, Tryd.ntmps58
  go_wp2_with (go_at_call 81; refine (fold_any n h1 h2 _).mono ?_; rintro e w' ⟨rfl, rfl⟩)
  obtain ⟨u0, hu0⟩ : ∃ u, u = M.fd n := ⟨_, rfl⟩
  have HU : Hid (u0 = M.fd n) := hu0
  rw [← hu0] at hu ht ⊢
  clear hu0 h1 h2
  go_loopw [0, 5] (fun t v wr => ∃ (a1 : Option Addr) (c1 : Nat) (bs1 : List UInt8) (u : Nat), t = .slice a1 (len + bs1.length) c1 ∧ v = .int .u64 (u : Nat) ∧ u < 18446744073709551616 ∧ M.enc u0 = bs1 ++ M.enc u ∧ Grew base w a wr a1 c1 (bs ++ bs1))
    (fun _ v _ => (intOf v).toNat)
  case atStart => exact ⟨a, c, [], u0, by simp, rfl, hu, rfl, by simpa using Grew.start h⟩
  case round =>
    obtain ⟨a1, c1, bs1, u, rfl, rfl, hu1, he, hg⟩ := hrel
    have hlen : (M.enc u0).length = bs1.length + (M.enc u).length := by rw [he]; simp
    have hpos := M.enc_pos u
    have hsz := hg.size
    have hg1 := fun o => hg.alloc o
    obtain ⟨l1, hl1⟩ : ∃ l1, l1 = bs1.length := ⟨_, rfl⟩
    have HL : Hid (l1 = bs1.length) := hl1
    have hl1' : l1 ≤ 10 := by omega
    rw [← hl1]
    clear hl1 hlen
    have HE : Hid (M.enc u0 = bs1 ++ M.enc u) := he
    clear he
    have HG : Hid (∀ o, Grew base w a (wr.alloc o) a1 c1 (bs ++ bs1)) := hg1
    clear hg1 hg
    by_cases hlt : 127 < u
    · have e1 := M.or128 u
      obtain ⟨x, hx⟩ : ∃ x, x = UInt8.ofNat (u % 128 + 128) := ⟨_, rfl⟩
      rw [← hx] at e1
      have HX : Hid (x = UInt8.ofNat (u % 128 + 128)) := hx
      clear hx
      go_wp2_with (at_builtin; refine wpList_append_b _ rfl (.tmp 10) (.tmp 14) rfl base a1 (len + l1) c1 (bs ++ bs1) rfl (by rw [List.length_append, hl, HL.out]) (HG.out _).1 (some ⟨wr.heap.size, 0, none⟩) 1 1 [x] rfl (Sl.one wr _ x _ rfl) (by omega) (by simp; omega) ?_; intro a2 c2 w2 how hgb hat)
      have HG2 := (HG.out _).step how hgb hat
      clear how hgb hat HG
      go_wp2
      go_roundw
      case rel => exact ⟨a2, c2, bs1 ++ [x], u / 128, by simp [HL.out, Nat.add_assoc], by go_num, by omega, by rw [HE.out, M.enc_big u (by omega), HX.out]; simp, by simpa using HG2⟩
      case measure => simp [intOf]; omega
    · obtain ⟨x, hx⟩ : ∃ x, x = UInt8.ofNat u := ⟨_, rfl⟩
      have e1 : (u : Int) = (x.toNat : Int) := by rw [hx, M.byte_of u (by omega)]
      have HX : Hid (x = UInt8.ofNat u) := hx
      clear hx
      have E1 : Hid ((u : Int) = (x.toNat : Int)) := e1
      clear e1
      go_wp2_with (at_builtin; refine wpList_append_b _ rfl (.tmp 18) (.tmp 21) rfl base a1 (len + l1) c1 (bs ++ bs1) rfl (by rw [List.length_append, hl, HL.out]) (HG.out _).1 (some ⟨wr.heap.size, 0, none⟩) 1 1 [x] rfl (Sl.one wr _ x _ E1.out) (by omega) (by simp; omega) ?_; intro a2 c2 w2 how hgb hat)
      have HG2 := (HG.out _).step how hgb hat
      clear how hgb hat HG
      go_wp2
      go_ret
      have e : M.enc u0 = bs1 ++ [x] := by rw [HE.out, M.enc_small u (by omega), HX.out]
      refine ⟨a2, c2, ?_, ?_⟩
      · rw [← HU.out, e, List.length_append, ← HL.out]; rfl
      · rw [← HU.out, e]; simpa using HG2

theorem blk_none : blk none = none := rfl
/-- what bytes.Clone makes: its own row; nil of nil -/
theorem clone_any (a : Option Addr) (len c : Nat) (bs : List UInt8) (w : World) (h : Sl w a len bs) (hbd : len ≤ 200000000000000) :
    Calls Tryd.prog 31 #[.slice a len c] w fun e w' => ∃ a' c', e = .returned (.slice a' len c') ∧ Ow w.heap.size w' a' c' bs ∧ Fr (fun _ => False) w w' := by
  have k1 := fun (w : World) (a : Option Addr) (l c : Nat) => Lib.run_eql_slice_nil (P := Tryd.prog) w 32 5 a l c 0 0 Tryd.underlying32
  cases a with
  | none =>
    have h0 : len = 0 := by
      rcases h.2 with h0 | ⟨_, _, e, _⟩
      · exact h0
      · cases e
    subst h0
    have := List.eq_nil_of_length_eq_zero h.1
    subst this
    go_enter Tryd.func31, Tryd.ntmps31
    go_wp2
    go_ret
    exact ⟨none, 0, rfl, Ow.nil _ _, Fr.refl _ _⟩
  | some a =>
    have how : Ow w.heap.size (w.alloc (.cells #[] 5)) (some ⟨w.heap.size, 0, none⟩) 0 [] :=
      .inr ⟨_, _, _, rfl, Nat.le_refl _, Go.heap_alloc_new w _, by simp, by simp, by simp [maxLen], by simp⟩
    have hsl : Sl (w.alloc (.cells #[] 5)) (some a) len bs := h.kept (Fr.alloc (Fr.refl (fun _ => False) _) _) (fun _ _ _ h => h)
    go_enter Tryd.func31, Tryd.ntmps31
    go_wp2_with (at_builtin; refine wpList_append_b _ rfl (.tmp 5) (.tmp 6) rfl w.heap.size (some ⟨w.heap.size, 0, none⟩) 0 0 [] rfl rfl how (some a) len c bs rfl hsl (by omega) (by simp) ?_; intro a2 c2 w2 how2 hgb hat)
    have hfr : Fr (fun _ => False) w w2 := (Fr.alloc (Fr.refl (fun _ => False) w) _).trans (Fr.of_grown hgb) (fun i hi e => by simp [blk] at e; omega)
    clear hgb hat how hsl
    go_wp2
    go_ret
    exact ⟨a2, c2, by simp, by simpa using how2, hfr⟩

/-- bytes as a string -/
def str (bs : List UInt8) : ByteArray := ⟨bs.toArray⟩
theorem str_size (bs : List UInt8) : (str bs).size = bs.length := by simp [str, ByteArray.size]
theorem str_toList (bs : List UInt8) : (str bs).data.toList = bs := by simp [str]
theorem nums_str (bs : List UInt8) : (⟨((bs.map fun x => (x.toNat : Int)).map fun n => UInt8.ofNat n.toNat).toArray⟩ : ByteArray) = str bs := by
  unfold str
  congr 2
  rw [List.map_map]
  conv => rhs; rw [← List.map_id bs]
  apply List.map_congr_left
  intro x _
  simp
theorem run_str (w : World) (a : Option Addr) (len c : Nat) (bs : List UInt8) (h : Sl w a len bs) :
    (convert 32 9 (.slice a len c)).run Tryd.prog w = .ok (.string (str bs)) w := by
  have hl := h.1
  cases a with
  | none =>
    have h0 : len = 0 := by
      rcases h.2 with h0 | ⟨_, _, e, _⟩
      · exact h0
      · cases e
    subst h0
    have := List.eq_nil_of_length_eq_zero hl
    subst this
    exact run_convert_bytes_nil w _ _ Tryd.underlying32 Tryd.underlying5 0 c _ Tryd.underlying9
  | some a =>
    have hc := h.cells
    have hload : (loadCells a len).run Tryd.prog w = .ok ((bs.map fun x => (x.toNat : Int)).map (Value.int .u8)).toArray w := by
      have := run_loadCells_list (P := Tryd.prog) w a ((bs.map fun x => (x.toNat : Int)).map (Value.int .u8)) (fun j v hj => by
        apply hc j v
        simpa using hj)
      simpa [hl] using this
    rw [run_convert_bytes_string w _ _ _ _ len c Tryd.underlying32 Tryd.underlying5 Tryd.underlying9, run_bytesToString w a len c _ hload, foldl_push_bytes]
    have : (ByteArray.empty.data ++ ((bs.map fun x => (x.toNat : Int)).map fun n => UInt8.ofNat n.toNat).toArray) = ((bs.map fun x => (x.toNat : Int)).map fun n => UInt8.ofNat n.toNat).toArray := by
      simp [ByteArray.empty, ByteArray.emptyWithCapacity]
      rfl
    rw [this, nums_str]

set_option maxHeartbeats 400000 in
theorem equal_any (a b : Option Addr) (n c m d : Nat) (bs cs : List UInt8) (w : World) (ha : Sl w a n bs) (hb : Sl w b m cs) :
    Calls Tryd.prog 21 #[.slice a n c, .slice b m d] w fun e w' => e = .returned (.bool (decide (bs = cs))) ∧ w = w' := by
  have k1 := run_str w a n c bs ha
  have k2 := run_str w b m d cs hb
  go_enter Tryd.func21, Tryd.ntmps21
  go_wp2
  go_ret
  refine ⟨ret_bool ?_, rfl⟩
  rw [ByteArray.toList_eq, ByteArray.toList_eq, str_toList, str_toList]
  by_cases e : bs = cs <;> simp [e]
end Go.Proofs.YtfkddpcadgidgaaDoor

/-
  The contracts of fold, appendInt and bytes.Clone.
-/
import Derived.Test.YtcmpkbgkhbcekaaDoorRows
import Derived.Test.YtcmpkbgkhbcekaaDoorMaths
import Derived.Test.YtcmpkbgkhbcekaaDoorMem
import Derived.WalkKit
import Derived.Outline
import Derived.WalkSpells
import Derived.Laws.BytesArg
namespace Go.Proofs.YtcmpkbgkhbcekaaDoor
open Go.RowKit
set_option linter.unusedVariables false


/-- A ROW THAT LAY AT a IN w LIES AT a' IN w' NOW: nothing else that was there has turned. -/
def Grew (base : Nat) (w : World) (a : Option Addr) (w' : World) (a' : Option Addr) (c' : Nat) (bs' : List UInt8) : Prop :=
  Ow base w' a' c' bs' ∧ Fr (fun k => blk a = some k) w w' ∧ (blk a' = blk a ∨ ∀ k, blk a' = some k → w.heap.size ≤ k)
theorem Grew.start {base : Nat} {w : World} {a : Option Addr} {c : Nat} {bs : List UInt8} (h : Ow base w a c bs) : Grew base w a w a c bs := ⟨h, Fr.refl _ _, .inl rfl⟩
theorem Grew.alloc {base : Nat} {w : World} {a : Option Addr} {w' : World} {a' : Option Addr} {c' : Nat} {bs' : List UInt8} (h : Grew base w a w' a' c' bs') (o : Obj) : Grew base w a (w'.alloc o) a' c' bs' :=
  ⟨h.1.kept (Fr.alloc (Fr.refl (fun _ => False) _) o) (fun _ _ h => h), h.2.1.alloc o, h.2.2⟩
theorem Grew.size {base : Nat} {w : World} {a : Option Addr} {w' : World} {a' : Option Addr} {c' : Nat} {bs' : List UInt8} (h : Grew base w a w' a' c' bs') : w.heap.size ≤ w'.heap.size := h.2.1.size
theorem Grew.step {base : Nat} {w : World} {a : Option Addr} {w1 : World} {a1 : Option Addr} {c1 : Nat} {bs1 : List UInt8} (h : Grew base w a w1 a1 c1 bs1)
    {w2 : World} {a2 : Option Addr} {c2 n : Nat} {bs2 : List UInt8} (h2 : Ow base w2 a2 c2 bs2) (hg : w1.grownBy w2 (blk a1))
    (hat : (a2 = a1 ∧ c2 = c1 ∧ n ≤ c1) ∨ (a2 = some ⟨w1.heap.size, 0, none⟩ ∧ c1 < n ∧ w1.grownBy w2 none)) : Grew base w a w2 a2 c2 bs2 := by
  refine ⟨h2, h.2.1.trans (Fr.of_grown hg) (fun i hi e => ?_), ?_⟩
  · rcases h.2.2 with h3 | h3
    · rw [← h3]; exact e
    · have := h3 i e; omega
  · rcases hat with ⟨rfl, _⟩ | ⟨rfl, _⟩
    · exact h.2.2
    · right
      intro k hk
      simp [blk] at hk
      subst hk
      exact h.2.1.size

/-- the one byte that an append lays down ahead -/
theorem Sl.one (w : World) (n : Int) (x : UInt8) (t : TypeId) (h : n = (x.toNat : Int)) : Sl (w.alloc (.cells #[.int .u8 n] t)) (some ⟨w.heap.size, 0, none⟩) 1 [x] := by
  subst h
  refine ⟨rfl, .inr ⟨_, _, rfl, fun k y hy => ?_⟩⟩
  match k, hy with
  | 0, hy =>
    simp at hy
    subst hy
    simp

theorem blk_none : blk none = none := rfl
/-- what bytes.Clone makes: its own row; nil of nil -/
theorem clone_any (a : Option Addr) (len c : Nat) (bs : List UInt8) (w : World) (h : Sl w a len bs) (hbd : len ≤ 200000000000000) :
    Calls Tryd.prog 46 #[.slice a len c] w fun e w' => ∃ a' c', e = .returned (.slice a' len c') ∧ Ow w.heap.size w' a' c' bs ∧ Fr (fun _ => False) w w' := by
  have k1 := fun (w : World) (a : Option Addr) (l c : Nat) => Lib.run_eql_slice_nil (P := Tryd.prog) w 33 5 a l c 0 0 Tryd.underlying33
  cases a with
  | none =>
    have h0 : len = 0 := by
      rcases h.2 with h0 | ⟨_, _, e, _⟩
      · exact h0
      · cases e
    subst h0
    have := List.eq_nil_of_length_eq_zero h.1
    subst this
    go_enter Tryd.func46, Tryd.ntmps46
    go_wp2
    go_ret
    exact ⟨none, 0, rfl, Ow.nil _ _, Fr.refl _ _⟩
  | some a =>
    have how : Ow w.heap.size (w.alloc (.cells #[] 5)) (some ⟨w.heap.size, 0, none⟩) 0 [] :=
      .inr ⟨_, _, _, rfl, Nat.le_refl _, Go.heap_alloc_new w _, by simp, by simp, by simp [maxLen], by simp⟩
    have hsl : Sl (w.alloc (.cells #[] 5)) (some a) len bs := h.kept (Fr.alloc (Fr.refl (fun _ => False) _) _) (fun _ _ _ h => h)
    go_enter Tryd.func46, Tryd.ntmps46
    go_wp2_with (at_builtin; refine wpList_append_b _ rfl (.tmp 5) (.tmp 6) rfl w.heap.size (some ⟨w.heap.size, 0, none⟩) 0 0 [] rfl rfl how (some a) len c bs rfl hsl (by omega) (by simp) ?_; intro a2 c2 w2 how2 hgb hat)
    have hfr : Fr (fun _ => False) w w2 := (Fr.alloc (Fr.refl (fun _ => False) w) _).trans (Fr.of_grown hgb) (fun i hi e => by simp [blk] at e; omega)
    clear hgb hat how hsl
    go_wp2
    go_ret
    exact ⟨a2, c2, by simp, by simpa using how2, hfr⟩

/-- bytes as a string -/
def str (bs : List UInt8) : ByteArray := ⟨bs.toArray⟩
theorem str_size (bs : List UInt8) : (str bs).size = bs.length := by simp [str, ByteArray.size]
theorem str_toList (bs : List UInt8) : (str bs).data.toList = bs := by simp [str]
theorem nums_str (bs : List UInt8) : (⟨((bs.map fun x => (x.toNat : Int)).map fun n => UInt8.ofNat n.toNat).toArray⟩ : ByteArray) = str bs := by
  unfold str
  congr 2
  rw [List.map_map]
  conv => rhs; rw [← List.map_id bs]
  apply List.map_congr_left
  intro x _
  simp
theorem run_str (w : World) (a : Option Addr) (len c : Nat) (bs : List UInt8) (h : Sl w a len bs) :
    (convert 33 9 (.slice a len c)).run Tryd.prog w = .ok (.string (str bs)) w := by
  have hl := h.1
  cases a with
  | none =>
    have h0 : len = 0 := by
      rcases h.2 with h0 | ⟨_, _, e, _⟩
      · exact h0
      · cases e
    subst h0
    have := List.eq_nil_of_length_eq_zero hl
    subst this
    exact run_convert_bytes_nil w _ _ Tryd.underlying33 Tryd.underlying5 0 c _ Tryd.underlying9
  | some a =>
    have hc := h.cells
    have hload : (loadCells a len).run Tryd.prog w = .ok ((bs.map fun x => (x.toNat : Int)).map (Value.int .u8)).toArray w := by
      have := run_loadCells_list (P := Tryd.prog) w a ((bs.map fun x => (x.toNat : Int)).map (Value.int .u8)) (fun j v hj => by
        apply hc j v
        simpa using hj)
      simpa [hl] using this
    rw [run_convert_bytes_string w _ _ _ _ len c Tryd.underlying33 Tryd.underlying5 Tryd.underlying9, run_bytesToString w a len c _ hload, foldl_push_bytes]
    have : (ByteArray.empty.data ++ ((bs.map fun x => (x.toNat : Int)).map fun n => UInt8.ofNat n.toNat).toArray) = ((bs.map fun x => (x.toNat : Int)).map fun n => UInt8.ofNat n.toNat).toArray := by
      simp [ByteArray.empty, ByteArray.emptyWithCapacity]
      rfl
    rw [this, nums_str]

set_option maxHeartbeats 400000 in
theorem equal_any (a b : Option Addr) (n c m d : Nat) (bs cs : List UInt8) (w : World) (ha : Sl w a n bs) (hb : Sl w b m cs) :
    Calls Tryd.prog 76 #[.slice a n c, .slice b m d] w fun e w' => e = .returned (.bool (decide (bs = cs))) ∧ w = w' := by
  have k1 := run_str w a n c bs ha
  have k2 := run_str w b m d cs hb
  go_enter Tryd.func76, Tryd.ntmps76
  go_wp2
  go_ret
  refine ⟨ret_bool ?_, rfl⟩
  rw [ByteArray.toList_eq, ByteArray.toList_eq, str_toList, str_toList]
  by_cases e : bs = cs <;> simp [e]
end Go.Proofs.YtcmpkbgkhbcekaaDoor

/-
  Bytes in memory: what a slice of bytes reads as, a row of bytes that a call owns, which blocks a step leaves alone; append of bytes onto an owned row.
-/
import Derived.Test.YtedgiffnfhkonaaRows
import Derived.WalkKit
import Derived.Deep.Upon
import Derived.Deep.DeepAppendWide
import Derived.BigQuiet
namespace Go.Proofs.Ytedgiffnfhkonaa
open Go.RowKit
set_option linter.unusedVariables false

theorem ret_int {k : IntKind} {a b : Int} (h : a = b) : Ending.returned (.int k a) = .returned (.int k b) := by rw [h]
theorem ret_bool {a b : Bool} (h : a = b) : Ending.returned (.bool a) = .returned (.bool b) := by rw [h]
theorem hid {p : Prop} (h : p) : Hid p := h
/-- a byte as a value -/
abbrev B (x : UInt8) : Value := .int .u8 (x.toNat : Int)

/-- WHICH BLOCKS A STEP LEAVES ALONE: all that were there, but those of S. -/
structure Fr (S : Nat → Prop) (w w' : World) : Prop where
  os : w'.os = w.os
  tape : w'.tape = w.tape
  output : w'.output = w.output
  size : w.heap.size ≤ w'.heap.size
  block : ∀ k, k < w.heap.size → ¬ S k → w'.heap[k]? = w.heap[k]?

theorem Fr.refl (S : Nat → Prop) (w : World) : Fr S w w := ⟨rfl, rfl, rfl, Nat.le_refl _, fun _ _ _ => rfl⟩
theorem Fr.trans {S T : Nat → Prop} {a b c : World} (h : Fr S a b) (k : Fr T b c) (hT : ∀ i, i < a.heap.size → T i → S i) : Fr S a c :=
  ⟨k.os.trans h.os, k.tape.trans h.tape, k.output.trans h.output, Nat.le_trans h.size k.size,
    fun i hi hn => (k.block i (Nat.lt_of_lt_of_le hi h.size) (fun t => hn (hT i hi t))).trans (h.block i hi hn)⟩
theorem Fr.mono {S T : Nat → Prop} {w w' : World} (h : Fr S w w') (hT : ∀ i, i < w.heap.size → S i → T i) : Fr T w w' :=
  ⟨h.os, h.tape, h.output, h.size, fun i hi hn => h.block i hi (fun s => hn (hT i hi s))⟩
theorem Fr.of_grown {w w' : World} {row : Option Nat} (h : w.grownBy w' row) : Fr (fun k => row = some k) w w' :=
  ⟨h.os, h.tape, h.output, h.size, fun k hk hn => h.block k hk (fun e => hn e.symm)⟩
theorem Fr.of_below {w w' : World} (h : Below w.heap.size w w') : Fr (fun _ => False) w w' :=
  ⟨h.os, h.tape, h.output, h.size, fun k hk _ => h.block k hk⟩
theorem Fr.below {S : Nat → Prop} {w w' : World} (h : Fr S w w') {B : Nat} (hB : B ≤ w.heap.size) (hS : ∀ i, i < B → ¬ S i) : Below B w w' :=
  ⟨h.os, h.tape, h.output, h.size, fun k hk => h.block k (Nat.lt_of_lt_of_le hk hB) (hS k hk)⟩
theorem Fr.alloc {S : Nat → Prop} {a w : World} (h : Fr S a w) (o : Obj) : Fr S a (w.alloc o) :=
  h.trans (T := fun _ => False) ⟨rfl, rfl, rfl, by simp, fun k hk _ => Below.heap_alloc _ _ _ hk⟩ (fun _ _ h => h.elim)
theorem Fr.drew {S : Nat → Prop} {a w : World} (h : Fr S a w) : Fr S a w.drew := ⟨h.os, h.tape, h.output, h.size, h.block⟩
theorem Fr.setCell {S : Nat → Prop} {a w : World} (h : Fr S a w) {p : Addr} (hp : p.block < a.heap.size → S p.block) (u : Value) : Fr S a (w.setCell p u) :=
  h.trans (T := fun k => k = p.block) ⟨rfl, rfl, rfl, by simp [World.setCell], fun k hk hn => Below.heap_setCell _ _ _ _ hn⟩ (fun i hi e => by subst e; exact hp hi)

/-- WHAT A SLICE OF BYTES READS AS: nothing, or cells behind an address. -/
def Sl (w : World) (a : Option Addr) (len : Nat) (bs : List UInt8) : Prop :=
  bs.length = len ∧ (len = 0 ∨ ∃ b off, a = some ⟨b, off, none⟩ ∧ ∀ k x, bs[k]? = some x → w.cell? ⟨b, off + k, none⟩ = some (B x))
/-- the block of an address -/
def blk : Option Addr → Option Nat
  | some a => some a.block
  | none => none

theorem Sl.nil (w : World) (a : Option Addr) : Sl w a 0 [] := ⟨rfl, .inl rfl⟩
theorem Sl.at {w : World} {a : Option Addr} {len : Nat} {bs : List UInt8} (h : Sl w a len bs) {k : Nat} (hk : k < len) :
    ∃ b off, ∃ x : UInt8, a = some ⟨b, off, none⟩ ∧ bs[k]? = some x ∧ w.cell? ⟨b, off + k, none⟩ = some (.int .u8 (x.toNat : Int)) := by
  obtain ⟨hl, h⟩ := h
  rcases h with h | ⟨b, off, ha, hc⟩
  · omega
  · have hx : bs[k]? = some bs[k] := by simp [hl, hk]
    exact ⟨b, off, bs[k], ha, hx, hc k _ hx⟩
theorem Sl.lt {w : World} {a : Option Addr} {len : Nat} {bs : List UInt8} (h : Sl w a len bs) (hl : 0 < len) : ∀ k, blk a = some k → k < w.heap.size := by
  intro k hk
  obtain ⟨b, off, x, rfl, _, hc⟩ := h.at hl
  simp [blk] at hk
  subst hk
  exact World.block_lt_of_cell? w _ hc
theorem Sl.kept {S : Nat → Prop} {w w' : World} {a : Option Addr} {len : Nat} {bs : List UInt8} (h : Sl w a len bs) (hf : Fr S w w') (hS : 0 < len → ∀ k, blk a = some k → ¬ S k) : Sl w' a len bs := by
  obtain ⟨hl, h0⟩ := h
  refine ⟨hl, ?_⟩
  rcases h0 with h0 | ⟨b, off, rfl, hc⟩
  · exact .inl h0
  · by_cases hz : len = 0
    · exact .inl hz
    · refine .inr ⟨b, off, rfl, fun k x hx => ?_⟩
      have h1 := hc k x hx
      have hb := World.block_lt_of_cell? w _ h1
      rw [World.cell?_of_block (w := w) (w' := w') (hf.block b hb (hS (by omega) b rfl))]
      exact h1
theorem Sl.below {w w' : World} {a : Option Addr} {len : Nat} {bs : List UInt8} (h : Sl w a len bs) (hf : Below w.heap.size w w') : Sl w' a len bs :=
  h.kept (Fr.of_below hf) (fun _ _ _ h => h)
theorem Sl.cells {w : World} {a : Addr} {len : Nat} {bs : List UInt8} (h : Sl w (some a) len bs) : ∀ j u, (bs.map B)[j]? = some u → w.cell? (a.add j) = some u := by
  intro j u hu
  obtain ⟨hl, h0⟩ := h
  rcases h0 with h0 | ⟨b, off, ha, hc⟩
  · subst h0
    have := List.eq_nil_of_length_eq_zero hl
    subst this
    simp at hu
  · simp only [Option.some.injEq] at ha
    subst ha
    simp only [List.getElem?_map, Option.map_eq_some_iff] at hu
    obtain ⟨x, hx, rfl⟩ := hu
    rw [Addr.add_lit]
    exact hc j x hx
theorem one_B (bs : List UInt8) : ∀ u ∈ bs.map B, u.oneCell' = true := by
  intro u hu
  obtain ⟨_, _, rfl⟩ := List.mem_map.1 hu
  rfl
theorem Sl.src {w : World} {a : Option Addr} {len : Nat} {bs : List UInt8} (h : Sl w a len bs) (c : Nat) : Src Try.prog 1 88 (.slice a len c) len (bs.map B) w := by
  cases a with
  | some a => exact Src.ofSlice w Try.underlying88 a len c _ (by simp [h.1]) h.cells (one_B bs)
  | none =>
    have h0 : len = 0 := by
      rcases h.2 with h0 | ⟨_, _, e, _⟩
      · exact h0
      · cases e
    subst h0
    have := List.eq_nil_of_length_eq_zero h.1
    subst this
    exact Src.ofNil w Try.underlying88 c
/-- a later part -/
theorem Sl.drop {w : World} {b off len : Nat} {bs : List UInt8} (h : Sl w (some ⟨b, off, none⟩) len bs) (k : Nat) (hk : k ≤ len) : Sl w (some ⟨b, off + k, none⟩) (len - k) (bs.drop k) := by
  refine ⟨by rw [List.length_drop, h.1], ?_⟩
  by_cases hz : len - k = 0
  · exact .inl hz
  · right
    obtain ⟨hl, h0⟩ := h
    rcases h0 with h0 | ⟨b', off', ha, hc⟩
    · omega
    · simp only [Option.some.injEq, Addr.mk.injEq] at ha
      obtain ⟨rfl, rfl, _⟩ := ha
      refine ⟨_, _, rfl, fun j x hx => ?_⟩
      rw [List.getElem?_drop] at hx
      have := hc (k + j) x hx
      rw [Nat.add_assoc]
      exact this
theorem Sl.take {w : World} {a : Option Addr} {len : Nat} {bs : List UInt8} (h : Sl w a len bs) (k : Nat) (hk : k ≤ len) : Sl w a k (bs.take k) := by
  refine ⟨by rw [List.length_take, h.1]; omega, ?_⟩
  by_cases hz : k = 0
  · exact .inl hz
  · right
    obtain ⟨hl, h0⟩ := h
    rcases h0 with h0 | ⟨b', off', ha, hc⟩
    · omega
    · refine ⟨_, _, ha, fun j x hx => ?_⟩
      rw [List.getElem?_take] at hx
      split at hx
      · exact hc j x hx
      · cases hx

/-- A ROW OF BYTES THAT THE CALL OWNS (its block's number is at least 'base'): the slice '.slice a bs.length c'. -/
def Ow (base : Nat) (w : World) (a : Option Addr) (c : Nat) (bs : List UInt8) : Prop :=
  (a = none ∧ c = 0 ∧ bs = []) ∨ ∃ g cur ty, a = some ⟨g, 0, none⟩ ∧ base ≤ g ∧ w.heap[g]? = some (.cells cur ty (0, 0)) ∧ bs.length ≤ c ∧ c ≤ cur.size ∧ c ≤ maxLen ∧ cur.toList.take bs.length = bs.map B

theorem Ow.nil (base : Nat) (w : World) : Ow base w none 0 [] := .inl ⟨rfl, rfl, rfl⟩
theorem Ow.cells {base : Nat} {w : World} {g c : Nat} {bs : List UInt8} (h : Ow base w (some ⟨g, 0, none⟩) c bs) : ∀ j u, (bs.map B)[j]? = some u → w.cell? ((⟨g, 0, none⟩ : Addr).add j) = some u := by
  intro j u hu
  rcases h with ⟨h, _⟩ | ⟨g', cur, ty, ha, hb, hg, hl, hc, hm, ht⟩
  · cases h
  · simp only [Option.some.injEq, Addr.mk.injEq] at ha
    obtain ⟨rfl, _⟩ := ha
    rw [Addr.add_lit, Nat.zero_add, cell_of_row w g j cur ty (0, 0) hg]
    rw [← ht, List.getElem?_take] at hu
    split at hu
    · simpa using hu
    · cases hu
theorem Ow.sl {base : Nat} {w : World} {a : Option Addr} {c : Nat} {bs : List UInt8} (h : Ow base w a c bs) : Sl w a bs.length bs := by
  refine ⟨rfl, ?_⟩
  rcases h with ⟨rfl, _, rfl⟩ | ⟨g, cur, ty, rfl, hb, hg, hl, hc, hm, ht⟩
  · exact .inl rfl
  · refine .inr ⟨g, 0, rfl, fun k x hx => ?_⟩
    have := Ow.cells (base := base) (w := w) (g := g) (c := c) (bs := bs) (.inr ⟨g, cur, ty, rfl, hb, hg, hl, hc, hm, ht⟩) k (B x) (by simp [hx])
    rwa [Addr.add_lit] at this
theorem Ow.lt {base : Nat} {w : World} {a : Option Addr} {c : Nat} {bs : List UInt8} (h : Ow base w a c bs) : ∀ k, blk a = some k → base ≤ k ∧ k < w.heap.size := by
  intro k hk
  rcases h with ⟨rfl, _, rfl⟩ | ⟨g, cur, ty, rfl, hb, hg, _⟩
  · simp [blk] at hk
  · simp [blk] at hk
    subst hk
    exact ⟨hb, (Array.getElem?_eq_some_iff.1 hg).1⟩
theorem Ow.len {base : Nat} {w : World} {a : Option Addr} {c : Nat} {bs : List UInt8} (h : Ow base w a c bs) : bs.length ≤ c := by
  rcases h with ⟨_, rfl, rfl⟩ | ⟨_, _, _, _, _, _, h, _⟩
  · simp
  · exact h
theorem Ow.kept {S : Nat → Prop} {base : Nat} {w w' : World} {a : Option Addr} {c : Nat} {bs : List UInt8} (h : Ow base w a c bs) (hf : Fr S w w') (hS : ∀ k, blk a = some k → ¬ S k) : Ow base w' a c bs := by
  rcases h with h | ⟨g, cur, ty, rfl, hb, hg, r⟩
  · exact .inl h
  · refine .inr ⟨g, cur, ty, rfl, hb, ?_, r⟩
    rw [hf.block g (Array.getElem?_eq_some_iff.1 hg).1 (hS g rfl)]
    exact hg
theorem Ow.base {base base' : Nat} {w : World} {a : Option Addr} {c : Nat} {bs : List UInt8} (h : Ow base w a c bs) (hb : ∀ k, blk a = some k → base' ≤ k) : Ow base' w a c bs := by
  rcases h with h | ⟨g, cur, ty, rfl, _, r⟩
  · exact .inl h
  · exact .inr ⟨g, cur, ty, rfl, hb g rfl, r⟩

/-- a block that is known whole: its cells, and that none is frozen -/
theorem Fr.cells {S : Nat → Prop} {w w' : World} (h : Fr S w w') {p : Nat} {o : Obj} (hp : w.heap[p]? = some o) (hS : ¬ S p) : w'.heap[p]? = some o := by
  rw [h.block p (Array.getElem?_eq_some_iff.1 hp).1 hS]; exact hp
theorem frozen_of_row {w : World} {p j : Nat} {cs : Array Value} {t : TypeId} (h : w.heap[p]? = some (.cells cs t (0, 0))) : w.frozen? ⟨p, j, none⟩ = false := by
  simp [World.frozen?, h]
theorem lt_of_row {w : World} {p : Nat} {o : Obj} (h : w.heap[p]? = some o) : p < w.heap.size := (Array.getElem?_eq_some_iff.1 h).1
theorem setCell_row {w : World} {p j : Nat} {cs : Array Value} {t : TypeId} {m : Nat × Nat} (h : w.heap[p]? = some (.cells cs t m)) (v : Value) :
    (w.setCell ⟨p, j, none⟩ v).heap[p]? = some (.cells (cs.setIfInBounds j v) t m) := by
  have hlt := lt_of_row h
  have hv : w.heap[p] = .cells cs t m := (Array.getElem?_eq_some_iff.1 h).2
  simp only [World.setCell]
  rw [Array.getElem?_eq_getElem (by simpa using hlt), Array.getElem_modify]
  simp [hv]

theorem cellA {w : World} {p j : Nat} {cs : Array Value} {t : TypeId} {m : Nat × Nat} (h : w.heap[p]? = some (.cells cs t m)) {v : Value} (hv : cs[j]? = some v) : w.cell? ⟨p, j, none⟩ = some v := by
  rw [cell_of_row w p j _ _ _ h]; exact hv
/-- one byte of an owned row is another one -/
theorem Ow.set {base : Nat} {w : World} {g c : Nat} {bs : List UInt8} (h : Ow base w (some ⟨g, 0, none⟩) c bs) (k : Nat) (y : UInt8) : Ow base (w.setCell ⟨g, k, none⟩ (B y)) (some ⟨g, 0, none⟩) c (bs.set k y) := by
  rcases h with ⟨h, _⟩ | ⟨g', cur, ty, ha, hb, hg, hl, hc, hm, ht⟩
  · cases h
  · simp only [Option.some.injEq, Addr.mk.injEq] at ha
    obtain ⟨rfl, _⟩ := ha
    refine .inr ⟨g, _, ty, rfl, hb, setCell_row hg (B y), by simpa using hl, by simpa using hc, hm, ?_⟩
    rw [Array.toList_setIfInBounds, List.length_set, List.take_set, ht, List.map_set]
theorem Ow.some_of {base : Nat} {w : World} {a : Option Addr} {c : Nat} {bs : List UInt8} (h : Ow base w a c bs) (hl : 0 < bs.length) : ∃ g, a = some ⟨g, 0, none⟩ ∧ base ≤ g ∧ g < w.heap.size := by
  rcases h with ⟨_, _, rfl⟩ | ⟨g, cur, ty, rfl, hb, hg, _⟩
  · simp at hl
  · exact ⟨g, rfl, hb, lt_of_row hg⟩
theorem Ow.frozen {base : Nat} {w : World} {g c : Nat} {bs : List UInt8} (h : Ow base w (some ⟨g, 0, none⟩) c bs) (k : Nat) : w.frozen? ⟨g, k, none⟩ = false := by
  rcases h with ⟨h, _⟩ | ⟨g', cur, ty, ha, hb, hg, _⟩
  · cases h
  · simp only [Option.some.injEq, Addr.mk.injEq] at ha
    obtain ⟨rfl, _⟩ := ha
    exact frozen_of_row hg

theorem info5 : (Try.prog.info? 5).map (fun i => (i.zero, i.size, i.bytes)) = some (some (.int .u8 0), 1, 1) := by kernel_rfl

/-- append of bytes onto an owned row: it stays where it was (there was room), or a new block is made. -/
theorem run_append_b (w : World) (ty : TypeId) (base : Nat) (a : Option Addr) (n c : Nat) (bs : List UInt8) (hn : bs.length = n) (hown : Ow base w a c bs)
    (sa : Option Addr) (m sc : Nat) (src : List UInt8) (hsrc : Sl w sa m src) (hbd : n + m ≤ 200000000000000) (hbase : base ≤ w.heap.size) :
    ∃ a' c' w', (Builtin.append_ #[88, 88] ty #[.slice a n c, .slice sa m sc]).run Try.prog w = .ok (.slice a' (n + m) c') w' ∧ Ow base w' a' c' (bs ++ src) ∧ w.grownBy w' (blk a) ∧
      ((a' = a ∧ c' = c ∧ n + m ≤ c) ∨ (a' = some ⟨w.heap.size, 0, none⟩ ∧ c < n + m ∧ w.grownBy w' none)) := by
  obtain ⟨i0, hi, hz0, hz1, hz2⟩ := info_parts info5
  have hs := hsrc.src sc
  subst hn
  by_cases hroom : bs.length + m ≤ c
  · rcases hown with ⟨rfl, rfl, rfl⟩ | ⟨g, cur, ty0, rfl, hb, hg, hl, hc, hmx, ht⟩
    · have hm0 : m = 0 := by simp at hroom; exact hroom
      subst hm0
      have h0 := List.eq_nil_of_length_eq_zero hsrc.1
      subst h0
      refine ⟨none, 0, w, ?_, Ow.nil base w, ⟨rfl, rfl, rfl, Nat.le_refl _, fun _ _ _ => rfl⟩, .inl ⟨rfl, rfl, by simp⟩⟩
      exact run_append_nothing w 88 88 ty 5 i0 Try.underlying88 hi none 0 0 (Nat.le_refl _) _ (by rw [hz1]; exact hs)
    · have hst := run_storeCells_at (P := Try.prog) g bs.length ty0 (src.map B) 0 cur w hg (by simp [hsrc.1]; omega) (one_B src)
      simp only [Nat.add_zero] at hst
      have hrun : (Builtin.append_ #[88, 88] ty #[.slice (some ⟨g, 0, none⟩) bs.length c, .slice sa m sc]).run Try.prog w = .ok (.slice (some ⟨g, 0, none⟩) (bs.length + m) c)
          (w.setRow g (cur.toList.take bs.length ++ src.map B ++ cur.toList.drop (bs.length + (src.map B).length)).toArray) := by
        have hsz : i0.size = 1 := hz1
        simp [Builtin.append_, run_underlying Try.underlying88, sizeOf, typeInfo, hi, hsz, hs.len, hroom, hs.cells, Addr.add_lit, hst]
      refine ⟨_, c, _, hrun, .inr ⟨g, _, ty0, rfl, hb, setRow_heap w g cur _ ty0 _ hg, by simp [hsrc.1]; omega, ?_, hmx, ?_⟩, ⟨rfl, rfl, rfl, by simp, fun k _ hk => setRow_other w g k _ (fun e => hk (by simp [blk, e]))⟩, .inl ⟨rfl, rfl, hroom⟩⟩
      · simp only [List.size_toArray, List.length_append, List.length_take, List.length_drop, Array.length_toList, List.length_map, hsrc.1]
        omega
      · rw [ht, List.map_append]
        have : (bs ++ src).length = (bs.map B ++ src.map B).length := by simp
        rw [this]
        exact List.take_left
  · have hold : (Builtin.firstCells i0.size bs.length (.slice a bs.length c)).run Try.prog w.drew = .ok (bs.map B).toArray w.drew := by
      rw [hz1]
      rcases hown with ⟨rfl, rfl, rfl⟩ | ⟨g, cur, ty0, rfl, hb, hg, hl, hc, hmx, ht⟩
      · exact run_firstCells_none w.drew 1 0 0 0
      · exact run_firstCells_some w.drew 1 bs.length ⟨g, 0, none⟩ bs.length c (bs.map B) (by simp)
          (by have h := Ow.cells (base := base) (w := w) (g := g) (c := c) (bs := bs) (.inr ⟨g, cur, ty0, rfl, hb, hg, hl, hc, hmx, ht⟩); simpa using h)
    have hr := run_append_grow_src (P := Try.prog) w 88 88 ty 5 i0 (.int .u8 0) Try.underlying88 hi hz0 a bs.length c (bs.map B) hold (.slice sa m sc) m (src.map B) (by rw [hz1]; exact hs)
      (by omega) (by omega) (by rw [hz2]; exact growslice_fits_wide (by omega) (by omega))
    have hge := grownCap_ge w (bs.length + m) c 5
    have hcm : grownCap w (bs.length + m) c 5 ≤ maxLen := grownCap_le_maxLen w (bs.length + m) c 5 (by unfold maxLen; omega)
    have hgr : ∀ row, w.grownBy (w.drew.alloc (.cells ((bs.map B ++ src.map B).toArray ++ Builtin.zeroCells (Value.int .u8 0).cells (grownCap w (bs.length + m) c 5 - (bs.length + m))) 5)) row :=
      fun row => ⟨rfl, rfl, rfl, by simp, fun k hk _ => Below.heap_alloc w.drew _ k hk⟩
    refine ⟨_, _, _, hr, .inr ⟨w.heap.size, _, _, rfl, hbase, Go.heap_alloc_new w.drew _, by simp [hsrc.1]; omega, ?_, hcm, ?_⟩, hgr _, .inr ⟨rfl, by omega, hgr _⟩⟩
    · simp only [Array.size_append, List.size_toArray, size_zeroCells, List.length_append, List.length_map, hsrc.1]
      have : (Value.int IntKind.u8 0).cells.size = 1 := rfl
      rw [this]
      omega
    · simp only [Array.toList_append, List.map_append]
      have : (bs ++ src).length = (bs.map B ++ src.map B).length := by simp
      rw [this]
      exact List.take_left

/-- AT THE OPERATION, FOR THE WALK. -/
theorem wpList_append_b (w : World) {ops : Array Oper} {rest : List Oper} {o : Oper} {a : Act} {Q : Exit → Act → World → Prop} (hgd : o.guard = none) (s x : Operand)
    (ho : o.op = .call { callee := .builtin .append, args := #[s, x], argTypes := #[88, 88] })
    (base : Nat) (ad : Option Addr) (n c : Nat) (bs : List UInt8) (hs : a.eval s = .slice ad n c) (hn : bs.length = n) (hown : Ow base w ad c bs)
    (sa : Option Addr) (m sc : Nat) (src : List UInt8) (hx : a.eval x = .slice sa m sc) (hsrc : Sl w sa m src) (hbd : n + m ≤ 200000000000000) (hbase : base ≤ w.heap.size)
    (h : ∀ a' c' w', Ow base w' a' c' (bs ++ src) → w.grownBy w' (blk ad) → ((a' = ad ∧ c' = c ∧ n + m ≤ c) ∨ (a' = some ⟨w.heap.size, 0, none⟩ ∧ c < n + m ∧ w.grownBy w' none)) → wpList Try.prog ops Q rest (a.put o.dst (.slice a' (n + m) c')) w') :
    wpList Try.prog ops Q (o :: rest) a w := by
  refine wpList_plain hgd fun K hK => ?_
  obtain ⟨a', c', w', hr, h2, h3, h4⟩ := run_append_b w o.type base ad n c bs hn hown sa m sc src hsrc hbd hbase
  unfold Oper.wp execOp
  simp only [ho, resolve, invoke, builtin, Sem.run_bind, Sem.run_pure, Result.andThen_ok, List.map_toArray, List.map_cons, List.map_nil, hs, hx, hr]
  exact hK _ _ (h a' c' w' h2 h3 h4)

/-- where a later part of a slice begins -/
def cutA (a : Option Addr) (c l : Nat) : Option Addr := if c = l then a else a.map (·.add l)
theorem blk_cutA (a : Option Addr) (c l : Nat) : blk (cutA a c l) = blk a := by
  unfold cutA
  split
  · rfl
  · cases a with
    | none => rfl
    | some a => simp only [Option.map_some, blk, Addr.add]; split <;> rfl
theorem cutA_zero (a : Option Addr) (c : Nat) : cutA a c 0 = a := by
  unfold cutA
  split
  · rfl
  · cases a with
    | none => rfl
    | some a => simp [Addr.add]
theorem Sl.cut {w : World} {a : Option Addr} {n : Nat} {bs : List UInt8} (h : Sl w a n bs) {c : Nat} (hc : n ≤ c) (l : Nat) (hl : l ≤ n) : Sl w (cutA a c l) (n - l) (bs.drop l) := by
  by_cases hz : n - l = 0
  · exact ⟨by rw [List.length_drop, h.1], .inl hz⟩
  · obtain ⟨b, off, x, rfl, _, _⟩ := h.at (k := 0) (by omega)
    have : cutA (some ⟨b, off, none⟩) c l = some ⟨b, off + l, none⟩ := by
      unfold cutA
      rw [if_neg (by omega)]
      simp [Addr.add_lit]
    rw [this]
    exact h.drop l hl
theorem run_cut_lo (w : World) (a : Option Addr) (n c l : Nat) (hl : l ≤ n) :
    (Instr.slice 88 (.slice a n c) (some (.int .i64 (l : Int))) none none).run Try.prog w = .ok (.slice (cutA a c l) (n - l) (c - l)) w := by
  obtain ⟨i0, hi, hz0, hz1, hz2⟩ := info_parts info5
  have h1 : (Instr.sliceBound (.int .i64 (l : Int)) n .sliceB).run Try.prog w = .ok l w := by
    have : (0 : Int) ≤ (l : Int) ∧ (l : Int) ≤ (n : Int) := by omega
    simp [Instr.sliceBound, asIntOf, this]
  simp [Instr.slice, Instr.sliceBounds, h1, run_underlying Try.underlying88, sizeOf, typeInfo, hi, hz1, cutA]
theorem run_cut_hi' (w : World) (a : Option Addr) (n c h : Nat) (hh : h ≤ c) (x : Int) (hx : x = (h : Int)) :
    (Instr.slice 88 (.slice a n c) none (some (.int .i64 x)) none).run Try.prog w = .ok (.slice a h c) w := by
  subst hx
  obtain ⟨i0, hi, hz0, hz1, hz2⟩ := info_parts info5
  have h1 : (Instr.sliceBound (.int .i64 (h : Int)) c .sliceAcap).run Try.prog w = .ok h w := by
    have : (0 : Int) ≤ (h : Int) ∧ (h : Int) ≤ (c : Int) := by omega
    simp [Instr.sliceBound, asIntOf, this]
  simp [Instr.slice, Instr.sliceBounds, h1, run_underlying Try.underlying88, sizeOf, typeInfo, hi]
  cases a <;> simp [Addr.add]
theorem run_cut_hi (w : World) (a : Option Addr) (n c h : Nat) (hh : h ≤ c) :
    (Instr.slice 88 (.slice a n c) none (some (.int .i64 (h : Int))) none).run Try.prog w = .ok (.slice a h c) w := run_cut_hi' w a n c h hh _ rfl
theorem run_cut_both (w : World) (a : Option Addr) (n c l h : Nat) (hl : l ≤ h) (hh : h ≤ c) (x : Int) (hx : x = (h : Int)) :
    (Instr.slice 88 (.slice a n c) (some (.int .i64 (l : Int))) (some (.int .i64 x)) none).run Try.prog w = .ok (.slice (cutA a c l) (h - l) (c - l)) w := by
  subst hx
  obtain ⟨i0, hi, hz0, hz1, hz2⟩ := info_parts info5
  have h1 : (Instr.sliceBound (.int .i64 (h : Int)) c .sliceAcap).run Try.prog w = .ok h w := by
    have : (0 : Int) ≤ (h : Int) ∧ (h : Int) ≤ (c : Int) := by omega
    simp [Instr.sliceBound, asIntOf, this]
  have h2 : (Instr.sliceBound (.int .i64 (l : Int)) h .sliceB).run Try.prog w = .ok l w := by
    have : (0 : Int) ≤ (l : Int) ∧ (l : Int) ≤ (h : Int) := by omega
    simp [Instr.sliceBound, asIntOf, this]
  simp [Instr.slice, Instr.sliceBounds, h1, h2, run_underlying Try.underlying88, sizeOf, typeInfo, hi, hz1, cutA]

theorem Fr.drewN {S : Nat → Prop} (w : World) (n : Nat) : Fr S w (w.drewN n) := ⟨rfl, rfl, rfl, Nat.le_refl _, fun _ _ _ => rfl⟩
theorem setCell_size (w : World) (p : Addr) (v : Value) : (w.setCell p v).heap.size = w.heap.size := by simp [World.setCell]
theorem Sl.alloc {w : World} {a : Option Addr} {n : Nat} {bs : List UInt8} (h : Sl w a n bs) (o : Obj) : Sl (w.alloc o) a n bs := h.kept (Fr.alloc (Fr.refl (fun _ => False) _) _) (fun _ _ _ h => h)

/-- a row of bytes that is laid down -/
theorem Sl.laid (w : World) (bs : List UInt8) (cs : Array Value) (t : TypeId) (m : Nat × Nat) (h : cs.toList = bs.map B) : Sl (w.alloc (.cells cs t m)) (some ⟨w.heap.size, 0, none⟩) bs.length bs := by
  refine ⟨rfl, .inr ⟨_, _, rfl, fun k x hx => ?_⟩⟩
  rw [cell_of_row _ _ _ cs t m (Go.heap_alloc_new w _), Nat.zero_add, ← Array.getElem?_toList, h]
  simp [hx]

end Go.Proofs.Ytedgiffnfhkonaa

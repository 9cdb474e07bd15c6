/-
  The library's contracts on slices.SortFunc of attributes and on strings.Compare, laid at this dump.
  Ballots, and slots: Check, isSlot, inOrder, Compare, and the document's.
  Entries in memory: their cells, and the two rows behind them; clones.
-/
import Derived.Test.YtilbdpnioajkoaaGreatRows
import Derived.WalkKit
import Derived.Shelf.SlSortCmp.NoneTotal
import Derived.Shelf.Small.Strs
import Derived.Ground.SlsfProg
import Derived.Ground.NamesProg
import Derived.Test.YtilbdpnioajkoaaGreatMg1
import Derived.LoopN
import Derived.Test.YtilbdpnioajkoaaGreatMg2
import Derived.Lib.SliceRun
namespace Go.Proofs.YtilbdpnioajkoaaGreat
open Go.RowKit Go.Sort Go.Shelf
set_option linter.unusedVariables false

def Lsorta_ren : Go.Shelf.Ren := ⟨fun | 6 => 101 | 15 => 99 | 14 => 129 | 28 => 126 | 29 => 127 | 20 => 151 | 21 => 152 | 22 => 153 | 23 => 154 | 24 => 155 | 25 => 156 | 26 => 157 | 27 => 158 | 46 => 172 | 47 => 146 | 48 => 147 | 49 => 173 | 50 => 174 | 57 => 179 | n => n, fun | 22 => 61 | 24 => 65 | 25 => 139 | 3 => 3 | 39 => 161 | 0 => 0 | 53 => 183 | 55 => 185 | 4 => 4 | 46 => 177 | 45 => 176 | 50 => 110 | 5 => 5 | 9 => 9 | 66 => 198 | 70 => 202 | 76 => 216 | 77 => 217 | n => n, fun | n => n⟩
theorem Lsorta : Go.Proofs.SlLaysF0.n6 Tryz.prog Lsorta_ren := {
  mixed := by kernel_rfl
  f6 := ⟨Tryz.f101.name, by decide, Tryz.func101.trans (congrArg some (by kernel_rfl))⟩
  f14 := ⟨Tryz.f129.name, by decide, Tryz.func129.trans (congrArg some (by kernel_rfl))⟩
  f15 := Tryz.func99.trans (congrArg some (by kernel_rfl))
  f20 := ⟨Tryz.f151.name, by decide, Tryz.func151.trans (congrArg some (by kernel_rfl))⟩
  f21 := ⟨Tryz.f152.name, by decide, Tryz.func152.trans (congrArg some (by kernel_rfl))⟩
  f22 := ⟨Tryz.f153.name, by decide, Tryz.func153.trans (congrArg some (by kernel_rfl))⟩
  f23 := ⟨Tryz.f154.name, by decide, Tryz.func154.trans (congrArg some (by kernel_rfl))⟩
  f24 := ⟨Tryz.f155.name, by decide, Tryz.func155.trans (congrArg some (by kernel_rfl))⟩
  f25 := ⟨Tryz.f156.name, by decide, Tryz.func156.trans (congrArg some (by kernel_rfl))⟩
  f26 := ⟨Tryz.f157.name, by decide, Tryz.func157.trans (congrArg some (by kernel_rfl))⟩
  f27 := ⟨Tryz.f158.name, by decide, Tryz.func158.trans (congrArg some (by kernel_rfl))⟩
  f28 := Tryz.func126.trans (congrArg some (by kernel_rfl))
  f29 := Tryz.func127.trans (congrArg some (by kernel_rfl))
  f46 := ⟨Tryz.f172.name, by decide, Tryz.func172.trans (congrArg some (by kernel_rfl))⟩
  f47 := Tryz.func146.trans (congrArg some (by kernel_rfl))
  f48 := Tryz.func147.trans (congrArg some (by kernel_rfl))
  f49 := ⟨Tryz.f173.name, by decide, Tryz.func173.trans (congrArg some (by kernel_rfl))⟩
  f50 := ⟨Tryz.f174.name, by decide, Tryz.func174.trans (congrArg some (by kernel_rfl))⟩
  f57 := ⟨Tryz.f179.name, by decide, Tryz.func179.trans (congrArg some (by kernel_rfl))⟩
  t0 := Tryz.underlying0
  a0 := Tryz.isAgg0
  z0 := Tryz.sizeOf0
  v0 := Tryz.zeroValue0
  t3 := Tryz.underlying3
  a3 := Tryz.isAgg3
  z3 := Tryz.sizeOf3
  v3 := Tryz.zeroValue3
  t4 := Tryz.underlying4
  a4 := Tryz.isAgg4
  z4 := Tryz.sizeOf4
  v4 := Tryz.zeroValue4
  t5 := Tryz.underlying5
  a5 := Tryz.isAgg5
  z5 := Tryz.sizeOf5
  v5 := Tryz.zeroValue5
  t9 := Tryz.underlying9
  a9 := Tryz.isAgg9
  z9 := Tryz.sizeOf9
  v9 := Tryz.zeroValue9
  t22 := Tryz.underlying61
  a22 := Tryz.isAgg61
  z22 := Tryz.sizeOf61
  v22 := Tryz.zeroValue61
  t25 := Tryz.underlying139
  a25 := Tryz.isAgg139
  z25 := Tryz.sizeOf139
  v25 := Tryz.zeroValue139
  t39 := Tryz.underlying161
  a39 := Tryz.isAgg161
  z39 := Tryz.sizeOf161
  v39 := Tryz.zeroValue161
  t45 := Tryz.underlying176
  a45 := Tryz.isAgg176
  z45 := Tryz.sizeOf176
  v45 := Tryz.zeroValue176
  t46 := Tryz.underlying177
  a46 := Tryz.isAgg177
  z46 := Tryz.sizeOf177
  v46 := Tryz.zeroValue177
  t50 := Tryz.underlying110
  a50 := Tryz.isAgg110
  z50 := Tryz.sizeOf110
  v50 := Tryz.zeroValue110
  t53 := Tryz.underlying183
  a53 := Tryz.isAgg183
  z53 := Tryz.sizeOf183
  v53 := Tryz.zeroValue183
  t55 := Tryz.underlying185
  a55 := Tryz.isAgg185
  z55 := Tryz.sizeOf185
  v55 := Tryz.zeroValue185
  t66 := Tryz.underlying198
  a66 := Tryz.isAgg198
  z66 := Tryz.sizeOf198
  v66 := Tryz.zeroValue198
  t70 := Tryz.underlying202
  a70 := Tryz.isAgg202
  z70 := Tryz.sizeOf202
  v70 := Tryz.zeroValue202
  t76 := Tryz.underlying216
  a76 := Tryz.isAgg216
  z76 := Tryz.sizeOf216
  v76 := Tryz.zeroValue216
  t77 := Tryz.underlying217
  a77 := Tryz.isAgg217
  z77 := Tryz.sizeOf217
  v77 := Tryz.zeroValue217 }
def Lcmps_ren : Go.Shelf.Ren := ⟨fun | 106 => 76 | 213 => 103 | 265 => 130 | n => n, fun | 9 => 9 | 3 => 3 | n => n, fun | n => n⟩
theorem Lcmps : Go.Proofs.Lays.n106 Tryz.prog Lcmps_ren := {
  mixed := by kernel_rfl
  f106 := Tryz.func76.trans (congrArg some (by kernel_rfl))
  f213 := Tryz.func103.trans (congrArg some (by kernel_rfl))
  f265 := Tryz.func130.trans (congrArg some (by kernel_rfl))
  t3 := Tryz.underlying3
  a3 := Tryz.isAgg3
  z3 := Tryz.sizeOf3
  v3 := Tryz.zeroValue3
  t9 := Tryz.underlying9
  a9 := Tryz.isAgg9
  z9 := Tryz.sizeOf9
  v9 := Tryz.zeroValue9 }

end Go.Proofs.YtilbdpnioajkoaaGreat

namespace Go.Proofs.YtilbdpnioajkoaaGreat
open Go.RowKit
set_option linter.unusedVariables false
set_option linter.unusedSimpArgs false

/-- a ballot: its round, its replica -/
abbrev A.Bl := Int × Int
def A.okB (b : A.Bl) : Bool := decide (1 ≤ b.1 ∧ b.1 ≤ 1099511627776 ∧ 0 ≤ b.2 ∧ b.2 < 5)
def A.okS (s : Int) : Bool := decide (0 ≤ s ∧ s ≤ 1099511627776)
/-- a is no greater than b -/
def A.le (a b : A.Bl) : Bool := decide (a.1 < b.1 ∨ a.1 = b.1 ∧ a.2 ≤ b.2)
def A.cmp (a b : A.Bl) : Int := if A.le b a = false then -1 else if A.le a b = false then 1 else 0
abbrev A.bv (b : A.Bl) : Value := .agg #[.int .i64 b.1, .int .i64 b.2]

theorem cmp_ref (a1 a2 b1 b2 : Int) : A.cmp (a1, a2) (b1, b2) = if a1 < b1 ∨ a1 = b1 ∧ a2 < b2 then -1 else if a1 = b1 ∧ a2 = b2 then 0 else 1 := by
  simp only [A.cmp, A.le, decide_eq_false_iff_not]
  split <;> split <;> (try split) <;> omega
end Go.Proofs.YtilbdpnioajkoaaGreat

namespace Go.Proofs.YtilbdpnioajkoaaGreat
open Go.RowKit
set_option linter.unusedVariables false

/-- WHAT A SLICE OF ELEMENTS OF k CELLS READS AS, in blocks of I. -/
def Rw (I : Nat → Prop) (w : World) (k : Nat) (a : Option Addr) (n : Nat) (xs : List Value) : Prop :=
  xs.length = n * k ∧ (n = 0 ∨ ∃ g o, a = some ⟨g, o, none⟩ ∧ I g ∧ ∀ j u, xs[j]? = some u → w.cell? ⟨g, o + j, none⟩ = some u)
theorem Rw.nil (I : Nat → Prop) (w : World) (k : Nat) (a : Option Addr) : Rw I w k a 0 [] := ⟨by simp, .inl rfl⟩
theorem Rw.kept {I S : Nat → Prop} {w w' : World} {k : Nat} {a : Option Addr} {n : Nat} {xs : List Value} (h : Rw I w k a n xs) (hf : Fr S w w') (hS : ∀ i, I i → ¬ S i) : Rw I w' k a n xs := by
  refine ⟨h.1, ?_⟩
  rcases h.2 with h0 | ⟨g, o, rfl, hI, hc⟩
  · exact .inl h0
  · exact .inr ⟨g, o, rfl, hI, fun j u hu => cellFr hf (hS g hI) (hc j u hu)⟩
theorem Rw.mono {I J : Nat → Prop} {w : World} {k : Nat} {a : Option Addr} {n : Nat} {xs : List Value} (h : Rw I w k a n xs) (hJ : ∀ i, I i → J i) : Rw J w k a n xs := by
  refine ⟨h.1, ?_⟩
  rcases h.2 with h0 | ⟨g, o, rfl, hI, hc⟩
  · exact .inl h0
  · exact .inr ⟨g, o, rfl, hJ g hI, hc⟩
theorem Rw.of_ro {I : Nat → Prop} {w : World} {e : TypeId} {k : Nat} {a : Option Addr} {n c : Nat} {xs : List Value} (h : Ro w e k a n c xs) (hI : ∀ g, blk a = some g → I g) : Rw I w k a n xs := by
  refine ⟨h.1, ?_⟩
  rcases Nat.eq_zero_or_pos n with h0 | h0
  · exact .inl h0
  · obtain ⟨g, fo, rfl⟩ := h.some_of h0
    exact .inr ⟨g, fo, rfl, hI g rfl, fun j u hu => h.cell hu⟩
theorem infoOp : (Tryz.prog.info? 35).map (fun i => (i.zero, i.size, i.bytes)) = some (some (.agg #[.int .i64 0, .int .i64 0, .int .i64 0, .int .i64 0, .int .i64 0, .string ⟨#[]⟩, .string ⟨#[]⟩, .string ⟨#[]⟩]), 8, 88) := by kernel_rfl
theorem infoByte : (Tryz.prog.info? 5).map (fun i => (i.zero, i.size, i.bytes)) = some (some (.int .u8 0), 1, 1) := by kernel_rfl
/-- append of a slice's elements onto an empty literal -/
theorem clone_run (w : World) (t e : TypeId) (i0 : TypeInfo) (z : Value) (k by_ : Nat) (ht : Tryz.prog.underlying t = some (.slice e)) (hi : Tryz.prog.info? e = some i0) (hz0 : i0.zero = some z) (hz1 : i0.size = k) (hz2 : i0.bytes = by_) (hzs : z.cells.size = k) (hk : 0 < k)
    (I : Nat → Prop) (ad : Addr) (n sc : Nat) (xs : List Value) (h : Rw I w k (some ad) n xs) (h1 : ∀ u ∈ xs, u.oneCell' = true) (hn : n ≤ 200000000000000) (hnb : (0 + n + (0 + n) / 4 + 192) * by_ ≤ 281474976710656) :
    ∃ a' c' w', (Builtin.append_ #[t, t] t #[.slice (some ⟨w.heap.size, 0, none⟩) 0 0, .slice (some ad) n sc]).run Tryz.prog (w.alloc (.cells #[] e)) = .ok (.slice a' n c') w' ∧ Rw (fun g => w.heap.size ≤ g ∧ g < w'.heap.size) w' k a' n xs ∧ Fr (fun _ => False) w w' := by
  have f0 : Fr (fun _ => False) w (w.alloc (.cells #[] e)) := Fr.alloc (Fr.refl _ _) _
  have hr0 : Ro (w.alloc (.cells #[] e)) e k (some ⟨w.heap.size, 0, none⟩) 0 0 [] := ⟨by simp, .inr ⟨w.heap.size, 0, #[], by simp, Go.heap_alloc_new w _, Nat.le_refl _, Nat.zero_le _, by simp, by simp⟩⟩
  rcases Nat.eq_zero_or_pos n with h0 | h0
  · subst h0
    have hs : xs = [] := List.eq_nil_of_length_eq_zero (by rw [h.1]; simp)
    have hsrc : Src Tryz.prog k t (.slice (some ad) 0 sc) 0 [] (w.alloc (.cells #[] e)) := Src.ofSlice _ ht ad 0 sc [] (by simp) (by simp) (by simp)
    refine ⟨_, _, _, run_append_nothing (w.alloc (.cells #[] e)) t t t e i0 ht hi (some ⟨w.heap.size, 0, none⟩) 0 0 (Nat.le_refl _) _ (by rw [hz1]; exact hsrc), by rw [hs]; exact Rw.nil _ _ _ _, f0⟩
  · have hcell : ∀ j u, xs[j]? = some u → (w.alloc (.cells #[] e)).cell? (ad.add j) = some u := fun j u hu => by
      rcases (h.kept f0 (fun _ _ h => h)).2 with hv | ⟨g, o, hv, _, hc⟩
      · omega
      · cases hv
        rw [Addr.add_lit]
        exact hc j u hu
    obtain ⟨a', c', w', hr, h2, h3, h4⟩ := run_append_o (P := Tryz.prog) (w.alloc (.cells #[] e)) t t e i0 z k by_ ht hi hz0 hz1 hz2 hzs hk (some ⟨w.heap.size, 0, none⟩) 0 0 [] hr0 ad n sc xs h.1 hcell h1 h0 (by omega) hnb
    rw [Nat.zero_add, List.nil_append] at h2
    rw [Nat.zero_add] at hr
    refine ⟨a', c', w', hr, Rw.of_ro h2 (fun g hg => ⟨?_, h2.lt g hg⟩), f0.trans (Fr.of_grown h3) (fun i hi e => by simp [blk] at e; omega)⟩
    rcases h4 with ⟨rfl, _⟩ | ⟨rfl, _⟩
    · simp [blk] at hg; omega
    · simp [blk] at hg; omega
/-- what a clone of a row is: the same elements, in new memory -/
def Cw (w : World) (k n : Nat) (xs : List Value) (e : Ending) (w' : World) : Prop := ∃ a c, e = .returned (.slice a n c) ∧ Rw (fun g => w.heap.size ≤ g ∧ g < w'.heap.size) w' k a n xs ∧ Fr (fun _ => False) w w'
/-- AN ENTRY: its cells (where its two slices stand: nil), its operations' cells, its part's bytes -/
structure A.En where
  fx : List Value
  ops : List (List Value)
  dt : List UInt8
/-- what stands at a place: 0 a number, 1 a string, 2 nothing -/
def A.tyAt (j : Nat) : Nat := if j = 13 ∨ j = 52 then 2 else if 8 ≤ j ∧ j ≤ 10 then 1 else 0
def A.vOk : Nat → Value → Prop
  | 0, v => ∃ x : Int, v = .int .i64 x
  | 1, v => ∃ s : ByteArray, v = .string s
  | _, v => v = .slice none 0 0
theorem A.vOk.one {t : Nat} {v : Value} (h : A.vOk t v) : v.oneCell' = true := by
  unfold A.vOk at h
  split at h
  · obtain ⟨x, rfl⟩ := h; rfl
  · obtain ⟨x, rfl⟩ := h; rfl
  · subst h; rfl
structure A.En.Ok (e : A.En) : Prop where
  len : e.fx.length = 56
  ty : ∀ (j : Nat) v, e.fx[j]? = some v → A.vOk (A.tyAt j) v
  op : ∀ o ∈ e.ops, o.length = 8 ∧ ∀ (j : Nat) v, o[j]? = some v → A.vOk (if 5 ≤ j then 1 else 0) v
  many : e.ops.length ≤ 1599289640401
  long : e.dt.length ≤ 140737488355328
theorem flat_len {k : Nat} : ∀ {l : List (List Value)}, (∀ o ∈ l, o.length = k) → l.flatten.length = l.length * k
  | [], _ => by simp
  | o :: r, h => by
    rw [List.flatten_cons, List.length_append, h o (by simp), flat_len (fun o ho => h o (by simp [ho])), List.length_cons, Nat.add_mul]
    omega
theorem A.En.Ok.oneOps {e : A.En} (h : e.Ok) : ∀ u ∈ e.ops.flatten, u.oneCell' = true := fun u hu => by
  obtain ⟨o, ho, hu⟩ := List.mem_flatten.1 hu
  obtain ⟨j, hj⟩ := List.getElem?_of_mem hu
  exact ((h.op o ho).2 j u hj).one
/-- ITS CELLS READ AS AN ENTRY, in blocks of I. -/
def Re (I : Nat → Prop) (w : World) (cs : List Value) (e : A.En) : Prop :=
  e.Ok ∧ ∃ a1 c1 a2 c2, cs = (e.fx.set 13 (.slice a1 e.ops.length c1)).set 52 (.slice a2 e.dt.length c2) ∧ Rw I w 8 a1 e.ops.length e.ops.flatten ∧ Rw I w 1 a2 e.dt.length (e.dt.map B)
theorem Re.kept {I S : Nat → Prop} {w w' : World} {cs : List Value} {e : A.En} (h : Re I w cs e) (hf : Fr S w w') (hS : ∀ i, I i → ¬ S i) : Re I w' cs e := by
  obtain ⟨h0, a1, c1, a2, c2, h1, h2, h3⟩ := h
  exact ⟨h0, a1, c1, a2, c2, h1, h2.kept hf hS, h3.kept hf hS⟩
theorem Re.mono {I J : Nat → Prop} {w : World} {cs : List Value} {e : A.En} (h : Re I w cs e) (hJ : ∀ i, I i → J i) : Re J w cs e := by
  obtain ⟨h0, a1, c1, a2, c2, h1, h2, h3⟩ := h
  exact ⟨h0, a1, c1, a2, c2, h1, h2.mono hJ, h3.mono hJ⟩
theorem Re.len {I : Nat → Prop} {w : World} {cs : List Value} {e : A.En} (h : Re I w cs e) : cs.length = 56 := by
  obtain ⟨h0, a1, c1, a2, c2, rfl, _⟩ := h
  simp [h0.len]
theorem Re.one {I : Nat → Prop} {w : World} {cs : List Value} {e : A.En} (h : Re I w cs e) : ∀ u ∈ cs, u.oneCell' = true := by
  obtain ⟨h0, a1, c1, a2, c2, rfl, _⟩ := h
  intro u hu
  rcases List.mem_or_eq_of_mem_set hu with hu | rfl
  · rcases List.mem_or_eq_of_mem_set hu with hu | rfl
    · obtain ⟨j, hj⟩ := List.getElem?_of_mem hu
      exact (h0.ty j u hj).one
    · rfl
  · rfl
/-- A SLOTTED ENTRY -/
structure A.Sd where
  slot : Int
  bl : A.Bl
  en : A.En
/-- its cells -/
def Rs (I : Nat → Prop) (w : World) (cs : Array Value) (s : A.Sd) : Prop := ∃ ec, cs = (.int .i64 s.slot :: .int .i64 s.bl.1 :: .int .i64 s.bl.2 :: ec).toArray ∧ Re I w ec s.en
theorem Rs.kept {I S : Nat → Prop} {w w' : World} {cs : Array Value} {s : A.Sd} (h : Rs I w cs s) (hf : Fr S w w') (hS : ∀ i, I i → ¬ S i) : Rs I w' cs s := by
  obtain ⟨ec, h1, h2⟩ := h
  exact ⟨ec, h1, h2.kept hf hS⟩
theorem Rs.mono {I J : Nat → Prop} {w : World} {cs : Array Value} {s : A.Sd} (h : Rs I w cs s) (hJ : ∀ i, I i → J i) : Rs J w cs s := by
  obtain ⟨ec, h1, h2⟩ := h
  exact ⟨ec, h1, h2.mono hJ⟩
theorem Rs.size {I : Nat → Prop} {w : World} {cs : Array Value} {s : A.Sd} (h : Rs I w cs s) : cs.size = 59 := by
  obtain ⟨ec, rfl, h2⟩ := h
  simp [h2.len]
theorem Rs.one {I : Nat → Prop} {w : World} {cs : Array Value} {s : A.Sd} (h : Rs I w cs s) : cs.all (·.oneCell') = true := by
  obtain ⟨ec, rfl, h2⟩ := h
  rw [Array.all_eq_true_iff_forall_mem]
  intro u hu
  simp only [List.mem_toArray, List.mem_cons] at hu
  rcases hu with rfl | rfl | rfl | hu
  · rfl
  · rfl
  · rfl
  · exact h2.one u hu
/-- its parts -/
theorem Rs.parts {I : Nat → Prop} {w : World} {cs : Array Value} {s : A.Sd} (h : Rs I w cs s) : s.en.Ok ∧ ∃ a1 c1 a2 c2, cs[16]? = some (.slice a1 s.en.ops.length c1) ∧ cs[55]? = some (.slice a2 s.en.dt.length c2) ∧ cs[0]? = some (.int .i64 s.slot) ∧ cs[1]? = some (.int .i64 s.bl.1) ∧ cs[2]? = some (.int .i64 s.bl.2) ∧
    Rw I w 8 a1 s.en.ops.length s.en.ops.flatten ∧ Rw I w 1 a2 s.en.dt.length (s.en.dt.map B) := by
  obtain ⟨ec, rfl, h0, a1, c1, a2, c2, rfl, h2, h3⟩ := h
  refine ⟨h0, a1, c1, a2, c2, ?_, ?_, rfl, rfl, rfl, h2, h3⟩
  · simp [h0.len]
  · simp [h0.len]
/-- with other rows of the same elements it is the same -/
theorem Rs.other {I J : Nat → Prop} {w w' : World} {cs : Array Value} {s : A.Sd} (h : Rs I w cs s) {a1 a2 : Option Addr} {c1 c2 : Nat} (h1 : Rw J w' 8 a1 s.en.ops.length s.en.ops.flatten) (h2 : Rw J w' 1 a2 s.en.dt.length (s.en.dt.map B)) :
    Rs J w' ((cs.setIfInBounds 16 (.slice a1 s.en.ops.length c1)).setIfInBounds 55 (.slice a2 s.en.dt.length c2)) s := by
  obtain ⟨ec, rfl, h0, b1, d1, b2, d2, rfl, _, _⟩ := h
  refine ⟨(s.en.fx.set 13 (.slice a1 s.en.ops.length c1)).set 52 (.slice a2 s.en.dt.length c2), ?_, h0, a1, c1, a2, c2, rfl, h1, h2⟩
  simp only [List.setIfInBounds_toArray, List.set_cons_succ]
  congr 4
  apply List.ext_getElem?
  intro j
  simp only [List.getElem?_set, List.length_set, h0.len]
  by_cases e1 : 52 = j
  · subst e1; simp
  · by_cases e2 : 13 = j
    · subst e2; simp
    · simp [e1, e2]
/-- what a clone of a slotted entry is -/
def Cs (w : World) (s : A.Sd) (e : Ending) (w' : World) : Prop := ∃ cs, e = .returned (.agg cs) ∧ Rs (fun g => w.heap.size ≤ g ∧ g < w'.heap.size) w' cs s ∧ Fr (fun _ => False) w w'
end Go.Proofs.YtilbdpnioajkoaaGreat

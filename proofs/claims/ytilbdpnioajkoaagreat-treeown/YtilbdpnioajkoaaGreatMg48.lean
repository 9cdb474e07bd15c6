/-
  Arguments opened: bytes and lists of bytes, as they are read.
  Entries that are handed in, in whatever they lie: their cells, and the rows behind them.
-/
import Derived.Test.YtilbdpnioajkoaaGreatMg1
import Derived.ProofKit
import Derived.OpenShut
import Derived.ShutString
import Derived.ChangeOld
import Derived.Deep.Matrix
import Derived.JoinedCond
import Derived.Deep.CondSized
import Derived.Test.YtilbdpnioajkoaaGreatMg20
import Derived.Deep.Strs
namespace Go.Proofs.YtilbdpnioajkoaaGreat
open Go.ChangeShapes Go.WideShapes Go.ChangeAt Go.RowKit
set_option linter.unusedVariables false

namespace M
theorem byte_ofK (k : Nat) (h : k < 256) : ((UInt8.ofNat k).toNat : Int) = (k : Int) := by
  rw [UInt8.toNat_ofNat']; omega
end M
theorem own : ownKnob Tryz.prog.godebug = none := by kernel_rfl
theorem laidOut : laidOutB Tryz.prog = true := by kernel_rfl
theorem cells5 : Tryz.prog.cellsOf 5 = 1 := by kernel_rfl
theorem cells188 : Tryz.prog.cellsOf 188 = 1 := by kernel_rfl

/-- numbers as bytes -/
def byts (zs : List Int) : List UInt8 := zs.map fun n => UInt8.ofNat n.toNat
theorem byts_length (zs : List Int) : (byts zs).length = zs.length := by simp [byts]
theorem wf_u8 {n : Int} (h : (Lit.int .u8 n).wf = true) : 0 ≤ n ∧ n ≤ 255 := by
  simpa [Lit.wf, IntKind.min, IntKind.max, IntKind.signed, IntKind.bits] using h
theorem wf_i64 {n : Int} (h : (Lit.int .i64 n).wf = true) : -9223372036854775808 ≤ n ∧ n ≤ 9223372036854775807 := by
  simpa [Lit.wf, IntKind.min, IntKind.max, IntKind.signed, IntKind.bits] using h
theorem sl_of {w : World} {a : Addr} {len : Nat} {zs : List Int} (hl : len ≤ zs.length) (hcell : ∀ i, i < zs.length → w.cell? (a.add i) = some (.int .u8 (zs.getD i 0))) (hwz : ∀ n ∈ zs, (Lit.int .u8 n).wf = true) :
    Sl w (some a) len (byts (zs.take len)) := by
  have hbl : (byts (zs.take len)).length = len := by rw [byts_length, List.length_take]; omega
  refine ⟨hbl, ?_⟩
  by_cases hz : len = 0
  · exact .inl hz
  · right
    obtain ⟨b, off, spot⟩ := a
    have hc := hcell 0 (by omega)
    have hspot : spot = none := by simpa [Addr.add] using World.cell?_spot hc
    subst hspot
    refine ⟨b, off, rfl, fun k x hx => ?_⟩
    have hk : k < len := by
      have := (List.getElem?_eq_some_iff.1 hx).1
      omega
    have h1 := hcell k (by omega)
    rw [Addr.add_lit] at h1
    rw [h1]
    have hg : zs[k]? = some (zs.getD k 0) := by simp [List.getD, List.getElem?_eq_getElem (show k < zs.length by omega)]
    have hm : zs.getD k 0 ∈ zs := List.mem_of_getElem? hg
    have hb := wf_u8 (hwz _ hm)
    have hx2 : x = UInt8.ofNat (zs.getD k 0).toNat := by
      simp only [byts, List.getElem?_map, List.getElem?_take, hk, if_true, hg, Option.map_some, Option.some.injEq] at hx
      exact hx.symm
    have e : ((UInt8.ofNat (zs.getD k 0).toNat).toNat : Int) = zs.getD k 0 := by rw [M.byte_ofK _ (by omega)]; omega
    rw [hx2]
    show _ = some (Value.int .u8 ((UInt8.ofNat (zs.getD k 0).toNat).toNat : Int))
    rw [e]

/-- AN ARGUMENT THAT IS A LIST OF BYTES. -/
theorem open_bytes {H : Type} {enc : TypeId × Value → H} {W : World} {a : Option Addr} {len cap : Nat} {d : DataW H} {p : List MemPlace}
    (h : DataW.Trod enc Tryz.prog W 0 (fun _ => true) true 188 (.slice a len cap) d p) :
    ∃ bs, Sl W a len bs ∧ len ≤ cap ∧ cap ≤ maxLen ∧ ((d = .nil ∧ cap = 0) ∨ ∃ elems spare, d = .slice elems spare ∧ elems.length + spare.length = cap ∧ elems.length = len) := by
  obtain ⟨fuel, hf⟩ := h
  rcases open_ints Tryz.underlying188 Tryz.underlying5 cells5 hf with ⟨hcs, hx⟩ | ⟨x, l, c, zs, hcs, _, hl, hm, hz, hx, hcell, hwz⟩
  · simp [Value.cells] at hcs
    obtain ⟨rfl, rfl, rfl⟩ := hcs
    simp only [Prod.mk.injEq] at hx
    exact ⟨[], Sl.nil _ _, Nat.le_refl _, Nat.zero_le _, .inl ⟨hx.1, rfl⟩⟩
  · simp [Value.cells] at hcs
    obtain ⟨rfl, rfl, rfl⟩ := hcs
    simp only [if_true] at hz
    simp only [Prod.mk.injEq] at hx
    refine ⟨_, sl_of (by omega) hcell hwz, hl, hm, .inr ⟨_, _, hx.1, ?_, ?_⟩⟩
    · simp only [lits, List.length_map, List.length_take, List.length_drop]; omega
    · simp only [lits, List.length_map, List.length_take]; omega

end Go.Proofs.YtilbdpnioajkoaaGreat

namespace Go.Proofs.YtilbdpnioajkoaaGreat
open Go.ChangeShapes Go.WideShapes Go.ChangeAt Go.RowKit
set_option linter.unusedVariables false
set_option linter.unusedSimpArgs false

/-- the type of a cell of a type: a number's, a text's, a slice's -/
def leafAt (P : Program) : Nat → TypeId → Nat → Option TypeId
  | 0, _, _ => none
  | d + 1, t, j => match P.underlying t with
    | some (.struct fs) => fs.toList.findSome? (fun f => if f.offset ≤ j ∧ j < f.offset + P.cellsOf f.type then leafAt P d f.type (j - f.offset) else none)
    | some (.array n e) => if j / P.cellsOf e < n ∧ 0 < P.cellsOf e then leafAt P d e (j % P.cellsOf e) else none
    | some (.int _) => if j = 0 then some t else none
    | some .string => if j = 0 then some t else none
    | some (.slice _) => if j = 0 then some t else none
    | _ => none
theorem bulk_mem {H : Type} {d : DataW H} : ∀ {l : List (DataW H)}, d ∈ l → Rows.uptoBulk d ≤ Rows.uptoBulkAll l
  | x :: r, h => by
    rcases List.mem_cons.1 h with rfl | h
    · simp only [Rows.uptoBulkAll]; omega
    · have := bulk_mem h
      simp only [Rows.uptoBulkAll]; omega
theorem trod_leaf {H : Type} {enc : TypeId × Value → H} {P : Program} {W : World} {base : Nat} {sp : Nat → Bool} {held : Bool} : ∀ (d : Nat) (t : TypeId) (j : Nat) (u : TypeId) (fuel : Nat) (cs : List Value) (x : DataW H × List MemPlace),
    leafAt P d t j = some u → DataW.trod enc P W base sp held fuel t cs = some x → ∃ v n y, cs[j]? = some v ∧ DataW.trod enc P W base sp held n u [v] = some y ∧ Rows.uptoBulk y.1 ≤ Rows.uptoBulk x.1
  | 0, t, j, u, fuel, cs, x, h, hx => by simp [leafAt] at h
  | d + 1, t, j, u, fuel, cs, x, h, hx => by
    unfold leafAt at h
    cases ht : P.underlying t with
    | none => rw [ht] at h; simp at h
    | some desc =>
      rw [ht] at h
      cases desc with
      | struct fs =>
        simp only at h
        obtain ⟨f, hf, hif⟩ := List.exists_of_findSome?_eq_some h
        by_cases hc : f.offset ≤ j ∧ j < f.offset + P.cellsOf f.type
        · rw [if_pos hc] at hif
          obtain ⟨xs, n, rfl, rfl, hl, hlen, hfs⟩ := DataW.trod_struct ht hx
          obtain ⟨i, hi⟩ := List.getElem?_of_mem hf
          have hi' : i < xs.length := by
            have := (List.getElem?_eq_some_iff.1 hi).1
            simpa [hlen] using this
          have h1 := hfs i f (by simpa using hi)
          rw [List.getElem?_eq_getElem hi'] at h1
          obtain ⟨v, n', z, h2, h3, h4⟩ := trod_leaf d f.type (j - f.offset) u n _ _ hif h1
          refine ⟨v, n', z, ?_, h3, ?_⟩
          · rw [List.getElem?_take, if_pos (by omega), List.getElem?_drop] at h2
            rwa [show f.offset + (j - f.offset) = j by omega] at h2
          · have h5 : Rows.uptoBulk (xs[i]).1 ≤ Rows.uptoBulkAll (xs.map (·.1)) := bulk_mem (List.mem_map.2 ⟨xs[i], List.getElem_mem hi', rfl⟩)
            simp only [Rows.uptoBulk]
            omega
        · rw [if_neg hc] at hif; cases hif
      | array m e =>
        simp only at h
        by_cases hc : j / P.cellsOf e < m ∧ 0 < P.cellsOf e
        · rw [if_pos hc] at h
          obtain ⟨xs, n, rfl, rfl, hl, hlen, hfs⟩ := DataW.trod_array ht hx
          have h1 := hfs (j / P.cellsOf e) hc.1
          have hi' : j / P.cellsOf e < xs.length := by omega
          rw [List.getElem?_eq_getElem hi'] at h1
          obtain ⟨v, n', z, h2, h3, h4⟩ := trod_leaf d e (j % P.cellsOf e) u n _ _ h h1
          refine ⟨v, n', z, ?_, h3, ?_⟩
          · rw [List.getElem?_take, if_pos (Nat.mod_lt _ hc.2), List.getElem?_drop] at h2
            have e1 : j / P.cellsOf e * P.cellsOf e + j % P.cellsOf e = j := by rw [Nat.mul_comm]; exact Nat.div_add_mod j _
            rwa [e1] at h2
          · have h5 : Rows.uptoBulk (xs[j / P.cellsOf e]).1 ≤ Rows.uptoBulkAll (xs.map (·.1)) := bulk_mem (List.mem_map.2 ⟨xs[j / P.cellsOf e], List.getElem_mem hi', rfl⟩)
            simp only [Rows.uptoBulk]
            omega
        · rw [if_neg hc] at h; cases h
      | int k =>
        simp only at h
        split at h
        · rename_i hj
          cases h
          subst hj
          obtain ⟨z, rfl, _, _⟩ := DataW.trod_int ht hx
          exact ⟨_, fuel, x, rfl, hx, Nat.le_refl _⟩
        · cases h
      | string =>
        simp only at h
        split at h
        · rename_i hj
          cases h
          subst hj
          obtain ⟨z, rfl, _, _⟩ := DataW.trod_string ht hx
          exact ⟨_, fuel, x, rfl, hx, Nat.le_refl _⟩
        · cases h
      | slice e =>
        simp only at h
        split at h
        · rename_i hj
          cases h
          subst hj
          rcases Go.Deep.open_slice ht hx with ⟨rfl, _⟩ | ⟨a, l, c, m, n, D, Pl, rfl, _⟩
          · exact ⟨_, fuel, x, rfl, hx, Nat.le_refl _⟩
          · exact ⟨_, fuel, x, rfl, hx, Nat.le_refl _⟩
        · cases h
      | _ => simp at h
/-- an element of a row of rows -/
theorem flat_get {k : Nat} : ∀ {l : List (List Value)} {j : Nat} {u : Value}, (∀ o ∈ l, o.length = k) → l.flatten[j]? = some u → ∃ i o, l[i]? = some o ∧ i * k ≤ j ∧ o[j - i * k]? = some u
  | [], j, u, _, h => by simp at h
  | p :: r, j, u, hl, h => by
    have hp := hl p (by simp)
    rw [List.flatten_cons] at h
    by_cases hj : j < k
    · rw [List.getElem?_append_left (by omega)] at h
      exact ⟨0, p, rfl, by omega, by simpa using h⟩
    · rw [List.getElem?_append_right (by omega), hp] at h
      obtain ⟨i, o, h1, h2, h3⟩ := flat_get (fun o ho => hl o (by simp [ho])) h
      refine ⟨i + 1, o, by simpa using h1, by rw [Nat.add_mul]; omega, ?_⟩
      rw [show j - (i + 1) * k = j - k - i * k by rw [Nat.add_mul]; omega]
      exact h3
theorem bulkAll_len {H : Type} : ∀ (l : List (DataW H)), (∀ d ∈ l, 1 ≤ Rows.uptoBulk d) → l.length ≤ Rows.uptoBulkAll l
  | [], _ => by simp
  | x :: r, h => by
    have h1 := h x (by simp)
    have h2 := bulkAll_len r (fun d hd => h d (by simp [hd]))
    simp only [Rows.uptoBulkAll, List.length_cons]
    omega
theorem bulk_pos {H : Type} (d : DataW H) : 1 ≤ Rows.uptoBulk d := by
  cases d with
  | lit l => cases l <;> simp [Rows.uptoBulk]
  | _ => simp [Rows.uptoBulk]
/-- a row of operations -/
theorem open_oprow {H : Type} {enc : TypeId × Value → H} {W : World} {n : Nat} {v : Value} {y : DataW H × List MemPlace} (h : DataW.trod enc Tryz.prog W 0 (fun _ => true) true n 44 [v] = some y) (hb : Rows.uptoBulk y.1 ≤ 1048576) :
    ∃ (a : Option Addr) (c : Nat) (ops : List (List Value)), v = .slice a ops.length c ∧ Rw (fun g => g < W.heap.size) W 8 a ops.length ops.flatten ∧ (∀ o ∈ ops, o.length = 8 ∧ ∀ (j : Nat) u, o[j]? = some u → A.vOk (if 5 ≤ j then 1 else 0) u) ∧ ops.length ≤ 1048576 := by
  rcases Go.Deep.open_slice Tryz.underlying44 h with ⟨hcs, hx⟩ | ⟨x, l, c, m, n', D, Pl, hcs, _, hl, hm, hmm, hx, hr⟩
  · simp only [List.cons.injEq, and_true] at hcs
    subst hcs
    exact ⟨none, 0, [], rfl, Rw.nil _ _ _ _, by simp, by simp⟩
  · simp only [List.cons.injEq, and_true] at hcs
    subst hcs
    simp only [if_true] at hmm
    subst hmm
    have c8 : Tryz.prog.cellsOf 35 = 8 := by kernel_rfl
    rw [c8] at hr
    have each : ∀ i, i < l → ∃ o : List Value, o.length = 8 ∧ (∀ j u, o[j]? = some u → W.cell? ((x.add (i * 8)).add j) = some u) ∧ ∀ (j : Nat) u, o[j]? = some u → A.vOk (if 5 ≤ j then 1 else 0) u := by
      intro i hi
      obtain ⟨cs', h1, h2⟩ := hr i (by omega)
      obtain ⟨_, hlen, hcell⟩ := World.cells?_some h1
      refine ⟨cs', hlen, fun j u hu => ?_, fun j u hu => ?_⟩
      · have hj : j < cs'.length := (List.getElem?_eq_some_iff.1 hu).1
        rw [hcell j (by omega), ← hu, List.getElem?_eq_getElem hj]
      · have hj : j < 8 := by have := (List.getElem?_eq_some_iff.1 hu).1; omega
        have key : ∀ t, leafAt Tryz.prog 5 35 j = some t → ∃ n y, DataW.trod enc Tryz.prog W 0 (fun _ => true) true n t [u] = some y := fun t ht => by
          obtain ⟨v, n'', z, h3, h4, _⟩ := trod_leaf 5 _ j t _ _ _ ht h2
          rw [hu] at h3
          cases h3
          exact ⟨n'', z, h4⟩
        have cases8 : j = 0 ∨ j = 1 ∨ j = 2 ∨ j = 3 ∨ j = 4 ∨ j = 5 ∨ j = 6 ∨ j = 7 := by omega
        rcases cases8 with rfl | rfl | rfl | rfl | rfl | rfl | rfl | rfl
        · obtain ⟨_, _, hk⟩ := key 2 (by kernel_rfl)
          obtain ⟨z, hz, _⟩ := DataW.trod_int Tryz.underlying2 hk
          simp at hz; exact ⟨z, hz⟩
        · obtain ⟨_, _, hk⟩ := key 3 (by kernel_rfl)
          obtain ⟨z, hz, _⟩ := DataW.trod_int Tryz.underlying3 hk
          simp at hz; exact ⟨z, hz⟩
        · obtain ⟨_, _, hk⟩ := key 3 (by kernel_rfl)
          obtain ⟨z, hz, _⟩ := DataW.trod_int Tryz.underlying3 hk
          simp at hz; exact ⟨z, hz⟩
        · obtain ⟨_, _, hk⟩ := key 2 (by kernel_rfl)
          obtain ⟨z, hz, _⟩ := DataW.trod_int Tryz.underlying2 hk
          simp at hz; exact ⟨z, hz⟩
        · obtain ⟨_, _, hk⟩ := key 2 (by kernel_rfl)
          obtain ⟨z, hz, _⟩ := DataW.trod_int Tryz.underlying2 hk
          simp at hz; exact ⟨z, hz⟩
        · obtain ⟨_, _, hk⟩ := key 9 (by kernel_rfl)
          obtain ⟨z, hz, _⟩ := DataW.trod_string Tryz.underlying9 hk
          simp at hz; exact ⟨z, hz⟩
        · obtain ⟨_, _, hk⟩ := key 9 (by kernel_rfl)
          obtain ⟨z, hz, _⟩ := DataW.trod_string Tryz.underlying9 hk
          simp at hz; exact ⟨z, hz⟩
        · obtain ⟨_, _, hk⟩ := key 9 (by kernel_rfl)
          obtain ⟨z, hz, _⟩ := DataW.trod_string Tryz.underlying9 hk
          simp at hz; exact ⟨z, hz⟩
    obtain ⟨Q, hQ⟩ := Go.Deep.choose_lt (α := List Value) each
    have hlb : l ≤ 1048576 := by
      rw [hx] at hb
      simp only [Rows.uptoBulk] at hb
      have h1 := bulkAll_len ((List.range l).map D) (fun d _ => bulk_pos d)
      rw [List.length_map, List.length_range] at h1
      omega
    have hall : ∀ o ∈ (List.range l).map Q, ∃ i, i < l ∧ o = Q i := fun o ho => by
      obtain ⟨i, hi, rfl⟩ := List.mem_map.1 ho
      exact ⟨i, List.mem_range.1 hi, rfl⟩
    have h8 : ∀ o ∈ (List.range l).map Q, o.length = 8 := fun o ho => by
      obtain ⟨i, hi, rfl⟩ := hall o ho
      exact (hQ i hi).1
    refine ⟨some x, m, (List.range l).map Q, by simp, ⟨flat_len h8, ?_⟩, fun o ho => ?_, by simpa using hlb⟩
    · by_cases hz : l = 0
      · exact .inl (by simp [hz])
      · right
        obtain ⟨b, off, spot⟩ := x
        obtain ⟨u0, hu0⟩ : ∃ u, (Q 0)[0]? = some u := ⟨_, List.getElem?_eq_getElem (by have := (hQ 0 (by omega)).1; omega)⟩
        have hc0 := (hQ 0 (by omega)).2.1 0 u0 hu0
        have hspot : spot = none := by simpa [Addr.add] using World.cell?_spot hc0
        subst hspot
        refine ⟨b, off, rfl, ?_, fun j u hu => ?_⟩
        · have := World.block_lt_of_cell? W _ hc0
          simpa [Addr.add_lit] using this
        · obtain ⟨i, o, h1, h2, h3⟩ := flat_get h8 hu
          have hil : i < l := by have := (List.getElem?_eq_some_iff.1 h1).1; simpa using this
          simp [hil] at h1
          subst h1
          have h4 := (hQ i hil).2.1 _ u h3
          rw [Addr.add_lit, Addr.add_lit] at h4
          rwa [show off + i * 8 + (j - i * 8) = off + j by omega] at h4
    · obtain ⟨i, hi, rfl⟩ := hall o ho
      exact ⟨(hQ i hi).1, (hQ i hi).2.2⟩
end Go.Proofs.YtilbdpnioajkoaaGreat

/-
  Proved: whatever lists of bytes are handed in (of bulk at most 1048576), WireSums answers true, and leaves them as they were: the check of lists is that of all their bytes, one behind the other.
-/
import Derived.Test.YtilliicanbbjkaaOpen
import Derived.Test.YtilliicanbbjkaaLSums
namespace Go.Proofs.Ytilliicanbbjkaa.wireSums
open Go.ChangeShapes Go.WideShapes Go.ChangeAt Go.RowKit
set_option linter.unusedVariables false

theorem bulk_lits {H : Type} (k : IntKind) (zs : List Int) : Rows.uptoBulkAll (lits (H := H) k zs) = zs.length := by
  induction zs with
  | nil => simp [lits, Rows.uptoBulkAll]
  | cons z zs ih => simp only [lits, List.map_cons, Rows.uptoBulkAll, Rows.uptoBulk, List.length_cons] at ih ⊢; omega
theorem bulk_row {H : Type} (k : IntKind) (a : Option Addr) (l : Nat) (zs : List Int) (hl : l ≤ zs.length) (ha : a = none → zs.length = 0) : l ≤ Rows.uptoBulk (Go.Deep.intRow (H := H) k a l zs) := by
  unfold Go.Deep.intRow
  cases a with
  | none => have := ha rfl; omega
  | some a =>
    simp only [Rows.uptoBulk, bulk_lits, List.length_take, List.length_drop]
    omega
theorem bulk_map {H : Type} (f : Nat → DataW H) (g : Nat → Nat) (l : List Nat) (h : ∀ i ∈ l, g i ≤ Rows.uptoBulk (f i)) : (l.map g).sum ≤ Rows.uptoBulkAll (l.map f) := by
  induction l with
  | nil => simp [Rows.uptoBulkAll]
  | cons x l ih =>
    simp only [List.map_cons, List.sum_cons, Rows.uptoBulkAll]
    have := h x (by simp)
    have := ih (fun i hi => h i (by simp [hi]))
    omega

/-- AN ARGUMENT THAT IS A LIST OF LISTS OF BYTES. -/
theorem open_lists {H : Type} {enc : TypeId × Value → H} {W : World} {a : Option Addr} {len cap : Nat} {d : DataW H} {p : List MemPlace}
    (h : DataW.Trod enc Try.prog W 0 (fun _ => true) true 56 (.slice a len cap) d p) :
    ∃ bss, Sls W a len bss ∧ len ≤ maxLen ∧ bss.flatten.length ≤ Rows.uptoBulk d := by
  obtain ⟨fuel, hf⟩ := h
  rcases Go.Deep.open_int_rows Try.underlying56 Try.underlying26 Try.underlying5 cells26 cells5 hf with ⟨hcs, hx⟩ | ⟨x, l, c, A, L, C, Z, hcs, _, hl, hm, hx, hr⟩
  · simp [Value.cells] at hcs
    obtain ⟨rfl, rfl, rfl⟩ := hcs
    exact ⟨[], ⟨rfl, .inl rfl⟩, Nat.zero_le _, by simp⟩
  · simp [Value.cells] at hcs
    obtain ⟨rfl, rfl, rfl⟩ := hcs
    simp only [Prod.mk.injEq] at hx
    refine ⟨(List.range len).map fun r => byts ((Z r).take (L r)), ⟨by simp, ?_⟩, Nat.le_trans hl hm, ?_⟩
    · by_cases hz : len = 0
      · exact .inl hz
      · right
        obtain ⟨b, off, spot⟩ := x
        have hc := (hr 0 (by omega)).1
        have hspot : spot = none := by simpa [Addr.add] using World.cell?_spot hc
        subst hspot
        refine ⟨b, off, rfl, fun k bs hk => ?_⟩
        have hkl : k < len := by have := (List.getElem?_eq_some_iff.1 hk).1; simpa using this
        obtain ⟨r1, r2, r3, r4, r5, r6, r7⟩ := hr k (by omega)
        rw [Addr.add_lit] at r1
        simp [hkl] at hk
        subst hk
        refine ⟨A k, L k, C k, r1, ?_, by unfold maxLen at r3; omega⟩
        cases hA : A k with
        | none =>
          have := r6 hA
          have h0 : L k = 0 := by omega
          rw [h0]
          simpa [byts] using Sl.nil W none
        | some a' => exact sl_of (by omega) (fun i hi => (r7 a' hA).2 i (by omega)) r5
    · rw [hx.1]
      simp only [Rows.uptoBulk]
      have hb := bulk_map (H := H) (fun r => Go.Deep.intRow .u8 (A r) (L r) (Z r)) (fun r => L r) (List.range len) (fun i hi => by
        have hil := List.mem_range.1 hi
        obtain ⟨r1, r2, r3, r4, r5, r6, r7⟩ := hr i (by omega)
        exact bulk_row _ _ _ _ (by omega) (fun e => by have := r6 e; omega))
      have hs : ((List.range len).map fun r => byts ((Z r).take (L r))).flatten.length = ((List.range len).map fun r => L r).sum := by
        rw [List.length_flatten, List.map_map]
        congr 1
        apply List.map_congr_left
        intro i hi
        have hil := List.mem_range.1 hi
        obtain ⟨r1, r2, r3, r4, r5, r6, r7⟩ := hr i (by omega)
        simp only [Function.comp, byts_length, List.length_take]
        omega
      omega

theorem contract (H : Type) (enc : TypeId × Value → H) (W : World) (base : Nat) (args : Array Value) (ds gs : List (DataW H)) (before : List MemPlace)
    (hval : ∀ (j : Nat) t v, Try.f8.params[j]? = some t → args[j]? = some v → Value.okWide Try.prog W .any base t v)
    (hW : DataW.Whole enc Try.prog Try.f8.params.toList Rows.wireSumsSpec.vars false W args.toList ds gs before) (hk : Rows.uptoSmall H (ds ++ gs) = true) :
    Calls Try.prog 8 args W fun e W' => ∃ v, e = .returned v ∧ Rows.wireSumsSpec.post enc Try.prog Try.f8 false true false false W args v W' := by
  have hW' := hW
  obtain ⟨p, q, hA0, hV, rfl, hfz, hnd⟩ := hW
  have hA : DataW.TrodAll enc Try.prog W 0 (fun _ => true) true Try.f8.params.toList args.toList ds p := hA0
  rw [Try.params8] at hA hval
  obtain ⟨v0, vs0, d0, ds0, p0, q0, hargs, rfl, rfl, h0, r0⟩ := trodAll_cons hA
  obtain ⟨rfl, rfl, rfl⟩ := trodAll_nil r0
  obtain rfl : args = #[v0] := by cases args; simp_all
  obtain ⟨rfl, rfl⟩ := trodVars_none hV
  obtain ⟨a0, len0, cap0, rfl⟩ := okWide_slice Try.underlying56 (hval 0 56 v0 rfl rfl)
  have k0 := h0
  have lt0 : ∀ x ∈ p0, x.block < W.heap.size := by obtain ⟨m, hm⟩ := k0; exact DataW.trod_lt m _ _ _ hm
  obtain ⟨bss, hsls, hml, hbulk⟩ := open_lists h0
  have hb : Rows.uptoBulkAll ([d0] ++ ([] : List (DataW H))) ≤ 1048576 := of_decide_eq_true hk
  simp only [List.append_nil, Rows.uptoBulkAll] at hb
  clear hA0
  unfold maxLen at hml
  refine (wireSums_walk a0 len0 cap0 bss W hsls (by omega) (by omega)).mono fun e W' ⟨he, bel⟩ => ?_
  subst he
  exact ⟨_, rfl, _, _, _, [], _, [], hW', trodAll_mk1 (shut_bool Try.underlying4 _), (trodAll_cons_mk (Below.trod laidOut (by kernel_rfl) (of_decide_eq_true (by kernel_rfl)) k0 bel lt0) trodAll_mk0), rfl, bel.frame _, fun h => by cases h⟩

set_option maxRecDepth 100000 in
theorem lifted (os : Os) (started : os.Started) (H : Type) (enc : TypeId × Value → H) (F : Stop.Interp) :
    ReturnsInHanded {} Try.checked os 8 .any ((Rows.OpenSpec.upto Rows.wireSumsSpec).pre6 enc Try.prog Try.f8 Rows.wireSumsUptoRow.domain false) (((Rows.OpenSpec.upto Rows.wireSumsSpec).at F).post enc Try.prog Try.f8 false true false false) := by
  refine returnsInHanded_of_cond (C := Try.checked) (s := Rows.OpenSpec.upto Rows.wireSumsSpec) (k := Rows.uptoSmall) rfl own started (by kernel_rfl) Try.func8
    (OpenSpec.witness (enc := enc) (C := Try.checked) (s := Rows.OpenSpec.upto Rows.wireSumsSpec) (k := Rows.uptoSmall) rfl false ⟨#[], #[.slice none 0 0], []⟩ 8 (by kernel_rfl) (by kernel_rfl) (by kernel_rfl)
      (x := ([.nil], [], [])) (by kernel_rfl) rfl (by kernel_rfl)) ?_
  intro W base args ds gs before hval hW _ hk _
  exact contract H enc W base args ds gs before hval hW hk

theorem proved : Rows.WireSumsUptoSaid :=
  OpenClaim.holds_of_cond 8 Try.f8 rfl rfl rfl rfl rfl rfl rfl ⟨rfl, rfl, rfl, rfl, rfl⟩ rfl rfl rfl rfl rfl (by kernel_rfl) Try.func8 (by kernel_rfl)
    (of_decide_eq_true (by kernel_rfl)) (by unfold Func.isWrapper; first | (rw [if_pos (by decide +kernel)]; kernel_rfl) | (rw [if_neg (by decide +kernel)]; exact ⟨rfl, rfl⟩))
    (fun os started H enc _ F => lifted os started H enc F)
end Go.Proofs.Ytilliicanbbjkaa.wireSums
namespace Go.Proofs.Ytilliicanbbjkaa
theorem wireSumsUpto_holds : Rows.WireSumsUptoSaid := wireSums.proved
end Go.Proofs.Ytilliicanbbjkaa

/-
  begun of exchange's laws.
-/
import Derived.Test.YtedgiffnfhkonaaXRef
import Derived.Test.YtedgiffnfhkonaaXPeers
import Derived.Deep.WholeRow
namespace Go.Proofs.Ytedgiffnfhkonaa
open Go.RowKit
set_option linter.unusedVariables false
set_option linter.unusedSimpArgs false
set_option maxRecDepth 100000
/-- are two lists of operations the same, cell by cell -/
theorem X.same_len {l : List S.Op} : l.length = l.length := rfl
set_option maxHeartbeats 3200000 in
theorem lxops_same {I J : Nat → Prop} (w : World) (l : List S.Op) (a b : Option Addr) (c d : Nat) (h1 : X.Ops I w a l) (h2 : X.Ops J w b l) (hl : l.length ≤ 1599289640401) :
    Calls Try.prog 6 #[.slice a l.length c, .slice b l.length d] w fun e w' => e = .returned (.bool true) ∧ Fr (fun _ => False) w w' := by
  have O1 := hid h1
  have O2 := hid h2
  obtain ⟨n, hn⟩ : ∃ n, l.length = n := ⟨_, rfl⟩
  have HN := hid hn
  rw [hn] at hl ⊢
  have HT := hid hl
  clear h1 h2 hn hl
  go_enter Try.func6, Try.ntmps6
  go_wp2
  go_loopw [5, 13] (fun _ idx wr => ∃ i : Nat, idx = .int .i64 i ∧ Hid (i ≤ n ∧ Fr (fun _ => False) w wr)) (fun _ idx _ => n - (intOf idx).toNat)
  case atStart => exact ⟨0, rfl, hid ⟨Nat.zero_le _, Fr.refl _ _⟩⟩
  case round =>
    obtain ⟨i, rfl, HR⟩ := hrel
    by_cases hlt : i < n
    · have i0 : (0 : Int) ≤ (i : Int) := by omega
      have i1 : (i : Int) < (n : Int) := by omega
      obtain ⟨x, hx⟩ : ∃ x, l[i]? = some x := ⟨_, List.getElem?_eq_getElem (by rw [HN.out]; exact hlt)⟩
      obtain ⟨g1, o1, rfl, _, hc1⟩ := X.Ops.cell (O1.out.fr HR.out.2) hx
      obtain ⟨g2, o2, rfl, _, hc2⟩ := X.Ops.cell (O2.out.fr HR.out.2) hx
      have L1 := hid (X.load hc1)
      have L2 := hid (X.load hc2)
      have HLT := hid hlt
      have HW2 := hid (show wrap64 ((i : Int) + 1) = ((i + 1 : Nat) : Int) by have hT := HT.out; unfold wrap64; omega)
      have HF := hid HR.out.2
      obtain ⟨xt, xs, xk, xn, xp, xa, xb, xc⟩ := x
      have a0 := hc1 0 _ rfl
      have a1 := hc1 1 _ rfl
      have a2 := hc1 2 _ rfl
      have a3 := hc1 3 _ rfl
      have a4 := hc1 4 _ rfl
      have a5 := hc1 5 _ rfl
      have a6 := hc1 6 _ rfl
      have a7 := hc1 7 _ rfl
      have b0 := hc2 0 _ rfl
      have b1 := hc2 1 _ rfl
      have b2 := hc2 2 _ rfl
      have b3 := hc2 3 _ rfl
      have b4 := hc2 4 _ rfl
      have b5 := hc2 5 _ rfl
      have b6 := hc2 6 _ rfl
      have b7 := hc2 7 _ rfl
      rw [Nat.add_zero] at a0 b0
      clear hx hc1 hc2 L1 L2
      go_wp2
      go_quiet (fail)
      go_wp2
      go_roundw
      case rel => exact ⟨i + 1, congrArg (Value.int .i64) HW2.out, hid ⟨HLT.out, HF.out.trans (Fr.drewN _ _) (fun _ _ h => h)⟩⟩
      case measure => exact X.mea HW2.out HLT.out
    · have HF := hid HR.out.2
      go_wp2
      go_ret
      exact ⟨rfl, HF.out⟩
def X.g0 (j : Nat) : Int := if j = 5 then 1 else 0
def X.v0 (j : Nat) : Value := .slice none 0 0
def X.o0 : S.Op := ⟨1, 1, 1, 25, 1, ⟨#[97]⟩, ⟨#[]⟩, ⟨#[]⟩⟩
theorem X.chk0 : S.chk X.o0 = 0 := by kernel_rfl
theorem X.cnt0 : X.cnt X.g0 1 0 [X.o0] = [X.o0] := by
  have h : X.cnt X.g0 1 0 [X.o0] = X.run 1099511627776 1 0 0 [X.o0] := by kernel_rfl
  rw [h, X.run, if_pos ⟨by omega, X.chk0, rfl, by show (0 : Int) < 1; omega⟩]
  rfl
theorem X.peers0 : X.peers X.g0 8 = [1] := by kernel_rfl
theorem X.zero34 (w : World) : (zeroValue 34).run Try.prog w = .ok (.agg (X.cs (fun _ => 0) false X.v0)) w := by kernel_rfl
theorem X.st34 (w : World) : (storeCells ⟨w.heap.size, 0, none⟩ (X.cs (fun _ => 0) false X.v0).toList 0).run Try.prog (w.alloc (.cells (X.cs (fun _ => 0) false X.v0) 34)) = .ok () (w.alloc (.cells (X.cs (fun _ => 0) false X.v0) 34)) :=
  run_storeCells_new (P := Try.prog) w 34 (X.cs (fun _ => 0) false X.v0) (X.cs (fun _ => 0) false X.v0) (by rw [X.cs_size]; kernel_rfl) rfl (by kernel_rfl)
theorem X.eq34 : (X.cs (fun _ => 0) false X.v0).setIfInBounds 5 (Value.int .i64 1) = X.cs X.g0 false X.v0 := by kernel_rfl
theorem X.in64_0 : X.in64 X.g0 := fun j => by unfold X.g0; split <;> omega
theorem X.op64_0 : X.o0.in64 := by unfold S.Op.in64 X.o0; simp
theorem X.ops0 (W : World) : X.Ops (fun g => True) (W.alloc (.cells X.o0.cs 43)) (some ⟨W.heap.size, 0, none⟩) [X.o0] := by
  refine ⟨X.flat_len _, .inr ⟨W.heap.size, 0, rfl, trivial, fun j u hu => ?_⟩⟩
  rw [X.flat_one] at hu
  rw [Nat.zero_add]
  exact cell_at (Go.heap_alloc_new W _) (by rw [← Array.getElem?_toList]; exact hu)
theorem X.take0 (W : World) : Calls Try.prog 7 #[.agg (X.cs X.g0 false X.v0), .int .i64 1, .int .i64 0, .slice (some ⟨W.heap.size, 0, none⟩) 1 1] (W.alloc (.cells #[.int .i64 1, .int .i64 1, .int .i64 1, .int .i64 25, .int .i64 1, .string ⟨#[97]⟩, .string ⟨#[]⟩, .string ⟨#[]⟩] 43)) fun e w' => ∃ a c, e = .returned (.slice a 1 c) ∧ Fr (fun _ => False) W w' := by
  refine (xtake_any _ X.g0 false X.v0 X.in64_0 1 0 [X.o0] _ 1 (X.ops0 W) (fun x hx => by simp at hx; rw [hx]; exact X.op64_0) (by simp) (by simp)).mono fun e w' h => ?_
  rw [X.cnt0] at h
  obtain ⟨a, c, he, _, _, hf⟩ := h
  exact ⟨a, c, he, (Fr.alloc (Fr.refl _ _) _).trans hf (fun _ _ h => h)⟩
theorem X.ask0 (W : World) : Calls Try.prog 9 #[.agg (X.cs X.g0 false X.v0)] W fun e w' => ∃ g o c, e = .returned (.slice (some ⟨g, o, none⟩) 1 c) ∧ w'.cell? ⟨g, o, none⟩ = some (.int .i64 1) ∧ Fr (fun _ => False) W w' := by
  refine (xpeers_any W X.g0 false X.v0).mono fun e w' h => ?_
  rw [X.peers0] at h
  obtain ⟨a, c, he, hr, hf⟩ := h
  rcases hr.2 with h0 | ⟨g, o, rfl, _, hc⟩
  · simp at h0
  · exact ⟨g, o, c, he, hc 0 _ rfl, hf⟩
set_option maxHeartbeats 3200000 in
theorem xbegun_any (w : World) : Calls Try.prog 5 #[] w fun e w' => e = .returned (.bool true) ∧ Fr (fun _ => False) w w' := by
  have Z := hid X.zero34
  have ST := hid X.st34
  have KP := hid X.ask0
  have KT := hid X.take0
  have EQ := hid X.eq34
  have SN := hid (fun (W : World) (h : W.heap[w.heap.size]? = some (.cells (X.cs X.g0 false X.v0) 34 (0, 0))) (V : World) (hf : Fr (fun _ => False) W V) => ((X.Sn.of h).kept hf (fun h => h)).load)
  generalize X.cs X.g0 false X.v0 = CG at KP KT EQ SN
  obtain ⟨CX, hCX⟩ : ∃ CX, X.cs (fun _ => 0) false X.v0 = CX := ⟨_, rfl⟩
  rw [hCX] at Z ST EQ
  have hsz : CX.size = 154 := by rw [← hCX]; exact X.cs_size _ _ _
  clear hCX
  have LS := hid (SN.out (w.alloc (.cells (CX.setIfInBounds 5 (Value.int .i64 1)) 34)) (by rw [EQ.out]; exact Go.heap_alloc_new w _))
  have F1 := hid (show Fr (fun _ => False) w (w.alloc (.cells (CX.setIfInBounds 5 (Value.int .i64 1)) 34)) from Fr.alloc (Fr.refl _ _) _)
  obtain ⟨A, hA⟩ : ∃ A, w.alloc (.cells (CX.setIfInBounds 5 (Value.int .i64 1)) 34) = A := ⟨_, rfl⟩
  have F2 := hid (show Fr (fun _ => False) A (A.alloc (.cells #[.int .i64 1, .int .i64 1, .int .i64 1, .int .i64 25, .int .i64 1, .string ⟨#[97]⟩, .string ⟨#[]⟩, .string ⟨#[]⟩] 43)) from Fr.alloc (Fr.refl _ _) _)
  have AZ : A.heap.size = w.heap.size + 1 := by rw [← hA]; simp
  have LO := hid (fun (V : World) (hf : Fr (fun _ => False) (A.alloc (.cells #[.int .i64 1, .int .i64 1, .int .i64 1, .int .i64 25, .int .i64 1, .string ⟨#[97]⟩, .string ⟨#[]⟩, .string ⟨#[]⟩] 43)) V) => X.load (g := A.heap.size) (q := 0) (k := 0) (o := X.o0) (w := V) (fun jj u hu => by
    rw [show 0 + 0 * 8 + jj = jj by omega]
    exact cellFr hf (fun h => h) (cell_at (Go.heap_alloc_new A _) hu)))
  rw [AZ] at LO
  rw [hA] at LS F1
  have HA := hid hA
  rw [← hA] at F2 LO
  rw [← hA] at LS
  clear hA AZ SN EQ
  go_enter Try.func5, Try.ntmps5
  go_wp2_with (first
    | (rw [Z.out]; simp only [Result.andThen_ok])
    | (rw [ST.out]; simp only [Result.andThen_ok])
    | (refine wpList_load_v (LS.out _ F2.out) (by exact ⟨_, rfl, rfl⟩) (by kernel_rfl) ?_)
    | (go_at_call 9; refine (KP.out _).mono ?_; rintro e w3 ⟨pg, po, pc, rfl, hd, f3⟩; have F3 := hid (F2.out.trans f3 (fun _ _ h => h)); have L3 := hid (LS.out _ F3.out); have L4 := hid (LO.out _ f3); clear f3)
    | (refine wpList_load_v L3.out (by exact ⟨_, rfl, rfl⟩) (by kernel_rfl) ?_)
    | (refine wpList_load_v L4.out (by exact ⟨_, rfl, rfl⟩) (by kernel_rfl) ?_)
    | (go_at_call 7; refine (KT.out _).mono ?_; rintro e w5 ⟨ta, tc, rfl, f5⟩; have F5 := hid (F3.out.trans f5 (fun _ _ h => h)); clear f5))
  go_ret
  exact ⟨rfl, F1.out.trans (by rw [← HA.out]; exact F5.out) (fun _ _ h => h)⟩
end Go.Proofs.Ytedgiffnfhkonaa

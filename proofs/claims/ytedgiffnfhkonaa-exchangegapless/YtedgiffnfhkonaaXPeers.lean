/-
  Peers.
-/
import Derived.Test.YtedgiffnfhkonaaXTake
import Derived.Deep.QuietTactic
namespace Go.Proofs.Ytedgiffnfhkonaa
open Go.RowKit
set_option linter.unusedVariables false
set_option linter.unusedSimpArgs false
set_option maxRecDepth 100000
/-- numbers as cells -/
def X.ints (l : List Int) : List Value := l.map (Value.int .i64)
theorem X.infoI : (Try.prog.info? 3).map (fun i => (i.zero, i.size, i.bytes)) = some (some (.int .i64 0), 1, 8) := by kernel_rfl
/-- one more number, behind the others -/
theorem X.appendI (w : World) (ra : Option Addr) (rc n : Nat) (xs : List Value) (hrow : Ro w 3 1 ra n rc xs) (hb : n ≤ 1000) (x : Int) :
    ∃ ra' rc' w', (Builtin.append_ #[44, 44] 44 #[.slice ra n rc, .slice (some ⟨w.heap.size, 0, none⟩) 1 1]).run Try.prog (w.alloc (.cells #[.int .i64 x] 3)) = .ok (.slice ra' (n + 1) rc') w' ∧
      Ro w' 3 1 ra' (n + 1) rc' (xs ++ [.int .i64 x]) ∧ Fr (fun k => blk ra = some k) w w' ∧ (∀ k, blk ra' = some k → blk ra = some k ∨ w.heap.size ≤ k) := by
  obtain ⟨i0, hi, hz0, hz1, hz2⟩ := info_parts X.infoI
  have f0 : Fr (fun _ => False) w (w.alloc (.cells #[.int .i64 x] 3)) := Fr.alloc (Fr.refl _ _) _
  have hn := Go.heap_alloc_new w (.cells #[.int .i64 x] 3)
  obtain ⟨a', c', w', hr, h2, h3, h4⟩ := run_append_o (P := Try.prog) (w.alloc (.cells #[.int .i64 x] 3)) 44 44 3 i0 _ 1 8 Try.underlying44 hi hz0 hz1 hz2 rfl (by omega) ra n rc xs (hrow.kept f0 (fun _ _ h => h)) ⟨w.heap.size, 0, none⟩ 1 1 [.int .i64 x] rfl (fun j u hu => by
    rw [Addr.add_lit, Nat.zero_add]
    exact cell_at hn (by rw [← Array.getElem?_toList]; exact hu)) (fun u hu => by simp at hu; rcases hu with rfl; rfl) (by omega) (by omega) (by omega)
  refine ⟨a', c', w', hr, h2, (f0.mono (fun _ _ h => h.elim)).trans (Fr.of_grown h3) (fun i hi e => e), fun k hk => ?_⟩
  rcases h4 with ⟨rfl, _⟩ | ⟨rfl, _⟩
  · exact .inl hk
  · simp [blk] at hk; exact .inr (by omega)
/-- a state's states -/
theorem X.run_index8s (f : Nat → Int) {k : Nat} (hk : k < 8) (W : World) : (Instr.index 22 (.agg (V8 f)) (.int .i64 (k : Int))).run Try.prog W = .ok (.int .i64 (f k)) W := by
  have h1 := V8.at f hk
  generalize V8 f = cs at h1 ⊢
  obtain ⟨i0, hi, hz0, hz1, hz2⟩ := info_parts X.infoI
  simp [Instr.index, asIntOf, run_underlying Try.underlying22, sizeOf, typeInfo, hk, hi, hz1, part, Try.isAgg3, h1]
theorem X.Sc.states {W : World} {b : Nat} {g : Nat → Int} (h : X.Sc W b g) : (Instr.loadAt 22 (.pointer (some ⟨b, 4, none⟩))).run Try.prog W = .ok (.agg (V8 (fun j => g (4 + j)))) W := by
  have := run_loadAt_mid (P := Try.prog) W b 4 22 (V8 (fun j => g (4 + j))).toList _ (fun j v hv => by
    have hj : j < 8 := by have := (List.getElem?_eq_some_iff.1 hv).1; simpa using this
    have h1 := V8.at (fun j => g (4 + j)) hj
    rw [← Array.getElem?_toList, hv] at h1
    cases h1
    refine h (4 + j) (by omega) (by omega) ?_
    unfold X.sl
    simp
    omega) Try.underlying22 rfl (by kernel_rfl)
  simpa using this
/-- is a site a peer? -/
def X.isPeer (g : Nat → Int) (j : Nat) : Bool := !((j : Int) == g 0) && ((g (4 + j) == 1) || (g (4 + j) == 2))
/-- THE PEERS below a number -/
def X.peers (g : Nat → Int) : Nat → List Int
  | 0 => []
  | k + 1 => if X.isPeer g k = true then X.peers g k ++ [(k : Int)] else X.peers g k
theorem X.peers_le (g : Nat → Int) : ∀ k, (X.peers g k).length ≤ k
  | 0 => Nat.le_refl _
  | k + 1 => by
    have := X.peers_le g k
    rw [X.peers]
    split
    · rw [List.length_append, List.length_singleton]; omega
    · omega
/-- where the loop is -/
structure X.Pt (w1 wr : World) (l : List Int) (ra : Option Addr) (rc : Nat) : Prop where
  ro : Ro wr 3 1 ra l.length rc (X.ints l)
  blk_ : ∀ b, blk ra = some b → w1.heap.size ≤ b
  fr : Fr (fun _ => False) w1 wr
theorem X.Pt.more {w1 wr wn : World} {l : List Int} {x : Int} {ra ra' : Option Addr} {rc rc' : Nat} (h : X.Pt w1 wr l ra rc) (hr : Ro wn 3 1 ra' (l.length + 1) rc' (X.ints l ++ [.int .i64 x])) (hf : Fr (fun b => blk ra = some b) wr wn) (hb : ∀ b, blk ra' = some b → blk ra = some b ∨ wr.heap.size ≤ b) : X.Pt w1 wn (l ++ [x]) ra' rc' := by
  refine ⟨by simpa [X.ints] using hr, fun b hb2 => ?_, h.fr.trans hf (fun b hb2 hb3 => by have := h.blk_ b hb3; omega)⟩
  rcases hb b hb2 with h1 | h1
  · exact h.blk_ b h1
  · exact Nat.le_trans h.fr.size h1
/-- numbers as they are answered -/
def X.NewI (w : World) (l : List Int) (e : Ending) (w' : World) : Prop := ∃ a c, e = .returned (.slice a l.length c) ∧ Rw (fun g => w.heap.size ≤ g ∧ g < w'.heap.size) w' 1 a l.length (X.ints l) ∧ Fr (fun _ => False) w w'
theorem X.NewI.of {w w1 w' : World} {l : List Int} {n : Nat} {ra : Option Addr} {rc : Nat} (h : X.Pt w1 w' l ra rc) (hn : l.length = n) (h1 : Fr (fun _ => False) w w1) : X.NewI w l (.returned (.slice ra n rc)) w' := by
  subst hn
  exact ⟨ra, rc, rfl, Rw.of_ro h.ro (fun g hg => ⟨Nat.le_trans h1.size (h.blk_ g hg), h.ro.lt g hg⟩), h1.trans h.fr (fun _ _ h => h)⟩
set_option maxHeartbeats 3200000 in
theorem xpeers_any (w : World) (g : Nat → Int) (b : Bool) (v : Nat → Value) : Calls Try.prog 9 #[.agg (X.cs g b v)] w fun e w' => X.NewI w (X.peers g 8) e w' := by
  have F0 := hid (show Fr (fun _ => False) w (w.alloc (.cells (X.cs g b v) 34)) from Fr.alloc (Fr.refl _ _) _)
  have SB := hid (X.Sc.of (Go.heap_alloc_new w (.cells (X.cs g b v) 34)))
  have LS := hid (SB.out.states)
  have C0 := hid (fun (W : World) (hf : Fr (fun _ => False) (w.alloc (.cells (X.cs g b v) 34)) W) => SB.out.kept hf (fun h => h) 0 (by omega) (by omega) (X.sl_no (by omega)))
  have IX := hid (fun (k : Nat) (hk : k < 8) (W : World) => X.run_index8s (fun j => g (4 + j)) hk W)
  generalize X.cs g b v = CX at F0 SB LS C0 ⊢
  generalize hST : V8 (fun j => g (4 + j)) = ST at LS IX
  obtain ⟨W1, hW1⟩ : ∃ W1, w.alloc (.cells CX 34) = W1 := ⟨_, rfl⟩
  have HW1 := hid hW1
  rw [hW1] at F0 C0
  clear hST hW1 SB
  go_enter Try.func9, Try.ntmps9
  go_wp2_with (first
    | (refine wpList_load_v LS.out (by exact ⟨_, rfl, rfl⟩) (by kernel_rfl) ?_))
  clear LS
  go_loopw [3, 9] (fun sl idx wr => ∃ (k n : Nat) (ra : Option Addr) (rc : Nat), k ≤ 8 ∧ sl = .slice ra n rc ∧ idx = .int .i64 k ∧ Hid ((X.peers g k).length = n ∧ X.Pt W1 wr (X.peers g k) ra rc)) (fun _ idx _ => 8 - (intOf idx).toNat)
  case atStart => exact ⟨0, 0, none, 0, by omega, rfl, rfl, hid ⟨rfl, ⟨Ro.nil _ _ _, fun _ h => by simp [blk] at h, by rw [HW1.out]; exact Fr.refl _ _⟩⟩⟩
  case round =>
    obtain ⟨k, n, ra, rc, hk, rfl, rfl, HR⟩ := hrel
    by_cases hlt : k < 8
    · have i0 : (0 : Int) ≤ (k : Int) := by omega
      have i1 : (k : Int) < 8 := by omega
      have IK := hid (IX.out k hlt)
      have c0 := C0.out _ HR.out.2.fr
      have HW2 := hid (show (k : Int) + 1 = ((k + 1 : Nat) : Int) by omega)
      have HLT := hid hlt
      obtain ⟨p, hp⟩ : ∃ p, X.isPeer g k = p := ⟨_, rfl⟩
      have HS := hid (show X.peers g (k + 1) = if X.isPeer g k = true then X.peers g k ++ [(k : Int)] else X.peers g k from rfl)
      rw [hp] at HS
      unfold X.isPeer at hp
      generalize g 0 = g0 at c0 hp
      generalize g (4 + k) = st at IK hp
      have HN := hid (show n ≤ 1000 by have h1 := HR.out.1; have h2 := X.peers_le g k; omega)
      cases p with
      | false =>
        have hnp : (k : Int) = g0 ∨ ((k : Int) ≠ g0 ∧ st ≠ 1 ∧ st ≠ 2) := by
          by_cases h : (k : Int) = g0
          · exact .inl h
          · simp [h] at hp; exact .inr ⟨h, hp.1, hp.2⟩
        clear hp
        have HR2 := hid (show (X.peers g (k + 1)).length = n ∧ X.Pt W1 wr (X.peers g (k + 1)) ra rc from by rw [HS.out]; simpa using HR.out)
        rcases hnp with h | ⟨h, h1, h2⟩
        · obtain rfl : g0 = (k : Int) := h.symm
          go_wp2_with (first
            | (refine wpList_index_v (IK.out _) (by exact ⟨_, _, rfl, rfl, rfl⟩) (by kernel_rfl) ?_))
          go_roundw
          case rel => exact ⟨k + 1, n, ra, rc, HLT.out, rfl, congrArg (Value.int .i64) HW2.out, HR2⟩
          case measure => exact X.mea HW2.out HLT.out
        · have h' : ((k : Int) == g0) = false := by simp [h]
          have h1' : (st == 1) = false := by simp [h1]
          have h2' : (st == 2) = false := by simp [h2]
          go_wp2_with (first
            | (refine wpList_index_v (IK.out _) (by exact ⟨_, _, rfl, rfl, rfl⟩) (by kernel_rfl) ?_))
          go_roundw
          case rel => exact ⟨k + 1, n, ra, rc, HLT.out, rfl, congrArg (Value.int .i64) HW2.out, HR2⟩
          case measure => exact X.mea HW2.out HLT.out
      | true =>
        have hh : (k : Int) ≠ g0 ∧ (st = 1 ∨ (st ≠ 1 ∧ st = 2)) := by
          simp at hp
          refine ⟨hp.1, ?_⟩
          by_cases h : st = 1
          · exact .inl h
          · exact .inr ⟨h, by rcases hp.2 with h2 | h2 <;> omega⟩
        clear hp
        obtain ⟨h, h12⟩ := hh
        have h' : ((k : Int) == g0) = false := by simp [h]
        obtain ⟨ra2, rc2, w4, hr4, h5, h6, h7⟩ := X.appendI wr ra rc n _ (by have h1 := HR.out.2.ro; rw [HR.out.1] at h1; exact h1) HN.out k
        have RA := hid hr4
        have HR2 := hid (show (X.peers g (k + 1)).length = n + 1 ∧ X.Pt W1 w4 (X.peers g (k + 1)) ra2 rc2 from by
          rw [HS.out, if_pos rfl]
          refine ⟨by rw [List.length_append, List.length_singleton, HR.out.1], HR.out.2.more (by rw [HR.out.1]; exact h5) h6 h7⟩)
        clear hr4 h5 h6 h7
        rcases h12 with h1 | ⟨h1, h2⟩
        · subst h1
          go_wp2_with (first
            | (refine wpList_index_v (IK.out _) (by exact ⟨_, _, rfl, rfl, rfl⟩) (by kernel_rfl) ?_)
            | (at_builtin; refine wpList_append_eq _ _ rfl (.tmp 25) (.tmp 27) _ rfl _ _ _ rfl rfl RA.out ?_))
          go_roundw
          case rel => exact ⟨k + 1, n + 1, ra2, rc2, HLT.out, rfl, congrArg (Value.int .i64) HW2.out, HR2⟩
          case measure => exact X.mea HW2.out HLT.out
        · have h1' : (st == 1) = false := by simp [h1]
          subst h2
          go_wp2_with (first
            | (refine wpList_index_v (IK.out _) (by exact ⟨_, _, rfl, rfl, rfl⟩) (by kernel_rfl) ?_)
            | (at_builtin; refine wpList_append_eq _ _ rfl (.tmp 25) (.tmp 27) _ rfl _ _ _ rfl rfl RA.out ?_))
          go_roundw
          case rel => exact ⟨k + 1, n + 1, ra2, rc2, HLT.out, rfl, congrArg (Value.int .i64) HW2.out, HR2⟩
          case measure => exact X.mea HW2.out HLT.out
    · obtain rfl : k = 8 := by omega
      go_wp2
      go_ret
      exact X.NewI.of HR.out.2 HR.out.1 F0.out
end Go.Proofs.Ytedgiffnfhkonaa

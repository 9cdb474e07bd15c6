/-
  Lists of vectors and of stamps in memory; joins and meets, in plain words.
-/
import Derived.Test.YtedgiffnfhkonaaSVec
namespace Go.Proofs.Ytedgiffnfhkonaa
open Go.RowKit
set_option linter.unusedVariables false
set_option linter.unusedSimpArgs false

/-- n elements of k numbers each, behind a -/
def Ri (w : World) (k : Nat) (a : Option Addr) (n : Nat) (z : Nat → Nat → Int) : Prop := n = 0 ∨ ∃ b o, a = some ⟨b, o, none⟩ ∧ ∀ i j, i < n → j < k → w.cell? ⟨b, o + i * k + j, none⟩ = some (.int .i64 (z i j))
theorem Ri.fr {w w' : World} {k : Nat} {a : Option Addr} {n : Nat} {z : Nat → Nat → Int} (h : Ri w k a n z) (hf : Fr (fun _ => False) w w') : Ri w' k a n z := by
  rcases h with h | ⟨b, o, rfl, hc⟩
  · exact .inl h
  · exact .inr ⟨b, o, rfl, fun i j hi hj => cellFr hf (fun h => h) (hc i j hi hj)⟩
theorem Ri.some_of {w : World} {k : Nat} {a : Option Addr} {n : Nat} {z : Nat → Nat → Int} (h : Ri w k a n z) (hn : 0 < n) : ∃ b o, a = some ⟨b, o, none⟩ ∧ ∀ i j, i < n → j < k → w.cell? ⟨b, o + i * k + j, none⟩ = some (.int .i64 (z i j)) := by
  rcases h with h | h
  · omega
  · exact h
/-- the greatest, or the least, of the first n, at a site -/
def S.fold (p : Int → Int → Int) (z : Nat → Nat → Int) (j : Nat) : Nat → Int
  | 0 => 0
  | 1 => z 0 j
  | n + 2 => p (S.fold p z j (n + 1)) (z (n + 1) j)
theorem S.fold_succ (p : Int → Int → Int) (z : Nat → Nat → Int) (j : Nat) {n : Nat} (h : n ≠ 0) : S.fold p z j (n + 1) = p (S.fold p z j n) (z n j) := by
  obtain ⟨m, rfl⟩ : ∃ m, n = m + 1 := ⟨n - 1, by omega⟩
  rfl
/-- the first k sites of F, the others of G -/
def S.mix (k : Nat) (F G : Nat → Int) : Nat → Int := fun j => if j < k then F j else G j
theorem S.mix_0 (F G : Nat → Int) : S.mix 0 F G = G := by funext j; simp [S.mix]
theorem S.mix_8 (F G : Nat → Int) : V8 (S.mix 8 F G) = V8 F := by simp [S.mix, V8]
theorem S.mix_at (k : Nat) (F G : Nat → Int) : S.mix k F G k = G k := by simp [S.mix]
theorem S.mix_set {k : Nat} (hk : k < 8) (F G : Nat → Int) {v : Int} (hv : v = F k) : (V8 (S.mix k F G)).setIfInBounds k (.int .i64 v) = V8 (S.mix (k + 1) F G) := by
  subst hv
  match k, hk with
  | 0, _ | 1, _ | 2, _ | 3, _ | 4, _ | 5, _ | 6, _ | 7, _ => simp [S.mix, V8]
/-- the box of a vector -/
def Vb (w : World) (b : Nat) (f : Nat → Int) : Prop := w.heap[b]? = some (.cells (V8 f) 24 (0, 0))
theorem Vb.cell {w : World} {b : Nat} {f : Nat → Int} (h : Vb w b f) {k : Nat} (hk : k < 8) : w.cell? ⟨b, k, none⟩ = some (.int .i64 (f k)) := cellA h (V8.at f hk)
theorem Vb.frozen {w : World} {b : Nat} {f : Nat → Int} (h : Vb w b f) (k : Nat) : w.frozen? ⟨b, k, none⟩ = false := frozen_of_row h
theorem Vb.fr {w w' : World} {b : Nat} {f : Nat → Int} (h : Vb w b f) (hf : Fr (fun _ => False) w w') : Vb w' b f := hf.cells h (fun h => h)
theorem Vb.set {w : World} {b k : Nat} (hk : k < 8) {F G : Nat → Int} (h : Vb w b (S.mix k F G)) {v : Int} (hv : v = F k) : Vb (w.setCell ⟨b, k, none⟩ (.int .i64 v)) b (S.mix (k + 1) F G) := by
  have := setCell_row (j := k) h (.int .i64 v)
  rw [S.mix_set hk F G hv] at this
  exact this
theorem Vb.keep {w : World} {b k : Nat} {F G : Nat → Int} (h : Vb w b (S.mix k F G)) (hv : G k = F k) : Vb w b (S.mix (k + 1) F G) := by
  have e : S.mix k F G = S.mix (k + 1) F G := by
    funext j
    simp only [S.mix]
    by_cases h1 : j < k
    · simp [h1, Nat.lt_succ_of_lt h1]
    · by_cases h2 : j = k
      · subst h2; simp [hv]
      · simp [h1, show ¬ j < k + 1 by omega]
  rw [← e]; exact h
end Go.Proofs.Ytedgiffnfhkonaa

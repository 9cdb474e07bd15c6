/-
  Lists of slotted entries, as they are read; the document's Same.
-/
import Derived.Test.YtedhmhlhjonloaaASame5
import Derived.Test.YtedhmhlhjonloaaALive
import Derived.LoopN
import Derived.Deep.RegionHeld3
namespace Go.Proofs.Ytedhmhlhjonloaa
open Go.RowKit Go.Maps
set_option linter.unusedVariables false
set_option linter.unusedSimpArgs false

/-- A LIST OF SLOTTED ENTRIES, in blocks of I. -/
structure Ls (I : Nat → Prop) (w : World) (a : Option Addr) (xs : List El) : Prop where
  row : Rw I w 59 a xs.length (flatE xs)
  el : ∀ x ∈ xs, Rs I w x.1 x.2
theorem Ls.nil (I : Nat → Prop) (w : World) (a : Option Addr) : Ls I w a [] := ⟨Rw.nil _ _ _ _, by simp⟩
theorem Ls.kept {I S : Nat → Prop} {w w' : World} {a : Option Addr} {xs : List El} (h : Ls I w a xs) (hf : Fr S w w') (hS : ∀ i, I i → ¬ S i) : Ls I w' a xs := ⟨h.row.kept hf hS, fun x hx => (h.el x hx).kept hf hS⟩
theorem Ls.fr {I : Nat → Prop} {w w' : World} {a : Option Addr} {xs : List El} (h : Ls I w a xs) (hf : Fr (fun _ => False) w w') : Ls I w' a xs := h.kept hf (fun _ _ h => h)
theorem Ls.mono {I J : Nat → Prop} {w : World} {a : Option Addr} {xs : List El} (h : Ls I w a xs) (hJ : ∀ i, I i → J i) : Ls J w a xs := ⟨h.row.mono hJ, fun x hx => (h.el x hx).mono hJ⟩
theorem Ls.kc {I M : Nat → Prop} {w w' : World} {a : Option Addr} {xs : List El} (h : Ls I w a xs) (hk : Kc M w w') (hM : ∀ i, I i → ¬ M i) : Ls I w' a xs := ⟨h.row.kc hk hM, fun x hx => (h.el x hx).kc hk hM⟩
theorem Sx.ls {b : Nat} {w : World} {a : Option Addr} {c : Nat} {xs : List El} (h : Sx b w a c xs) : Ls (fun g => b ≤ g ∧ g < w.heap.size) w a xs :=
  ⟨Rw.of_ro h.row (fun g hg => ⟨h.new g hg, h.row.lt g hg⟩), fun x hx => (h.el x hx).mono (fun i hi => ⟨hi.1, hi.2.1⟩)⟩
theorem flatE_at {xs : List El} (hs : ∀ x ∈ xs, x.1.size = 59) {i : Nat} {x : El} (hx : xs[i]? = some x) : ((flatE xs).drop (i * 59)).take 59 = x.1.toList := by
  unfold flatE
  refine flat_at (fun o ho => ?_) (by rw [List.getElem?_map, hx]; rfl)
  obtain ⟨y, hy, rfl⟩ := List.mem_map.1 ho
  rw [Array.length_toList]
  exact hs y hy
/-- one of them, where it lies -/
theorem Ls.at {I : Nat → Prop} {w : World} {a : Option Addr} {xs : List El} (h : Ls I w a xs) {i : Nat} {x : El} (hx : xs[i]? = some x) : ∃ g o, a = some ⟨g, o, none⟩ ∧ I g ∧ ∀ j u, x.1[j]? = some u → w.cell? ⟨g, o + i * 59 + j, none⟩ = some u := by
  have hi : i < xs.length := (List.getElem?_eq_some_iff.1 hx).1
  rcases h.row.2 with h0 | ⟨g, o, ha, hI, hc⟩
  · omega
  · refine ⟨g, o, ha, hI, fun j u hu => ?_⟩
    rw [Nat.add_assoc]
    refine hc _ u ?_
    have hf := flatE_at (fun y hy => (h.el y hy).size) hx
    have hj : j < 59 := by
      have h1 := (Array.getElem?_eq_some_iff.1 hu).1
      rw [(h.el x (List.mem_of_getElem? hx)).size] at h1
      exact h1
    rw [← Array.getElem?_toList, ← hf, List.getElem?_take, if_pos hj, List.getElem?_drop] at hu
    exact hu
/-- its cells: slot, ballot, entry -/
structure Lx (w : World) (g o : Nat) (s : A.Sd) (ec : List Value) : Prop where
  c0 : w.cell? ⟨g, o, none⟩ = some (.int .i64 s.slot)
  c1 : w.cell? ⟨g, o + 1, none⟩ = some (.int .i64 s.bl.1)
  c2 : w.cell? ⟨g, o + 2, none⟩ = some (.int .i64 s.bl.2)
  le : (Instr.loadAt 46 (.pointer (some ⟨g, o + 3, none⟩))).run Try.prog w = .ok (.agg ec.toArray) w
  lb : (Instr.loadAt 27 (.pointer (some ⟨g, o + 1, none⟩))).run Try.prog w = .ok (.agg #[.int .i64 s.bl.1, .int .i64 s.bl.2]) w
  ls : (Instr.loadAt 79 (.pointer (some ⟨g, o, none⟩))).run Try.prog w = .ok (.agg (.int .i64 s.slot :: .int .i64 s.bl.1 :: .int .i64 s.bl.2 :: ec).toArray) w
theorem Lx.of {I : Nat → Prop} {w : World} {g o : Nat} {cs : Array Value} {s : A.Sd} (h : Rs I w cs s) (hc : ∀ j u, cs[j]? = some u → w.cell? ⟨g, o + j, none⟩ = some u) : ∃ ec, cs = (.int .i64 s.slot :: .int .i64 s.bl.1 :: .int .i64 s.bl.2 :: ec).toArray ∧ Re I w ec s.en ∧ Lx w g o s ec := by
  obtain ⟨ec, rfl, he⟩ := h
  have hl := he.len
  have c1 := hc 1 _ rfl
  have c2 := hc 2 _ rfl
  refine ⟨ec, rfl, he, ⟨hc 0 _ rfl, c1, c2, ?_, ?_, ?_⟩⟩
  · refine run_loadAt_mid w g (o + 3) _ ec _ (fun j v hv => ?_) Try.underlying46 rfl (by rw [hl]; kernel_rfl)
    rw [Nat.add_assoc]
    refine hc (3 + j) v ?_
    rw [List.getElem?_toArray, show 3 + j = j + 1 + 1 + 1 by omega]
    exact hv
  · refine run_loadAt_mid w g (o + 1) _ [.int .i64 s.bl.1, .int .i64 s.bl.2] _ (fun j v hv => ?_) Try.underlying27 rfl (by kernel_rfl)
    match j, hv with
    | 0, hv => cases hv; exact c1
    | 1, hv => cases hv; exact c2
    | j + 2, hv => simp at hv
  · refine run_loadAt_mid w g o _ (.int .i64 s.slot :: .int .i64 s.bl.1 :: .int .i64 s.bl.2 :: ec) _ (fun j v hv => ?_) Try.underlying79 rfl (by simp only [List.length_cons, hl]; kernel_rfl)
    exact hc j v (by rw [List.getElem?_toArray]; exact hv)
theorem Ls.lx {I : Nat → Prop} {w : World} {g o : Nat} {xs : List El} (h : Ls I w (some ⟨g, o, none⟩) xs) {i : Nat} {x : El} (hx : xs[i]? = some x) : ∃ ec, x.1 = (.int .i64 x.2.slot :: .int .i64 x.2.bl.1 :: .int .i64 x.2.bl.2 :: ec).toArray ∧ Re I w ec x.2.en ∧ Lx w g (o + i * 59) x.2 ec := by
  obtain ⟨g', o', e, _, hc⟩ := h.at hx
  cases e
  exact Lx.of (h.el x (List.mem_of_getElem? hx)) hc
theorem Ls.some_of {I : Nat → Prop} {w : World} {a : Option Addr} {xs : List El} (h : Ls I w a xs) (hn : 0 < xs.length) : ∃ g o, a = some ⟨g, o, none⟩ := by
  rcases h.row.2 with h0 | ⟨g, o, ha, _⟩
  · omega
  · exact ⟨g, o, ha⟩
/-! ### in a region that draws its order -/
theorem yieldsIf_neq_v {ops : Array Oper} {S : World → Prop} {o : Oper} {a : Act} {t : TypeId} {u v r : Value} (hw : Region.wanted o (yielded ops a.tmps) = true) (h0 : ∃ x y ty, o.op = .binOp .neq t x y ty ∧ a.eval x = u ∧ a.eval y = v ∧ ∀ W, (eqGuard .neq t x y u v).run Try.prog W = .ok () W) (hr : ∀ w, S w → (binOp .neq t u v).run Try.prog w = .ok r w) : YieldsIf Try.prog ops S o r a :=
  .inl ⟨hw, fun w hw' => by
    obtain ⟨x, y, ty, ho, hx, hy, hg⟩ := h0
    simp [execOp, ho, hx, hy, hg, hr w hw', Result.andThen]⟩
theorem neqBl {a b c d : Int} (h : ¬ (a = c ∧ b = d)) (W : World) : (binOp .neq 27 (.agg #[.int .i64 a, .int .i64 b]) (.agg #[.int .i64 c, .int .i64 d])).run Try.prog W = .ok (.bool true) W := by
  rw [run_neq_struct]
  by_cases h1 : a = c
  · have h2 : ¬ b = d := fun e => h ⟨h1, e⟩
    subst h1
    go_simp
  · go_simp
theorem yieldsIf_load_v {ops : Array Oper} {S : World → Prop} {o : Oper} {a : Act} {ty : TypeId} {u v : Value} (hw : Region.wanted o (yielded ops a.tmps) = true) (h0 : ∃ x, o.op = .load ty x ∧ a.eval x = u) (hl : ∀ w, S w → (Instr.loadAt ty u).run Try.prog w = .ok v w) : YieldsIf Try.prog ops S o v a :=
  .inl ⟨hw, fun w hw' => by
    obtain ⟨x, ho, hx⟩ := h0
    simp [execOp, ho, hx, hl w hw', Result.andThen]⟩
end Go.Proofs.Ytedhmhlhjonloaa

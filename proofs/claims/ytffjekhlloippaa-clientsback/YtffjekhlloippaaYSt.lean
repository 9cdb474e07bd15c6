/-
  The program's table and the document's, side by side; an operation of a script in its box.
-/
import Derived.Test.YtffjekhlloippaaYLive
import Derived.Test.YtffjekhlloippaaYRPut
namespace Go.Proofs.Ytffjekhlloippaa
open Go.RowKit Go.Maps
set_option linter.unusedVariables false
set_option linter.unusedSimpArgs false
set_option maxRecDepth 100000
namespace Y
/-- an operation of a script -/
structure Sop where
  s : Int
  q : Int
  put : Bool
  cln : Bool
  r : Rp
  st : Int
abbrev Sop.cs (x : Sop) : Array Value := #[.int .i64 x.s, .int .i64 x.q, .bool x.put, .bool x.cln, .int .i64 x.r.1, .int .i64 x.r.2.1, .int .i64 x.r.2.2.1, .int .i64 x.r.2.2.2, .int .i64 x.st]
def flatS (l : List Sop) : List Value := (l.map (fun x => x.cs.toList)).flatten
theorem flatS_len : ∀ (t : List Sop), (flatS t).length = t.length * 9
  | [] => rfl
  | x :: r => by
    have := flatS_len r
    unfold flatS at this ⊢
    simp only [List.map_cons, List.flatten_cons, List.length_append, List.length_cons, this]
    simp
    omega
theorem flatS_get {t : List Sop} {k : Nat} {x : Sop} (h : t[k]? = some x) {j : Nat} (hj : j < 9) : (flatS t)[k * 9 + j]? = x.cs[j]? := by
  have e : t = t.take k ++ x :: t.drop (k + 1) := by
    rw [← (List.getElem?_eq_some_iff.1 h).2, ← List.drop_eq_getElem_cons (List.getElem?_eq_some_iff.1 h).1, List.take_append_drop]
  have hk := (List.getElem?_eq_some_iff.1 h).1
  have ha : ∀ x y : List Sop, flatS (x ++ y) = flatS x ++ flatS y := fun x y => by simp [flatS]
  have h1 : flatS [x] = x.cs.toList := by simp [flatS]
  rw [e, ha, List.getElem?_append_right (by rw [flatS_len, List.length_take]; omega), flatS_len, List.length_take, show min k t.length = k by omega, Nat.add_sub_cancel_left]
  rw [show x :: t.drop (k + 1) = [x] ++ t.drop (k + 1) from rfl, ha, h1, List.getElem?_append_left (by simpa using hj), Array.getElem?_toList]
/-- the cells of an element -/
theorem sop_at {I : Nat → Prop} {w : World} {a : Option Addr} {xs : List Sop} (h : Rw I w 9 a xs.length (flatS xs)) {k : Nat} {x : Sop} (hx : xs[k]? = some x) : ∃ g o, a = some ⟨g, o, none⟩ ∧ ∀ j u, x.cs[j]? = some u → w.cell? ⟨g, o + k * 9 + j, none⟩ = some u := by
  rcases h.2 with h0 | ⟨g, o, rfl, hI, hc⟩
  · have := (List.getElem?_eq_some_iff.1 hx).1; omega
  · refine ⟨g, o, rfl, fun j u hu => ?_⟩
    rw [Nat.add_assoc]
    refine hc _ u ?_
    have hj : j < 9 := by have := (Array.getElem?_eq_some_iff.1 hu).1; simpa using this
    rw [flatS_get hx hj]
    exact hu
/-- BOTH TABLES -/
structure St (w V : World) (p mb r : Nat) (ra : Option Addr) (rc : Nat) (tb td : Tb) : Prop where
  fr : Fr (fun _ => False) w V
  y : Ym V p mb tb
  d : Yd V r ra rc td
  lm : w.heap.size ≤ mb
  lr : w.heap.size ≤ r
variable {w V V' : World} {p mb r : Nat} {ra : Option Addr} {rc : Nat} {tb td : Tb}
theorem St.idle (h : St w V p mb r ra rc tb td) (hf : Fr (fun _ => False) V V') : St w V' p mb r ra rc tb td :=
  ⟨h.fr.trans hf (fun _ _ h => h), h.y.kept hf (fun h => h) (fun h => h), h.d.fr hf, h.lm, h.lr⟩
theorem St.mr (h : St w V p mb r ra rc tb td) : mb ≠ r := fun e => by
  have := h.y.map
  rw [e] at this
  exact this.not_cells h.d.box
theorem St.pr (h : St w V p mb r ra rc tb td) : p ≠ r := fun e => by
  have := h.y.box
  rw [e, h.d.box] at this
  simp at this
/-- the program's table has turned -/
theorem St.put (h : St w V p mb r ra rc tb td) {tb' : Tb} (hy : Ym V' p mb tb') (hf : Fr (fun i => i = mb) V V') : St w V' p mb r ra rc tb' td := by
  refine ⟨h.fr.trans hf (fun i hi e => by have := h.lm; omega), hy, ⟨hf.cells h.d.box h.mr.symm, ⟨h.d.row.1, ?_⟩, h.d.cap, h.d.ok⟩, h.lm, h.lr⟩
  rcases h.d.row.2 with h0 | ⟨g, o, hg, hI, hc⟩
  · exact .inl h0
  · refine .inr ⟨g, o, hg, hI, fun j u hu => ?_⟩
    have h1 := hc j u hu
    refine cellFr hf (fun e => ?_) h1
    subst e
    obtain ⟨D, ⟨es, clock, hb, _⟩, _⟩ := h.y.map
    unfold World.cell? at h1
    simp only [hb] at h1
    cases h1
/-- another table of the program's stands in its place -/
theorem St.swap (h : St w V p mb r ra rc tb td) {p2 mb2 : Nat} (hy : Ym V p2 mb2 tb) (hl : w.heap.size ≤ mb2) : St w V p2 mb2 r ra rc tb td := ⟨h.fr, hy, h.d, hl, h.lr⟩
/-- the document's table has turned -/
theorem St.rput (h : St w V p mb r ra rc tb td) {ra' : Option Addr} {rc' : Nat} {td' : Tb} (hd : Yd V' r ra' rc' td') (hf : Fr (fun i => i = r) V V') : St w V' p mb r ra' rc' tb td' :=
  ⟨h.fr.trans hf (fun i hi e => by have := h.lr; omega), h.y.kept hf h.pr h.mr, hd, h.lm, h.lr⟩
/-- a box of cells stays where the program's table turns -/
theorem St.bxm (h : St w V p mb r ra rc tb td) (hf : Fr (fun i => i = mb) V V') {X : Nat} {cs : Array Value} {t : TypeId} {m : Nat × Nat} (hb : V.heap[X]? = some (.cells cs t m)) : V'.heap[X]? = some (.cells cs t m) :=
  hf.cells hb (fun e => by subst e; exact h.y.map.not_cells hb)
theorem St.bxr (h : St w V p mb r ra rc tb td) (hf : Fr (fun i => i = r) V V') {X : Nat} {cs : Array Value} {t : TypeId} {m : Nat × Nat} (hb : V.heap[X]? = some (.cells cs t m)) (hs : cs.size ≠ 1) : V'.heap[X]? = some (.cells cs t m) :=
  hf.cells hb (fun e => by
    subst e
    rw [h.d.box] at hb
    simp at hb
    exact hs (by rw [← hb.1]; rfl))
end Y
end Go.Proofs.Ytffjekhlloippaa

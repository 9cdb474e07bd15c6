/-
  A table of clients: rows by sessions, in memory.
-/
import Derived.Test.YtffjekhlloippaaTMap
import Derived.Test.YtffjekhlloippaaOList
import Derived.Test.YtffjekhlloippaaRowRd
import Derived.Deep.RegionHeld3
import Derived.WalkSpells
namespace Go.Proofs.Ytffjekhlloippaa
open Go.RowKit Go.Maps
set_option linter.unusedVariables false
set_option linter.unusedSimpArgs false
set_option maxRecDepth 100000
abbrev ptrY (b : Nat) : Value := .pointer (some ⟨b, 0, none⟩)
namespace Y
/-- a reply: its error, its stamp's time and site, its node -/
abbrev Rp := Int × Int × Int × Int
/-- a session's last request, and the reply to that -/
abbrev Rq := Int × Rp
/-- rows by sessions -/
abbrev Tb := List (Int × Rq)
def zR : Rp := (0, 0, 0, 0)
abbrev rcells (r : Rp) : Array Value := #[.int .i64 r.1, .int .i64 r.2.1, .int .i64 r.2.2.1, .int .i64 r.2.2.2]
abbrev rpv (r : Rp) : Value := .agg (rcells r)
abbrev wcells (s : Int) (q : Rq) : Array Value := #[.int .i64 s, .int .i64 q.1, .int .i64 q.2.1, .int .i64 q.2.2.1, .int .i64 q.2.2.2.1, .int .i64 q.2.2.2.2]
abbrev rowv (s : Int) (q : Rq) : Value := .agg (wcells s q)
def may (n : Int) : Bool := decide (1 ≤ n) && decide (n ≤ 1099511627776)
theorem may_iff {n : Int} : may n = true ↔ 1 ≤ n ∧ n ≤ 1099511627776 := by simp [may]
/-- what a request is to its session -/
def judge (t : Tb) (s q : Int) : Int :=
  if may s && may q then
    match A.get s t with
    | some r => if q = r.1 then 2 else if q < r.1 then 3 else if q = r.1 + 1 then 1 else 4
    | none => if q ≠ 1 then 4 else if 64 ≤ t.length then 5 else 1
  else 6
/-- the reply that is told -/
def said (t : Tb) (s q : Int) : Rp :=
  if judge t s q = 2 then (match A.get s t with | some r => r.2 | none => zR) else zR
/-- what Put answers -/
def perr (j : Int) : Int := if j = 1 then 0 else if j = 2 then 5 else if j = 5 then 6 else 1
/-- what Put leaves -/
def put (t : Tb) (s q : Int) (r : Rp) : Tb := if judge t s q = 1 then A.put s (q, r) t else t
def last (t : Tb) (s : Int) : Int := match A.get s t with | some r => r.1 | none => 0
/-- what a table keeps -/
structure Ok (t : Tb) : Prop where
  up : A.Up t
  few : t.length ≤ 64
  rng : ∀ s q, A.get s t = some q → may s = true ∧ may q.1 = true
theorem Ok.nil : Ok [] := ⟨by simp [A.Up], by simp, fun s q h => by simp [A.get] at h⟩
theorem judge1 {t : Tb} {s q : Int} (h : judge t s q = 1) : may s = true ∧ may q = true ∧ (match A.get s t with | some r => q = r.1 + 1 | none => q = 1 ∧ t.length < 64) := by
  unfold judge at h
  split at h
  · rename_i hm
    rw [Bool.and_eq_true] at hm
    refine ⟨hm.1, hm.2, ?_⟩
    cases hg : A.get s t with
    | none =>
      rw [hg] at h
      dsimp only at h ⊢
      split at h
      · omega
      · split at h <;> omega
    | some r =>
      rw [hg] at h
      dsimp only at h ⊢
      split at h
      · omega
      · split at h
        · omega
        · split at h <;> omega
  · omega
theorem Ok.put {t : Tb} (h : Ok t) (s q : Int) (r : Rp) : Ok (put t s q r) := by
  unfold Y.put
  split
  · rename_i hj
    obtain ⟨h1, h2, h3⟩ := judge1 hj
    refine ⟨h.up.put _ _, ?_, fun s' q' hg => ?_⟩
    · cases hg : A.get s t with
      | none =>
        rw [hg] at h3
        rw [A.length_put_new hg]
        have := h3.2
        omega
      | some v => rw [A.length_put_same h.up hg]; exact h.few
    · by_cases e : s' = s
      · subst e
        rw [A.get_put_same h.up] at hg
        cases hg
        exact ⟨h1, h2⟩
      · rw [A.get_put_other h.up e] at hg
        exact h.rng _ _ hg
  · exact h
end Y
/-- A TABLE IN MEMORY: its box, its map. -/
structure Ym (w : World) (p mb : Nat) (t : Y.Tb) : Prop where
  box : w.heap[p]? = some (.cells #[.map (some mb)] 54 (0, 0))
  map : Mp 2 litI w mb (fun s => (A.get s t).map (Y.rowv s)) t.length
  ok : Y.Ok t
theorem Mp.not_cells {κ : Type} {k : TypeId} {lit : κ → Lit} {w : World} {b : Nat} {g : κ → Option Value} {m : Nat} (h : Mp k lit w b g m) {cs : Array Value} {t : TypeId} {x : Nat × Nat} (hc : w.heap[b]? = some (.cells cs t x)) : False := by
  obtain ⟨D, ⟨es, clock, hb, _⟩, _⟩ := h
  rw [hb] at hc
  cases hc
theorem Ym.ne {w : World} {p mb : Nat} {t : Y.Tb} (h : Ym w p mb t) : p ≠ mb := fun e => by
  subst e
  exact h.map.not_cells h.box
theorem Ym.kept {S : Nat → Prop} {w w' : World} {p mb : Nat} {t : Y.Tb} (h : Ym w p mb t) (hf : Fr S w w') (h1 : ¬ S p) (h2 : ¬ S mb) : Ym w' p mb t :=
  ⟨hf.cells h.box h1, h.map.kept hf h2, h.ok⟩
theorem zeroRow6 (w : World) : (zeroValue 61).run Try.prog w = .ok (.agg #[.int .i64 0, .int .i64 0, .int .i64 0, .int .i64 0, .int .i64 0, .int .i64 0]) w := by kernel_rfl
theorem Ym.look {w : World} {p mb : Nat} {t : Y.Tb} (h : Ym w p mb t) {s : Int} (hs : (Lit.int .i64 s).wf = true) :
    (Instr.lookup 52 (.map (some mb)) (.int .i64 s) false).run Try.prog w = .ok (((A.get s t).map (Y.rowv s)).getD (.agg #[.int .i64 0, .int .i64 0, .int .i64 0, .int .i64 0, .int .i64 0, .int .i64 0])) w :=
  h.map.look keyI Try.underlying52 (zeroRow6 w) (keyOfI hs)
theorem Ym.look2 {w : World} {p mb : Nat} {t : Y.Tb} (h : Ym w p mb t) {s : Int} (hs : (Lit.int .i64 s).wf = true) :
    (Instr.lookup 52 (.map (some mb)) (.int .i64 s) true).run Try.prog w = .ok (.tuple #[((A.get s t).map (Y.rowv s)).getD (.agg #[.int .i64 0, .int .i64 0, .int .i64 0, .int .i64 0, .int .i64 0, .int .i64 0]), .bool (A.get s t).isSome]) w := by
  have := h.map.look2 keyI Try.underlying52 (zeroRow6 w) (keyOfI hs)
  rw [Option.isSome_map] at this
  exact this
theorem Ym.len {w : World} {p mb : Nat} {t : Y.Tb} (h : Ym w p mb t) (ty : TypeId) : (Builtin.len_ #[52] ty #[.map (some mb)]).run Try.prog w = .ok (.int .i64 t.length) w :=
  h.map.len Try.underlying52 ty
/-- a row put -/
theorem Ym.store {w : World} {p mb : Nat} {t : Y.Tb} (h : Ym w p mb t) {s : Int} (hs : (Lit.int .i64 s).wf = true) (q : Y.Rq) (hok : Y.Ok (A.put s q t)) :
    ∃ w', (Instr.mapUpdate 52 (.map (some mb)) (.int .i64 s) (Y.rowv s q)).run Try.prog w = .ok () w' ∧ Ym w' p mb (A.put s q t) ∧ Fr (fun i => i = mb) w w' := by
  obtain ⟨w', hr, hm, hf⟩ := h.map.store litI_inj keyI Try.underlying52 (by have := h.ok.few; unfold maxLen; omega) (keyOfI hs) (Y.rowv s q)
  refine ⟨w', hr, ⟨hf.cells h.box h.ne, ?_, hok⟩, hf⟩
  have e1 : (fun x => (A.get x (A.put s q t)).map (Y.rowv x)) = at_ (fun x => (A.get x t).map (Y.rowv x)) s (some (Y.rowv s q)) := by
    funext x
    unfold at_
    by_cases e : x = s
    · subst e
      rw [if_pos rfl, A.get_put_same h.ok.up]
      rfl
    · rw [if_neg e, A.get_put_other h.ok.up e]
  have e2 : (A.put s q t).length = if ((A.get s t).map (Y.rowv s)).isSome then t.length else t.length + 1 := by
    cases hg : A.get s t with
    | none => rw [A.length_put_new hg]; rfl
    | some v => rw [A.length_put_same h.ok.up hg]; rfl
  rw [e1, e2]
  exact hm
end Go.Proofs.Ytffjekhlloippaa

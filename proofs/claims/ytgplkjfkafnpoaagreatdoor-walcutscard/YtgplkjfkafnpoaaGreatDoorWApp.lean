/-
  Rows of segments and of records: append.
-/
import Derived.Test.YtgplkjfkafnpoaaGreatDoorWAdd
namespace Go.Proofs.YtgplkjfkafnpoaaGreatDoor
open Go.RowKit
set_option linter.unusedVariables false

theorem infoSeg : (Tryz.prog.info? 112).map (fun i => (i.zero, i.size, i.bytes)) = some (some (.agg #[.int .i64 0, .slice none 0 0]), 2, 32) := by kernel_rfl
theorem infoRec : (Tryz.prog.info? 50).map (fun i => (i.zero, i.size, i.bytes)) = some (some (.slice none 0 0), 1, 24) := by kernel_rfl
theorem wpList_append_eq (w w' : World) {ops : Array Oper} {rest : List Oper} {o : Oper} {a : Act} {Q : Exit → Act → World → Prop} (hgd : o.guard = none) (s x : Operand) (ts : Array TypeId)
    (ho : o.op = .call { callee := .builtin .append, args := #[s, x], argTypes := ts }) (sv xv v : Value) (hs : a.eval s = sv) (hx : a.eval x = xv) (hr : (Builtin.append_ ts o.type #[sv, xv]).run Tryz.prog w = .ok v w')
    (h : wpList Tryz.prog ops Q rest (a.put o.dst v) w') : wpList Tryz.prog ops Q (o :: rest) a w := by
  refine wpList_plain hgd fun K hK => ?_
  unfold Oper.wp execOp
  simp only [ho, resolve, invoke, builtin, Sem.run_bind, Sem.run_pure, Result.andThen_ok, List.map_toArray, List.map_cons, List.map_nil, hs, hx, hr]
  exact hK _ _ h
theorem wp_append_eq {o : Oper} {a : Act} {w w' : World} {K : Act → World → Prop} {Q : Exit → Act → World → Prop} (s x : Operand) (ts : Array TypeId) (ho : o.op = .call { callee := .builtin .append, args := #[s, x], argTypes := ts }) (sv xv v : Value) (hs : a.eval s = sv) (hx : a.eval x = xv)
    (hr : (Builtin.append_ ts o.type #[sv, xv]).run Tryz.prog w = .ok v w') (h : K (a.put o.dst v) w') : o.wp Tryz.prog a w K Q := by
  unfold Oper.wp execOp
  simp only [ho, resolve, invoke, builtin, Sem.run_bind, Sem.run_pure, Result.andThen_ok, List.map_toArray, List.map_cons, List.map_nil, hs, hx, hr]
  exact h
/-- a new segment, behind the others -/
theorem seg_append (w : World) (ty : TypeId) (sa : Option Addr) (sc : Nat) (sl : List SM) (n : Nat) (hn : sl.length = n) (hrow : Ro w 112 2 sa n sc (scs sl)) (hb : n ≤ 1000000000) (first : Int) :
    ∃ sa' sc' w', (Builtin.append_ #[59, 59] ty #[.slice sa n sc, .slice (some ⟨w.heap.size, 0, none⟩) 1 1]).run Tryz.prog (w.alloc (.cells #[.int .i64 first, .slice none 0 0] 112)) = .ok (.slice sa' (n + 1) sc') w' ∧
      Ro w' 112 2 sa' (n + 1) sc' (scs (sl ++ [⟨first, none, 0, []⟩])) ∧ Fr (fun k => blk sa = some k) w w' ∧ At w sa sa' := by
  obtain ⟨i0, hi, hz0, hz1, hz2⟩ := info_parts infoSeg
  have f0 : Fr (fun _ => False) w (w.alloc (.cells #[.int .i64 first, .slice none 0 0] 112)) := Fr.alloc (Fr.refl _ _) _
  obtain ⟨a', c', w', hr, h2, h3, h4⟩ := run_append_o (P := Tryz.prog) (w.alloc (.cells #[.int .i64 first, .slice none 0 0] 112)) 59 ty 112 i0 _ 2 32 Tryz.underlying59 hi hz0 hz1 hz2 rfl (by omega) sa n sc (scs sl) (hrow.kept f0 (fun _ _ h => h)) ⟨w.heap.size, 0, none⟩ 1 1 [.int .i64 first, .slice none 0 0] rfl
    (fun j u hu => by
      rw [Addr.add_lit, Nat.zero_add]
      exact cell_of (Go.heap_alloc_new w _) (by simpa using hu)) (by simp; exact ⟨rfl, rfl⟩) (by omega) (by omega) (by omega)
  refine ⟨a', c', w', hr, ?_, (f0.mono (fun _ _ h => h.elim)).trans (Fr.of_grown h3) (fun _ _ h => h), ?_⟩
  · rw [scs_append]
    exact h2
  · rcases h4 with ⟨h4, _⟩ | ⟨h4, _⟩
    · exact .inl h4
    · exact .inr ⟨_, h4, by simp⟩
/-- a record more -/
theorem rec_append (w : World) (ty : TypeId) (ra : Option Addr) (rc n : Nat) (vs : List Value) (hrow : w.ownsRow 0 50 1 (.slice ra n rc) n vs) (hb : n ≤ 1000000000) (ba : Option Addr) (bl bc : Nat) :
    ∃ ra' rc' w', (Builtin.append_ #[28, 28] ty #[.slice ra n rc, .slice (some ⟨w.heap.size, 0, none⟩) 1 1]).run Tryz.prog (w.alloc (.cells #[.slice ba bl bc] 50)) = .ok (.slice ra' (n + 1) rc') w' ∧
      w'.ownsRow 0 50 1 (.slice ra' (n + 1) rc') (n + 1) (vs ++ [.slice ba bl bc]) ∧ Fr (fun k => blk ra = some k) w w' ∧ (ra' = ra ∨ ∃ k, ra' = some ⟨k, 0, none⟩ ∧ w.heap.size < k) := by
  obtain ⟨i0, hi, hz0, hz1, hz2⟩ := info_parts infoRec
  have f0 : Fr (fun _ => False) w (w.alloc (.cells #[.slice ba bl bc] 50)) := Fr.alloc (Fr.refl _ _) _
  obtain ⟨a', c', w', hr, h2, h3, h4⟩ := run_append_x (P := Tryz.prog) (w.alloc (.cells #[.slice ba bl bc] 50)) 28 ty 50 i0 _ 1 24 Tryz.underlying28 hi hz0 hz1 hz2 rfl (by omega) ra n rc vs (ownsRow_kept hrow f0 (fun _ _ h => h)) ⟨w.heap.size, 0, none⟩ 1 1 [.slice ba bl bc] rfl
    (fun j u hu => by
      rw [Addr.add_lit, Nat.zero_add]
      exact cell_of (Go.heap_alloc_new w _) (by simpa using hu)) (by simp; rfl) (by omega) (by unfold maxLen; omega) (by omega)
  refine ⟨a', c', w', hr, h2, (f0.mono (fun _ _ h => h.elim)).trans (Fr.of_grown h3) (fun _ _ h => h), ?_⟩
  rcases h4 with ⟨h4, _⟩ | ⟨h4, _⟩
  · exact .inl h4
  · exact .inr ⟨_, h4, by simp⟩

end Go.Proofs.YtgplkjfkafnpoaaGreatDoor

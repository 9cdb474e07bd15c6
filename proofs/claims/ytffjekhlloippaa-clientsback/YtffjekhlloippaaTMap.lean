/-
  Maps whose elements stand as they are: what a map holds, key by key, and how many entries it has.
-/
import Derived.Test.YtffjekhlloippaaAgg
import Derived.Maps.RangeWalk
import Derived.Maps.OwnSet
import Derived.Maps.Ext
namespace Go.Proofs.Ytffjekhlloippaa
open Go.RowKit Go.Maps
set_option linter.unusedVariables false
set_option maxRecDepth 100000

/-- an element of a map reads as it is -/
def asIs (v : Value) : Option (DataW Value × List MemPlace) := some (.held v, [])
abbrev litI (n : Int) : Lit := .int .i64 n
abbrev litS (s : ByteArray) : Lit := .string s.data.toList
theorem litI_inj {a b : Int} (h : litI a = litI b) : a = b := by cases h; rfl
theorem litS_inj {a b : ByteArray} (h : litS a = litS b) : a = b := by
  have h1 : a.data.toList = b.data.toList := by cases a; cases b; simp [litS] at h ⊢; exact h
  cases a; cases b; simp at h1 ⊢; exact h1
/-- a map's element, or what stands for none -/
def orZ (z : DataW Value) : Option Value → DataW Value
  | some v => .held v
  | none => z
/-- block b is a map of m entries that holds g -/
def Mp {κ : Type} (k : TypeId) (lit : κ → Lit) (w : World) (b : Nat) (g : κ → Option Value) (m : Nat) : Prop :=
  ∃ D, w.ownsMap Try.prog k asIs b m D ∧ Maps.size D = m ∧ ∀ x z, D.atKey (lit x) z = orZ z (g x)
theorem has_orZ {D : DataW Value} {kl : Lit} {o : Option Value} (h : ∀ z, D.atKey kl z = orZ z o) : Maps.has D kl = o.isSome := by
  cases o with
  | none => exact has_false_of_atKey (fun z => h z)
  | some v => exact has_true_of_atKey (y := .held v) (fun z => h z)
section
variable {κ : Type} {k : TypeId} {lit : κ → Lit} {w : World} {b : Nat} {g : κ → Option Value} {m : Nat}
theorem Mp.lt (h : Mp k lit w b g m) : b < w.heap.size := by
  obtain ⟨D, h1, _⟩ := h
  exact h1.lt
theorem Mp.kept {S : Nat → Prop} {w' : World} (h : Mp k lit w b g m) (hf : Fr S w w') (hS : ¬ S b) : Mp k lit w' b g m := by
  obtain ⟨D, ⟨es, clock, hb, r⟩, h2⟩ := h
  exact ⟨D, ⟨es, clock, hf.cells hb hS, r⟩, h2⟩
theorem Mp.made (k : TypeId) (lit : κ → Lit) (w : World) : Mp k lit (w.alloc (.map #[] 0)) w.heap.size (fun _ => none) 0 :=
  ⟨.map [], World.ownsMap_made w _ _ _, rfl, fun x z => by simp [DataW.atKey, orZ]⟩
theorem Mp.look (h : Mp k lit w b g m) (K : Keyed Try.prog k) {t e : TypeId} (ht : Try.prog.underlying t = some (.map k e)) {z : Value} (hz : (zeroValue e).run Try.prog w = .ok z w) {key : Value} {x : κ} (hkey : keyOf Try.prog k key = some (lit x)) :
    (Instr.lookup t (.map (some b)) key false).run Try.prog w = .ok ((g x).getD z) w := by
  obtain ⟨D, h1, _, h3⟩ := h
  obtain ⟨v, ps, hrun, hv⟩ := h1.lookup K ht hz (zd := .held z) (zp := []) rfl hkey
  rw [h3 x] at hv
  rw [hrun]
  cases hg : g x with
  | none => rw [hg] at hv; simp [asIs, orZ] at hv; rw [hv.1]; rfl
  | some u => rw [hg] at hv; simp [asIs, orZ] at hv; rw [hv.1]; rfl
theorem Mp.look2 (h : Mp k lit w b g m) (K : Keyed Try.prog k) {t e : TypeId} (ht : Try.prog.underlying t = some (.map k e)) {z : Value} (hz : (zeroValue e).run Try.prog w = .ok z w) {key : Value} {x : κ} (hkey : keyOf Try.prog k key = some (lit x)) :
    (Instr.lookup t (.map (some b)) key true).run Try.prog w = .ok (.tuple #[(g x).getD z, .bool (g x).isSome]) w := by
  obtain ⟨D, h1, _, h3⟩ := h
  obtain ⟨v, ps, hrun, hv⟩ := h1.look_ok K ht hz (zd := .held z) (zp := []) rfl hkey
  rw [hrun, has_orZ (h3 x)]
  rw [h3 x] at hv
  cases hg : g x with
  | none => rw [hg] at hv; simp [asIs, orZ] at hv; rw [hv.1]; rfl
  | some u => rw [hg] at hv; simp [asIs, orZ] at hv; rw [hv.1]; rfl
theorem Mp.len (h : Mp k lit w b g m) {t e : TypeId} (ht : Try.prog.underlying t = some (.map k e)) (ty : TypeId) : (Builtin.len_ #[t] ty #[.map (some b)]).run Try.prog w = .ok (.int .i64 m) w := by
  obtain ⟨D, h1, h2, _⟩ := h
  rw [h1.len ht ty, h2]
/-- g with another element at x -/
def at_ [DecidableEq κ] (g : κ → Option Value) (x : κ) (o : Option Value) : κ → Option Value := fun y => if y = x then o else g y
theorem tight {D : DataW Value} {n : Nat} (h : w.ownsMap Try.prog k asIs b n D) : w.ownsMap Try.prog k asIs b (Maps.size D) D := by
  obtain ⟨es, clock, hb, F, hs, hD⟩ := h
  refine ⟨es, clock, hb, F, ?_, hD⟩
  have := congrArg Maps.size hD
  rw [this, Maps.size_eq, length_read]
  exact Nat.le_refl _
theorem turned_fr {w' : World} (h : w.mapTurned w' b) : Fr (fun i => i = b) w w' := (Fr.of_grown h.grown).mono (fun i _ e => by cases e; rfl)
theorem Mp.store [DecidableEq κ] (h : Mp k lit w b g m) (inj : ∀ {x y : κ}, lit x = lit y → x = y) (K : Keyed Try.prog k) {t e : TypeId} (ht : Try.prog.underlying t = some (.map k e)) (hm : m < maxLen) {key : Value} {x : κ} (hkey : keyOf Try.prog k key = some (lit x)) (val : Value) :
    ∃ w', (Instr.mapUpdate t (.map (some b)) key val).run Try.prog w = .ok () w' ∧ Mp k lit w' b (at_ g x (some val)) (if (g x).isSome then m else m + 1) ∧ Fr (fun i => i = b) w w' := by
  obtain ⟨D, h1, h2, h3⟩ := h
  obtain ⟨w', hrun, ho, ht'⟩ := h1.store K ht hm hkey (d := .held val) (ps := []) rfl
  have hk := K.key hkey
  refine ⟨w', hrun, ⟨D.put (lit x) (.held val), ?_, ?_, fun y z => ?_⟩, turned_fr ht'⟩
  · have := tight ho
    rw [size_put (h1.tidy K), has_orZ (h3 x), h2] at this
    exact this
  · rw [size_put (h1.tidy K), has_orZ (h3 x), h2]
  · unfold at_
    by_cases e : y = x
    · subst e
      rw [if_pos rfl, atKey_put_same h1.isMap hk]
      rfl
    · rw [if_neg e, atKey_put_other (fun h => e (inj h)), h3]
theorem Mp.drop [DecidableEq κ] (h : Mp k lit w b g m) (inj : ∀ {x y : κ}, lit x = lit y → x = y) (K : Keyed Try.prog k) {t e : TypeId} (ht : Try.prog.underlying t = some (.map k e)) {key : Value} {x : κ} (hkey : keyOf Try.prog k key = some (lit x)) (ty : TypeId) :
    ∃ w', (Builtin.delete_ #[t, k] ty #[.map (some b), key]).run Try.prog w = .ok (.tuple #[]) w' ∧ Mp k lit w' b (at_ g x none) (if (g x).isSome then m - 1 else m) ∧ Fr (fun i => i = b) w w' := by
  obtain ⟨D, h1, h2, h3⟩ := h
  obtain ⟨w', hrun, ho, ht'⟩ := h1.drop K ht hkey ty
  have e := size_del (D := D) (k := lit x) (h1.tidy K)
  rw [has_orZ (h3 x), h2] at e
  have e2 : Maps.size (D.del (lit x)) = if (g x).isSome then m - 1 else m := by
    cases hg : (g x).isSome <;> rw [hg] at e <;> simp at e ⊢ <;> omega
  refine ⟨w', hrun, ⟨D.del (lit x), ?_, e2, fun y z => ?_⟩, turned_fr ht'⟩
  · have := tight ho
    rw [e2] at this
    exact this
  · unfold at_
    by_cases e : y = x
    · subst e
      rw [if_pos rfl, atKey_del_same]
      rfl
    · rw [if_neg e, atKey_del_other (fun h => e (inj h)), h3]
end
theorem keyI : Keyed Try.prog 2 := int_keyed Try.underlying2
theorem keyS : Keyed Try.prog 9 := string_keyed Try.underlying9
theorem wfT {x : Int} (h1 : -9223372036854775808 ≤ x) (h2 : x ≤ 9223372036854775807) : (Lit.int .i64 x).wf = true := by
  simp [Lit.wf, IntKind.min, IntKind.max, IntKind.signed, IntKind.bits]
  omega
theorem keyOfI {x : Int} (h : (Lit.int .i64 x).wf = true) : keyOf Try.prog 2 (.int .i64 x) = some (litI x) := keyOf_int_mk Try.underlying2 h
theorem keyOfS {s : ByteArray} (h : s.size ≤ maxLen) : keyOf Try.prog 9 (.string s) = some (litS s) := WideMaps.keyOf_string_mk Try.underlying9 h
/-- a map, nil or not -/
def Mo {κ : Type} (k : TypeId) (lit : κ → Lit) (w : World) (v : Option Nat) (g : κ → Option Value) (m : Nat) : Prop :=
  match v with
  | none => (∀ x, g x = none) ∧ m = 0
  | some b => Mp k lit w b g m
section
variable {κ : Type} {k : TypeId} {lit : κ → Lit} {w : World} {v : Option Nat} {g : κ → Option Value} {m : Nat}
theorem Mo.kept {S : Nat → Prop} {w' : World} (h : Mo k lit w v g m) (hf : Fr S w w') (hS : ∀ b, v = some b → ¬ S b) : Mo k lit w' v g m := by
  cases v with
  | none => exact h
  | some b => exact Mp.kept h hf (hS b rfl)
theorem Mo.lt (h : Mo k lit w v g m) : ∀ b, v = some b → b < w.heap.size := by
  intro b e
  subst e
  exact Mp.lt h
theorem Mo.look (h : Mo k lit w v g m) (K : Keyed Try.prog k) {t e : TypeId} (ht : Try.prog.underlying t = some (.map k e)) {z : Value} (hz : (zeroValue e).run Try.prog w = .ok z w) {key : Value} {x : κ} (hkey : keyOf Try.prog k key = some (lit x)) :
    (Instr.lookup t (.map v) key false).run Try.prog w = .ok ((g x).getD z) w := by
  cases v with
  | none => rw [Maps.look_nil false K ht hz hkey, h.1 x]; rfl
  | some b => exact Mp.look h K ht hz hkey
theorem Mo.look2 (h : Mo k lit w v g m) (K : Keyed Try.prog k) {t e : TypeId} (ht : Try.prog.underlying t = some (.map k e)) {z : Value} (hz : (zeroValue e).run Try.prog w = .ok z w) {key : Value} {x : κ} (hkey : keyOf Try.prog k key = some (lit x)) :
    (Instr.lookup t (.map v) key true).run Try.prog w = .ok (.tuple #[(g x).getD z, .bool (g x).isSome]) w := by
  cases v with
  | none => rw [Maps.look_nil true K ht hz hkey, h.1 x]; rfl
  | some b => exact Mp.look2 h K ht hz hkey
theorem Mo.len (h : Mo k lit w v g m) {t e : TypeId} (ht : Try.prog.underlying t = some (.map k e)) (ty : TypeId) : (Builtin.len_ #[t] ty #[.map v]).run Try.prog w = .ok (.int .i64 m) w := by
  cases v with
  | none => rw [Maps.len_nil ht ty, h.2]; rfl
  | some b => exact Mp.len h ht ty
end
theorem wpList_upd_v {ops : Array Oper} {rest : List Oper} {o : Oper} {a : Act} {w w' : World} {Q : Exit → Act → World → Prop} {t : TypeId} {m k v : Value} (hl : (Instr.mapUpdate t m k v).run Try.prog w = .ok () w') (h0 : ∃ x y z, o.op = .mapUpdate t x y z ∧ a.eval x = m ∧ a.eval y = k ∧ a.eval z = v) (hw : Region.wanted o (yielded ops a.tmps) = true)
    (h : wpList Try.prog ops Q rest (a.put o.dst undef) w') : wpList Try.prog ops Q (o :: rest) a w :=
  wpList_step fun K hK => by
    obtain ⟨x, y, z, ho, hx, hy, hz⟩ := h0
    rw [if_pos hw]
    unfold Oper.wp execOp
    simp only [ho, hx, hy, hz, hl, Sem.run_bind, Result.andThen_ok]
    exact hK _ _ h
theorem wpList_ins_v {ops : Array Oper} {rest : List Oper} {o : Oper} {a : Act} {w w' : World} {Q : Exit → Act → World → Prop} {t : TypeId} {m k v : Value} (hl : (Instr.mapUpdate t m k v).run Try.prog w = .ok () w') (h0 : ∃ x y z, o.op = .insert t x y z ∧ a.eval x = m ∧ a.eval y = k ∧ a.eval z = v) (hw : Region.wanted o (yielded ops a.tmps) = true)
    (h : wpList Try.prog ops Q rest (a.put o.dst undef) w') : wpList Try.prog ops Q (o :: rest) a w :=
  wpList_step fun K hK => by
    obtain ⟨x, y, z, ho, hx, hy, hz⟩ := h0
    rw [if_pos hw]
    unfold Oper.wp execOp
    simp only [ho, hx, hy, hz, hl, Sem.run_bind, Result.andThen_ok]
    exact hK _ _ h
theorem wpList_look_v {ops : Array Oper} {rest : List Oper} {o : Oper} {a : Act} {w w' : World} {Q : Exit → Act → World → Prop} {t : TypeId} {m k v : Value} {c : Bool} (hl : (Instr.lookup t m k c).run Try.prog w = .ok v w') (h0 : ∃ x y, o.op = .lookup t x y c ∧ a.eval x = m ∧ a.eval y = k) (hw : Region.wanted o (yielded ops a.tmps) = true)
    (h : wpList Try.prog ops Q rest (a.put o.dst v) w') : wpList Try.prog ops Q (o :: rest) a w :=
  wpList_step fun K hK => by
    obtain ⟨x, y, ho, hx, hy⟩ := h0
    rw [if_pos hw]
    unfold Oper.wp execOp
    simp only [ho, hx, hy, hl, Sem.run_bind, Result.andThen_ok]
    exact hK _ _ h
theorem wpList_del_v {ops : Array Oper} {rest : List Oper} {o : Oper} {a : Act} {w w' : World} {Q : Exit → Act → World → Prop} {ts : Array TypeId} {m k : Value} (hl : (Builtin.delete_ ts o.type #[m, k]).run Try.prog w = .ok (.tuple #[]) w') (h0 : ∃ x y, o.op = .call { callee := .builtin .delete, args := #[x, y], argTypes := ts } ∧ a.eval x = m ∧ a.eval y = k) (hw : Region.wanted o (yielded ops a.tmps) = true)
    (h : wpList Try.prog ops Q rest (a.put o.dst (.tuple #[])) w') : wpList Try.prog ops Q (o :: rest) a w :=
  wpList_step fun K hK => by
    obtain ⟨x, y, ho, hx, hy⟩ := h0
    rw [if_pos hw]
    unfold Oper.wp execOp
    simp only [ho, resolve, invoke, builtin, Sem.run_bind, Sem.run_pure, Result.andThen_ok, List.map_toArray, List.map_cons, List.map_nil, hx, hy, hl]
    exact hK _ _ h
theorem wpList_len_v {ops : Array Oper} {rest : List Oper} {o : Oper} {a : Act} {w w' : World} {Q : Exit → Act → World → Prop} {ts : Array TypeId} {m v : Value} (hl : (Builtin.len_ ts o.type #[m]).run Try.prog w = .ok v w') (h0 : ∃ x, o.op = .call { callee := .builtin .len, args := #[x], argTypes := ts } ∧ a.eval x = m) (hw : Region.wanted o (yielded ops a.tmps) = true)
    (h : wpList Try.prog ops Q rest (a.put o.dst v) w') : wpList Try.prog ops Q (o :: rest) a w :=
  wpList_step fun K hK => by
    obtain ⟨x, ho, hx⟩ := h0
    rw [if_pos hw]
    unfold Oper.wp execOp
    simp only [ho, resolve, invoke, builtin, Sem.run_bind, Sem.run_pure, Result.andThen_ok, List.map_toArray, List.map_cons, List.map_nil, hx, hl]
    exact hK _ _ h
theorem tstep_upd {o : Oper} {a : Act} {w w' : World} {K : Act → World → Prop} {Q : Exit → Act → World → Prop} {t : TypeId} {m k v : Value} {c : Bool} {alt : Prop} (hc : c = true) (hl : (Instr.mapUpdate t m k v).run Try.prog w = .ok () w') (h0 : ∃ x y z, o.op = .mapUpdate t x y z ∧ a.eval x = m ∧ a.eval y = k ∧ a.eval z = v)
    (h : K (a.put o.dst undef) w') : if c = true then Oper.wp Try.prog o a w K Q else alt := by
  obtain ⟨x, y, z, ho, hx, hy, hz⟩ := h0
  rw [if_pos hc]
  unfold Oper.wp execOp
  simp only [ho, hx, hy, hz, hl, Sem.run_bind, Result.andThen_ok]
  exact h
theorem tstep_store {o : Oper} {a : Act} {w w' : World} {K : Act → World → Prop} {Q : Exit → Act → World → Prop} {ty : TypeId} {u v : Value} {c : Bool} {alt : Prop} (hc : c = true) (hl : (Instr.storeAt ty u v).run Try.prog w = .ok () w') (h0 : ∃ x y, o.op = .store ty x y ∧ a.eval x = u ∧ a.eval y = v)
    (h : K (a.put o.dst undef) w') : if c = true then Oper.wp Try.prog o a w K Q else alt := by
  obtain ⟨x, y, ho, hx, hy⟩ := h0
  rw [if_pos hc]
  unfold Oper.wp execOp
  simp only [ho, hx, hy, hl, Sem.run_bind, Result.andThen_ok]
  exact h
theorem tyload {ops : Array Oper} {S : World → Prop} {o : Oper} {a : Act} {ty : TypeId} {u v : Value} (hw : Region.wanted o (yielded ops a.tmps) = true) (h0 : ∃ x, o.op = .load ty x ∧ a.eval x = u) (hl : ∀ w, S w → (Instr.loadAt ty u).run Try.prog w = .ok v w) : YieldsIf Try.prog ops S o v a :=
  .inl ⟨hw, fun w hw' => by
    obtain ⟨x, ho, hx⟩ := h0
    simp [execOp, ho, hx, hl w hw', Result.andThen]⟩
theorem tylook {ops : Array Oper} {S : World → Prop} {o : Oper} {a : Act} {t : TypeId} {m k v : Value} {c : Bool} (hw : Region.wanted o (yielded ops a.tmps) = true) (h0 : ∃ x y, o.op = .lookup t x y c ∧ a.eval x = m ∧ a.eval y = k) (hl : ∀ w, S w → (Instr.lookup t m k c).run Try.prog w = .ok v w) : YieldsIf Try.prog ops S o v a :=
  .inl ⟨hw, fun w hw' => by
    obtain ⟨x, y, ho, hx, hy⟩ := h0
    simp [execOp, ho, hx, hy, hl w hw', Result.andThen]⟩
end Go.Proofs.Ytffjekhlloippaa

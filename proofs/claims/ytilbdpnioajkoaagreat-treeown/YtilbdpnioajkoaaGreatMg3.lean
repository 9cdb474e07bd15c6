/-
  Maps whose elements stand as they are: what a map holds, key by key, and how many entries it has.
  Lists by numbers.
  Operations, as cells.
-/
import Derived.Test.YtilbdpnioajkoaaGreatMg2
import Derived.Maps.RangeWalk
import Derived.Maps.OwnSet
import Derived.Maps.Ext
import Derived.Test.YtilbdpnioajkoaaGreatMg1
namespace Go.Proofs.YtilbdpnioajkoaaGreat
open Go.RowKit Go.Maps
set_option linter.unusedVariables false
set_option maxRecDepth 100000

/-- an element of a map reads as it is -/
def asIs (v : Value) : Option (DataW Value × List MemPlace) := some (.held v, [])
abbrev litI (n : Int) : Lit := .int .i64 n
abbrev litS (s : ByteArray) : Lit := .string s.data.toList
theorem litI_inj {a b : Int} (h : litI a = litI b) : a = b := by cases h; rfl
theorem litS_inj {a b : ByteArray} (h : litS a = litS b) : a = b := by
  have h1 : a.data.toList = b.data.toList := by cases a; cases b; simp [litS] at h ⊢; exact h
  cases a; cases b; simp at h1 ⊢; exact h1
/-- a map's element, or what stands for none -/
def orZ (z : DataW Value) : Option Value → DataW Value
  | some v => .held v
  | none => z
/-- block b is a map of m entries that holds g -/
def Mp {κ : Type} (k : TypeId) (lit : κ → Lit) (w : World) (b : Nat) (g : κ → Option Value) (m : Nat) : Prop :=
  ∃ D, w.ownsMap Tryz.prog k asIs b m D ∧ Maps.size D = m ∧ ∀ x z, D.atKey (lit x) z = orZ z (g x)
theorem has_orZ {D : DataW Value} {kl : Lit} {o : Option Value} (h : ∀ z, D.atKey kl z = orZ z o) : Maps.has D kl = o.isSome := by
  cases o with
  | none => exact has_false_of_atKey (fun z => h z)
  | some v => exact has_true_of_atKey (y := .held v) (fun z => h z)
section
variable {κ : Type} {k : TypeId} {lit : κ → Lit} {w : World} {b : Nat} {g : κ → Option Value} {m : Nat}
theorem Mp.lt (h : Mp k lit w b g m) : b < w.heap.size := by
  obtain ⟨D, h1, _⟩ := h
  exact h1.lt
theorem Mp.kept {S : Nat → Prop} {w' : World} (h : Mp k lit w b g m) (hf : Fr S w w') (hS : ¬ S b) : Mp k lit w' b g m := by
  obtain ⟨D, ⟨es, clock, hb, r⟩, h2⟩ := h
  exact ⟨D, ⟨es, clock, hf.cells hb hS, r⟩, h2⟩
theorem Mp.made (k : TypeId) (lit : κ → Lit) (w : World) : Mp k lit (w.alloc (.map #[] 0)) w.heap.size (fun _ => none) 0 :=
  ⟨.map [], World.ownsMap_made w _ _ _, rfl, fun x z => by simp [DataW.atKey, orZ]⟩
theorem Mp.look (h : Mp k lit w b g m) (K : Keyed Tryz.prog k) {t e : TypeId} (ht : Tryz.prog.underlying t = some (.map k e)) {z : Value} (hz : (zeroValue e).run Tryz.prog w = .ok z w) {key : Value} {x : κ} (hkey : keyOf Tryz.prog k key = some (lit x)) :
    (Instr.lookup t (.map (some b)) key false).run Tryz.prog w = .ok ((g x).getD z) w := by
  obtain ⟨D, h1, _, h3⟩ := h
  obtain ⟨v, ps, hrun, hv⟩ := h1.lookup K ht hz (zd := .held z) (zp := []) rfl hkey
  rw [h3 x] at hv
  rw [hrun]
  cases hg : g x with
  | none => rw [hg] at hv; simp [asIs, orZ] at hv; rw [hv.1]; rfl
  | some u => rw [hg] at hv; simp [asIs, orZ] at hv; rw [hv.1]; rfl
theorem Mp.look2 (h : Mp k lit w b g m) (K : Keyed Tryz.prog k) {t e : TypeId} (ht : Tryz.prog.underlying t = some (.map k e)) {z : Value} (hz : (zeroValue e).run Tryz.prog w = .ok z w) {key : Value} {x : κ} (hkey : keyOf Tryz.prog k key = some (lit x)) :
    (Instr.lookup t (.map (some b)) key true).run Tryz.prog w = .ok (.tuple #[(g x).getD z, .bool (g x).isSome]) w := by
  obtain ⟨D, h1, _, h3⟩ := h
  obtain ⟨v, ps, hrun, hv⟩ := h1.look_ok K ht hz (zd := .held z) (zp := []) rfl hkey
  rw [hrun, has_orZ (h3 x)]
  rw [h3 x] at hv
  cases hg : g x with
  | none => rw [hg] at hv; simp [asIs, orZ] at hv; rw [hv.1]; rfl
  | some u => rw [hg] at hv; simp [asIs, orZ] at hv; rw [hv.1]; rfl
theorem Mp.len (h : Mp k lit w b g m) {t e : TypeId} (ht : Tryz.prog.underlying t = some (.map k e)) (ty : TypeId) : (Builtin.len_ #[t] ty #[.map (some b)]).run Tryz.prog w = .ok (.int .i64 m) w := by
  obtain ⟨D, h1, h2, _⟩ := h
  rw [h1.len ht ty, h2]
/-- g with another element at x -/
def at_ [DecidableEq κ] (g : κ → Option Value) (x : κ) (o : Option Value) : κ → Option Value := fun y => if y = x then o else g y
theorem tight {D : DataW Value} {n : Nat} (h : w.ownsMap Tryz.prog k asIs b n D) : w.ownsMap Tryz.prog k asIs b (Maps.size D) D := by
  obtain ⟨es, clock, hb, F, hs, hD⟩ := h
  refine ⟨es, clock, hb, F, ?_, hD⟩
  have := congrArg Maps.size hD
  rw [this, Maps.size_eq, length_read]
  exact Nat.le_refl _
theorem turned_fr {w' : World} (h : w.mapTurned w' b) : Fr (fun i => i = b) w w' := (Fr.of_grown h.grown).mono (fun i _ e => by cases e; rfl)
theorem Mp.store [DecidableEq κ] (h : Mp k lit w b g m) (inj : ∀ {x y : κ}, lit x = lit y → x = y) (K : Keyed Tryz.prog k) {t e : TypeId} (ht : Tryz.prog.underlying t = some (.map k e)) (hm : m < maxLen) {key : Value} {x : κ} (hkey : keyOf Tryz.prog k key = some (lit x)) (val : Value) :
    ∃ w', (Instr.mapUpdate t (.map (some b)) key val).run Tryz.prog w = .ok () w' ∧ Mp k lit w' b (at_ g x (some val)) (if (g x).isSome then m else m + 1) ∧ Fr (fun i => i = b) w w' := by
  obtain ⟨D, h1, h2, h3⟩ := h
  obtain ⟨w', hrun, ho, ht'⟩ := h1.store K ht hm hkey (d := .held val) (ps := []) rfl
  have hk := K.key hkey
  refine ⟨w', hrun, ⟨D.put (lit x) (.held val), ?_, ?_, fun y z => ?_⟩, turned_fr ht'⟩
  · have := tight ho
    rw [size_put (h1.tidy K), has_orZ (h3 x), h2] at this
    exact this
  · rw [size_put (h1.tidy K), has_orZ (h3 x), h2]
  · unfold at_
    by_cases e : y = x
    · subst e
      rw [if_pos rfl, atKey_put_same h1.isMap hk]
      rfl
    · rw [if_neg e, atKey_put_other (fun h => e (inj h)), h3]
theorem Mp.drop [DecidableEq κ] (h : Mp k lit w b g m) (inj : ∀ {x y : κ}, lit x = lit y → x = y) (K : Keyed Tryz.prog k) {t e : TypeId} (ht : Tryz.prog.underlying t = some (.map k e)) {key : Value} {x : κ} (hkey : keyOf Tryz.prog k key = some (lit x)) (ty : TypeId) :
    ∃ w', (Builtin.delete_ #[t, k] ty #[.map (some b), key]).run Tryz.prog w = .ok (.tuple #[]) w' ∧ Mp k lit w' b (at_ g x none) (if (g x).isSome then m - 1 else m) ∧ Fr (fun i => i = b) w w' := by
  obtain ⟨D, h1, h2, h3⟩ := h
  obtain ⟨w', hrun, ho, ht'⟩ := h1.drop K ht hkey ty
  have e := size_del (D := D) (k := lit x) (h1.tidy K)
  rw [has_orZ (h3 x), h2] at e
  have e2 : Maps.size (D.del (lit x)) = if (g x).isSome then m - 1 else m := by
    cases hg : (g x).isSome <;> rw [hg] at e <;> simp at e ⊢ <;> omega
  refine ⟨w', hrun, ⟨D.del (lit x), ?_, e2, fun y z => ?_⟩, turned_fr ht'⟩
  · have := tight ho
    rw [e2] at this
    exact this
  · unfold at_
    by_cases e : y = x
    · subst e
      rw [if_pos rfl, atKey_del_same]
      rfl
    · rw [if_neg e, atKey_del_other (fun h => e (inj h)), h3]
end
theorem keyI : Keyed Tryz.prog 2 := int_keyed Tryz.underlying2
theorem keyS : Keyed Tryz.prog 9 := string_keyed Tryz.underlying9
theorem wfT {x : Int} (h1 : -9223372036854775808 ≤ x) (h2 : x ≤ 9223372036854775807) : (Lit.int .i64 x).wf = true := by
  simp [Lit.wf, IntKind.min, IntKind.max, IntKind.signed, IntKind.bits]
  omega
theorem keyOfI {x : Int} (h : (Lit.int .i64 x).wf = true) : keyOf Tryz.prog 2 (.int .i64 x) = some (litI x) := keyOf_int_mk Tryz.underlying2 h
theorem keyOfS {s : ByteArray} (h : s.size ≤ maxLen) : keyOf Tryz.prog 9 (.string s) = some (litS s) := WideMaps.keyOf_string_mk Tryz.underlying9 h
/-- a map, nil or not -/
def Mo {κ : Type} (k : TypeId) (lit : κ → Lit) (w : World) (v : Option Nat) (g : κ → Option Value) (m : Nat) : Prop :=
  match v with
  | none => (∀ x, g x = none) ∧ m = 0
  | some b => Mp k lit w b g m
section
variable {κ : Type} {k : TypeId} {lit : κ → Lit} {w : World} {v : Option Nat} {g : κ → Option Value} {m : Nat}
theorem Mo.kept {S : Nat → Prop} {w' : World} (h : Mo k lit w v g m) (hf : Fr S w w') (hS : ∀ b, v = some b → ¬ S b) : Mo k lit w' v g m := by
  cases v with
  | none => exact h
  | some b => exact Mp.kept h hf (hS b rfl)
theorem Mo.lt (h : Mo k lit w v g m) : ∀ b, v = some b → b < w.heap.size := by
  intro b e
  subst e
  exact Mp.lt h
theorem Mo.look (h : Mo k lit w v g m) (K : Keyed Tryz.prog k) {t e : TypeId} (ht : Tryz.prog.underlying t = some (.map k e)) {z : Value} (hz : (zeroValue e).run Tryz.prog w = .ok z w) {key : Value} {x : κ} (hkey : keyOf Tryz.prog k key = some (lit x)) :
    (Instr.lookup t (.map v) key false).run Tryz.prog w = .ok ((g x).getD z) w := by
  cases v with
  | none => rw [Maps.look_nil false K ht hz hkey, h.1 x]; rfl
  | some b => exact Mp.look h K ht hz hkey
theorem Mo.look2 (h : Mo k lit w v g m) (K : Keyed Tryz.prog k) {t e : TypeId} (ht : Tryz.prog.underlying t = some (.map k e)) {z : Value} (hz : (zeroValue e).run Tryz.prog w = .ok z w) {key : Value} {x : κ} (hkey : keyOf Tryz.prog k key = some (lit x)) :
    (Instr.lookup t (.map v) key true).run Tryz.prog w = .ok (.tuple #[(g x).getD z, .bool (g x).isSome]) w := by
  cases v with
  | none => rw [Maps.look_nil true K ht hz hkey, h.1 x]; rfl
  | some b => exact Mp.look2 h K ht hz hkey
theorem Mo.len (h : Mo k lit w v g m) {t e : TypeId} (ht : Tryz.prog.underlying t = some (.map k e)) (ty : TypeId) : (Builtin.len_ #[t] ty #[.map v]).run Tryz.prog w = .ok (.int .i64 m) w := by
  cases v with
  | none => rw [Maps.len_nil ht ty, h.2]; rfl
  | some b => exact Mp.len h ht ty
end
theorem wpList_upd_v {ops : Array Oper} {rest : List Oper} {o : Oper} {a : Act} {w w' : World} {Q : Exit → Act → World → Prop} {t : TypeId} {m k v : Value} (hl : (Instr.mapUpdate t m k v).run Tryz.prog w = .ok () w') (h0 : ∃ x y z, o.op = .mapUpdate t x y z ∧ a.eval x = m ∧ a.eval y = k ∧ a.eval z = v) (hw : Region.wanted o (yielded ops a.tmps) = true)
    (h : wpList Tryz.prog ops Q rest (a.put o.dst undef) w') : wpList Tryz.prog ops Q (o :: rest) a w :=
  wpList_step fun K hK => by
    obtain ⟨x, y, z, ho, hx, hy, hz⟩ := h0
    rw [if_pos hw]
    unfold Oper.wp execOp
    simp only [ho, hx, hy, hz, hl, Sem.run_bind, Result.andThen_ok]
    exact hK _ _ h
theorem wpList_ins_v {ops : Array Oper} {rest : List Oper} {o : Oper} {a : Act} {w w' : World} {Q : Exit → Act → World → Prop} {t : TypeId} {m k v : Value} (hl : (Instr.mapUpdate t m k v).run Tryz.prog w = .ok () w') (h0 : ∃ x y z, o.op = .insert t x y z ∧ a.eval x = m ∧ a.eval y = k ∧ a.eval z = v) (hw : Region.wanted o (yielded ops a.tmps) = true)
    (h : wpList Tryz.prog ops Q rest (a.put o.dst undef) w') : wpList Tryz.prog ops Q (o :: rest) a w :=
  wpList_step fun K hK => by
    obtain ⟨x, y, z, ho, hx, hy, hz⟩ := h0
    rw [if_pos hw]
    unfold Oper.wp execOp
    simp only [ho, hx, hy, hz, hl, Sem.run_bind, Result.andThen_ok]
    exact hK _ _ h
theorem wpList_look_v {ops : Array Oper} {rest : List Oper} {o : Oper} {a : Act} {w w' : World} {Q : Exit → Act → World → Prop} {t : TypeId} {m k v : Value} {c : Bool} (hl : (Instr.lookup t m k c).run Tryz.prog w = .ok v w') (h0 : ∃ x y, o.op = .lookup t x y c ∧ a.eval x = m ∧ a.eval y = k) (hw : Region.wanted o (yielded ops a.tmps) = true)
    (h : wpList Tryz.prog ops Q rest (a.put o.dst v) w') : wpList Tryz.prog ops Q (o :: rest) a w :=
  wpList_step fun K hK => by
    obtain ⟨x, y, ho, hx, hy⟩ := h0
    rw [if_pos hw]
    unfold Oper.wp execOp
    simp only [ho, hx, hy, hl, Sem.run_bind, Result.andThen_ok]
    exact hK _ _ h
theorem wpList_del_v {ops : Array Oper} {rest : List Oper} {o : Oper} {a : Act} {w w' : World} {Q : Exit → Act → World → Prop} {ts : Array TypeId} {m k : Value} (hl : (Builtin.delete_ ts o.type #[m, k]).run Tryz.prog w = .ok (.tuple #[]) w') (h0 : ∃ x y, o.op = .call { callee := .builtin .delete, args := #[x, y], argTypes := ts } ∧ a.eval x = m ∧ a.eval y = k) (hw : Region.wanted o (yielded ops a.tmps) = true)
    (h : wpList Tryz.prog ops Q rest (a.put o.dst (.tuple #[])) w') : wpList Tryz.prog ops Q (o :: rest) a w :=
  wpList_step fun K hK => by
    obtain ⟨x, y, ho, hx, hy⟩ := h0
    rw [if_pos hw]
    unfold Oper.wp execOp
    simp only [ho, resolve, invoke, builtin, Sem.run_bind, Sem.run_pure, Result.andThen_ok, List.map_toArray, List.map_cons, List.map_nil, hx, hy, hl]
    exact hK _ _ h
theorem wpList_len_v {ops : Array Oper} {rest : List Oper} {o : Oper} {a : Act} {w w' : World} {Q : Exit → Act → World → Prop} {ts : Array TypeId} {m v : Value} (hl : (Builtin.len_ ts o.type #[m]).run Tryz.prog w = .ok v w') (h0 : ∃ x, o.op = .call { callee := .builtin .len, args := #[x], argTypes := ts } ∧ a.eval x = m) (hw : Region.wanted o (yielded ops a.tmps) = true)
    (h : wpList Tryz.prog ops Q rest (a.put o.dst v) w') : wpList Tryz.prog ops Q (o :: rest) a w :=
  wpList_step fun K hK => by
    obtain ⟨x, ho, hx⟩ := h0
    rw [if_pos hw]
    unfold Oper.wp execOp
    simp only [ho, resolve, invoke, builtin, Sem.run_bind, Sem.run_pure, Result.andThen_ok, List.map_toArray, List.map_cons, List.map_nil, hx, hl]
    exact hK _ _ h
theorem tstep_upd {o : Oper} {a : Act} {w w' : World} {K : Act → World → Prop} {Q : Exit → Act → World → Prop} {t : TypeId} {m k v : Value} {c : Bool} {alt : Prop} (hc : c = true) (hl : (Instr.mapUpdate t m k v).run Tryz.prog w = .ok () w') (h0 : ∃ x y z, o.op = .mapUpdate t x y z ∧ a.eval x = m ∧ a.eval y = k ∧ a.eval z = v)
    (h : K (a.put o.dst undef) w') : if c = true then Oper.wp Tryz.prog o a w K Q else alt := by
  obtain ⟨x, y, z, ho, hx, hy, hz⟩ := h0
  rw [if_pos hc]
  unfold Oper.wp execOp
  simp only [ho, hx, hy, hz, hl, Sem.run_bind, Result.andThen_ok]
  exact h
theorem tstep_store {o : Oper} {a : Act} {w w' : World} {K : Act → World → Prop} {Q : Exit → Act → World → Prop} {ty : TypeId} {u v : Value} {c : Bool} {alt : Prop} (hc : c = true) (hl : (Instr.storeAt ty u v).run Tryz.prog w = .ok () w') (h0 : ∃ x y, o.op = .store ty x y ∧ a.eval x = u ∧ a.eval y = v)
    (h : K (a.put o.dst undef) w') : if c = true then Oper.wp Tryz.prog o a w K Q else alt := by
  obtain ⟨x, y, ho, hx, hy⟩ := h0
  rw [if_pos hc]
  unfold Oper.wp execOp
  simp only [ho, hx, hy, hl, Sem.run_bind, Result.andThen_ok]
  exact h
theorem tyload {ops : Array Oper} {S : World → Prop} {o : Oper} {a : Act} {ty : TypeId} {u v : Value} (hw : Region.wanted o (yielded ops a.tmps) = true) (h0 : ∃ x, o.op = .load ty x ∧ a.eval x = u) (hl : ∀ w, S w → (Instr.loadAt ty u).run Tryz.prog w = .ok v w) : YieldsIf Tryz.prog ops S o v a :=
  .inl ⟨hw, fun w hw' => by
    obtain ⟨x, ho, hx⟩ := h0
    simp [execOp, ho, hx, hl w hw', Result.andThen]⟩
theorem tylook {ops : Array Oper} {S : World → Prop} {o : Oper} {a : Act} {t : TypeId} {m k v : Value} {c : Bool} (hw : Region.wanted o (yielded ops a.tmps) = true) (h0 : ∃ x y, o.op = .lookup t x y c ∧ a.eval x = m ∧ a.eval y = k) (hl : ∀ w, S w → (Instr.lookup t m k c).run Tryz.prog w = .ok v w) : YieldsIf Tryz.prog ops S o v a :=
  .inl ⟨hw, fun w hw' => by
    obtain ⟨x, y, ho, hx, hy⟩ := h0
    simp [execOp, ho, hx, hy, hl w hw', Result.andThen]⟩
end Go.Proofs.YtilbdpnioajkoaaGreat

namespace Go.Proofs.YtilbdpnioajkoaaGreat
set_option linter.unusedVariables false
namespace A
variable {α β : Type}
def ins (x : Int × α) : List (Int × α) → List (Int × α)
  | [] => [x]
  | y :: r => if x.1 < y.1 then x :: y :: r else y :: ins x r
def del (k : Int) (l : List (Int × α)) : List (Int × α) := l.filter (fun p => !(p.1 == k))
def put (k : Int) (v : α) (l : List (Int × α)) : List (Int × α) := ins (k, v) (del k l)
def get (k : Int) (l : List (Int × α)) : Option α := (l.find? (fun p => p.1 == k)).map (·.2)
def Up (l : List (Int × α)) : Prop := l.Pairwise (fun p q => p.1 < q.1)
def mp (f : α → β) (l : List (Int × α)) : List (Int × β) := l.map (fun p => (p.1, f p.2))

theorem ins_perm (x : Int × α) : ∀ l : List (Int × α), (ins x l).Perm (x :: l)
  | [] => List.Perm.refl _
  | y :: r => by
    unfold ins
    split
    · exact List.Perm.refl _
    · exact ((ins_perm x r).cons y).trans (List.Perm.swap x y r)
theorem put_perm (k : Int) (v : α) (l : List (Int × α)) : (put k v l).Perm ((k, v) :: del k l) := ins_perm _ _
theorem mem_del {k : Int} {l : List (Int × α)} {p : Int × α} : p ∈ del k l ↔ p ∈ l ∧ p.1 ≠ k := by
  simp [del, List.mem_filter]
theorem mem_put {k : Int} {v : α} {l : List (Int × α)} {p : Int × α} : p ∈ put k v l ↔ p = (k, v) ∨ (p ∈ l ∧ p.1 ≠ k) := by
  rw [(put_perm k v l).mem_iff, List.mem_cons, mem_del]
theorem Up.del {l : List (Int × α)} (h : Up l) (k : Int) : Up (del k l) := List.Pairwise.filter _ h
theorem Up.ins {x : Int × α} : ∀ {l : List (Int × α)}, Up l → (∀ p ∈ l, p.1 ≠ x.1) → Up (ins x l)
  | [], _, _ => by simp [A.ins, Up]
  | y :: r, h, hn => by
    unfold A.ins
    unfold Up at h
    rw [List.pairwise_cons] at h
    split
    · rename_i hb
      refine List.pairwise_cons.2 ⟨fun p hp => ?_, List.pairwise_cons.2 h⟩
      rcases List.mem_cons.1 hp with rfl | hp
      · exact hb
      · exact Int.lt_trans hb (h.1 p hp)
    · rename_i hb
      have hyx : y.1 < x.1 := by
        have := hn y (by simp)
        omega
      refine List.pairwise_cons.2 ⟨fun p hp => ?_, Up.ins h.2 (fun p hp => hn p (by simp [hp]))⟩
      rcases List.mem_cons.1 ((ins_perm x r).mem_iff.1 hp) with rfl | hp
      · exact hyx
      · exact h.1 p hp
theorem Up.put {l : List (Int × α)} (h : Up l) (k : Int) (v : α) : Up (put k v l) := Up.ins (h.del k) (fun p hp => (mem_del.1 hp).2)
theorem Up.inj {l : List (Int × α)} (h : Up l) {p q : Int × α} (hp : p ∈ l) (hq : q ∈ l) (e : p.1 = q.1) : p = q := by
  induction l with
  | nil => cases hp
  | cons y r ih =>
    unfold Up at h
    rw [List.pairwise_cons] at h
    rcases List.mem_cons.1 hp with e1 | hp1
    · rcases List.mem_cons.1 hq with e2 | hq1
      · rw [e1, e2]
      · subst e1; exact absurd e (by have := h.1 q hq1; omega)
    · rcases List.mem_cons.1 hq with e2 | hq1
      · subst e2; exact absurd e.symm (by have := h.1 p hp1; omega)
      · exact ih h.2 hp1 hq1
theorem get_mem {k : Int} {l : List (Int × α)} {v : α} (h : get k l = some v) : (k, v) ∈ l := by
  unfold get at h
  rw [Option.map_eq_some_iff] at h
  obtain ⟨p, hp, rfl⟩ := h
  have h1 := List.mem_of_find?_eq_some hp
  have h2 := List.find?_some hp
  simp at h2
  subst h2
  exact h1
theorem get_of_mem {l : List (Int × α)} (h : Up l) {k : Int} {v : α} (hm : (k, v) ∈ l) : get k l = some v := by
  cases hg : get k l with
  | none =>
    unfold get at hg
    rw [Option.map_eq_none_iff, List.find?_eq_none] at hg
    have := hg _ hm
    simp at this
  | some u =>
    have := h.inj (get_mem hg) hm rfl
    simp at this
    rw [this]
theorem get_none {k : Int} {l : List (Int × α)} : get k l = none ↔ ∀ p ∈ l, p.1 ≠ k := by
  unfold get
  rw [Option.map_eq_none_iff, List.find?_eq_none]
  simp
theorem get_put_same {l : List (Int × α)} (h : Up l) (k : Int) (v : α) : get k (put k v l) = some v := get_of_mem (h.put k v) (mem_put.2 (.inl rfl))
theorem get_ext {l : List (Int × α)} (h : Up l) {k : Int} {o : Option α} (ho : ∀ v, o = some v ↔ (k, v) ∈ l) : get k l = o := by
  cases o with
  | some v => exact get_of_mem h ((ho v).1 rfl)
  | none =>
    rw [get_none]
    rintro ⟨a, b⟩ hp rfl
    cases (ho b).2 hp
theorem get_iff {l : List (Int × α)} (h : Up l) {k : Int} {v : α} : get k l = some v ↔ (k, v) ∈ l := ⟨get_mem, get_of_mem h⟩
theorem get_put_other {l : List (Int × α)} (h : Up l) {k n : Int} (hn : n ≠ k) (v : α) : get n (put k v l) = get n l :=
  get_ext (h.put k v) (fun u => by rw [get_iff h, mem_put]; simp [hn])
theorem get_del_same (k : Int) (l : List (Int × α)) : get k (del k l) = none := get_none.2 (fun p hp => (mem_del.1 hp).2)
theorem get_del_other {l : List (Int × α)} (h : Up l) {k n : Int} (hn : n ≠ k) : get n (del k l) = get n l :=
  get_ext (h.del k) (fun u => by rw [get_iff h, mem_del]; simp [hn])
theorem up_ext : ∀ {l m : List (Int × α)}, Up l → Up m → (∀ p, p ∈ l ↔ p ∈ m) → l = m
  | [], [], _, _, _ => rfl
  | [], y :: r, _, _, h => by have := (h y).2 (by simp); cases this
  | x :: r, [], _, _, h => by have := (h x).1 (by simp); cases this
  | x :: r, y :: s, hl, hm, h => by
    have hl' := hl
    have hm' := hm
    unfold Up at hl hm
    rw [List.pairwise_cons] at hl hm
    have e : x = y := by
      have h1 := (h x).1 (by simp)
      have h2 := (h y).2 (by simp)
      rcases List.mem_cons.1 h1 with e | h1
      · exact e
      · rcases List.mem_cons.1 h2 with e | h2
        · exact e.symm
        · have a := hl.1 y h2
          have b := hm.1 x h1
          omega
    subst e
    rw [up_ext hl.2 hm.2 (fun p => ⟨fun hp => ?_, fun hp => ?_⟩)]
    · rcases List.mem_cons.1 ((h p).1 (by simp [hp])) with rfl | h1
      · exact absurd rfl (Int.ne_of_lt (hl.1 p hp))
      · exact h1
    · rcases List.mem_cons.1 ((h p).2 (by simp [hp])) with rfl | h1
      · exact absurd rfl (Int.ne_of_lt (hm.1 p hp))
      · exact h1

/-! ### maps of such lists -/

theorem get_mp (f : α → β) (k : Int) (l : List (Int × α)) : get k (mp f l) = (get k l).map f := by
  unfold get mp
  rw [List.find?_map]
  simp only [Function.comp_def, Option.map_map]
theorem length_mp (f : α → β) (l : List (Int × α)) : (mp f l).length = l.length := by simp [mp]
theorem mem_mp {f : α → β} {l : List (Int × α)} {p : Int × β} : p ∈ mp f l ↔ ∃ q ∈ l, (q.1, f q.2) = p := by simp [mp]
theorem Up.mp {l : List (Int × α)} (h : Up l) (f : α → β) : Up (mp f l) := by
  unfold Up A.mp
  rw [List.pairwise_map]
  exact h
theorem mp_ins (f : α → β) (x : Int × α) : ∀ l : List (Int × α), mp f (ins x l) = ins (x.1, f x.2) (mp f l)
  | [] => rfl
  | y :: r => by
    have ih := mp_ins f x r
    have e : mp f (y :: r) = (y.1, f y.2) :: mp f r := rfl
    rw [e]
    unfold ins
    by_cases hb : x.1 < y.1
    · rw [if_pos hb, if_pos hb]; rfl
    · rw [if_neg hb, if_neg hb, ← ih]; rfl
theorem mp_del (f : α → β) (k : Int) (l : List (Int × α)) : mp f (del k l) = del k (mp f l) := by
  unfold mp del
  rw [List.filter_map]
  rfl
theorem mp_put (f : α → β) (k : Int) (v : α) (l : List (Int × α)) : mp f (put k v l) = put k (f v) (mp f l) := by
  unfold put
  rw [mp_ins, mp_del]
theorem length_put_le (k : Int) (v : α) (l : List (Int × α)) : (put k v l).length ≤ l.length + 1 := by
  rw [(put_perm k v l).length_eq, List.length_cons]
  exact Nat.succ_le_succ (List.length_filter_le _ _)
theorem length_del {l : List (Int × α)} (h : Up l) {k : Int} {v : α} (hm : get k l = some v) : (del k l).length + 1 = l.length := by
  have hp : (put k v l).Perm ((k, v) :: del k l) := put_perm k v l
  have e : put k v l = l := up_ext (h.put k v) h (fun p => by
    rw [mem_put]
    constructor
    · rintro (rfl | ⟨h1, _⟩)
      · exact get_mem hm
      · exact h1
    · intro hp
      by_cases e : p.1 = k
      · left
        have := h.inj hp (get_mem hm) e
        exact this
      · exact .inr ⟨hp, e⟩)
  rw [e] at hp
  rw [hp.length_eq, List.length_cons]
theorem length_put_same {l : List (Int × α)} (h : Up l) {k : Int} {v : α} (hm : get k l = some v) (u : α) : (put k u l).length = l.length := by
  rw [(put_perm k u l).length_eq, List.length_cons, length_del h hm]
theorem length_put_new {l : List (Int × α)} {k : Int} (hm : get k l = none) (u : α) : (put k u l).length = l.length + 1 := by
  rw [(put_perm k u l).length_eq, List.length_cons]
  unfold del
  rw [List.filter_eq_self.2 (fun p hp => by have := get_none.1 hm p hp; simp [this])]
theorem isSome_put {l : List (Int × α)} (h : Up l) {k : Int} {v : α} (hm : get k l = some v) (u : α) (n : Int) : (get n (put k u l)).isSome = (get n l).isSome := by
  by_cases e : n = k
  · subst e
    rw [get_put_same h, hm]
    rfl
  · rw [get_put_other h e]
theorem put_put {l : List (Int × α)} (h : Up l) (k : Int) (u v : α) : put k u (put k v l) = put k u l :=
  up_ext ((h.put k v).put k u) (h.put k u) (fun p => by
    rw [mem_put, mem_put, mem_put]
    constructor
    · rintro (rfl | ⟨rfl | h1, h2⟩)
      · exact .inl rfl
      · exact absurd rfl h2
      · exact .inr h1
    · rintro (rfl | ⟨h1, h2⟩)
      · exact .inl rfl
      · exact .inr ⟨.inr ⟨h1, h2⟩, h2⟩)
end A
end Go.Proofs.YtilbdpnioajkoaaGreat

namespace Go.Proofs.YtilbdpnioajkoaaGreat
/-- an operation -/
structure S.Op where
  t : Int
  s : Int
  k : Int
  n : Int
  p : Int
  a : ByteArray
  b : ByteArray
  c : ByteArray
abbrev S.Op.cs (o : S.Op) : Array Value := #[.int .i64 o.t, .int .i64 o.s, .int .i64 o.k, .int .i64 o.n, .int .i64 o.p, .string o.a, .string o.b, .string o.c]
/-- its nodes are numbers of 64 bits -/
def S.Op.in64 (o : S.Op) : Prop := (-9223372036854775808 ≤ o.n ∧ o.n ≤ 9223372036854775807) ∧ (-9223372036854775808 ≤ o.p ∧ o.p ≤ 9223372036854775807)
end Go.Proofs.YtilbdpnioajkoaaGreat

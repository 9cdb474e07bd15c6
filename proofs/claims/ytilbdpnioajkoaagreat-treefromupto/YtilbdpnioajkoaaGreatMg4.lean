/-
  Lists by numbers.
  Operations, as cells.
  A tree in memory: what it reads as.
  Attributes by their keys.
  What a tree is asked: at, has, isMade, Len, Lookup.
-/
import Derived.Test.YtilbdpnioajkoaaGreatMg1
import Derived.Test.YtilbdpnioajkoaaGreatTMapQ
import Derived.Deep.RegionHeld3
import Derived.WalkSpells
namespace Go.Proofs.YtilbdpnioajkoaaGreat
set_option linter.unusedVariables false
namespace A
variable {α β : Type}
def ins (x : Int × α) : List (Int × α) → List (Int × α)
  | [] => [x]
  | y :: r => if x.1 < y.1 then x :: y :: r else y :: ins x r
def del (k : Int) (l : List (Int × α)) : List (Int × α) := l.filter (fun p => !(p.1 == k))
def put (k : Int) (v : α) (l : List (Int × α)) : List (Int × α) := ins (k, v) (del k l)
def get (k : Int) (l : List (Int × α)) : Option α := (l.find? (fun p => p.1 == k)).map (·.2)
def Up (l : List (Int × α)) : Prop := l.Pairwise (fun p q => p.1 < q.1)
def mp (f : α → β) (l : List (Int × α)) : List (Int × β) := l.map (fun p => (p.1, f p.2))

theorem ins_perm (x : Int × α) : ∀ l : List (Int × α), (ins x l).Perm (x :: l)
  | [] => List.Perm.refl _
  | y :: r => by
    unfold ins
    split
    · exact List.Perm.refl _
    · exact ((ins_perm x r).cons y).trans (List.Perm.swap x y r)
theorem put_perm (k : Int) (v : α) (l : List (Int × α)) : (put k v l).Perm ((k, v) :: del k l) := ins_perm _ _
theorem mem_del {k : Int} {l : List (Int × α)} {p : Int × α} : p ∈ del k l ↔ p ∈ l ∧ p.1 ≠ k := by
  simp [del, List.mem_filter]
theorem mem_put {k : Int} {v : α} {l : List (Int × α)} {p : Int × α} : p ∈ put k v l ↔ p = (k, v) ∨ (p ∈ l ∧ p.1 ≠ k) := by
  rw [(put_perm k v l).mem_iff, List.mem_cons, mem_del]
theorem Up.del {l : List (Int × α)} (h : Up l) (k : Int) : Up (del k l) := List.Pairwise.filter _ h
theorem Up.ins {x : Int × α} : ∀ {l : List (Int × α)}, Up l → (∀ p ∈ l, p.1 ≠ x.1) → Up (ins x l)
  | [], _, _ => by simp [A.ins, Up]
  | y :: r, h, hn => by
    unfold A.ins
    unfold Up at h
    rw [List.pairwise_cons] at h
    split
    · rename_i hb
      refine List.pairwise_cons.2 ⟨fun p hp => ?_, List.pairwise_cons.2 h⟩
      rcases List.mem_cons.1 hp with rfl | hp
      · exact hb
      · exact Int.lt_trans hb (h.1 p hp)
    · rename_i hb
      have hyx : y.1 < x.1 := by
        have := hn y (by simp)
        omega
      refine List.pairwise_cons.2 ⟨fun p hp => ?_, Up.ins h.2 (fun p hp => hn p (by simp [hp]))⟩
      rcases List.mem_cons.1 ((ins_perm x r).mem_iff.1 hp) with rfl | hp
      · exact hyx
      · exact h.1 p hp
theorem Up.put {l : List (Int × α)} (h : Up l) (k : Int) (v : α) : Up (put k v l) := Up.ins (h.del k) (fun p hp => (mem_del.1 hp).2)
theorem Up.inj {l : List (Int × α)} (h : Up l) {p q : Int × α} (hp : p ∈ l) (hq : q ∈ l) (e : p.1 = q.1) : p = q := by
  induction l with
  | nil => cases hp
  | cons y r ih =>
    unfold Up at h
    rw [List.pairwise_cons] at h
    rcases List.mem_cons.1 hp with e1 | hp1
    · rcases List.mem_cons.1 hq with e2 | hq1
      · rw [e1, e2]
      · subst e1; exact absurd e (by have := h.1 q hq1; omega)
    · rcases List.mem_cons.1 hq with e2 | hq1
      · subst e2; exact absurd e.symm (by have := h.1 p hp1; omega)
      · exact ih h.2 hp1 hq1
theorem get_mem {k : Int} {l : List (Int × α)} {v : α} (h : get k l = some v) : (k, v) ∈ l := by
  unfold get at h
  rw [Option.map_eq_some_iff] at h
  obtain ⟨p, hp, rfl⟩ := h
  have h1 := List.mem_of_find?_eq_some hp
  have h2 := List.find?_some hp
  simp at h2
  subst h2
  exact h1
theorem get_of_mem {l : List (Int × α)} (h : Up l) {k : Int} {v : α} (hm : (k, v) ∈ l) : get k l = some v := by
  cases hg : get k l with
  | none =>
    unfold get at hg
    rw [Option.map_eq_none_iff, List.find?_eq_none] at hg
    have := hg _ hm
    simp at this
  | some u =>
    have := h.inj (get_mem hg) hm rfl
    simp at this
    rw [this]
theorem get_none {k : Int} {l : List (Int × α)} : get k l = none ↔ ∀ p ∈ l, p.1 ≠ k := by
  unfold get
  rw [Option.map_eq_none_iff, List.find?_eq_none]
  simp
theorem get_put_same {l : List (Int × α)} (h : Up l) (k : Int) (v : α) : get k (put k v l) = some v := get_of_mem (h.put k v) (mem_put.2 (.inl rfl))
theorem get_ext {l : List (Int × α)} (h : Up l) {k : Int} {o : Option α} (ho : ∀ v, o = some v ↔ (k, v) ∈ l) : get k l = o := by
  cases o with
  | some v => exact get_of_mem h ((ho v).1 rfl)
  | none =>
    rw [get_none]
    rintro ⟨a, b⟩ hp rfl
    cases (ho b).2 hp
theorem get_iff {l : List (Int × α)} (h : Up l) {k : Int} {v : α} : get k l = some v ↔ (k, v) ∈ l := ⟨get_mem, get_of_mem h⟩
theorem get_put_other {l : List (Int × α)} (h : Up l) {k n : Int} (hn : n ≠ k) (v : α) : get n (put k v l) = get n l :=
  get_ext (h.put k v) (fun u => by rw [get_iff h, mem_put]; simp [hn])
theorem get_del_same (k : Int) (l : List (Int × α)) : get k (del k l) = none := get_none.2 (fun p hp => (mem_del.1 hp).2)
theorem get_del_other {l : List (Int × α)} (h : Up l) {k n : Int} (hn : n ≠ k) : get n (del k l) = get n l :=
  get_ext (h.del k) (fun u => by rw [get_iff h, mem_del]; simp [hn])
theorem up_ext : ∀ {l m : List (Int × α)}, Up l → Up m → (∀ p, p ∈ l ↔ p ∈ m) → l = m
  | [], [], _, _, _ => rfl
  | [], y :: r, _, _, h => by have := (h y).2 (by simp); cases this
  | x :: r, [], _, _, h => by have := (h x).1 (by simp); cases this
  | x :: r, y :: s, hl, hm, h => by
    have hl' := hl
    have hm' := hm
    unfold Up at hl hm
    rw [List.pairwise_cons] at hl hm
    have e : x = y := by
      have h1 := (h x).1 (by simp)
      have h2 := (h y).2 (by simp)
      rcases List.mem_cons.1 h1 with e | h1
      · exact e
      · rcases List.mem_cons.1 h2 with e | h2
        · exact e.symm
        · have a := hl.1 y h2
          have b := hm.1 x h1
          omega
    subst e
    rw [up_ext hl.2 hm.2 (fun p => ⟨fun hp => ?_, fun hp => ?_⟩)]
    · rcases List.mem_cons.1 ((h p).1 (by simp [hp])) with rfl | h1
      · exact absurd rfl (Int.ne_of_lt (hl.1 p hp))
      · exact h1
    · rcases List.mem_cons.1 ((h p).2 (by simp [hp])) with rfl | h1
      · exact absurd rfl (Int.ne_of_lt (hm.1 p hp))
      · exact h1

/-! ### maps of such lists -/

theorem get_mp (f : α → β) (k : Int) (l : List (Int × α)) : get k (mp f l) = (get k l).map f := by
  unfold get mp
  rw [List.find?_map]
  simp only [Function.comp_def, Option.map_map]
theorem length_mp (f : α → β) (l : List (Int × α)) : (mp f l).length = l.length := by simp [mp]
theorem mem_mp {f : α → β} {l : List (Int × α)} {p : Int × β} : p ∈ mp f l ↔ ∃ q ∈ l, (q.1, f q.2) = p := by simp [mp]
theorem Up.mp {l : List (Int × α)} (h : Up l) (f : α → β) : Up (mp f l) := by
  unfold Up A.mp
  rw [List.pairwise_map]
  exact h
theorem mp_ins (f : α → β) (x : Int × α) : ∀ l : List (Int × α), mp f (ins x l) = ins (x.1, f x.2) (mp f l)
  | [] => rfl
  | y :: r => by
    have ih := mp_ins f x r
    have e : mp f (y :: r) = (y.1, f y.2) :: mp f r := rfl
    rw [e]
    unfold ins
    by_cases hb : x.1 < y.1
    · rw [if_pos hb, if_pos hb]; rfl
    · rw [if_neg hb, if_neg hb, ← ih]; rfl
theorem mp_del (f : α → β) (k : Int) (l : List (Int × α)) : mp f (del k l) = del k (mp f l) := by
  unfold mp del
  rw [List.filter_map]
  rfl
theorem mp_put (f : α → β) (k : Int) (v : α) (l : List (Int × α)) : mp f (put k v l) = put k (f v) (mp f l) := by
  unfold put
  rw [mp_ins, mp_del]
theorem length_put_le (k : Int) (v : α) (l : List (Int × α)) : (put k v l).length ≤ l.length + 1 := by
  rw [(put_perm k v l).length_eq, List.length_cons]
  exact Nat.succ_le_succ (List.length_filter_le _ _)
theorem length_del {l : List (Int × α)} (h : Up l) {k : Int} {v : α} (hm : get k l = some v) : (del k l).length + 1 = l.length := by
  have hp : (put k v l).Perm ((k, v) :: del k l) := put_perm k v l
  have e : put k v l = l := up_ext (h.put k v) h (fun p => by
    rw [mem_put]
    constructor
    · rintro (rfl | ⟨h1, _⟩)
      · exact get_mem hm
      · exact h1
    · intro hp
      by_cases e : p.1 = k
      · left
        have := h.inj hp (get_mem hm) e
        exact this
      · exact .inr ⟨hp, e⟩)
  rw [e] at hp
  rw [hp.length_eq, List.length_cons]
theorem length_put_same {l : List (Int × α)} (h : Up l) {k : Int} {v : α} (hm : get k l = some v) (u : α) : (put k u l).length = l.length := by
  rw [(put_perm k u l).length_eq, List.length_cons, length_del h hm]
theorem length_put_new {l : List (Int × α)} {k : Int} (hm : get k l = none) (u : α) : (put k u l).length = l.length + 1 := by
  rw [(put_perm k u l).length_eq, List.length_cons]
  unfold del
  rw [List.filter_eq_self.2 (fun p hp => by have := get_none.1 hm p hp; simp [this])]
theorem isSome_put {l : List (Int × α)} (h : Up l) {k : Int} {v : α} (hm : get k l = some v) (u : α) (n : Int) : (get n (put k u l)).isSome = (get n l).isSome := by
  by_cases e : n = k
  · subst e
    rw [get_put_same h, hm]
    rfl
  · rw [get_put_other h e]
theorem put_put {l : List (Int × α)} (h : Up l) (k : Int) (u v : α) : put k u (put k v l) = put k u l :=
  up_ext ((h.put k v).put k u) (h.put k u) (fun p => by
    rw [mem_put, mem_put, mem_put]
    constructor
    · rintro (rfl | ⟨rfl | h1, h2⟩)
      · exact .inl rfl
      · exact absurd rfl h2
      · exact .inr h1
    · rintro (rfl | ⟨h1, h2⟩)
      · exact .inl rfl
      · exact .inr ⟨.inr ⟨h1, h2⟩, h2⟩)
end A
end Go.Proofs.YtilbdpnioajkoaaGreat

namespace Go.Proofs.YtilbdpnioajkoaaGreat
/-- an operation -/
structure S.Op where
  t : Int
  s : Int
  k : Int
  n : Int
  p : Int
  a : ByteArray
  b : ByteArray
  c : ByteArray
abbrev S.Op.cs (o : S.Op) : Array Value := #[.int .i64 o.t, .int .i64 o.s, .int .i64 o.k, .int .i64 o.n, .int .i64 o.p, .string o.a, .string o.b, .string o.c]
/-- its nodes are numbers of 64 bits -/
def S.Op.in64 (o : S.Op) : Prop := (-9223372036854775808 ≤ o.n ∧ o.n ≤ 9223372036854775807) ∧ (-9223372036854775808 ≤ o.p ∧ o.p ≤ 9223372036854775807)
end Go.Proofs.YtilbdpnioajkoaaGreat

namespace Go.Proofs.YtilbdpnioajkoaaGreat
open Go.RowKit Go.Maps
set_option linter.unusedVariables false
set_option maxRecDepth 100000
namespace T
/-- whose a block is -/
inductive Col where
  | tree
  | nodes
  | node (n : Int)
  | attrs (n : Int)
  | under (n : Int)
  | row (n : Int) (s : ByteArray)
/-- whose node's it is -/
def Col.own : Col → Option Int
  | tree => none
  | nodes => none
  | node n => some n
  | attrs n => some n
  | under n => some n
  | row n _ => some n
/-- the block is node k's -/
def Mine (c : Nat → Option Col) (k : Int) (i : Nat) : Prop := ∃ col, c i = some col ∧ col.own = some k
/-- a node: its parent, its name, its attributes by their keys -/
structure Nd where
  par : Int
  nm : ByteArray
  ats : List (ByteArray × ByteArray)
/-- the nodes by their numbers -/
abbrev Tr := List (Int × Nd)
def zn : Nd := ⟨0, ⟨#[]⟩, []⟩
def zero : Tr := [(1, zn), (2, zn)]
def aget (s : ByteArray) (l : List (ByteArray × ByteArray)) : Option ByteArray := (l.find? (fun p => decide (p.1 = s))).map (·.2)
/-- the nodes under one, with a name -/
def kids (t : Tr) (n : Int) (s : ByteArray) : List Int := (t.filter (fun p => decide (2 < p.1) && (p.2.par == n && decide (p.2.nm = s)))).map (·.1)
end T
theorem alloc_size (w : World) (o : Obj) : (w.alloc o).heap.size = w.heap.size + 1 := by simp
abbrev ptr (b : Nat) : Value := .pointer (some ⟨b, 0, none⟩)
/-- the nodes under a node with one name, in memory -/
def Rowed (c : Nat → Option T.Col) (w : World) (n : Int) (s : ByteArray) (l : List Int) (o : Option Value) : Prop :=
  (l = [] ∧ o = none) ∨ (l ≠ [] ∧ ∃ a cap, o = some (.slice a l.length cap) ∧ Ro w 2 1 a l.length cap (l.map (Value.int .i64)) ∧ ∀ i, blk a = some i → c i = some (.row n s))
/-- a node in memory: block b, its number, what it is, those under it; its maps -/
structure Nf (c : Nat → Option T.Col) (w : World) (bud b : Nat) (n : Int) (x : T.Nd) (ks : ByteArray → List Int) (av uv : Option Nat) (g : ByteArray → Option Value) (m : Nat) : Prop where
  cells : w.heap[b]? = some (.cells #[.int .i64 x.par, .string x.nm, .map av, .map uv] 80 (0, 0))
  cb : c b = some (.node n)
  ca : ∀ i, av = some i → c i = some (.attrs n)
  cu : ∀ i, uv = some i → c i = some (.under n)
  att : Mo 9 litS w av (fun s => (T.aget s x.ats).map (fun v => .agg #[.string s, .string v])) x.ats.length
  und : Mo 9 litS w uv g m
  few : m ≤ bud
  row : ∀ s, Rowed c w n s (ks s) (g s)
def Nm (c : Nat → Option T.Col) (w : World) (bud b : Nat) (n : Int) (x : T.Nd) (ks : ByteArray → List Int) : Prop := ∃ (av uv : Option Nat) (g : ByteArray → Option Value) (m : Nat), Nf c w bud b n x ks av uv g m
/-- a tree in memory: its map, and where its nodes are -/
structure Tf (c : Nat → Option T.Col) (w : World) (bud p : Nat) (dos last : Int) (t : T.Tr) (mb : Nat) (f : Int → Nat) : Prop where
  cells : w.heap[p]? = some (.cells #[.map (some mb), .int .i64 dos, .int .i64 last] 83 (0, 0))
  cp : c p = some .tree
  cm : c mb = some .nodes
  map : Mp 2 litI w mb (fun n => (A.get n t).map (fun _ => ptr (f n))) t.length
  few : t.length ≤ bud + 2
  node : ∀ n x, A.get n t = some x → Nm c w bud (f n) n x (T.kids t n)
/-- a tree in memory -/
def Tm (c : Nat → Option T.Col) (w : World) (bud p : Nat) (dos last : Int) (t : T.Tr) : Prop := ∃ (mb : Nat) (f : Int → Nat), Tf c w bud p dos last t mb f
section
variable {S : Nat → Prop} {c c' : Nat → Option T.Col} {w w' : World} {bud bud' b : Nat} {n : Int} {x : T.Nd} {ks : ByteArray → List Int} {av uv : Option Nat} {g : ByteArray → Option Value} {m : Nat}
theorem Rowed.kept {s : ByteArray} {l : List Int} {o : Option Value} (h : Rowed c w n s l o) (hf : Fr S w w') (hS : ∀ i, c i = some (.row n s) → ¬ S i) : Rowed c w' n s l o := by
  rcases h with h | ⟨h, a, cap, e1, e2, e3⟩
  · exact .inl h
  · exact .inr ⟨h, a, cap, e1, e2.kept hf (fun i e => hS _ (e3 i e)), e3⟩
theorem Rowed.ext {s : ByteArray} {l : List Int} {o : Option Value} (h : Rowed c w n s l o) (hc : ∀ i col, c i = some col → c' i = some col) : Rowed c' w n s l o := by
  rcases h with h | ⟨h, a, cap, e1, e2, e3⟩
  · exact .inl h
  · exact .inr ⟨h, a, cap, e1, e2, fun i e => hc _ _ (e3 i e)⟩
theorem Nf.kept (h : Nf c w bud b n x ks av uv g m) (hf : Fr S w w') (hS : ∀ i col, c i = some col → col.own = some n → ¬ S i) : Nf c w' bud b n x ks av uv g m :=
  ⟨hf.cells h.cells (hS _ _ h.cb rfl), h.cb, h.ca, h.cu, h.att.kept hf (fun i e => hS _ _ (h.ca i e) rfl), h.und.kept hf (fun i e => hS _ _ (h.cu i e) rfl), h.few, fun s => (h.row s).kept hf (fun i e => hS _ _ e rfl)⟩
theorem Nf.ext (h : Nf c w bud b n x ks av uv g m) (hc : ∀ i col, c i = some col → c' i = some col) (hb : bud ≤ bud') : Nf c' w bud' b n x ks av uv g m :=
  ⟨h.cells, hc _ _ h.cb, fun i e => hc _ _ (h.ca i e), fun i e => hc _ _ (h.cu i e), h.att, h.und, Nat.le_trans h.few hb, fun s => (h.row s).ext hc⟩
theorem Nm.kept (h : Nm c w bud b n x ks) (hf : Fr S w w') (hS : ∀ i col, c i = some col → col.own = some n → ¬ S i) : Nm c w' bud b n x ks := by
  obtain ⟨av, uv, g, m, h⟩ := h
  exact ⟨av, uv, g, m, h.kept hf hS⟩
/-- with more blocks that are someone's, and a greater budget -/
theorem Nm.ext (h : Nm c w bud b n x ks) (hc : ∀ i col, c i = some col → c' i = some col) (hb : bud ≤ bud') : Nm c' w bud' b n x ks := by
  obtain ⟨av, uv, g, m, h⟩ := h
  exact ⟨av, uv, g, m, h.ext hc hb⟩
/-- those under it with one name have changed -/
theorem Nf.turned (h : Nf c w bud b n x ks av uv g m) {ub : Nat} (hu : uv = some ub) {s : ByteArray} {l : List Int} {o : Option Value} {m' : Nat} (hf : Fr S w w') (hS : ∀ i col, c i = some col → col.own = some n → col ≠ .under n → col ≠ .row n s → ¬ S i) (hc : ∀ i col, c i = some col → c' i = some col)
    (hm : Mp 9 litS w' ub (at_ g s o) m') (hb : m' ≤ bud') (hr : Rowed c' w' n s l o) : Nf c' w' bud' b n x (fun y => if y = s then l else ks y) av uv (at_ g s o) m' := by
  subst hu
  refine ⟨hf.cells h.cells (hS _ _ h.cb rfl (by simp) (by simp)), hc _ _ h.cb, fun i e => hc _ _ (h.ca i e), fun i e => hc _ _ (h.cu i e), h.att.kept hf (fun i e => hS _ _ (h.ca i e) rfl (by simp) (by simp)), hm, hb, fun y => ?_⟩
  unfold at_
  by_cases e : y = s
  · subst e
    rw [if_pos rfl, if_pos rfl]
    exact hr
  · rw [if_neg e, if_neg e]
    exact ((h.row y).kept hf (fun i e2 => hS _ _ e2 rfl (by simp) (by simp [e]))).ext hc
end
theorem Nm.kids {c : Nat → Option T.Col} {w : World} {bud b : Nat} {n : Int} {x : T.Nd} {ks ks' : ByteArray → List Int} (h : Nm c w bud b n x ks) (e : ∀ s, ks' s = ks s) : Nm c w bud b n x ks' := by
  rw [show ks' = ks from funext e]
  exact h
theorem Tf.kept {S : Nat → Prop} {c : Nat → Option T.Col} {w w' : World} {bud p : Nat} {dos last : Int} {t : T.Tr} {mb : Nat} {f : Int → Nat} (h : Tf c w bud p dos last t mb f) (hf : Fr S w w') (hS : ∀ i, c i ≠ none → ¬ S i) : Tf c w' bud p dos last t mb f :=
  ⟨hf.cells h.cells (hS _ (by rw [h.cp]; simp)), h.cp, h.cm, h.map.kept hf (hS _ (by rw [h.cm]; simp)), h.few, fun n x hx => (h.node n x hx).kept hf (fun i col e _ => hS i (by rw [e]; simp))⟩
theorem Tm.kept {S : Nat → Prop} {c : Nat → Option T.Col} {w w' : World} {bud p : Nat} {dos last : Int} {t : T.Tr} (h : Tm c w bud p dos last t) (hf : Fr S w w') (hS : ∀ i, c i ≠ none → ¬ S i) : Tm c w' bud p dos last t := by
  obtain ⟨mb, f, h1⟩ := h
  exact ⟨mb, f, h1.kept hf hS⟩
/-- blocks that are someone's lie below n -/
def Lo (c : Nat → Option T.Col) (n : Nat) : Prop := ∀ i, c i ≠ none → i < n
/-- c' is c, with new blocks from n on -/
def More (c c' : Nat → Option T.Col) (n : Nat) : Prop := ∀ i, i < n → c' i = c i
theorem More.keeps {c c' : Nat → Option T.Col} {n : Nat} (h : More c c' n) (hl : Lo c n) : ∀ i col, c i = some col → c' i = some col := fun i col e => by
  rw [h i (hl i (by rw [e]; simp)), e]
theorem zeroNd (w : World) : (zeroValue 74).run Tryz.prog w = .ok (.pointer none) w := by kernel_rfl
theorem zeroRow (w : World) : (zeroValue 100).run Tryz.prog w = .ok (.slice none 0 0) w := by kernel_rfl
theorem zeroAttr (w : World) : (zeroValue 65).run Tryz.prog w = .ok (.agg #[.string ⟨#[]⟩, .string ⟨#[]⟩]) w := by kernel_rfl
/-- where a node is, if it is there -/
def T.loc (f : Int → Nat) (t : T.Tr) (n : Int) : Value := .pointer ((A.get n t).map (fun _ => ⟨f n, 0, none⟩))
theorem Tf.look {c : Nat → Option T.Col} {w : World} {bud p : Nat} {dos last : Int} {t : T.Tr} {mb : Nat} {f : Int → Nat} (h : Tf c w bud p dos last t mb f) {n : Int} (hn : (Lit.int .i64 n).wf = true) : (Instr.lookup 81 (.map (some mb)) (.int .i64 n) false).run Tryz.prog w = .ok (T.loc f t n) w := by
  rw [h.map.look keyI Tryz.underlying81 (zeroNd w) (keyOfI hn)]
  unfold T.loc
  cases A.get n t <;> rfl
theorem T.loc_none {f : Int → Nat} {t : T.Tr} {n : Int} (h : A.get n t = none) : T.loc f t n = .pointer none := by unfold T.loc; rw [h]; rfl
theorem T.loc_some {f : Int → Nat} {t : T.Tr} {n : Int} {x : T.Nd} (h : A.get n t = some x) : T.loc f t n = ptr (f n) := by unfold T.loc; rw [h]; rfl
/-- a node without anything -/
theorem Nm.fresh {c : Nat → Option T.Col} {w : World} {bud b : Nat} {n : Int} (h : w.heap[b]? = some (.cells #[.int .i64 0, .string ⟨#[]⟩, .map none, .map none] 80 (0, 0))) (hc : c b = some (.node n)) : Nm c w bud b n T.zn (fun _ => []) :=
  ⟨none, none, fun _ => none, 0, ⟨h, hc, (fun _ e => by cases e), (fun _ e => by cases e), ⟨fun _ => rfl, rfl⟩, ⟨fun _ => rfl, rfl⟩, Nat.zero_le _, fun _ => .inl ⟨rfl, rfl⟩⟩⟩
end Go.Proofs.YtilbdpnioajkoaaGreat

namespace Go.Proofs.YtilbdpnioajkoaaGreat
set_option linter.unusedVariables false
namespace T
abbrev At := List (ByteArray × ByteArray)
/-- one text stands ahead of another -/
def blt (a b : ByteArray) : Bool := decide (a.data.toList < b.data.toList)
theorem ba_ext {a b : ByteArray} (h : a.data.toList = b.data.toList) : a = b := by
  cases a; cases b; simp at h ⊢; exact h
theorem blt_irrefl (a : ByteArray) : blt a a = false := by
  unfold blt
  exact decide_eq_false (List.lt_irrefl _)
theorem blt_trans {a b c : ByteArray} (h : blt a b = true) (k : blt b c = true) : blt a c = true := by
  unfold blt at *
  exact decide_eq_true (List.lt_trans (of_decide_eq_true h) (of_decide_eq_true k))
theorem blt_total {a b : ByteArray} (h : a ≠ b) (k : ¬ blt a b = true) : blt b a = true := by
  unfold blt at *
  refine decide_eq_true ?_
  have k : ¬ a.data.toList < b.data.toList := fun e => k (decide_eq_true e)
  have h1 : b.data.toList ≤ a.data.toList := List.not_lt.1 k
  rcases List.le_iff_lt_or_eq.1 h1 with h2 | h2
  · exact h2
  · exact absurd (ba_ext h2.symm) h
/-- the keys rise -/
def Ak (l : At) : Prop := l.Pairwise (fun p q => blt p.1 q.1 = true)
def ains (x : ByteArray × ByteArray) : At → At
  | [] => [x]
  | y :: r => if blt x.1 y.1 = true then x :: y :: r else y :: ains x r
def adel (k : ByteArray) (l : At) : At := l.filter (fun p => !decide (p.1 = k))
/-- a key's value; an empty one is none -/
def aset (k v : ByteArray) (l : At) : At := if v.toList.isEmpty = true then adel k l else ains (k, v) (adel k l)
theorem mem_ains {x p : ByteArray × ByteArray} : ∀ {l : At}, p ∈ ains x l ↔ p = x ∨ p ∈ l
  | [] => by simp [ains]
  | y :: r => by
    unfold ains
    split
    · simp
    · simp only [List.mem_cons, mem_ains (l := r)]
      constructor
      · rintro (h | h | h) <;> simp [h]
      · rintro (h | h | h) <;> simp [h]
theorem mem_adel {k : ByteArray} {l : At} {p : ByteArray × ByteArray} : p ∈ adel k l ↔ p ∈ l ∧ p.1 ≠ k := by simp [adel, List.mem_filter]
theorem Ak.adel {l : At} (h : Ak l) (k : ByteArray) : Ak (T.adel k l) := List.Pairwise.filter _ h
theorem Ak.ains {x : ByteArray × ByteArray} : ∀ {l : At}, Ak l → (∀ p ∈ l, p.1 ≠ x.1) → Ak (T.ains x l)
  | [], _, _ => by simp [T.ains, Ak]
  | y :: r, h, hn => by
    unfold T.ains
    unfold Ak at h
    rw [List.pairwise_cons] at h
    split
    · rename_i hb
      refine List.pairwise_cons.2 ⟨fun p hp => ?_, List.pairwise_cons.2 h⟩
      rcases List.mem_cons.1 hp with rfl | hp
      · exact hb
      · exact blt_trans hb (h.1 p hp)
    · rename_i hb
      refine List.pairwise_cons.2 ⟨fun p hp => ?_, Ak.ains h.2 (fun p hp => hn p (by simp [hp]))⟩
      rcases mem_ains.1 hp with rfl | hp
      · exact blt_total (hn y (by simp)).symm hb
      · exact h.1 p hp
theorem Ak.aset {l : At} (h : Ak l) (k v : ByteArray) : Ak (T.aset k v l) := by
  unfold T.aset
  split
  · exact h.adel k
  · exact (h.adel k).ains (fun p hp => (mem_adel.1 hp).2)
theorem aget_cons (s : ByteArray) (y : ByteArray × ByteArray) (r : At) : aget s (y :: r) = if y.1 = s then some y.2 else aget s r := by
  unfold aget
  rw [List.find?_cons]
  by_cases h : y.1 = s
  · simp [h]
  · simp [h]
theorem aget_adel (s k : ByteArray) : ∀ l : At, aget s (adel k l) = if s = k then none else aget s l
  | [] => by simp [adel, aget]
  | y :: r => by
    have ih := aget_adel s k r
    by_cases h : y.1 = k
    · have e : adel k (y :: r) = adel k r := by unfold adel; rw [List.filter_cons_of_neg (by simp [h])]
      rw [e, ih, aget_cons]
      by_cases hs : s = k
      · simp [hs]
      · rw [if_neg hs, if_neg hs, if_neg (fun e => hs (by rw [← e, h]))]
    · have e : adel k (y :: r) = y :: adel k r := by unfold adel; rw [List.filter_cons_of_pos (by simp [h])]
      rw [e, aget_cons, aget_cons, ih]
      by_cases hs : y.1 = s
      · rw [if_pos hs, if_pos hs, if_neg (fun e => h (by rw [hs, e]))]
      · rw [if_neg hs, if_neg hs]
theorem aget_ains (s : ByteArray) (x : ByteArray × ByteArray) : ∀ l : At, (∀ p ∈ l, p.1 ≠ x.1) → aget s (ains x l) = if s = x.1 then some x.2 else aget s l
  | [], _ => by
    unfold ains
    rw [aget_cons]
    by_cases h : x.1 = s
    · rw [if_pos h, if_pos h.symm]
    · rw [if_neg h, if_neg (fun e => h e.symm)]
  | y :: r, hn => by
    unfold ains
    split
    · rw [aget_cons]
      by_cases h : x.1 = s
      · rw [if_pos h, if_pos h.symm]
      · rw [if_neg h, if_neg (fun e => h e.symm)]
    · rw [aget_cons, aget_cons, aget_ains s x r (fun p hp => hn p (by simp [hp]))]
      by_cases h : y.1 = s
      · rw [if_pos h, if_pos h, if_neg (fun e => hn y (by simp) (h.trans e))]
      · rw [if_neg h, if_neg h]
theorem aget_aset (s k v : ByteArray) (l : At) : aget s (aset k v l) = if s = k then (if v.toList.isEmpty = true then none else some v) else aget s l := by
  unfold aset
  by_cases hv : v.toList.isEmpty = true
  · rw [if_pos hv, if_pos hv, aget_adel]
  · rw [if_neg hv, if_neg hv, aget_ains s (k, v) _ (fun p hp => (mem_adel.1 hp).2), aget_adel]
    by_cases hs : s = k
    · rw [if_pos hs, if_pos hs]
    · rw [if_neg hs, if_neg hs, if_neg hs]
theorem length_ains (x : ByteArray × ByteArray) : ∀ l : At, (ains x l).length = l.length + 1
  | [] => rfl
  | y :: r => by
    unfold ains
    split
    · rfl
    · simp [length_ains x r]
theorem length_adel {k : ByteArray} : ∀ {l : At}, Ak l → (adel k l).length = if (aget k l).isSome then l.length - 1 else l.length
  | [], _ => by simp [adel, aget]
  | y :: r, h => by
    unfold Ak at h
    rw [List.pairwise_cons] at h
    have ih := length_adel (k := k) h.2
    rw [aget_cons]
    by_cases e : y.1 = k
    · have hn : adel k r = r := List.filter_eq_self.2 (fun p hp => by
        have h1 := h.1 p hp
        have : p.1 ≠ k := fun e2 => by rw [e, e2, blt_irrefl] at h1; cases h1
        simp [this])
      rw [if_pos e]
      have e2 : adel k (y :: r) = adel k r := by unfold adel; rw [List.filter_cons_of_neg (by simp [e])]
      rw [e2, hn]
      simp
    · rw [if_neg e]
      have e2 : adel k (y :: r) = y :: adel k r := by unfold adel; rw [List.filter_cons_of_pos (by simp [e])]
      rw [e2, List.length_cons, ih, List.length_cons]
      have hl : (aget k r).isSome = true → 0 < r.length := fun hs => by
        cases r with
        | nil => simp [aget] at hs
        | cons a b => simp
      split
      · rename_i hs; have := hl hs; omega
      · rfl
theorem length_aset {k v : ByteArray} {l : At} (h : Ak l) : (aset k v l).length = if v.toList.isEmpty = true then (if (aget k l).isSome then l.length - 1 else l.length) else (if (aget k l).isSome then l.length else l.length + 1) := by
  unfold aset
  by_cases hv : v.toList.isEmpty = true
  · rw [if_pos hv, if_pos hv, length_adel h]
  · rw [if_neg hv, if_neg hv, length_ains, length_adel h]
    have hl : (aget k l).isSome = true → 0 < l.length := fun hs => by
      cases l with
      | nil => simp [aget] at hs
      | cons a b => simp
    split
    · rename_i hs; have := hl hs; omega
    · rfl
end T
end Go.Proofs.YtilbdpnioajkoaaGreat

namespace Go.Proofs.YtilbdpnioajkoaaGreat
open Go.RowKit Go.Maps
set_option linter.unusedVariables false
set_option maxRecDepth 100000
set_option linter.unusedSimpArgs false
section
variable {c : Nat → Option T.Col} {w : World} {bud p : Nat} {dos last : Int} {t : T.Tr} {mb : Nat} {f : Int → Nat}
theorem at_any (h : Tf c w bud p dos last t mb f) {n : Int} (hn : (Lit.int .i64 n).wf = true) : Calls Tryz.prog 58 #[ptr p, .int .i64 n] w fun e w' => e = .returned (T.loc f t n) ∧ w = w' := by
  have HL := hid (h.look hn)
  have c0 : w.cell? ⟨p, 0, none⟩ = some (.map (some mb)) := cellA (j := 0) h.cells rfl
  clear h hn
  go_enter Tryz.func58, Tryz.ntmps58
  go_wp2_with (refine wpList_look_v HL.out (by exact ⟨_, _, rfl, rfl, rfl⟩) (by kernel_rfl) ?_)
  go_ret
  exact ⟨rfl, rfl⟩
theorem has_any (h : Tf c w bud p dos last t mb f) {n : Int} (hn : (Lit.int .i64 n).wf = true) : Calls Tryz.prog 66 #[ptr p, .int .i64 n] w fun e w' => e = .returned (.bool (A.get n t).isSome) ∧ w = w' := by
  have K := hid (at_any h hn)
  clear h hn
  cases hg : A.get n t with
  | none =>
    rw [T.loc_none hg] at K
    go_enter Tryz.func66, Tryz.ntmps66
    go_wp2_with (go_at_call 58; refine K.out.mono ?_; rintro e wx ⟨rfl, rfl⟩)
    go_ret
    exact ⟨rfl, rfl⟩
  | some x =>
    rw [T.loc_some hg] at K
    go_enter Tryz.func66, Tryz.ntmps66
    go_wp2_with (go_at_call 58; refine K.out.mono ?_; rintro e wx ⟨rfl, rfl⟩)
    go_ret
    exact ⟨rfl, rfl⟩
theorem tmade_any (h : Tf c w bud p dos last t mb f) : Calls Tryz.prog 42 #[ptr p] w fun e w' => e = .returned (.bool true) ∧ w = w' := by
  have c0 : w.cell? ⟨p, 0, none⟩ = some (.map (some mb)) := cellA (j := 0) h.cells rfl
  have q : (binOp .neq 81 (.map (some mb)) (.map none)).run Tryz.prog w = .ok (.bool true) w := run_neq_map_nil w _ _ _ (some mb) Tryz.underlying81
  clear h
  go_enter Tryz.func42, Tryz.ntmps42
  go_wp2
  go_ret
  exact ⟨rfl, rfl⟩
theorem tlen_any (h : Tf c w bud p dos last t mb f) : Calls Tryz.prog 10 #[ptr p] w fun e w' => e = .returned (.int .i64 t.length) ∧ w = w' := by
  have K := hid (tmade_any h)
  have c0 : w.cell? ⟨p, 0, none⟩ = some (.map (some mb)) := cellA (j := 0) h.cells rfl
  have HL := hid (h.map.len Tryz.underlying81)
  clear h
  go_enter Tryz.func10, Tryz.ntmps10
  go_wp2_with (first
    | (go_at_call 42; refine K.out.mono ?_; rintro e wx ⟨rfl, rfl⟩)
    | (refine wpList_len_v (HL.out _) (by exact ⟨_, rfl, rfl⟩) (by kernel_rfl) ?_))
  go_ret
  exact ⟨rfl, rfl⟩
/-- of those under a node with a name the least -/
def T.lookup (t : T.Tr) (n : Int) (s : ByteArray) : Option Int := if (A.get n t).isSome then (T.kids t n s).head? else none
set_option maxHeartbeats 1600000 in
theorem lookup_any (h : Tf c w bud p dos last t mb f) {n : Int} (hn : (Lit.int .i64 n).wf = true) {s : ByteArray} (hs : s.size ≤ maxLen) :
    Calls Tryz.prog 24 #[ptr p, .int .i64 n, .string s] w fun e w' => e = .returned (.tuple #[.int .i64 ((T.lookup t n s).getD 0), .bool (T.lookup t n s).isSome]) ∧ w = w' := by
  have K := hid (at_any h hn)
  cases hg : A.get n t with
  | none =>
    rw [T.loc_none hg] at K
    rw [show T.lookup t n s = none by unfold T.lookup; rw [hg]; rfl]
    clear h hn hs
    go_enter Tryz.func24, Tryz.ntmps24
    go_wp2_with (go_at_call 58; refine K.out.mono ?_; rintro e wx ⟨rfl, rfl⟩)
    go_ret2
    exact ⟨rfl, rfl⟩
  | some x =>
    rw [T.loc_some hg] at K
    have hl : T.lookup t n s = (T.kids t n s).head? := by unfold T.lookup; rw [hg]; rfl
    obtain ⟨av, uv, g, m, h1, h2, h3, h4, h5, h6, h7, h8⟩ := h.node n x hg
    have c3 : w.cell? ⟨f n, 3, none⟩ = some (.map uv) := cellA (j := 3) h1 rfl
    have HL := hid (h6.look keyS Tryz.underlying78 (zeroRow w) (keyOfS hs))
    rcases h8 s with ⟨e1, e2⟩ | ⟨e1, a, cap, e2, e3, e4⟩
    · rw [hl, e1]
      rw [e2] at HL
      clear h hn hs h1 h2 h3 h4 h5 h6 h7 h8 e1 e2 hl hg
      simp only [Option.getD_none, List.head?_nil, Option.isSome_none] at HL ⊢
      go_enter Tryz.func24, Tryz.ntmps24
      go_wp2_with (first
        | (go_at_call 58; refine K.out.mono ?_; rintro e wx ⟨rfl, rfl⟩)
        | (refine wpList_look_v HL.out (by exact ⟨_, _, rfl, rfl, rfl⟩) (by kernel_rfl) ?_))
      go_ret2
      exact ⟨rfl, rfl⟩
    · rw [hl]
      rw [e2] at HL
      obtain ⟨k0, kr, hk⟩ : ∃ k0 kr, T.kids t n s = k0 :: kr := by
        cases hk : T.kids t n s with
        | nil => exact absurd hk e1
        | cons a b => exact ⟨a, b, rfl⟩
      rw [hk] at HL e3 ⊢
      obtain ⟨gb, fo, rfl⟩ := e3.some_of (by simp)
      have c9 : w.cell? ⟨gb, fo, none⟩ = some (.int .i64 k0) := by
        have := e3.cell (j := 0) (u := .int .i64 k0) rfl
        exact this
      have hlen := e3.le.2
      simp only [List.length_cons] at HL hlen
      obtain ⟨ln, hln⟩ : ∃ ln, kr.length = ln := ⟨_, rfl⟩
      rw [hln] at HL hlen
      have L1 : ((ln + 1 : Nat) : Int) ≠ 0 := by omega
      have L2 : (((ln + 1 : Nat) : Int) == 0) = false := by simp; omega
      clear h hn hs h1 h2 h3 h4 h5 h6 h7 h8 e1 e2 hl hg hk e3 e4 hln
      simp only [Option.getD_some, List.head?_cons, Option.isSome_some] at HL ⊢
      go_enter Tryz.func24, Tryz.ntmps24
      go_wp2_with (first
        | (go_at_call 58; refine K.out.mono ?_; rintro e wx ⟨rfl, rfl⟩)
        | (refine wpList_look_v HL.out (by exact ⟨_, _, rfl, rfl, rfl⟩) (by kernel_rfl) ?_))
      go_ret2
      exact ⟨rfl, rfl⟩
end
end Go.Proofs.YtilbdpnioajkoaaGreat

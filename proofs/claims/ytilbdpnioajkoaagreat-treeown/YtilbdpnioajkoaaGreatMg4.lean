/-
  A tree in memory: what it reads as.
  Attributes by their keys.
  A range over an iterator whose elements point to memory: what is yielded is told together with the world in which it is yielded.
-/
import Derived.Test.YtilbdpnioajkoaaGreatMg3
import Derived.Deep.RegionHeld3
import Derived.Test.YtilbdpnioajkoaaGreatMg2
import Derived.RangeFuncWrites
namespace Go.Proofs.YtilbdpnioajkoaaGreat
open Go.RowKit Go.Maps
set_option linter.unusedVariables false
set_option maxRecDepth 100000
namespace T
/-- whose a block is -/
inductive Col where
  | tree
  | nodes
  | node (n : Int)
  | attrs (n : Int)
  | under (n : Int)
  | row (n : Int) (s : ByteArray)
/-- whose node's it is -/
def Col.own : Col → Option Int
  | tree => none
  | nodes => none
  | node n => some n
  | attrs n => some n
  | under n => some n
  | row n _ => some n
/-- the block is node k's -/
def Mine (c : Nat → Option Col) (k : Int) (i : Nat) : Prop := ∃ col, c i = some col ∧ col.own = some k
/-- a node: its parent, its name, its attributes by their keys -/
structure Nd where
  par : Int
  nm : ByteArray
  ats : List (ByteArray × ByteArray)
/-- the nodes by their numbers -/
abbrev Tr := List (Int × Nd)
def zn : Nd := ⟨0, ⟨#[]⟩, []⟩
def zero : Tr := [(1, zn), (2, zn)]
def aget (s : ByteArray) (l : List (ByteArray × ByteArray)) : Option ByteArray := (l.find? (fun p => decide (p.1 = s))).map (·.2)
/-- the nodes under one, with a name -/
def kids (t : Tr) (n : Int) (s : ByteArray) : List Int := (t.filter (fun p => decide (2 < p.1) && (p.2.par == n && decide (p.2.nm = s)))).map (·.1)
end T
theorem alloc_size (w : World) (o : Obj) : (w.alloc o).heap.size = w.heap.size + 1 := by simp
abbrev ptr (b : Nat) : Value := .pointer (some ⟨b, 0, none⟩)
/-- the nodes under a node with one name, in memory -/
def Rowed (c : Nat → Option T.Col) (w : World) (n : Int) (s : ByteArray) (l : List Int) (o : Option Value) : Prop :=
  (l = [] ∧ o = none) ∨ (l ≠ [] ∧ ∃ a cap, o = some (.slice a l.length cap) ∧ Ro w 2 1 a l.length cap (l.map (Value.int .i64)) ∧ ∀ i, blk a = some i → c i = some (.row n s))
/-- a node in memory: block b, its number, what it is, those under it; its maps -/
structure Nf (c : Nat → Option T.Col) (w : World) (bud b : Nat) (n : Int) (x : T.Nd) (ks : ByteArray → List Int) (av uv : Option Nat) (g : ByteArray → Option Value) (m : Nat) : Prop where
  cells : w.heap[b]? = some (.cells #[.int .i64 x.par, .string x.nm, .map av, .map uv] 80 (0, 0))
  cb : c b = some (.node n)
  ca : ∀ i, av = some i → c i = some (.attrs n)
  cu : ∀ i, uv = some i → c i = some (.under n)
  att : Mo 9 litS w av (fun s => (T.aget s x.ats).map (fun v => .agg #[.string s, .string v])) x.ats.length
  und : Mo 9 litS w uv g m
  few : m ≤ bud
  row : ∀ s, Rowed c w n s (ks s) (g s)
def Nm (c : Nat → Option T.Col) (w : World) (bud b : Nat) (n : Int) (x : T.Nd) (ks : ByteArray → List Int) : Prop := ∃ (av uv : Option Nat) (g : ByteArray → Option Value) (m : Nat), Nf c w bud b n x ks av uv g m
/-- a tree in memory: its map, and where its nodes are -/
structure Tf (c : Nat → Option T.Col) (w : World) (bud p : Nat) (dos last : Int) (t : T.Tr) (mb : Nat) (f : Int → Nat) : Prop where
  cells : w.heap[p]? = some (.cells #[.map (some mb), .int .i64 dos, .int .i64 last] 83 (0, 0))
  cp : c p = some .tree
  cm : c mb = some .nodes
  map : Mp 2 litI w mb (fun n => (A.get n t).map (fun _ => ptr (f n))) t.length
  few : t.length ≤ bud + 2
  node : ∀ n x, A.get n t = some x → Nm c w bud (f n) n x (T.kids t n)
/-- a tree in memory -/
def Tm (c : Nat → Option T.Col) (w : World) (bud p : Nat) (dos last : Int) (t : T.Tr) : Prop := ∃ (mb : Nat) (f : Int → Nat), Tf c w bud p dos last t mb f
section
variable {S : Nat → Prop} {c c' : Nat → Option T.Col} {w w' : World} {bud bud' b : Nat} {n : Int} {x : T.Nd} {ks : ByteArray → List Int} {av uv : Option Nat} {g : ByteArray → Option Value} {m : Nat}
theorem Rowed.kept {s : ByteArray} {l : List Int} {o : Option Value} (h : Rowed c w n s l o) (hf : Fr S w w') (hS : ∀ i, c i = some (.row n s) → ¬ S i) : Rowed c w' n s l o := by
  rcases h with h | ⟨h, a, cap, e1, e2, e3⟩
  · exact .inl h
  · exact .inr ⟨h, a, cap, e1, e2.kept hf (fun i e => hS _ (e3 i e)), e3⟩
theorem Rowed.ext {s : ByteArray} {l : List Int} {o : Option Value} (h : Rowed c w n s l o) (hc : ∀ i col, c i = some col → c' i = some col) : Rowed c' w n s l o := by
  rcases h with h | ⟨h, a, cap, e1, e2, e3⟩
  · exact .inl h
  · exact .inr ⟨h, a, cap, e1, e2, fun i e => hc _ _ (e3 i e)⟩
theorem Nf.kept (h : Nf c w bud b n x ks av uv g m) (hf : Fr S w w') (hS : ∀ i col, c i = some col → col.own = some n → ¬ S i) : Nf c w' bud b n x ks av uv g m :=
  ⟨hf.cells h.cells (hS _ _ h.cb rfl), h.cb, h.ca, h.cu, h.att.kept hf (fun i e => hS _ _ (h.ca i e) rfl), h.und.kept hf (fun i e => hS _ _ (h.cu i e) rfl), h.few, fun s => (h.row s).kept hf (fun i e => hS _ _ e rfl)⟩
theorem Nf.ext (h : Nf c w bud b n x ks av uv g m) (hc : ∀ i col, c i = some col → c' i = some col) (hb : bud ≤ bud') : Nf c' w bud' b n x ks av uv g m :=
  ⟨h.cells, hc _ _ h.cb, fun i e => hc _ _ (h.ca i e), fun i e => hc _ _ (h.cu i e), h.att, h.und, Nat.le_trans h.few hb, fun s => (h.row s).ext hc⟩
theorem Nm.kept (h : Nm c w bud b n x ks) (hf : Fr S w w') (hS : ∀ i col, c i = some col → col.own = some n → ¬ S i) : Nm c w' bud b n x ks := by
  obtain ⟨av, uv, g, m, h⟩ := h
  exact ⟨av, uv, g, m, h.kept hf hS⟩
/-- with more blocks that are someone's, and a greater budget -/
theorem Nm.ext (h : Nm c w bud b n x ks) (hc : ∀ i col, c i = some col → c' i = some col) (hb : bud ≤ bud') : Nm c' w bud' b n x ks := by
  obtain ⟨av, uv, g, m, h⟩ := h
  exact ⟨av, uv, g, m, h.ext hc hb⟩
/-- those under it with one name have changed -/
theorem Nf.turned (h : Nf c w bud b n x ks av uv g m) {ub : Nat} (hu : uv = some ub) {s : ByteArray} {l : List Int} {o : Option Value} {m' : Nat} (hf : Fr S w w') (hS : ∀ i col, c i = some col → col.own = some n → col ≠ .under n → col ≠ .row n s → ¬ S i) (hc : ∀ i col, c i = some col → c' i = some col)
    (hm : Mp 9 litS w' ub (at_ g s o) m') (hb : m' ≤ bud') (hr : Rowed c' w' n s l o) : Nf c' w' bud' b n x (fun y => if y = s then l else ks y) av uv (at_ g s o) m' := by
  subst hu
  refine ⟨hf.cells h.cells (hS _ _ h.cb rfl (by simp) (by simp)), hc _ _ h.cb, fun i e => hc _ _ (h.ca i e), fun i e => hc _ _ (h.cu i e), h.att.kept hf (fun i e => hS _ _ (h.ca i e) rfl (by simp) (by simp)), hm, hb, fun y => ?_⟩
  unfold at_
  by_cases e : y = s
  · subst e
    rw [if_pos rfl, if_pos rfl]
    exact hr
  · rw [if_neg e, if_neg e]
    exact ((h.row y).kept hf (fun i e2 => hS _ _ e2 rfl (by simp) (by simp [e]))).ext hc
end
theorem Nm.kids {c : Nat → Option T.Col} {w : World} {bud b : Nat} {n : Int} {x : T.Nd} {ks ks' : ByteArray → List Int} (h : Nm c w bud b n x ks) (e : ∀ s, ks' s = ks s) : Nm c w bud b n x ks' := by
  rw [show ks' = ks from funext e]
  exact h
theorem Tf.kept {S : Nat → Prop} {c : Nat → Option T.Col} {w w' : World} {bud p : Nat} {dos last : Int} {t : T.Tr} {mb : Nat} {f : Int → Nat} (h : Tf c w bud p dos last t mb f) (hf : Fr S w w') (hS : ∀ i, c i ≠ none → ¬ S i) : Tf c w' bud p dos last t mb f :=
  ⟨hf.cells h.cells (hS _ (by rw [h.cp]; simp)), h.cp, h.cm, h.map.kept hf (hS _ (by rw [h.cm]; simp)), h.few, fun n x hx => (h.node n x hx).kept hf (fun i col e _ => hS i (by rw [e]; simp))⟩
theorem Tm.kept {S : Nat → Prop} {c : Nat → Option T.Col} {w w' : World} {bud p : Nat} {dos last : Int} {t : T.Tr} (h : Tm c w bud p dos last t) (hf : Fr S w w') (hS : ∀ i, c i ≠ none → ¬ S i) : Tm c w' bud p dos last t := by
  obtain ⟨mb, f, h1⟩ := h
  exact ⟨mb, f, h1.kept hf hS⟩
/-- blocks that are someone's lie below n -/
def Lo (c : Nat → Option T.Col) (n : Nat) : Prop := ∀ i, c i ≠ none → i < n
/-- c' is c, with new blocks from n on -/
def More (c c' : Nat → Option T.Col) (n : Nat) : Prop := ∀ i, i < n → c' i = c i
theorem More.keeps {c c' : Nat → Option T.Col} {n : Nat} (h : More c c' n) (hl : Lo c n) : ∀ i col, c i = some col → c' i = some col := fun i col e => by
  rw [h i (hl i (by rw [e]; simp)), e]
theorem zeroNd (w : World) : (zeroValue 74).run Tryz.prog w = .ok (.pointer none) w := by kernel_rfl
theorem zeroRow (w : World) : (zeroValue 100).run Tryz.prog w = .ok (.slice none 0 0) w := by kernel_rfl
theorem zeroAttr (w : World) : (zeroValue 65).run Tryz.prog w = .ok (.agg #[.string ⟨#[]⟩, .string ⟨#[]⟩]) w := by kernel_rfl
/-- where a node is, if it is there -/
def T.loc (f : Int → Nat) (t : T.Tr) (n : Int) : Value := .pointer ((A.get n t).map (fun _ => ⟨f n, 0, none⟩))
theorem Tf.look {c : Nat → Option T.Col} {w : World} {bud p : Nat} {dos last : Int} {t : T.Tr} {mb : Nat} {f : Int → Nat} (h : Tf c w bud p dos last t mb f) {n : Int} (hn : (Lit.int .i64 n).wf = true) : (Instr.lookup 81 (.map (some mb)) (.int .i64 n) false).run Tryz.prog w = .ok (T.loc f t n) w := by
  rw [h.map.look keyI Tryz.underlying81 (zeroNd w) (keyOfI hn)]
  unfold T.loc
  cases A.get n t <;> rfl
theorem T.loc_none {f : Int → Nat} {t : T.Tr} {n : Int} (h : A.get n t = none) : T.loc f t n = .pointer none := by unfold T.loc; rw [h]; rfl
theorem T.loc_some {f : Int → Nat} {t : T.Tr} {n : Int} {x : T.Nd} (h : A.get n t = some x) : T.loc f t n = ptr (f n) := by unfold T.loc; rw [h]; rfl
/-- a node without anything -/
theorem Nm.fresh {c : Nat → Option T.Col} {w : World} {bud b : Nat} {n : Int} (h : w.heap[b]? = some (.cells #[.int .i64 0, .string ⟨#[]⟩, .map none, .map none] 80 (0, 0))) (hc : c b = some (.node n)) : Nm c w bud b n T.zn (fun _ => []) :=
  ⟨none, none, fun _ => none, 0, ⟨h, hc, (fun _ e => by cases e), (fun _ e => by cases e), ⟨fun _ => rfl, rfl⟩, ⟨fun _ => rfl, rfl⟩, Nat.zero_le _, fun _ => .inl ⟨rfl, rfl⟩⟩⟩
end Go.Proofs.YtilbdpnioajkoaaGreat

namespace Go.Proofs.YtilbdpnioajkoaaGreat
set_option linter.unusedVariables false
namespace T
abbrev At := List (ByteArray × ByteArray)
/-- one text stands ahead of another -/
def blt (a b : ByteArray) : Bool := decide (a.data.toList < b.data.toList)
theorem ba_ext {a b : ByteArray} (h : a.data.toList = b.data.toList) : a = b := by
  cases a; cases b; simp at h ⊢; exact h
theorem blt_irrefl (a : ByteArray) : blt a a = false := by
  unfold blt
  exact decide_eq_false (List.lt_irrefl _)
theorem blt_trans {a b c : ByteArray} (h : blt a b = true) (k : blt b c = true) : blt a c = true := by
  unfold blt at *
  exact decide_eq_true (List.lt_trans (of_decide_eq_true h) (of_decide_eq_true k))
theorem blt_total {a b : ByteArray} (h : a ≠ b) (k : ¬ blt a b = true) : blt b a = true := by
  unfold blt at *
  refine decide_eq_true ?_
  have k : ¬ a.data.toList < b.data.toList := fun e => k (decide_eq_true e)
  have h1 : b.data.toList ≤ a.data.toList := List.not_lt.1 k
  rcases List.le_iff_lt_or_eq.1 h1 with h2 | h2
  · exact h2
  · exact absurd (ba_ext h2.symm) h
/-- the keys rise -/
def Ak (l : At) : Prop := l.Pairwise (fun p q => blt p.1 q.1 = true)
def ains (x : ByteArray × ByteArray) : At → At
  | [] => [x]
  | y :: r => if blt x.1 y.1 = true then x :: y :: r else y :: ains x r
def adel (k : ByteArray) (l : At) : At := l.filter (fun p => !decide (p.1 = k))
/-- a key's value; an empty one is none -/
def aset (k v : ByteArray) (l : At) : At := if v.toList.isEmpty = true then adel k l else ains (k, v) (adel k l)
theorem mem_ains {x p : ByteArray × ByteArray} : ∀ {l : At}, p ∈ ains x l ↔ p = x ∨ p ∈ l
  | [] => by simp [ains]
  | y :: r => by
    unfold ains
    split
    · simp
    · simp only [List.mem_cons, mem_ains (l := r)]
      constructor
      · rintro (h | h | h) <;> simp [h]
      · rintro (h | h | h) <;> simp [h]
theorem mem_adel {k : ByteArray} {l : At} {p : ByteArray × ByteArray} : p ∈ adel k l ↔ p ∈ l ∧ p.1 ≠ k := by simp [adel, List.mem_filter]
theorem Ak.adel {l : At} (h : Ak l) (k : ByteArray) : Ak (T.adel k l) := List.Pairwise.filter _ h
theorem Ak.ains {x : ByteArray × ByteArray} : ∀ {l : At}, Ak l → (∀ p ∈ l, p.1 ≠ x.1) → Ak (T.ains x l)
  | [], _, _ => by simp [T.ains, Ak]
  | y :: r, h, hn => by
    unfold T.ains
    unfold Ak at h
    rw [List.pairwise_cons] at h
    split
    · rename_i hb
      refine List.pairwise_cons.2 ⟨fun p hp => ?_, List.pairwise_cons.2 h⟩
      rcases List.mem_cons.1 hp with rfl | hp
      · exact hb
      · exact blt_trans hb (h.1 p hp)
    · rename_i hb
      refine List.pairwise_cons.2 ⟨fun p hp => ?_, Ak.ains h.2 (fun p hp => hn p (by simp [hp]))⟩
      rcases mem_ains.1 hp with rfl | hp
      · exact blt_total (hn y (by simp)).symm hb
      · exact h.1 p hp
theorem Ak.aset {l : At} (h : Ak l) (k v : ByteArray) : Ak (T.aset k v l) := by
  unfold T.aset
  split
  · exact h.adel k
  · exact (h.adel k).ains (fun p hp => (mem_adel.1 hp).2)
theorem aget_cons (s : ByteArray) (y : ByteArray × ByteArray) (r : At) : aget s (y :: r) = if y.1 = s then some y.2 else aget s r := by
  unfold aget
  rw [List.find?_cons]
  by_cases h : y.1 = s
  · simp [h]
  · simp [h]
theorem aget_adel (s k : ByteArray) : ∀ l : At, aget s (adel k l) = if s = k then none else aget s l
  | [] => by simp [adel, aget]
  | y :: r => by
    have ih := aget_adel s k r
    by_cases h : y.1 = k
    · have e : adel k (y :: r) = adel k r := by unfold adel; rw [List.filter_cons_of_neg (by simp [h])]
      rw [e, ih, aget_cons]
      by_cases hs : s = k
      · simp [hs]
      · rw [if_neg hs, if_neg hs, if_neg (fun e => hs (by rw [← e, h]))]
    · have e : adel k (y :: r) = y :: adel k r := by unfold adel; rw [List.filter_cons_of_pos (by simp [h])]
      rw [e, aget_cons, aget_cons, ih]
      by_cases hs : y.1 = s
      · rw [if_pos hs, if_pos hs, if_neg (fun e => h (by rw [hs, e]))]
      · rw [if_neg hs, if_neg hs]
theorem aget_ains (s : ByteArray) (x : ByteArray × ByteArray) : ∀ l : At, (∀ p ∈ l, p.1 ≠ x.1) → aget s (ains x l) = if s = x.1 then some x.2 else aget s l
  | [], _ => by
    unfold ains
    rw [aget_cons]
    by_cases h : x.1 = s
    · rw [if_pos h, if_pos h.symm]
    · rw [if_neg h, if_neg (fun e => h e.symm)]
  | y :: r, hn => by
    unfold ains
    split
    · rw [aget_cons]
      by_cases h : x.1 = s
      · rw [if_pos h, if_pos h.symm]
      · rw [if_neg h, if_neg (fun e => h e.symm)]
    · rw [aget_cons, aget_cons, aget_ains s x r (fun p hp => hn p (by simp [hp]))]
      by_cases h : y.1 = s
      · rw [if_pos h, if_pos h, if_neg (fun e => hn y (by simp) (h.trans e))]
      · rw [if_neg h, if_neg h]
theorem aget_aset (s k v : ByteArray) (l : At) : aget s (aset k v l) = if s = k then (if v.toList.isEmpty = true then none else some v) else aget s l := by
  unfold aset
  by_cases hv : v.toList.isEmpty = true
  · rw [if_pos hv, if_pos hv, aget_adel]
  · rw [if_neg hv, if_neg hv, aget_ains s (k, v) _ (fun p hp => (mem_adel.1 hp).2), aget_adel]
    by_cases hs : s = k
    · rw [if_pos hs, if_pos hs]
    · rw [if_neg hs, if_neg hs, if_neg hs]
theorem length_ains (x : ByteArray × ByteArray) : ∀ l : At, (ains x l).length = l.length + 1
  | [] => rfl
  | y :: r => by
    unfold ains
    split
    · rfl
    · simp [length_ains x r]
theorem length_adel {k : ByteArray} : ∀ {l : At}, Ak l → (adel k l).length = if (aget k l).isSome then l.length - 1 else l.length
  | [], _ => by simp [adel, aget]
  | y :: r, h => by
    unfold Ak at h
    rw [List.pairwise_cons] at h
    have ih := length_adel (k := k) h.2
    rw [aget_cons]
    by_cases e : y.1 = k
    · have hn : adel k r = r := List.filter_eq_self.2 (fun p hp => by
        have h1 := h.1 p hp
        have : p.1 ≠ k := fun e2 => by rw [e, e2, blt_irrefl] at h1; cases h1
        simp [this])
      rw [if_pos e]
      have e2 : adel k (y :: r) = adel k r := by unfold adel; rw [List.filter_cons_of_neg (by simp [e])]
      rw [e2, hn]
      simp
    · rw [if_neg e]
      have e2 : adel k (y :: r) = y :: adel k r := by unfold adel; rw [List.filter_cons_of_pos (by simp [e])]
      rw [e2, List.length_cons, ih, List.length_cons]
      have hl : (aget k r).isSome = true → 0 < r.length := fun hs => by
        cases r with
        | nil => simp [aget] at hs
        | cons a b => simp
      split
      · rename_i hs; have := hl hs; omega
      · rfl
theorem length_aset {k v : ByteArray} {l : At} (h : Ak l) : (aset k v l).length = if v.toList.isEmpty = true then (if (aget k l).isSome then l.length - 1 else l.length) else (if (aget k l).isSome then l.length else l.length + 1) := by
  unfold aset
  by_cases hv : v.toList.isEmpty = true
  · rw [if_pos hv, if_pos hv, length_adel h]
  · rw [if_neg hv, if_neg hv, length_ains, length_adel h]
    have hl : (aget k l).isSome = true → 0 < l.length := fun hs => by
      cases l with
      | nil => simp [aget] at hs
      | cons a b => simp
    split
    · rename_i hs; have := hl hs; omega
    · rfl
end T
end Go.Proofs.YtilbdpnioajkoaaGreat

namespace Go.Proofs.YtilbdpnioajkoaaGreat
open Go.RowKit
set_option linter.unusedVariables false

variable {F : Fence} {n : Nat} {P : Program} {α : Type}

/-- AN ITERATOR, AND WHAT V SAYS OF AN ELEMENT: W0 is the world behind the round ahead, W1 the one in which it is yielded: between them there is nothing but new memory. -/
def SeqV (F : Fence) (n : Nat) (P : Program) (g : Nat) (lb : Array Value) (encs : α → Array Value) (V : List α → α → World → World → Prop) (Kp : World → World → Prop) (S Sp : List α → Prop) (w : World) : Prop :=
  ∀ (l : Nat) (J Jx : List α → World → Prop) (W : World), Below w.heap.size w W → AbidesFrom W.heap.size J → AbidesFrom W.heap.size Jx →
    (∀ pre x W0 W1, J pre W0 → Fr (fun _ => False) W0 W1 → V pre x W0 W1 → YieldAt F (n - 1) P l (encs x) W1 fun e W' =>
      (e = .returned (.bool true) ∧ J (pre ++ [x]) W' ∧ Kp W1 W') ∨ (e = .returned (.bool false) ∧ Jx (pre ++ [x]) W')) →
    J [] W →
    CallsIn F n P g (#[.func (.yield l) #[] #[]] ++ lb) W fun e W' => (∃ v, e = .returned v) ∧ ((∃ xs, S xs ∧ J xs W') ∨ (∃ pre, Sp pre ∧ Jx pre W'))

/-- the loop's record, in a state -/
private def lrec (fn : FuncId) (tmps : Array Value) (ps : Array Tmp) (assign body : Code) (D : Nat) (st : LoopState) (pe : Option Code) : Loop :=
  { state := st, pending := pe, fn := fn, tmps := tmps, params := ps, assign := assign, body := body, defers := D }

/-- what a round leaves of the law's own two blocks -/
private theorem round_end {fn : FuncId} {tmps : Array Value} {ps : Array Tmp} {assign body : Code} {D L : Nat} (hDL : D < L) {X W3 : World} (hX : X.heap[L]? = some (.loop (lrec fn tmps ps assign body D .busy none))) (hD : X.heap[D]? = some (.deferred (some []))) (hk : KeepsFrom D X W3) (jump : Option Code) :
    (Instr.endRound L jump).run P W3 = .ok (.bool jump.isNone) (W3.putObj L (.loop (lrec fn tmps ps assign body D (if jump.isNone then .ready else .done) jump))) ∧
    W3.heap[L]? = some (.loop (lrec fn tmps ps assign body D .busy none)) ∧
    (W3.putObj L (.loop (lrec fn tmps ps assign body D (if jump.isNone then .ready else .done) jump))).heap[L]? = some (.loop (lrec fn tmps ps assign body D (if jump.isNone then .ready else .done) jump)) ∧
    (W3.putObj L (.loop (lrec fn tmps ps assign body D (if jump.isNone then .ready else .done) jump))).heap[D]? = some (.deferred (some [])) := by
  have h3 := hk.same L _ (Nat.le_of_lt hDL) hX rfl
  exact ⟨run_endRound (P := P) jump h3, h3, World.putObj_heap_same (lt_of_row h3), (World.putObj_heap_other (by omega)).trans (hk.same D _ (Nat.le_refl _) hD rfl)⟩

theorem wpIn_rangeV {g : Operand} {ps : Array Tmp} {assign body : Code} {Q : Exit → Act → World → Prop} {a : Act} {w : World}
    (hro : F.round = none) (h1 : 1 ≤ n) {gf : Nat} {lb : Array Value} (hg : a.eval g = .func (.func gf) #[] lb) (hFg : F.fn gf) (eg : ∀ args w, (callFunc gf args).run P w = .ok (.enter gf args) w)
    {encs : α → Array Value} {V : List α → α → World → World → Prop} {Kp : World → World → Prop} {S Sp : List α → Prop} {w0 : World} (hseq : SeqV F (n - 1) P gf lb encs V Kp S Sp w0) (hb0 : Below w0.heap.size w0 w) (hps : ∀ x, (encs x).size = ps.size)
    (hKt : ∀ {A B C : World}, Kp A B → Kp B C → Kp A C)
    (hKb : ∀ (W : World) (l : Nat) (o o' : Obj), w.heap.size ≤ l → W.heap[l]? = some o → o.isCells = false → o.isWalk = false → Kp W (W.putObj l o'))
    (I : List α → World → Prop) (Ix : Code → List α → World → Prop) (I1 : List α → α → Act → World → Prop) (hI : OwnFrom w.heap.size I) (hIx : ∀ c, OwnFrom w.heap.size (Ix c)) (h0 : I [] w)
    (hIb : ∀ (pre : List α) (x : α) (a1 : Act) (W : World) (l : Nat) (o o' : Obj), w.heap.size ≤ l → W.heap[l]? = some o → o.isCells = false → o.isWalk = false → I1 pre x a1 W → I1 pre x a1 (W.putObj l o'))
    (hassign : ∀ (l : Nat) (pre : List α) (x : α) (W0 W : World) (K : Act → World → Prop), I pre W0 → Fr (fun _ => False) W0 W → V pre x W0 W → (∀ a1 W', KeepsFrom w.heap.size W W' → Kp W W' → I1 pre x a1 W' → K a1 W') →
      assign.wpIn (F.inRound l) (n - 1 - 1) P (Exit.then K (fun _ _ _ => False)) { tmps := (ps.zip (encs x)).foldl (fun t (p, v) => t.setIfInBounds p v) a.tmps, defers := [] } W)
    (hbody : ∀ (l : Nat) (pre : List α) (x : α) (a1 : Act) (W : World), I1 pre x a1 W → body.wpIn (F.inRound l) (n - 1 - 1) P (ownPostG w.heap.size Kp I Ix (pre ++ [x]) W) a1 W)
    (hdone : ∀ (D : Nat) (xs : List α) (W : World), w.heap.size ≤ D → S xs → I xs W → W.heap[D]? = some (.deferred (some [])) → Q .normal { a with defers := { target := .collected D, args := #[] } :: a.defers } W)
    (hstop : ∀ (D : Nat) (c : Code) (pre : List α) (W : World), w.heap.size ≤ D → Sp pre → Ix c pre W → W.heap[D]? = some (.deferred (some [])) → c.wpIn F n P Q { a with defers := { target := .collected D, args := #[] } :: a.defers } W) :
    (Code.rangeFunc g ps assign body).wpIn F n P Q a w := by
  refine wpIn_rangeFunc (fun fn hfn => ?_)
  rw [hro]
  -- the two blocks that the statement lays: the deferred calls, the loop
  obtain ⟨D, hD⟩ : ∃ D, w.heap.size = D := ⟨_, rfl⟩
  obtain ⟨rc, hrc⟩ : ∃ rc, rc = lrec fn a.tmps ps assign body D := ⟨_, rfl⟩
  obtain ⟨W1, hW1⟩ : ∃ W1, (w.alloc (.deferred (some []))).alloc (.loop (rc .ready none)) = W1 := ⟨_, rfl⟩
  have blk1 : W1.heap[D + 1]? = some (.loop (rc .ready none)) := by
    have h := World.alloc_heap_new (w.alloc (.deferred (some []))) (.loop (rc .ready none))
    rw [World.size_alloc, hD] at h
    rw [← hW1]; exact h
  have blk0 : W1.heap[D]? = some (.deferred (some [])) := by
    rw [← hW1, ← hD]; exact (Below.heap_alloc _ _ _ (by simp)).trans (World.alloc_heap_new w _)
  have hsz1 : W1.heap.size = D + 2 := by rw [← hW1]; simp [hD]
  have bel1 : Below w0.heap.size w0 W1 := by
    rw [← hW1]; exact hb0.trans ((((Below.refl _ w).alloc (Nat.le_refl _) _).alloc (by simp) _).mono hb0.size)
  have inv1 : I [] W1 := by rw [← hW1]; exact hI.alloc _ (hI.alloc _ h0)
  have ent : (Instr.enterLoop fn a.tmps ps assign body none).run P w = .ok (D + 1, [{ target := .collected D, args := #[] }]) W1 := by
    rw [← hW1, hrc, ← hD]; exact run_enterLoop_outer _ _ _ _ _
  refine ⟨D + 1, [{ target := .collected D, args := #[] }], W1, { target := .fn (.func gf) lb, args := #[.func (.yield (D + 1)) #[] #[]] }, W1, gf, #[.func (.yield (D + 1)) #[] #[]] ++ lb, W1, ent, ?_, ?_, ?_, fun _ => h1, ?_⟩
  · simp only [resolve, hg]
    simp [go_sem]
  · intro f' hf'; simp [Target.leads] at hf'; subst hf'; exact hFg
  · simp [invoke, go_sem, eg]
  -- what a step of the iterator's own leaves of the two blocks, and of an invariant
  have keep2 : ∀ {X Y : World} {row : Option Nat} {o : Obj} {k : Nat}, X.grownBy Y row → (∀ r, row = some r → W1.heap.size ≤ r ∧ ∃ o : Obj, X.heap[r]? = some o ∧ o.isWalk = true) → X.heap[k]? = some o → o.isWalk = false → Y.heap[k]? = some o :=
    fun hg' hr hk hw => (grownBy_keeps hg' (fun r e => (hr r e).2) hk hw).trans hk
  have own : ∀ {X : World} {row : Option Nat}, (∀ r, row = some r → W1.heap.size ≤ r ∧ ∃ o : Obj, X.heap[r]? = some o ∧ o.isWalk = true) → (∀ r, row = some r → w.heap.size ≤ r ∧ ∃ o : Obj, X.heap[r]? = some o ∧ o.isCells = false) := fun hr r e => by
    obtain ⟨hB, o, ho, hw⟩ := hr r e
    exact ⟨by omega, o, ho, Obj.not_cells_of_walk hw⟩
  refine (hseq (D + 1) (fun pre X => I pre X ∧ X.heap[D + 1]? = some (.loop (rc .ready none)) ∧ X.heap[D]? = some (.deferred (some [])))
    (fun pre X => ∃ c, Ix c pre X ∧ X.heap[D + 1]? = some (.loop (rc .done (some c))) ∧ X.heap[D]? = some (.deferred (some []))) W1 bel1
    (fun s X Y row hs hg' hr => ⟨hI s X Y row hs.1 hg' (own hr), keep2 hg' hr hs.2.1 rfl, keep2 hg' hr hs.2.2 rfl⟩)
    (fun s X Y row hs hg' hr => by
      obtain ⟨c, hc, hl, hk⟩ := hs
      exact ⟨c, hIx c s X Y row hc hg' (own hr), keep2 hg' hr hl rfl, keep2 hg' hr hk rfl⟩)
    ?_ ⟨inv1, blk1, blk0⟩).mono ?_
  · -- a round
    rintro pre x X0 X ⟨hi, hl0, hk0⟩ fX hv
    have hl := fX.cells hl0 (fun h => h)
    have hk := fX.cells hk0 (fun h => h)
    have hlt := lt_of_row hl
    have hy := run_yield (P := P) (args := encs x) hl (by rw [hrc]; exact hps x)
    rw [hrc] at hy
    refine ⟨fn, _, assign, body, hy, roundIn_of_wpIn hfn (hassign _ pre x X0 X _ hi fX hv (fun a1 X' kX KX i1 => ?_))⟩
    rw [hD] at kX
    have hl' := kX.same (D + 1) _ (by omega) hl rfl
    have hk' := kX.same D _ (Nat.le_refl _) hk rfl
    have hlt' := lt_of_row hl'
    obtain ⟨Y, hY⟩ : ∃ Y, X'.putObj (D + 1) (.loop (rc .busy none)) = Y := ⟨_, rfl⟩
    have hbeg := run_beginRound (P := P) hl' (by rw [hrc]; rfl)
    have yl : Y.heap[D + 1]? = some (.loop (rc .busy none)) := by rw [← hY]; exact World.putObj_heap_same hlt'
    have yk : Y.heap[D]? = some (.deferred (some [])) := by rw [← hY]; exact (World.putObj_heap_other (by omega)).trans hk'
    have yi : I1 pre x a1 Y := by rw [← hY]; exact hIb pre x a1 X' _ _ _ (by omega) hl' rfl rfl i1
    have yK : Kp X Y := by rw [← hY]; exact hKt KX (hKb _ _ _ _ (by omega) hl' rfl rfl)
    rw [hrc] at hbeg
    refine ⟨_, hbeg, ?_⟩
    rw [show ({ lrec fn a.tmps ps assign body D .ready none with state := .busy } : Loop) = lrec fn a.tmps ps assign body D .busy none from rfl, ← hrc, hY]
    refine wpIn_mono (hbody _ pre x a1 Y yi) ?_
    rw [hrc] at yl
    rintro e a3 Z hp
    cases e with
    | normal =>
      obtain ⟨hk3, hkp, hi3⟩ := hp
      rw [hD] at hk3
      obtain ⟨hr, hl3, hl4, hk4⟩ := round_end (P := P) (by omega) yl yk hk3 none
      rw [hrc]
      exact ⟨_, _, hr, .inl ⟨rfl, ⟨hI.putObj _ hi3 (by omega) hl3 rfl, hl4, hk4⟩, hKt (hKt yK hkp) (hKb _ _ _ _ (by omega) hl3 rfl rfl)⟩⟩
    | ret =>
      obtain ⟨hk3, hi3⟩ := hp
      rw [hD] at hk3
      obtain ⟨hr, hl3, hl4, hk4⟩ := round_end (P := P) (by omega) yl yk hk3 (some .ret)
      rw [hrc]
      exact ⟨_, _, hr, .inr ⟨rfl, .ret, (hIx _).putObj _ hi3 (by omega) hl3 rfl, hl4, hk4⟩⟩
    | exit id =>
      obtain ⟨hk3, hi3⟩ := hp
      rw [hD] at hk3
      obtain ⟨hr, hl3, hl4, hk4⟩ := round_end (P := P) (by omega) yl yk hk3 (some (.exit id))
      rw [hrc]
      exact ⟨_, _, hr, .inr ⟨rfl, .exit id, (hIx _).putObj _ hi3 (by omega) hl3 rfl, hl4, hk4⟩⟩
    | goto t =>
      obtain ⟨hk3, hi3⟩ := hp
      rw [hD] at hk3
      obtain ⟨hr, hl3, hl4, hk4⟩ := round_end (P := P) (by omega) yl yk hk3 (some (.goto t))
      rw [hrc]
      exact ⟨_, _, hr, .inr ⟨rfl, .goto t, (hIx _).putObj _ hi3 (by omega) hl3 rfl, hl4, hk4⟩⟩
    | panic ch => exact hp.elim
    | outgrown => exact hp.elim
  · -- behind the iterator
    rintro e X ⟨⟨v, rfl⟩, (⟨xs, hS, hi, hl, hk⟩ | ⟨pre, hSp, c, hi, hl, hk⟩)⟩
    · have he := run_endLoop (P := P) hl (by rw [hrc]; simp [lrec])
      rw [hrc] at he
      refine ⟨none, _, he, ?_⟩
      exact hdone _ xs _ (by omega) hS (hI.putObj _ hi (by omega) hl rfl) ((World.putObj_heap_other (by omega)).trans hk)
    · have he := run_endLoop (P := P) hl (by rw [hrc]; simp [lrec])
      rw [hrc] at he
      refine ⟨some c, _, he, ?_⟩
      exact hstop _ c pre _ (by omega) hSp ((hIx c).putObj _ hi (by omega) hl rfl) ((World.putObj_heap_other (by omega)).trans hk)
/-- WHAT A ROUND KEEPS: all cells but those of M. -/
def Kc (M : Nat → Prop) (W W' : World) : Prop := ∀ k cs t m, W.heap[k]? = some (.cells cs t m) → ¬ M k → W'.heap[k]? = W.heap[k]?
theorem Kc.refl (M : Nat → Prop) (W : World) : Kc M W W := fun _ _ _ _ _ _ => rfl
theorem Kc.trans {M : Nat → Prop} {A B C : World} (h : Kc M A B) (k : Kc M B C) : Kc M A C := fun i cs t m hi hM => by
  have h1 := h i cs t m hi hM
  rw [k i cs t m (h1.trans hi) hM, h1]
theorem Kc.of_fr {M : Nat → Prop} {W W' : World} (h : Fr (fun _ => False) W W') : Kc M W W' := fun k cs t m hk _ => h.block k (lt_of_row hk) (fun h => h)
theorem Kc.cell {M : Nat → Prop} {W W' : World} (h : Kc M W W') {b o : Nat} {u : Value} (hc : W.cell? ⟨b, o, none⟩ = some u) (hM : ¬ M b) : W'.cell? ⟨b, o, none⟩ = some u := by
  have hex : ∃ cs t m, W.heap[b]? = some (.cells cs t m) := by
    unfold World.cell? at hc
    simp only at hc
    split at hc
    · rename_i cs t m he
      exact ⟨cs, t, m, he⟩
    · cases hc
  obtain ⟨cs, t, m, he⟩ := hex
  rw [World.cell?_of_block (w := W) (w' := W') (h b cs t m he hM)]
  exact hc
theorem Kc.putObj {M : Nat → Prop} {W : World} {l : Nat} {o : Obj} (o' : Obj) (h : W.heap[l]? = some o) (hc : o.isCells = false) : Kc M W (W.putObj l o') := fun k cs t m hk _ => World.putObj_heap_other (fun e => by
  subst e
  rw [h] at hk
  cases hk
  cases hc)
/-- .. and the memory grows -/
def Kz (M : Nat → Prop) (W W' : World) : Prop := Kc M W W' ∧ W.heap.size ≤ W'.heap.size
theorem Kz.trans {M : Nat → Prop} {A B C : World} (h : Kz M A B) (k : Kz M B C) : Kz M A C := ⟨h.1.trans k.1, Nat.le_trans h.2 k.2⟩
theorem Kz.putObj {M : Nat → Prop} {W : World} {l : Nat} {o : Obj} (o' : Obj) (h : W.heap[l]? = some o) (hc : o.isCells = false) : Kz M W (W.putObj l o') := ⟨Kc.putObj o' h hc, by simp [World.putObj]⟩
theorem Ro.kc {M : Nat → Prop} {w w' : World} {e : TypeId} {k : Nat} {a : Option Addr} {n c : Nat} {xs : List Value} (h : Ro w e k a n c xs) (hk : Kc M w w') (hM : ∀ j, blk a = some j → ¬ M j) : Ro w' e k a n c xs := by
  refine ⟨h.1, ?_⟩
  rcases h.2 with h0 | ⟨g, o, cur, hv, hg, r⟩
  · exact .inl h0
  · exact .inr ⟨g, o, cur, hv, (hk g _ _ _ hg (hM g (by rw [hv]; rfl))).trans hg, r⟩
/-- a step that turns no cells keeps them -/
theorem Kz.grown {M : Nat → Prop} {W W' : World} {row : Option Nat} (hg : W.grownBy W' row) (hr : ∀ r, row = some r → ∃ o : Obj, W.heap[r]? = some o ∧ o.isCells = false) : Kz M W W' :=
  ⟨fun k cs t m hk _ => hg.block k (lt_of_row hk) (fun e => by
    obtain ⟨o, ho, hc⟩ := hr k e.symm
    rw [ho] at hk
    cases hk
    cases hc), hg.size⟩
theorem Kz.of_fr {M : Nat → Prop} {W W' : World} (h : Fr (fun _ => False) W W') : Kz M W W' := ⟨Kc.of_fr h, h.size⟩
theorem Kz.of_fr' {S : Nat → Prop} {W W' : World} (h : Fr S W W') : Kz S W W' := ⟨fun k cs t m hk hn => h.block k (lt_of_row hk) hn, h.size⟩
theorem Kz.mono {M N : Nat → Prop} {W W' : World} (h : Kz M W W') (hN : ∀ k, M k → N k) : Kz N W W' := ⟨fun k cs t m hk hn => h.1 k cs t m hk (fun e => hn (hN k e)), h.2⟩
theorem Fr.own {S : Nat → Prop} {w W W' : World} {row : Option Nat} (h : Fr S w W) (hg : W.grownBy W' row) (hr : ∀ r, row = some r → w.heap.size ≤ r) : Fr S w W' :=
  h.trans (Fr.of_grown hg) (fun i hi e => by have := hr i e; omega)
theorem wp_of_actC {F : Fence} {n : Nat} {P : Program} {c : Code} {Q : Exit → Act → World → Prop} {a : Act} {w : World} (h : ∀ a0, a0 = a → c.wpIn F n P Q a0 w) : c.wpIn F n P Q a w := h a rfl
end Go.Proofs.YtilbdpnioajkoaaGreat

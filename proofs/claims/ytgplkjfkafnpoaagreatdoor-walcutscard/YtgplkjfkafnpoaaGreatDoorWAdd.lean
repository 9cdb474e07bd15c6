/-
  A segment more, a record more: in memory.
-/
import Derived.Test.YtgplkjfkafnpoaaGreatDoorWPlace
namespace Go.Proofs.YtgplkjfkafnpoaaGreatDoor
open Go.RowKit
set_option linter.unusedVariables false

theorem scs_set1 {l : List SM} {i : Nat} {m m' : SM} (h : l[i]? = some m) (hn : m'.first = m.first) : (scs l).set (i * 2 + 1) (.slice m'.ra m'.rl.length m'.rc) = scs (l.set i m') := by
  induction l generalizing i with
  | nil => simp at h
  | cons x r ih =>
    cases i with
    | zero => simp at h; subst h; simp [scs, SM.cs, hn]
    | succ i =>
      simp at h
      have := ih h
      simp only [scs, List.flatMap_cons, List.set_cons_succ] at this ⊢
      rw [← this, List.set_append_right _ _ (by simp [SM.cs]; omega)]
      congr 2
      simp [SM.cs]
      omega
theorem ownsRow_set {w : World} {e : TypeId} {k g n c : Nat} {xs xs' : List Value} (h : w.ownsRow 0 e k (.slice (some ⟨g, 0, none⟩) n c) n xs) {j : Nat} {v : Value} (hc : xs.set j v = xs') : (w.setCell ⟨g, j, none⟩ v).ownsRow 0 e k (.slice (some ⟨g, 0, none⟩) n c) n xs' := by
  rcases h.2 with ⟨hv, _⟩ | ⟨g', cap, cur, hv, hb, hg, h1, h2, h3, h4⟩
  · simp at hv
  · simp only [Value.slice.injEq, Option.some.injEq, Addr.mk.injEq] at hv
    obtain ⟨⟨rfl, _⟩, _, rfl⟩ := hv
    refine ⟨by rw [← hc, List.length_set]; exact h.1, .inr ⟨g, c, cur.setIfInBounds j v, rfl, hb, setCell_row hg v, h1, h2, by simpa using h3, ?_⟩⟩
    rw [Array.toList_setIfInBounds, List.take_set, h4, hc]
theorem ownsRow_frozen {w : World} {e : TypeId} {k g n c : Nat} {xs : List Value} (h : w.ownsRow 0 e k (.slice (some ⟨g, 0, none⟩) n c) n xs) (j : Nat) : w.frozen? ⟨g, j, none⟩ = false := by
  rcases h.2 with ⟨hv, _⟩ | ⟨g', cap, cur, hv, hb, hg, _⟩
  · simp at hv
  · simp only [Value.slice.injEq, Option.some.injEq, Addr.mk.injEq] at hv
    obtain ⟨⟨rfl, _⟩, _⟩ := hv
    exact frozen_of_row hg
theorem ownsRow_lt {w : World} {e : TypeId} {k : Nat} {a : Option Addr} {n c : Nat} {xs : List Value} (h : w.ownsRow 0 e k (.slice a n c) n xs) : ∀ j, blk a = some j → j < w.heap.size := fun j hj => by
  rcases h.2 with ⟨hv, _⟩ | ⟨g, cap, cur, hv, hb, hg, _⟩
  · simp only [Value.slice.injEq] at hv
    rw [hv.1] at hj; simp [blk] at hj
  · simp only [Value.slice.injEq] at hv
    rw [hv.1] at hj
    simp [blk] at hj
    subst hj
    exact lt_of_row hg
/-- where a row lies behind an append -/
def At (w : World) (a a' : Option Addr) : Prop := a' = a ∨ ∃ k, a' = some ⟨k, 0, none⟩ ∧ w.heap.size ≤ k
theorem Lm.addSeg {c : Nat → Option LC} {w w1 : World} {q p : Nat} {sa sa' : Option Addr} {sc sc' : Nat} {sl : List SM} {L : W.LG} (h : Lm c w q p sa sc sl L) (first : Int)
    (hrow : Ro w1 112 2 sa' (sl.length + 1) sc' (scs (sl ++ [⟨first, none, 0, []⟩]))) (hf : Fr (fun k => blk sa = some k) w w1) (hpl : At w sa sa') :
    Lm (fun k => if blk sa' = some k then some .segs else c k) (w1.setCell ⟨q, 2, none⟩ (.slice sa' (sl.length + 1) sc')) q p sa' sc' (sl ++ [⟨first, none, 0, []⟩]) { L with segs := L.segs ++ [⟨first, []⟩] } := by
  have hqs : blk sa ≠ some q := fun e => by have := h.cs q e; rw [h.cq] at this; simp at this
  have hql := lt_of_row h.at_
  have hqs' : blk sa' ≠ some q := by
    rcases hpl with rfl | ⟨k, rfl, hk⟩
    · exact hqs
    · simp [blk]; omega
  have hf2 : Fr (fun k => k = q) w1 (w1.setCell ⟨q, 2, none⟩ (.slice sa' (sl.length + 1) sc')) := Fr.setCell (p := ⟨q, 2, none⟩) (S := fun k => k = q) (Fr.refl _ _) (fun _ => rfl) _
  have hfa : Fr (fun k => blk sa = some k ∨ k = q) w (w1.setCell ⟨q, 2, none⟩ (.slice sa' (sl.length + 1) sc')) := (hf.mono (fun _ _ e => .inl e)).trans hf2 (fun _ _ e => .inr e)
  have hle : ∀ k, c k ≠ none → (if blk sa' = some k then some LC.segs else c k) = c k := fun k hk => by
    split
    · rename_i e
      rcases hpl with rfl | ⟨j, rfl, hj⟩
      · exact (h.cs k e).symm
      · simp [blk] at e
        have := h.lt k hk
        omega
    · rfl
  refine ⟨?_, ?_, ?_, fun k hk => by rw [if_pos hk], fun i s hi => ?_, ?_, fun k hk => ?_⟩
  · rw [setCell_row (hf.cells h.at_ hqs)]
    simp
  · have := hrow.kept hf2 (fun k hk e => hqs' (by rw [hk, e]))
    simpa using this
  · rw [if_neg hqs']; exact h.cq
  · rw [List.getElem?_append] at hi
    split at hi
    · refine ((h.sg i s hi).kept hfa (fun k hk e => ?_)).le hle
      rcases e with e | e
      · have := h.cs k e
        rcases hk with hk | hk <;> rw [this] at hk <;> simp at hk
      · rw [e, h.cq] at hk; simp at hk
    · have : s = ⟨first, none, 0, []⟩ := by
        have hm := List.mem_of_getElem? hi
        simpa using hm
      subst this
      exact ⟨⟨rfl, .inl ⟨rfl, rfl⟩⟩, by simp [blk], by simp, by simp⟩
  · rw [List.map_append, h.eq]; rfl
  · have h2 := hf2.size
    by_cases e : blk sa' = some k
    · have := hrow.lt k e
      omega
    · rw [if_neg e] at hk
      have := h.lt k hk
      have := hf.size
      omega
theorem W.more_last {l : List W.SG} {i : Nat} {s : W.SG} (h : l[i]? = some s) (hl : i + 1 = l.length) (b : List UInt8) : W.more l b = l.set i ⟨s.first, s.recs ++ [b]⟩ := by
  induction l generalizing i with
  | nil => simp at hl
  | cons x r ih =>
    cases i with
    | zero =>
      have : r = [] := List.eq_nil_of_length_eq_zero (by rw [List.length_cons] at hl; omega)
      subst this
      simp at h
      subst h
      rfl
    | succ i =>
      cases r with
      | nil => simp at hl
      | cons y t =>
        simp at h
        have := ih h (by simp at hl ⊢; omega)
        show x :: W.more (y :: t) b = _
        rw [this]
        rfl
theorem Lm.addRec {c : Nat → Option LC} {w w1 : World} {q p g fo : Nat} {sc : Nat} {sl : List SM} {L : W.LG} (h : Lm c w q p (some ⟨g, fo, none⟩) sc sl L) {i : Nat} {m : SM} (hi : sl[i]? = some m) (hlast : i + 1 = sl.length) {ra' : Option Addr} {rc' : Nat} {ba : Option Addr} {bc : Nat} {b : List UInt8}
    (hrow : w1.ownsRow 0 50 1 (.slice ra' (m.rl.length + 1) rc') (m.rl.length + 1) ((m.rl ++ [(⟨ba, bc, b⟩ : RcM)]).map RcM.v)) (hf : Fr (fun k => blk m.ra = some k) w w1) (hpl : At w m.ra ra') (hby : Sl w1 ba b.length b) (hbb : 0 < b.length → ∀ k, blk ba = some k → w.heap.size ≤ k ∧ blk ra' ≠ some k) :
    Lm (fun k => if blk ra' = some k then some (.recs i) else if 0 < b.length ∧ blk ba = some k then some .byte else c k) (w1.setCell ⟨g, fo + i * 2 + 1, none⟩ (.slice ra' (m.rl.length + 1) rc')) q p (some ⟨g, fo, none⟩) sc (sl.set i ⟨m.first, ra', rc', m.rl ++ [⟨ba, bc, b⟩]⟩) { L with segs := W.more L.segs b } := by
  have hS := h.sg i m hi
  have hcg : c g = some .segs := h.cs g rfl
  have hgl := h.lt g (by rw [hcg]; simp)
  have hra : ∀ k, blk ra' = some k → (c k = some (.recs i) ∨ w.heap.size ≤ k) := fun k hk => by
    rcases hpl with rfl | ⟨j, rfl, hj⟩
    · exact .inl (hS.cr k hk)
    · simp [blk] at hk; subst hk; exact .inr hj
  have hf2 : Fr (fun k => k = g) w1 (w1.setCell ⟨g, fo + i * 2 + 1, none⟩ (.slice ra' (m.rl.length + 1) rc')) := Fr.setCell (p := ⟨g, fo + i * 2 + 1, none⟩) (S := fun k => k = g) (Fr.refl _ _) (fun _ => rfl) _
  have hfa : Fr (fun k => blk m.ra = some k ∨ k = g) w (w1.setCell ⟨g, fo + i * 2 + 1, none⟩ (.slice ra' (m.rl.length + 1) rc')) := (hf.mono (fun _ _ e => .inl e)).trans hf2 (fun _ _ e => .inr e)
  have hle : ∀ k, c k ≠ none → (if blk ra' = some k then some (LC.recs i) else if 0 < b.length ∧ blk ba = some k then some .byte else c k) = c k := fun k hk => by
    have hlt := h.lt k hk
    split
    · rename_i e
      rcases hra k e with e2 | e2
      · exact e2.symm
      · omega
    · split
      · rename_i e
        have := (hbb e.1 k e.2).1
        omega
      · rfl
  have hgr : blk ra' ≠ some g := fun e => by
    rcases hra g e with e2 | e2
    · rw [hcg] at e2; simp at e2
    · omega
  have hmr : blk m.ra ≠ some g := fun e => by have := hS.cr g e; rw [hcg] at this; simp at this
  have hmq : blk m.ra ≠ some q := fun e => by have := hS.cr q e; rw [h.cq] at this; simp at this
  have hqg : q ≠ g := fun e => by have := h.cq; rw [e, hcg] at this; simp at this
  have hlen : (sl.set i ⟨m.first, ra', rc', m.rl ++ [⟨ba, bc, b⟩]⟩).length = sl.length := by simp
  refine ⟨?_, ?_, ?_, fun k hk => ?_, fun j s hj => ?_, ?_, fun k hk => ?_⟩
  · rw [hlen]
    exact hf2.cells (hf.cells h.at_ hmq) hqg
  · rw [hlen]
    refine Ro.set (j := i * 2 + 1) (h.row.kept hf (fun k hk e => ?_)) ?_
    · simp [blk] at hk; subst hk; exact hmr e
    · have := scs_set1 (m' := ⟨m.first, ra', rc', m.rl ++ [⟨ba, bc, b⟩]⟩) hi rfl
      simpa using this
  · rw [hle q (by rw [h.cq]; simp)]; exact h.cq
  · rw [hle k (by rw [h.cs k hk]; simp)]; exact h.cs k hk
  · by_cases e : j = i
    · subst e
      rw [List.getElem?_set_self (by have := (List.getElem?_eq_some_iff.1 hi).1; exact this)] at hj
      simp only [Option.some.injEq] at hj
      subst hj
      refine ⟨?_, fun k hk => by rw [if_pos hk], fun r hr => ?_, fun r hr hz k hk => ?_⟩
      · have := ownsRow_kept hrow hf2 (fun k hk e => hgr (by rw [hk, e]))
        simpa using this
      · rcases List.mem_append.1 hr with hr | hr
        · refine (hS.by_ r hr).kept hfa (fun hz k hk e => ?_)
          have := hS.cb r hr hz k hk
          rcases e with e | e
          · rw [hS.cr k e] at this; simp at this
          · rw [e, hcg] at this; simp at this
        · simp at hr
          subst hr
          exact hby.kept hf2 (fun hz k hk e => by have := (hbb hz k hk).1; omega)
      · rcases List.mem_append.1 hr with hr | hr
        · have := hS.cb r hr hz k hk
          rw [hle k (by rw [this]; simp)]
          exact this
        · simp at hr
          subst hr
          simp only at hz hk
          rw [if_neg (hbb hz k hk).2, if_pos ⟨hz, hk⟩]
    · rw [List.getElem?_set_ne (fun h => e h.symm)] at hj
      have hSj := h.sg j s hj
      refine (hSj.kept hfa (fun k hk e2 => ?_)).le hle
      rcases e2 with e2 | e2
      · have := hS.cr k e2
        rcases hk with hk | hk <;> rw [this] at hk <;> simp at hk
        exact e hk.symm
      · rw [e2, hcg] at hk; simp at hk
  · show (sl.set i _).map SM.sg = W.more L.segs b
    have h1 : L.segs[i]? = some m.sg := by rw [← h.eq, List.getElem?_map, hi]; rfl
    rw [W.more_last h1 (by rw [← h.eq, List.length_map]; exact hlast) b, List.map_set, h.eq]
    congr 1
    simp [SM.sg]
  · have h2 := hf2.size
    have h3 := hf.size
    by_cases e : blk ra' = some k
    · have := ownsRow_lt hrow k e
      omega
    · rw [if_neg e] at hk
      by_cases e2 : 0 < b.length ∧ blk ba = some k
      · have := hby.lt e2.1 k e2.2
        omega
      · rw [if_neg e2] at hk
        have := h.lt k hk
        omega

theorem W.more_snoc (l : List W.SG) (f : Int) (b : List UInt8) : W.more (l ++ [⟨f, []⟩]) b = l ++ [⟨f, [b]⟩] := by
  induction l with
  | nil => rfl
  | cons x r ih =>
    cases r with
    | nil => rfl
    | cons y t => show x :: W.more (y :: t ++ [⟨f, []⟩]) b = _; rw [ih]; rfl
/-- the record is there: the log behind it, ahead of its own cells -/
theorem Lm.rec_done {c : Nat → Option LC} {w w7 w8 : World} {q p g fo : Nat} {sc : Nat} {sl : List SM} {L : W.LG} (h : Lm c w q p (some ⟨g, fo, none⟩) sc sl L) {i : Nat} {m : SM} (hi : sl[i]? = some m) (hlast : i + 1 = sl.length) {ra' : Option Addr} {rc' : Nat} {ba : Option Addr} {bc bl n : Nat} {b : List UInt8} (hn : m.rl.length = n) (hbl : b.length = bl)
    (hf7 : Fr (fun _ => False) w w7) (how : Ow w.heap.size w7 ba bc b) (hrow : w8.ownsRow 0 50 1 (.slice ra' (n + 1) rc') (n + 1) (m.rl.map RcM.v ++ [.slice ba bl bc])) (hf8 : Fr (fun k => blk m.ra = some k) w7 w8) (hpl : ra' = m.ra ∨ ∃ k, ra' = some ⟨k, 0, none⟩ ∧ w7.heap.size < k) :
    ∃ c', Lm c' (w8.setCell ⟨g, fo + i * 2 + 1, none⟩ (.slice ra' (n + 1) rc')) q p (some ⟨g, fo, none⟩) sc (sl.set i ⟨m.first, ra', rc', m.rl ++ [⟨ba, bc, b⟩]⟩) { L with segs := W.more L.segs b } ∧ (∀ k, c' k ≠ none → c k ≠ none ∨ w.heap.size ≤ k) ∧ Fr (fun k => c k ≠ none) w (w8.setCell ⟨g, fo + i * 2 + 1, none⟩ (.slice ra' (n + 1) rc')) := by
  subst hn
  subst hbl
  have hS := h.sg i m hi
  have hf : Fr (fun k => blk m.ra = some k) w w8 := (hf7.mono (fun _ _ h => h.elim)).trans hf8 (fun _ _ h => h)
  have hmlt : ∀ k, blk m.ra = some k → k < w.heap.size := fun k hk => h.lt k (by rw [hS.cr k hk]; simp)
  have hby : Sl w8 ba b.length b := how.sl.kept hf8 (fun hz k hk e => by have h1 := (how.lt k hk).1; have h2 := hmlt k e; omega)
  have hbb : 0 < b.length → ∀ k, blk ba = some k → w.heap.size ≤ k ∧ blk ra' ≠ some k := fun hz k hk => by
    have h1 := how.lt k hk
    refine ⟨h1.1, fun e => ?_⟩
    rcases hpl with rfl | ⟨j, rfl, hj⟩
    · have := hmlt k e; omega
    · simp [blk] at e; omega
  have hpl' : At w m.ra ra' := by
    rcases hpl with e | ⟨j, e, hj⟩
    · exact .inl e
    · exact .inr ⟨j, e, by have := hf7.size; omega⟩
  have hm := h.addRec hi hlast (b := b) (ba := ba) (bc := bc) (by rw [List.map_append]; exact hrow) hf hpl' hby hbb
  refine ⟨_, hm, fun k hk => ?_, ?_⟩
  · by_cases e : blk ra' = some k
    · rcases hpl' with e2 | ⟨j, e2, hj⟩
      · rw [e2] at e
        exact .inl (by rw [hS.cr k e]; simp)
      · rw [e2] at e
        simp [blk] at e
        exact .inr (by omega)
    · simp only [if_neg e] at hk
      by_cases e2 : 0 < b.length ∧ blk ba = some k
      · exact .inr (hbb e2.1 k e2.2).1
      · rw [if_neg e2] at hk
        exact .inl hk
  · have hcg : c g ≠ none := by rw [h.cs g rfl]; simp
    exact Fr.setCell (p := ⟨g, fo + i * 2 + 1, none⟩) (hf.mono (fun k _ e => by rw [hS.cr k e]; simp)) (fun _ => hcg) _
/-- .. and its own cells -/
theorem Lm.counted {c : Nat → Option LC} {w : World} {q p : Nat} {sa : Option Addr} {sc : Nat} {sl : List SM} {L : W.LG} (h : Lm c w q p sa sc sl L) :
    Lm c ((w.setCell ⟨q, 3, none⟩ (.int .i64 (L.next + 1))).setCell ⟨q, 5, none⟩ (.bool true)) q p sa sc sl { L with next := L.next + 1, dirty := true } ∧ Fr (fun k => k = q) w ((w.setCell ⟨q, 3, none⟩ (.int .i64 (L.next + 1))).setCell ⟨q, 5, none⟩ (.bool true)) := by
  have hf : Fr (fun k => k = q) w ((w.setCell ⟨q, 3, none⟩ (.int .i64 (L.next + 1))).setCell ⟨q, 5, none⟩ (.bool true)) := Fr.setCell (p := ⟨q, 5, none⟩) (Fr.setCell (p := ⟨q, 3, none⟩) (S := fun k => k = q) (Fr.refl _ _) (fun _ => rfl) _) (fun _ => rfl) _
  exact ⟨h.own hf (by rw [setCell_row (setCell_row h.at_ _)]; rfl) rfl, hf⟩

end Go.Proofs.YtgplkjfkafnpoaaGreatDoor

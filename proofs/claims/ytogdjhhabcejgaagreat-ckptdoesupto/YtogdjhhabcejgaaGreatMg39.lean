/-
  Rows of files: slices of them, append of them.
  The document's disk: Names.
-/
import Derived.Test.YtogdjhhabcejgaaGreatRSyncQ
namespace Go.Proofs.YtogdjhhabcejgaaGreat
open Go.RowKit Go.Maps
set_option linter.unusedVariables false

theorem infoF : (Tryz.prog.info? 61).map (fun i => (i.zero, i.size, i.bytes)) = some (some (.agg #[.string ⟨#[]⟩, .slice none 0 0, .int .i64 0]), 3, 48) := by kernel_rfl
/-- what a slice of files reads as -/
def Fs (w : World) (a : Option Addr) (n : Nat) (l : List RM) : Prop := l.length = n ∧ ((a = none ∧ n = 0) ∨ ∃ ad, a = some ad ∧ ∀ j u, (rcs l)[j]? = some u → w.cell? (ad.add j) = some u)
theorem Rw.fs {w : World} {fa : Option Addr} {fc : Nat} {l : List RM} (h : Rw w fa fc l) : Fs w fa l.length l := by
  refine ⟨rfl, ?_⟩
  rcases h.2 with ⟨hv, h0⟩ | ⟨g, cap, cur, hv, hb, hg, h1, h2, h3, h4⟩
  · simp only [Value.slice.injEq] at hv
    exact .inl ⟨hv.1, h0⟩
  · simp only [Value.slice.injEq] at hv
    refine .inr ⟨_, hv.1, fun j u hu => ?_⟩
    rw [Addr.add_lit, Nat.zero_add]
    rw [← h4, List.getElem?_take] at hu
    split at hu
    · exact cell_of hg (by simpa using hu)
    · cases hu
theorem rcs_take (l : List RM) (k : Nat) : rcs (l.take k) = (rcs l).take (k * 3) := by
  induction l generalizing k with
  | nil => simp [rcs]
  | cons x r ih =>
    cases k with
    | zero => simp [rcs]
    | succ k =>
      have := ih k
      simp only [rcs, List.take_succ_cons, List.flatMap_cons] at this ⊢
      rw [this, List.take_append, show (k + 1) * 3 - x.cs.length = k * 3 by simp [RM.cs]; omega, List.take_of_length_le (l := x.cs) (by simp [RM.cs]; omega)]
theorem rcs_drop (l : List RM) (k : Nat) : rcs (l.drop k) = (rcs l).drop (k * 3) := by
  induction l generalizing k with
  | nil => simp [rcs]
  | cons x r ih =>
    cases k with
    | zero => simp [rcs]
    | succ k =>
      have := ih k
      simp only [rcs, List.drop_succ_cons, List.flatMap_cons] at this ⊢
      rw [this, List.drop_append, show (k + 1) * 3 - x.cs.length = k * 3 by simp [RM.cs]; omega, (show x.cs.drop ((k + 1) * 3) = [] from List.drop_eq_nil_of_le (by simp [RM.cs]; omega)), List.nil_append]
theorem Fs.take {w : World} {a : Option Addr} {n : Nat} {l : List RM} (h : Fs w a n l) (k : Nat) (hk : k ≤ n) : Fs w a k (l.take k) := by
  refine ⟨by rw [List.length_take, h.1]; omega, ?_⟩
  rcases h.2 with ⟨rfl, rfl⟩ | ⟨ad, rfl, hc⟩
  · exact .inl ⟨rfl, by omega⟩
  · refine .inr ⟨ad, rfl, fun j u hu => hc j u ?_⟩
    rw [rcs_take, List.getElem?_take] at hu
    split at hu
    · exact hu
    · cases hu
/-- the address of a later part -/
def cutF (a : Option Addr) (c l : Nat) : Option Addr := if c = l then a else a.map (·.add (l * 3))
theorem run_cutF_hi (w : World) (a : Option Addr) (n c h : Nat) (hh : h ≤ c) :
    (Instr.slice 47 (.slice a n c) none (some (.int .i64 (h : Int))) none).run Tryz.prog w = .ok (.slice a h c) w := by
  obtain ⟨i0, hi, hz0, hz1, hz2⟩ := info_parts infoF
  have h1 : (Instr.sliceBound (.int .i64 (h : Int)) c .sliceAcap).run Tryz.prog w = .ok h w := by
    have : (0 : Int) ≤ (h : Int) ∧ (h : Int) ≤ (c : Int) := by omega
    simp [Instr.sliceBound, asIntOf, this]
  simp [Instr.slice, Instr.sliceBounds, h1, run_underlying Tryz.underlying47, sizeOf, typeInfo, hi]
  cases a <;> simp [Addr.add]
theorem run_cutF_lo (w : World) (a : Option Addr) (n c l : Nat) (hl : l ≤ n) (x : Int) (hx : x = (l : Int)) :
    (Instr.slice 47 (.slice a n c) (some (.int .i64 x)) none none).run Tryz.prog w = .ok (.slice (cutF a c l) (n - l) (c - l)) w := by
  subst hx
  obtain ⟨i0, hi, hz0, hz1, hz2⟩ := info_parts infoF
  have h1 : (Instr.sliceBound (.int .i64 (l : Int)) n .sliceB).run Tryz.prog w = .ok l w := by
    have : (0 : Int) ≤ (l : Int) ∧ (l : Int) ≤ (n : Int) := by omega
    simp [Instr.sliceBound, asIntOf, this]
  simp [Instr.slice, Instr.sliceBounds, h1, run_underlying Tryz.underlying47, sizeOf, typeInfo, hi, hz1, cutF]
theorem Fs.drop {w : World} {a : Option Addr} {n c : Nat} {l : List RM} (h : Fs w a n l) (hc : n ≤ c) (k : Nat) (hk : k ≤ n) (hs : ∀ ad, a = some ad → ad.spot = none) : Fs w (cutF a c k) (n - k) (l.drop k) := by
  refine ⟨by rw [List.length_drop, h.1], ?_⟩
  rcases h.2 with ⟨rfl, rfl⟩ | ⟨ad, rfl, hcl⟩
  · refine .inl ⟨?_, by omega⟩
    unfold cutF
    split <;> rfl
  · by_cases e : c = k
    · have h0 : n - k = 0 := by omega
      right
      refine ⟨ad, by unfold cutF; rw [if_pos e], fun j u hu => ?_⟩
      rw [List.drop_eq_nil_of_le (by have := h.1; omega)] at hu
      simp [rcs] at hu
    · right
      refine ⟨ad.add (k * 3), by unfold cutF; rw [if_neg e]; rfl, fun j u hu => ?_⟩
      rw [rcs_drop, List.getElem?_drop] at hu
      have := hcl _ _ hu
      have hsp := hs ad rfl
      obtain ⟨b, o, sp⟩ := ad
      simp only at hsp
      subst hsp
      rw [Addr.add_lit] at this ⊢
      rw [Addr.add_lit]
      rw [show o + k * 3 + j = o + (k * 3 + j) by omega]
      exact this
/-- a row that a call makes out of files -/
abbrev Rb (base : Nat) (w : World) (fa : Option Addr) (fc : Nat) (l : List RM) : Prop := w.ownsRow base 61 3 (.slice fa l.length fc) l.length (rcs l)
theorem Rb.nil (base : Nat) (w : World) : Rb base w none 0 [] := ⟨rfl, .inl ⟨rfl, rfl⟩⟩
theorem Rb.rw {base : Nat} {w : World} {fa : Option Addr} {fc : Nat} {l : List RM} (h : Rb base w fa fc l) : Rw w fa fc l := by
  refine ⟨h.1, ?_⟩
  rcases h.2 with h0 | ⟨g, cap, cur, hv, hb, r⟩
  · exact .inl h0
  · exact .inr ⟨g, cap, cur, hv, Nat.zero_le _, r⟩
theorem Rb.bk {base : Nat} {w : World} {fa : Option Addr} {fc : Nat} {l : List RM} (h : Rb base w fa fc l) : ∀ k, blk fa = some k → base ≤ k ∧ k < w.heap.size := by
  intro k hk
  rcases h.2 with ⟨hv, h0⟩ | ⟨g, cap, cur, hv, hb, hg, r⟩
  · simp only [Value.slice.injEq] at hv
    rw [hv.1] at hk
    simp [blk] at hk
  · simp only [Value.slice.injEq] at hv
    rw [hv.1] at hk
    simp [blk] at hk
    subst hk
    exact ⟨hb, lt_of_row hg⟩
theorem Rb.le {base : Nat} {w : World} {fa : Option Addr} {fc : Nat} {l : List RM} (h : Rb base w fa fc l) : l.length ≤ fc := by
  rcases h.2 with ⟨hv, h0⟩ | ⟨g, cap, cur, hv, hb, hg, h1, r⟩
  · omega
  · simp only [Value.slice.injEq] at hv
    rw [hv.2.2]; exact h1
theorem Rb.spot {base : Nat} {w : World} {fa : Option Addr} {fc : Nat} {l : List RM} (h : Rb base w fa fc l) : ∀ ad, fa = some ad → ad.spot = none := by
  intro ad had
  rcases h.2 with ⟨hv, h0⟩ | ⟨g, cap, cur, hv, hb, hg, h1, r⟩
  · simp only [Value.slice.injEq] at hv
    rw [hv.1] at had; cases had
  · simp only [Value.slice.injEq] at hv
    rw [hv.1] at had; cases had; rfl
/-- append of files onto a row that the call made -/
theorem run_append_f (w : World) (ty : TypeId) (base : Nat) (a : Option Addr) (c : Nat) (l : List RM) (h : Rb base w a c l) (sa : Option Addr) (m sc : Nat) (news : List RM) (hs : Fs w sa m news) (hbd : l.length + m ≤ 100000) (hbase : base ≤ w.heap.size) :
    ∃ a' c' w', (Builtin.append_ #[47, 47] ty #[.slice a l.length c, .slice sa m sc]).run Tryz.prog w = .ok (.slice a' (l ++ news).length c') w' ∧ Rb base w' a' c' (l ++ news) ∧ w.grownBy w' (blk a) := by
  obtain ⟨i0, hi, hz0, hz1, hz2⟩ := info_parts infoF
  have hob : (Value.slice a l.length c).ownBlock = blk a := by cases a <;> rfl
  rcases hs.2 with ⟨rfl, rfl⟩ | ⟨ad, rfl, hc⟩
  · have h0 : news = [] := List.eq_nil_of_length_eq_zero hs.1
    subst h0
    rw [List.append_nil]
    exact ⟨a, c, w, run_append_nothing w 47 47 ty 61 i0 Tryz.underlying47 hi a _ c h.le _ (by rw [hz1]; exact Src.ofNil w Tryz.underlying47 sc), h, ⟨rfl, rfl, rfl, Nat.le_refl _, fun _ _ _ => rfl⟩⟩
  · obtain ⟨v', w', hr, h2, h3, h4⟩ := run_append_own_wide (P := Tryz.prog) w base 47 ty 61 i0 (.agg #[.string ⟨#[]⟩, .slice none 0 0, .int .i64 0]) 3 48 Tryz.underlying47 hi hz0 hz1 hz2 rfl (by omega) _ l.length (rcs l) h ad m sc (rcs news) (by rw [rcs_length, hs.1]) hc (one_rcs news) (by unfold maxLen; omega) (by omega) hbase
    rw [← rcs_append, ← hs.1, ← List.length_append] at h2
    rw [hob] at h3
    rcases h2.2 with ⟨hv, h0⟩ | ⟨g, cap, cur, hv, _⟩
    · refine ⟨none, 0, w', by rw [hr, hv, h0], ?_, h3⟩
      have e0 : l ++ news = [] := List.eq_nil_of_length_eq_zero h0
      rw [e0]
      exact Rb.nil _ _
    · exact ⟨_, cap, w', by rw [hr, hv], by rw [hv] at h2; exact h2, h3⟩

end Go.Proofs.YtogdjhhabcejgaaGreat

namespace Go.Proofs.YtogdjhhabcejgaaGreat
open Go.RowKit Go.Maps
set_option linter.unusedVariables false

theorem infoS : (Tryz.prog.info? 9).map (fun i => (i.zero, i.size, i.bytes)) = some (some (.string ⟨#[]⟩), 1, 16) := by kernel_rfl
/-- a row that a call makes out of names -/
abbrev Nb (base : Nat) (w : World) (a : Option Addr) (c : Nat) (l : List K.Nm) : Prop := w.ownsRow base 9 1 (.slice a l.length c) l.length (l.map encStr)
theorem Nb.nil (base : Nat) (w : World) : Nb base w none 0 [] := ⟨rfl, .inl ⟨rfl, rfl⟩⟩
theorem Nb.bk {base : Nat} {w : World} {fa : Option Addr} {fc : Nat} {l : List K.Nm} (h : Nb base w fa fc l) : ∀ k, blk fa = some k → base ≤ k ∧ k < w.heap.size := by
  intro k hk
  rcases h.2 with ⟨hv, h0⟩ | ⟨g, cap, cur, hv, hb, hg, r⟩
  · simp only [Value.slice.injEq] at hv
    rw [hv.1] at hk
    simp [blk] at hk
  · simp only [Value.slice.injEq] at hv
    rw [hv.1] at hk
    simp [blk] at hk
    subst hk
    exact ⟨hb, lt_of_row hg⟩
theorem Nb.kept {base : Nat} {S : Nat → Prop} {w w' : World} {fa : Option Addr} {fc : Nat} {l : List K.Nm} (h : Nb base w fa fc l) (hf : Fr S w w') (hS : ∀ k, blk fa = some k → ¬ S k) : Nb base w' fa fc l := by
  refine ⟨h.1, ?_⟩
  rcases h.2 with h0 | ⟨g, cap, cur, hv, hb, hg, r⟩
  · exact .inl h0
  · refine .inr ⟨g, cap, cur, hv, hb, hf.cells hg (fun hs => hS g ?_ hs), r⟩
    simp only [Value.slice.injEq] at hv
    rw [hv.1]
    rfl
/-- append of a name onto a row that the call made -/
theorem run_append_n (w : World) (ty : TypeId) (base : Nat) (a : Option Addr) (c : Nat) (l : List K.Nm) (h : Nb base w a c l) (ad : Addr) (sc : Nat) (x : K.Nm) (hs : w.cell? (ad.add 0) = some (encStr x)) (hbd : l.length + 1 ≤ 100000) (hbase : base ≤ w.heap.size) :
    ∃ a' c' w', (Builtin.append_ #[39, 39] ty #[.slice a l.length c, .slice (some ad) 1 sc]).run Tryz.prog w = .ok (.slice a' (l.length + 1) c') w' ∧ Nb base w' a' c' (l ++ [x]) ∧ w.grownBy w' (blk a) := by
  obtain ⟨i0, hi, hz0, hz1, hz2⟩ := info_parts infoS
  have hob : (Value.slice a l.length c).ownBlock = blk a := by cases a <;> rfl
  obtain ⟨v', w', hr, h2, h3, h4⟩ := run_append_own_wide (P := Tryz.prog) w base 39 ty 9 i0 (.string ⟨#[]⟩) 1 16 Tryz.underlying39 hi hz0 hz1 hz2 rfl (by omega) _ l.length (l.map encStr) h ad 1 sc [encStr x] rfl (fun j u hu => by
    match j, hu with
    | 0, hu => simp at hu; subst hu; exact hs) (fun u hu => by simp at hu; subst hu; rfl) (by unfold maxLen; omega) (by omega) hbase
  rw [show l.map encStr ++ [encStr x] = (l ++ [x]).map encStr by simp, show l.length + 1 = (l ++ [x]).length by simp] at h2
  rw [hob] at h3
  rcases h2.2 with ⟨hv, h0⟩ | ⟨g, cap, cur, hv, _⟩
  · simp at h0
  · exact ⟨some ⟨g, 0, none⟩, cap, w', by rw [hr, hv]; simp, by rw [hv] at h2; exact h2, h3⟩
theorem wpList_append_n (w : World) {ops : Array Oper} {rest : List Oper} {o : Oper} {a : Act} {Q : Exit → Act → World → Prop} (hgd : o.guard = none) (s x : Operand)
    (ho : o.op = .call { callee := .builtin .append, args := #[s, x], argTypes := #[39, 39] })
    (base : Nat) (ad : Option Addr) (n c : Nat) (l : List K.Nm) (hs : a.eval s = .slice ad n c) (hn : l.length = n) (hown : Nb base w ad c l)
    (sa : Addr) (sc : Nat) (y : K.Nm) (hx : a.eval x = .slice (some sa) 1 sc) (hsrc : w.cell? (sa.add 0) = some (encStr y)) (hbd : n + 1 ≤ 100000) (hbase : base ≤ w.heap.size)
    (h : ∀ a' c' w', Nb base w' a' c' (l ++ [y]) → w.grownBy w' (blk ad) → wpList Tryz.prog ops Q rest (a.put o.dst (.slice a' (n + 1) c')) w') :
    wpList Tryz.prog ops Q (o :: rest) a w := by
  refine wpList_plain hgd fun K hK => ?_
  subst hn
  obtain ⟨a', c', w', hr, h2, h3⟩ := run_append_n w o.type base ad c l hown sa sc y hsrc hbd hbase
  unfold Oper.wp execOp
  simp only [ho, resolve, invoke, builtin, Sem.run_bind, Sem.run_pure, Result.andThen_ok, List.map_toArray, List.map_cons, List.map_nil, hs, hx, hr]
  exact hK _ _ (h a' c' w' h2 h3)
theorem names_to {l : List RM} {fs : List (K.Nm × K.F)} (h : l.map RM.kf = fs) : l.map RM.nm = fs.map (·.1) := by
  rw [← h, List.map_map]
  rfl

set_option maxHeartbeats 1600000 in
theorem rnames_any {S : Nat → Prop} {w : World} {p : Nat} {d : K.DK} (h : Rk S w p d) :
    Calls Tryz.prog 13 #[.pointer (some ⟨p, 0, none⟩)] w fun e w' => ∃ a c, e = .returned (.slice a d.fs.length c) ∧ Nb w.heap.size w' a c (d.fs.map (·.1)) ∧ Fr (fun _ => False) w w' := by
  obtain ⟨h1, ho, fa, fc, l, kp, hm, h4, h5, h6⟩ := h
  obtain ⟨_, c1, _, _, _⟩ := hm.c
  have HM := hid hm
  have hfl := ho.files
  rw [← hm.len] at hfl
  obtain ⟨ln, hln⟩ : ∃ ln, l.length = ln := ⟨_, rfl⟩
  rw [hln] at c1 hfl
  have HLN := hid hln
  clear h1 ho hm h4 h5 h6 hln
  go_enter Tryz.func13, Tryz.ntmps13
  go_wp2
  go_loopw [3, 4] (fun t i wr => ∃ (a1 : Option Addr) (c1 : Nat) (k : Nat), k ≤ ln ∧ t = .slice a1 k c1 ∧ i = .int .i64 k ∧ Nb w.heap.size wr a1 c1 ((l.take k).map RM.nm) ∧ Fr (fun _ => False) w wr) (fun _ i _ => ln - (intOf i).toNat)
  case atStart => exact ⟨none, 0, 0, by omega, rfl, rfl, Nb.nil _ _, Fr.refl _ _⟩
  case round =>
    obtain ⟨a1, cc, k, hk, rfl, rfl, hn1, hf1⟩ := hrel
    have k1 := cell_fr hf1 (fun h => h) c1
    have hzr := hf1.size
    by_cases hlt : k < ln
    · obtain ⟨m, hlm, hdm, hmem⟩ := HM.out.getAt (i := k) (by rw [HLN.out]; exact hlt)
      obtain ⟨g, rfl, q0, q1, q2⟩ := HM.out.row.at hlm
      replace q0 := cell_fr hf1 (fun h => h) q0
      have hlk : ((l.take k).map RM.nm).length = k := by rw [List.length_map, List.length_take, HLN.out]; omega
      have hnx : (l.take (k + 1)).map RM.nm = (l.take k).map RM.nm ++ [m.nm] := by rw [List.take_add_one, hlm]; simp
      have HN1 := hid hn1
      have HF1 := hid hf1
      have HNX := hid hnx
      have HLK := hid hlk
      obtain ⟨nm, hnm⟩ : ∃ nm, m.nm = nm := ⟨_, rfl⟩
      rw [hnm] at q0 HNX
      have hi : (k : Int) < (ln : Int) := by omega
      clear hlm hdm hmem q1 q2 hn1 hf1 hnx hlk hnm c1
      go_wp2_with (at_builtin; refine wpList_append_n _ rfl (.tmp 14) (.tmp 23) rfl w.heap.size a1 k cc ((l.take k).map RM.nm) rfl HLK.out (HN1.out.kept (S := fun _ => False) (Fr.alloc (Fr.refl _ _) _) (fun _ _ h => h)) ⟨wr.heap.size, 0, none⟩ 1 nm rfl (by simp [Addr.add]) (by omega) (by simp; omega) ?_; intro a2 c2 w2 hr2 hg2; have hf2 : Fr (fun _ => False) w w2 := (Fr.alloc HF1.out _).trans (Fr.of_grown hg2) (fun i hi e => by have := (HN1.out.bk i e).1; omega); have HF2 := hid hf2; have HR2 := hid hr2; clear hr2 hg2 hf2)
      go_wp2
      go_roundw
      case rel => exact ⟨a2, c2, k + 1, by omega, rfl, by go_num, by rw [HNX.out]; exact HR2.out, HF2.out⟩
      case measure => simp [intOf]; omega
    · obtain rfl : k = ln := by omega
      have HN1 := hid hn1
      have HF1 := hid hf1
      clear hn1 hf1 c1
      go_wp2
      go_ret
      have hn := HN1.out
      rw [← HLN.out, List.take_length, names_to HM.out.fs] at hn
      exact ⟨a1, cc, by rw [← HM.out.len, HLN.out]; rfl, hn, HF1.out⟩

end Go.Proofs.YtogdjhhabcejgaaGreat

/-
  Rows of files: slices of them, append of them.
-/
import Derived.Test.YtnfpceeacfdldaaRSync
namespace Go.Proofs.Ytnfpceeacfdldaa
open Go.RowKit Go.Maps
set_option linter.unusedVariables false

theorem infoF : (Try.prog.info? 73).map (fun i => (i.zero, i.size, i.bytes)) = some (some (.agg #[.string ⟨#[]⟩, .slice none 0 0, .int .i64 0]), 3, 48) := by kernel_rfl
/-- what a slice of files reads as -/
def Fs (w : World) (a : Option Addr) (n : Nat) (l : List RM) : Prop := l.length = n ∧ ((a = none ∧ n = 0) ∨ ∃ ad, a = some ad ∧ ∀ j u, (rcs l)[j]? = some u → w.cell? (ad.add j) = some u)
theorem Rw.fs {w : World} {fa : Option Addr} {fc : Nat} {l : List RM} (h : Rw w fa fc l) : Fs w fa l.length l := by
  refine ⟨rfl, ?_⟩
  rcases h.2 with ⟨hv, h0⟩ | ⟨g, cap, cur, hv, hb, hg, h1, h2, h3, h4⟩
  · simp only [Value.slice.injEq] at hv
    exact .inl ⟨hv.1, h0⟩
  · simp only [Value.slice.injEq] at hv
    refine .inr ⟨_, hv.1, fun j u hu => ?_⟩
    rw [Addr.add_lit, Nat.zero_add]
    rw [← h4, List.getElem?_take] at hu
    split at hu
    · exact cell_of hg (by simpa using hu)
    · cases hu
theorem rcs_take (l : List RM) (k : Nat) : rcs (l.take k) = (rcs l).take (k * 3) := by
  induction l generalizing k with
  | nil => simp [rcs]
  | cons x r ih =>
    cases k with
    | zero => simp [rcs]
    | succ k =>
      have := ih k
      simp only [rcs, List.take_succ_cons, List.flatMap_cons] at this ⊢
      rw [this, List.take_append, show (k + 1) * 3 - x.cs.length = k * 3 by simp [RM.cs]; omega, List.take_of_length_le (l := x.cs) (by simp [RM.cs]; omega)]
theorem rcs_drop (l : List RM) (k : Nat) : rcs (l.drop k) = (rcs l).drop (k * 3) := by
  induction l generalizing k with
  | nil => simp [rcs]
  | cons x r ih =>
    cases k with
    | zero => simp [rcs]
    | succ k =>
      have := ih k
      simp only [rcs, List.drop_succ_cons, List.flatMap_cons] at this ⊢
      rw [this, List.drop_append, show (k + 1) * 3 - x.cs.length = k * 3 by simp [RM.cs]; omega, (show x.cs.drop ((k + 1) * 3) = [] from List.drop_eq_nil_of_le (by simp [RM.cs]; omega)), List.nil_append]
theorem Fs.take {w : World} {a : Option Addr} {n : Nat} {l : List RM} (h : Fs w a n l) (k : Nat) (hk : k ≤ n) : Fs w a k (l.take k) := by
  refine ⟨by rw [List.length_take, h.1]; omega, ?_⟩
  rcases h.2 with ⟨rfl, rfl⟩ | ⟨ad, rfl, hc⟩
  · exact .inl ⟨rfl, by omega⟩
  · refine .inr ⟨ad, rfl, fun j u hu => hc j u ?_⟩
    rw [rcs_take, List.getElem?_take] at hu
    split at hu
    · exact hu
    · cases hu
/-- the address of a later part -/
def cutF (a : Option Addr) (c l : Nat) : Option Addr := if c = l then a else a.map (·.add (l * 3))
theorem run_cutF_hi (w : World) (a : Option Addr) (n c h : Nat) (hh : h ≤ c) :
    (Instr.slice 66 (.slice a n c) none (some (.int .i64 (h : Int))) none).run Try.prog w = .ok (.slice a h c) w := by
  obtain ⟨i0, hi, hz0, hz1, hz2⟩ := info_parts infoF
  have h1 : (Instr.sliceBound (.int .i64 (h : Int)) c .sliceAcap).run Try.prog w = .ok h w := by
    have : (0 : Int) ≤ (h : Int) ∧ (h : Int) ≤ (c : Int) := by omega
    simp [Instr.sliceBound, asIntOf, this]
  simp [Instr.slice, Instr.sliceBounds, h1, run_underlying Try.underlying66, sizeOf, typeInfo, hi]
  cases a <;> simp [Addr.add]
theorem run_cutF_lo (w : World) (a : Option Addr) (n c l : Nat) (hl : l ≤ n) (x : Int) (hx : x = (l : Int)) :
    (Instr.slice 66 (.slice a n c) (some (.int .i64 x)) none none).run Try.prog w = .ok (.slice (cutF a c l) (n - l) (c - l)) w := by
  subst hx
  obtain ⟨i0, hi, hz0, hz1, hz2⟩ := info_parts infoF
  have h1 : (Instr.sliceBound (.int .i64 (l : Int)) n .sliceB).run Try.prog w = .ok l w := by
    have : (0 : Int) ≤ (l : Int) ∧ (l : Int) ≤ (n : Int) := by omega
    simp [Instr.sliceBound, asIntOf, this]
  simp [Instr.slice, Instr.sliceBounds, h1, run_underlying Try.underlying66, sizeOf, typeInfo, hi, hz1, cutF]
theorem Fs.drop {w : World} {a : Option Addr} {n c : Nat} {l : List RM} (h : Fs w a n l) (hc : n ≤ c) (k : Nat) (hk : k ≤ n) (hs : ∀ ad, a = some ad → ad.spot = none) : Fs w (cutF a c k) (n - k) (l.drop k) := by
  refine ⟨by rw [List.length_drop, h.1], ?_⟩
  rcases h.2 with ⟨rfl, rfl⟩ | ⟨ad, rfl, hcl⟩
  · refine .inl ⟨?_, by omega⟩
    unfold cutF
    split <;> rfl
  · by_cases e : c = k
    · have h0 : n - k = 0 := by omega
      right
      refine ⟨ad, by unfold cutF; rw [if_pos e], fun j u hu => ?_⟩
      rw [List.drop_eq_nil_of_le (by have := h.1; omega)] at hu
      simp [rcs] at hu
    · right
      refine ⟨ad.add (k * 3), by unfold cutF; rw [if_neg e]; rfl, fun j u hu => ?_⟩
      rw [rcs_drop, List.getElem?_drop] at hu
      have := hcl _ _ hu
      have hsp := hs ad rfl
      obtain ⟨b, o, sp⟩ := ad
      simp only at hsp
      subst hsp
      rw [Addr.add_lit] at this ⊢
      rw [Addr.add_lit]
      rw [show o + k * 3 + j = o + (k * 3 + j) by omega]
      exact this
/-- a row that a call makes out of files -/
abbrev Rb (base : Nat) (w : World) (fa : Option Addr) (fc : Nat) (l : List RM) : Prop := w.ownsRow base 73 3 (.slice fa l.length fc) l.length (rcs l)
theorem Rb.nil (base : Nat) (w : World) : Rb base w none 0 [] := ⟨rfl, .inl ⟨rfl, rfl⟩⟩
theorem Rb.rw {base : Nat} {w : World} {fa : Option Addr} {fc : Nat} {l : List RM} (h : Rb base w fa fc l) : Rw w fa fc l := by
  refine ⟨h.1, ?_⟩
  rcases h.2 with h0 | ⟨g, cap, cur, hv, hb, r⟩
  · exact .inl h0
  · exact .inr ⟨g, cap, cur, hv, Nat.zero_le _, r⟩
theorem Rb.bk {base : Nat} {w : World} {fa : Option Addr} {fc : Nat} {l : List RM} (h : Rb base w fa fc l) : ∀ k, blk fa = some k → base ≤ k ∧ k < w.heap.size := by
  intro k hk
  rcases h.2 with ⟨hv, h0⟩ | ⟨g, cap, cur, hv, hb, hg, r⟩
  · simp only [Value.slice.injEq] at hv
    rw [hv.1] at hk
    simp [blk] at hk
  · simp only [Value.slice.injEq] at hv
    rw [hv.1] at hk
    simp [blk] at hk
    subst hk
    exact ⟨hb, lt_of_row hg⟩
theorem Rb.le {base : Nat} {w : World} {fa : Option Addr} {fc : Nat} {l : List RM} (h : Rb base w fa fc l) : l.length ≤ fc := by
  rcases h.2 with ⟨hv, h0⟩ | ⟨g, cap, cur, hv, hb, hg, h1, r⟩
  · omega
  · simp only [Value.slice.injEq] at hv
    rw [hv.2.2]; exact h1
theorem Rb.spot {base : Nat} {w : World} {fa : Option Addr} {fc : Nat} {l : List RM} (h : Rb base w fa fc l) : ∀ ad, fa = some ad → ad.spot = none := by
  intro ad had
  rcases h.2 with ⟨hv, h0⟩ | ⟨g, cap, cur, hv, hb, hg, h1, r⟩
  · simp only [Value.slice.injEq] at hv
    rw [hv.1] at had; cases had
  · simp only [Value.slice.injEq] at hv
    rw [hv.1] at had; cases had; rfl
/-- append of files onto a row that the call made -/
theorem run_append_f (w : World) (ty : TypeId) (base : Nat) (a : Option Addr) (c : Nat) (l : List RM) (h : Rb base w a c l) (sa : Option Addr) (m sc : Nat) (news : List RM) (hs : Fs w sa m news) (hbd : l.length + m ≤ 100000) (hbase : base ≤ w.heap.size) :
    ∃ a' c' w', (Builtin.append_ #[66, 66] ty #[.slice a l.length c, .slice sa m sc]).run Try.prog w = .ok (.slice a' (l ++ news).length c') w' ∧ Rb base w' a' c' (l ++ news) ∧ w.grownBy w' (blk a) := by
  obtain ⟨i0, hi, hz0, hz1, hz2⟩ := info_parts infoF
  have hob : (Value.slice a l.length c).ownBlock = blk a := by cases a <;> rfl
  rcases hs.2 with ⟨rfl, rfl⟩ | ⟨ad, rfl, hc⟩
  · have h0 : news = [] := List.eq_nil_of_length_eq_zero hs.1
    subst h0
    rw [List.append_nil]
    exact ⟨a, c, w, run_append_nothing w 66 66 ty 73 i0 Try.underlying66 hi a _ c h.le _ (by rw [hz1]; exact Src.ofNil w Try.underlying66 sc), h, ⟨rfl, rfl, rfl, Nat.le_refl _, fun _ _ _ => rfl⟩⟩
  · obtain ⟨v', w', hr, h2, h3, h4⟩ := run_append_own_wide (P := Try.prog) w base 66 ty 73 i0 (.agg #[.string ⟨#[]⟩, .slice none 0 0, .int .i64 0]) 3 48 Try.underlying66 hi hz0 hz1 hz2 rfl (by omega) _ l.length (rcs l) h ad m sc (rcs news) (by rw [rcs_length, hs.1]) hc (one_rcs news) (by unfold maxLen; omega) (by omega) hbase
    rw [← rcs_append, ← hs.1, ← List.length_append] at h2
    rw [hob] at h3
    rcases h2.2 with ⟨hv, h0⟩ | ⟨g, cap, cur, hv, _⟩
    · refine ⟨none, 0, w', by rw [hr, hv, h0], ?_, h3⟩
      have e0 : l ++ news = [] := List.eq_nil_of_length_eq_zero h0
      rw [e0]
      exact Rb.nil _ _
    · exact ⟨_, cap, w', by rw [hr, hv], by rw [hv] at h2; exact h2, h3⟩

end Go.Proofs.Ytnfpceeacfdldaa

/-
  The document's disk: Names.
-/
import Derived.Test.YtnfpceeacfdldaaRRow
namespace Go.Proofs.Ytnfpceeacfdldaa
open Go.RowKit Go.Maps
set_option linter.unusedVariables false

theorem infoS : (Try.prog.info? 9).map (fun i => (i.zero, i.size, i.bytes)) = some (some (.string ⟨#[]⟩), 1, 16) := by kernel_rfl
/-- a row that a call makes out of names -/
abbrev Nb (base : Nat) (w : World) (a : Option Addr) (c : Nat) (l : List K.Nm) : Prop := w.ownsRow base 9 1 (.slice a l.length c) l.length (l.map encStr)
theorem Nb.nil (base : Nat) (w : World) : Nb base w none 0 [] := ⟨rfl, .inl ⟨rfl, rfl⟩⟩
theorem Nb.bk {base : Nat} {w : World} {fa : Option Addr} {fc : Nat} {l : List K.Nm} (h : Nb base w fa fc l) : ∀ k, blk fa = some k → base ≤ k ∧ k < w.heap.size := by
  intro k hk
  rcases h.2 with ⟨hv, h0⟩ | ⟨g, cap, cur, hv, hb, hg, r⟩
  · simp only [Value.slice.injEq] at hv
    rw [hv.1] at hk
    simp [blk] at hk
  · simp only [Value.slice.injEq] at hv
    rw [hv.1] at hk
    simp [blk] at hk
    subst hk
    exact ⟨hb, lt_of_row hg⟩
theorem Nb.kept {base : Nat} {S : Nat → Prop} {w w' : World} {fa : Option Addr} {fc : Nat} {l : List K.Nm} (h : Nb base w fa fc l) (hf : Fr S w w') (hS : ∀ k, blk fa = some k → ¬ S k) : Nb base w' fa fc l := by
  refine ⟨h.1, ?_⟩
  rcases h.2 with h0 | ⟨g, cap, cur, hv, hb, hg, r⟩
  · exact .inl h0
  · refine .inr ⟨g, cap, cur, hv, hb, hf.cells hg (fun hs => hS g ?_ hs), r⟩
    simp only [Value.slice.injEq] at hv
    rw [hv.1]
    rfl
/-- append of a name onto a row that the call made -/
theorem run_append_n (w : World) (ty : TypeId) (base : Nat) (a : Option Addr) (c : Nat) (l : List K.Nm) (h : Nb base w a c l) (ad : Addr) (sc : Nat) (x : K.Nm) (hs : w.cell? (ad.add 0) = some (encStr x)) (hbd : l.length + 1 ≤ 100000) (hbase : base ≤ w.heap.size) :
    ∃ a' c' w', (Builtin.append_ #[70, 70] ty #[.slice a l.length c, .slice (some ad) 1 sc]).run Try.prog w = .ok (.slice a' (l.length + 1) c') w' ∧ Nb base w' a' c' (l ++ [x]) ∧ w.grownBy w' (blk a) := by
  obtain ⟨i0, hi, hz0, hz1, hz2⟩ := info_parts infoS
  have hob : (Value.slice a l.length c).ownBlock = blk a := by cases a <;> rfl
  obtain ⟨v', w', hr, h2, h3, h4⟩ := run_append_own_wide (P := Try.prog) w base 70 ty 9 i0 (.string ⟨#[]⟩) 1 16 Try.underlying70 hi hz0 hz1 hz2 rfl (by omega) _ l.length (l.map encStr) h ad 1 sc [encStr x] rfl (fun j u hu => by
    match j, hu with
    | 0, hu => simp at hu; subst hu; exact hs) (fun u hu => by simp at hu; subst hu; rfl) (by unfold maxLen; omega) (by omega) hbase
  rw [show l.map encStr ++ [encStr x] = (l ++ [x]).map encStr by simp, show l.length + 1 = (l ++ [x]).length by simp] at h2
  rw [hob] at h3
  rcases h2.2 with ⟨hv, h0⟩ | ⟨g, cap, cur, hv, _⟩
  · simp at h0
  · exact ⟨some ⟨g, 0, none⟩, cap, w', by rw [hr, hv]; simp, by rw [hv] at h2; exact h2, h3⟩
theorem wpList_append_n (w : World) {ops : Array Oper} {rest : List Oper} {o : Oper} {a : Act} {Q : Exit → Act → World → Prop} (hgd : o.guard = none) (s x : Operand)
    (ho : o.op = .call { callee := .builtin .append, args := #[s, x], argTypes := #[70, 70] })
    (base : Nat) (ad : Option Addr) (n c : Nat) (l : List K.Nm) (hs : a.eval s = .slice ad n c) (hn : l.length = n) (hown : Nb base w ad c l)
    (sa : Addr) (sc : Nat) (y : K.Nm) (hx : a.eval x = .slice (some sa) 1 sc) (hsrc : w.cell? (sa.add 0) = some (encStr y)) (hbd : n + 1 ≤ 100000) (hbase : base ≤ w.heap.size)
    (h : ∀ a' c' w', Nb base w' a' c' (l ++ [y]) → w.grownBy w' (blk ad) → wpList Try.prog ops Q rest (a.put o.dst (.slice a' (n + 1) c')) w') :
    wpList Try.prog ops Q (o :: rest) a w := by
  refine wpList_plain hgd fun K hK => ?_
  subst hn
  obtain ⟨a', c', w', hr, h2, h3⟩ := run_append_n w o.type base ad c l hown sa sc y hsrc hbd hbase
  unfold Oper.wp execOp
  simp only [ho, resolve, invoke, builtin, Sem.run_bind, Sem.run_pure, Result.andThen_ok, List.map_toArray, List.map_cons, List.map_nil, hs, hx, hr]
  exact hK _ _ (h a' c' w' h2 h3)
theorem names_to {l : List RM} {fs : List (K.Nm × K.F)} (h : l.map RM.kf = fs) : l.map RM.nm = fs.map (·.1) := by
  rw [← h, List.map_map]
  rfl

set_option maxHeartbeats 1600000 in
theorem rnames_any {S : Nat → Prop} {w : World} {p : Nat} {d : K.DK} (h : Rk S w p d) :
    Calls Try.prog 41 #[.pointer (some ⟨p, 0, none⟩)] w fun e w' => ∃ a c, e = .returned (.slice a d.fs.length c) ∧ Nb w.heap.size w' a c (d.fs.map (·.1)) ∧ Fr (fun _ => False) w w' := by
  obtain ⟨h1, ho, fa, fc, l, kp, hm, h4, h5, h6⟩ := h
  obtain ⟨_, c1, _, _, _⟩ := hm.c
  have HM := hid hm
  have hfl := ho.files
  rw [← hm.len] at hfl
  obtain ⟨ln, hln⟩ : ∃ ln, l.length = ln := ⟨_, rfl⟩
  rw [hln] at c1 hfl
  have HLN := hid hln
  clear h1 ho hm h4 h5 h6 hln
  go_enter Try.func41, Try.ntmps41
  go_wp2
  go_loopw [3, 4] (fun t i wr => ∃ (a1 : Option Addr) (c1 : Nat) (k : Nat), k ≤ ln ∧ t = .slice a1 k c1 ∧ i = .int .i64 k ∧ Nb w.heap.size wr a1 c1 ((l.take k).map RM.nm) ∧ Fr (fun _ => False) w wr) (fun _ i _ => ln - (intOf i).toNat)
  case atStart => exact ⟨none, 0, 0, by omega, rfl, rfl, Nb.nil _ _, Fr.refl _ _⟩
  case round =>
    obtain ⟨a1, cc, k, hk, rfl, rfl, hn1, hf1⟩ := hrel
    have k1 := cell_fr hf1 (fun h => h) c1
    have hzr := hf1.size
    by_cases hlt : k < ln
    · obtain ⟨m, hlm, hdm, hmem⟩ := HM.out.getAt (i := k) (by rw [HLN.out]; exact hlt)
      obtain ⟨g, rfl, q0, q1, q2⟩ := HM.out.row.at hlm
      replace q0 := cell_fr hf1 (fun h => h) q0
      have hlk : ((l.take k).map RM.nm).length = k := by rw [List.length_map, List.length_take, HLN.out]; omega
      have hnx : (l.take (k + 1)).map RM.nm = (l.take k).map RM.nm ++ [m.nm] := by rw [List.take_add_one, hlm]; simp
      have HN1 := hid hn1
      have HF1 := hid hf1
      have HNX := hid hnx
      have HLK := hid hlk
      obtain ⟨nm, hnm⟩ : ∃ nm, m.nm = nm := ⟨_, rfl⟩
      rw [hnm] at q0 HNX
      have hi : (k : Int) < (ln : Int) := by omega
      clear hlm hdm hmem q1 q2 hn1 hf1 hnx hlk hnm c1
      go_wp2_with (at_builtin; refine wpList_append_n _ rfl (.tmp 14) (.tmp 23) rfl w.heap.size a1 k cc ((l.take k).map RM.nm) rfl HLK.out (HN1.out.kept (S := fun _ => False) (Fr.alloc (Fr.refl _ _) _) (fun _ _ h => h)) ⟨wr.heap.size, 0, none⟩ 1 nm rfl (by simp [Addr.add]) (by omega) (by simp; omega) ?_; intro a2 c2 w2 hr2 hg2; have hf2 : Fr (fun _ => False) w w2 := (Fr.alloc HF1.out _).trans (Fr.of_grown hg2) (fun i hi e => by have := (HN1.out.bk i e).1; omega); have HF2 := hid hf2; have HR2 := hid hr2; clear hr2 hg2 hf2)
      go_wp2
      go_roundw
      case rel => exact ⟨a2, c2, k + 1, by omega, rfl, by go_num, by rw [HNX.out]; exact HR2.out, HF2.out⟩
      case measure => simp [intOf]; omega
    · obtain rfl : k = ln := by omega
      have HN1 := hid hn1
      have HF1 := hid hf1
      clear hn1 hf1 c1
      go_wp2
      go_ret
      have hn := HN1.out
      rw [← HLN.out, List.take_length, names_to HM.out.fs] at hn
      exact ⟨a1, cc, by rw [← HM.out.len, HLN.out]; rfl, hn, HF1.out⟩

end Go.Proofs.Ytnfpceeacfdldaa

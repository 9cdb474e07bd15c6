/-
  What gather has between its rounds.
  mayStand.
-/
import Derived.Test.YtenengkeckanmaaGreatMg28
import Derived.Test.YtenengkeckanmaaGreatMg39
import Derived.Test.YtenengkeckanmaaGreatMg18
import Derived.Test.YtenengkeckanmaaGreatMg17
import Derived.Test.YtenengkeckanmaaGreatMg6
namespace Go.Proofs.YtenengkeckanmaaGreat
open Go.RowKit Go.Maps
set_option linter.unusedVariables false
set_option linter.unusedSimpArgs false
set_option maxRecDepth 100000
theorem Tf.extc {c c' : Nat → Option T.Col} {w : World} {bud p : Nat} {dos last : Int} {t : T.Tr} {mb : Nat} {f : Int → Nat} (h : Tf c w bud p dos last t mb f) (hc : ∀ i col, c i = some col → c' i = some col) : Tf c' w bud p dos last t mb f :=
  ⟨h.cells, hc _ _ h.cp, hc _ _ h.cm, h.map, h.few, fun n x hx => (h.node n x hx).ext hc (Nat.le_refl _)⟩
def T.gstep (t : T.Tr) (z : T.Tn) : T.Tr := A.put z.1.1 ⟨0, ⟨#[]⟩, z.1.2.ats⟩ t
def T.gathered (t : T.Tr) (zs : List T.Tn) : T.Tr := zs.foldl T.gstep t
theorem T.gathered_snoc (t : T.Tr) (zs : List T.Tn) (z : T.Tn) : T.gathered t (zs ++ [z]) = T.gstep (T.gathered t zs) z := by
  unfold T.gathered
  rw [List.foldl_append]
  rfl
/-- may one be put in? -/
def T.gok (z : T.Tn) : Bool := decide (1 ≤ z.1.1) && (T.txts z.1.2.ats && T.asc (fun a b => T.blt a.1 b.1) z.1.2.ats)
structure T.Gn (c0 : Nat → Option T.Col) (w : World) (bud p : Nat) (dos last : Int) (t : T.Tr) (mb : Nat) (zs : List T.Tn) (k : Nat) (wr : World) (c : Nat → Option T.Col) (u : T.Tr) (f : Int → Nat) : Prop where
  le : k ≤ zs.length
  good : (zs.take k).all T.gok = true
  eq : u = T.gathered t (zs.take k)
  up : A.Up u
  h0 : A.get 0 u = none
  bare : T.Bare u
  more : More c0 c w.heap.size
  lo : Lo c wr.heap.size
  tf : Tf c wr (bud + k) p dos last u mb f
  fr : Fr (fun i => c0 i ≠ none) w wr
theorem T.Gn.idle {c0 : Nat → Option T.Col} {w : World} {bud p : Nat} {dos last : Int} {t : T.Tr} {mb : Nat} {zs : List T.Tn} {k : Nat} {wr : World} {c : Nat → Option T.Col} {u : T.Tr} {f : Int → Nat} (h : T.Gn c0 w bud p dos last t mb zs k wr c u f) {w' : World} (hf : Fr (fun _ => False) wr w') : T.Gn c0 w bud p dos last t mb zs k w' c u f :=
  ⟨h.le, h.good, h.eq, h.up, h.h0, h.bare, h.more, fun i hi => Nat.lt_of_lt_of_le (h.lo i hi) hf.size, h.tf.kept hf (fun _ _ h => h), h.fr.trans hf (fun _ _ h => h.elim)⟩
/-- a node of one's own, being filled: block b, all its blocks from b on -/
def T.Own1 (b bud : Nat) (n : Int) (ats : T.At) (W : World) : Prop := ∃ cN : Nat → Option T.Col, (∀ i, i < b → cN i = none) ∧ Lo cN W.heap.size ∧ Nm cN W bud b n ⟨0, ⟨#[]⟩, ats⟩ (fun _ => [])
theorem T.Own1.idle {b bud : Nat} {n : Int} {ats : T.At} {W W' : World} (h : T.Own1 b bud n ats W) (hf : Fr (fun _ => False) W W') : T.Own1 b bud n ats W' := by
  obtain ⟨cN, h1, h2, h3⟩ := h
  exact ⟨cN, h1, fun i hi => Nat.lt_of_lt_of_le (h2 i hi) hf.size, h3.kept hf (fun _ _ _ _ h => h)⟩
theorem T.Own1.new {b bud : Nat} {n : Int} {W : World} (hb : W.heap[b]? = some (.cells #[.int .i64 0, .string ⟨#[]⟩, .map none, .map none] 89 (0, 0))) : T.Own1 b bud n [] W :=
  ⟨fun i => if i = b then some (.node n) else none, fun i hi => if_neg (by omega), fun i hi => by
    by_cases e : i = b
    · rw [e]; exact lt_of_row hb
    · simp only [if_neg e] at hi; exact absurd rfl hi, Nm.fresh hb (if_pos rfl)⟩
/-- .. and laid in the tree -/
theorem T.Gn.step {c0 : Nat → Option T.Col} {w : World} {bud p : Nat} {dos last : Int} {t : T.Tr} {mb : Nat} {zs : List T.Tn} {k : Nat} {wr : World} {c : Nat → Option T.Col} {u : T.Tr} {f : Int → Nat} (h : T.Gn c0 w bud p dos last t mb zs k wr c u f) {z : T.Tn} (hz : zs[k]? = some z) (hs : T.gok z = true) {b : Nat} {W W' : World} (hb : wr.heap.size ≤ b)
    (hO : T.Own1 b (bud + k) z.1.1 z.1.2.ats W) (hf : Fr (fun _ => False) wr W) (hf2 : Fr (fun i => i = mb) W W') (hm : Mp 2 litI W' mb (at_ (fun k => (A.get k u).map (fun _ => ptr (f k))) z.1.1 (some (ptr b))) (if ((A.get z.1.1 u).map (fun _ => ptr (f z.1.1))).isSome then u.length else u.length + 1)) :
    ∃ c' f', T.Gn c0 w bud p dos last t mb zs (k + 1) W' c' (T.gstep u z) f' := by
  obtain ⟨cN, h1, h2, h3⟩ := hO
  have hk := (List.getElem?_eq_some_iff.1 hz).1
  have hn1 : z.1.1 ≠ 0 := by
    unfold T.gok at hs
    simp at hs
    omega
  have hsz := hf.size
  have hsw := h.fr.size
  have hcb : ∀ i, c i ≠ none → i < b := fun i hi => Nat.lt_of_lt_of_le (h.lo i hi) hb
  have e1 : ∀ i col, c i = some col → (fun i => if i < b then c i else cN i) i = some col := fun i col e => by
    have := hcb i (by rw [e]; simp)
    simp only [if_pos this]
    exact e
  have e2 : ∀ i col, cN i = some col → (fun i => if i < b then c i else cN i) i = some col := fun i col e => by
    have : ¬ i < b := fun hlt => by rw [h1 i hlt] at e; cases e
    simp only [if_neg this]
    exact e
  have htf := Tf.laid ((h.tf.kept hf (fun _ _ h => h)).extc e1) h.up h.h0 h.bare hn1 rfl (h3.ext e2 (Nat.le_refl _)) hf2 hm
  refine ⟨_, _, hk, ?_, ?_, h.up.put _ _, ?_, h.bare.put h.up _ rfl, fun i hi => ?_, fun i hi => ?_, htf, (h.fr.trans hf (fun _ _ h => h.elim)).trans hf2 (fun i hi e => ?_)⟩
  · rw [List.take_add_one, List.all_append, h.good, hz]
    simp [hs]
  · rw [List.take_add_one, hz, h.eq]
    exact (T.gathered_snoc t _ z).symm
  · exact (A.get_put_other h.up (Ne.symm hn1) _).trans h.h0
  · simp only [if_pos (show i < b by omega)]
    exact h.more i hi
  · by_cases e : i < b
    · simp only [if_pos e] at hi
      exact Nat.lt_of_lt_of_le (h.lo i hi) (Nat.le_trans hsz hf2.size)
    · simp only [if_neg e] at hi
      exact Nat.lt_of_lt_of_le (h2 i hi) hf2.size
  · subst e
    rw [← h.more _ hi, h.tf.cm]
    simp
end Go.Proofs.YtenengkeckanmaaGreat

namespace Go.Proofs.YtenengkeckanmaaGreat
open Go.RowKit Go.Maps
set_option linter.unusedVariables false
set_option linter.unusedSimpArgs false
set_option maxRecDepth 100000
attribute [local go_sem] Oper.semAt_some
/-- may a node stand at a place? -/
def T.stand (t : T.Tr) (n par : Int) (nm : ByteArray) : Bool := if n ≤ 2 then decide (par = 0 ∧ nm = ⟨#[]⟩) else (A.get par t).isSome && T.nam nm
theorem mayStand_any {c : Nat → Option T.Col} {w : World} {bud p : Nat} {dos last : Int} {t : T.Tr} {mb : Nat} {f : Int → Nat} (h : Tf c w bud p dos last t mb f) {n par : Int} (hp : (Lit.int .i64 par).wf = true) {nm : ByteArray} :
    Calls Tryz.prog 87 #[ptr p, .int .i64 n, .agg #[.int .i64 par, .string nm]] w fun e w' => e = .returned (.bool (T.stand t n par nm)) ∧ Fr (fun _ => False) w w' := by
  have KH := hid (fun (W : World) (hf : Fr (fun _ => False) w W) => has_any (h.kept hf (fun _ _ h => h)) hp)
  clear h
  have KN := hid (fun (W : World) => tname_any nm W)
  have F1 := hid (Fr.alloc (Fr.refl (fun _ => False) w) (.cells #[.int .i64 par, .string nm] 85))
  by_cases hn : n ≤ 2
  · have HR := hid (show T.stand t n par nm = decide (par = 0 ∧ nm = ⟨#[]⟩) from if_pos hn)
    by_cases hz : par = 0
    · subst hz
      by_cases hs : nm = ⟨#[]⟩
      · subst hs
        go_enter Tryz.func87, Tryz.ntmps87
        go_wp2
        go_ret
        exact ⟨ret_bool (by rw [HR.out]; rfl), F1.out⟩
      · have hs2 : ¬ nm.toList = [] := fun e => hs (T.ba_ext (by rw [← ByteArray.toList_eq, e]))
        have HRF := hid (show T.stand t n 0 nm = false from by rw [HR.out]; exact decide_eq_false (fun e => hs e.2))
        have hs3 : (nm.toList == (⟨#[]⟩ : ByteArray).toList) = false := by
          cases h : (nm.toList == (⟨#[]⟩ : ByteArray).toList) with
          | false => rfl
          | true => exact absurd ((eq_of_beq h).trans (by rw [ByteArray.toList_eq])) hs2
        go_enter Tryz.func87, Tryz.ntmps87
        go_wp2
        go_ret
        exact ⟨ret_bool HRF.out.symm, F1.out⟩
    · have HRF := hid (show T.stand t n par nm = false from by rw [HR.out]; exact decide_eq_false (fun e => hz e.1))
      go_enter Tryz.func87, Tryz.ntmps87
      go_wp2
      go_ret
      exact ⟨ret_bool HRF.out.symm, F1.out⟩
  · have HR := hid (show T.stand t n par nm = ((A.get par t).isSome && T.nam nm) from if_neg hn)
    cases hg : (A.get par t).isSome with
    | true =>
      rw [hg] at KH HR
      clear hg
      go_enter Tryz.func87, Tryz.ntmps87
      go_wp2_with (first
        | (go_at_call 68; refine (KH.out _ F1.out).mono ?_; rintro e wx ⟨rfl, rfl⟩)
        | (go_at_call 69; refine (KN.out _).mono ?_; rintro e wx ⟨rfl, rfl⟩))
      go_ret
      exact ⟨ret_bool HR.out.symm, F1.out⟩
    | false =>
      rw [hg] at KH HR
      clear hg
      go_enter Tryz.func87, Tryz.ntmps87
      go_wp2_with (first
        | (go_at_call 68; refine (KH.out _ F1.out).mono ?_; rintro e wx ⟨rfl, rfl⟩)
        | (go_at_call 69; refine (KN.out _).mono ?_; rintro e wx ⟨rfl, rfl⟩))
      go_ret
      exact ⟨ret_bool HR.out.symm, F1.out⟩
end Go.Proofs.YtenengkeckanmaaGreat

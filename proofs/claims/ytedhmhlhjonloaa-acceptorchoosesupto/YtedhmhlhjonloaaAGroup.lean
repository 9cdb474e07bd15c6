/-
  A group of acceptors in memory, each with its own blocks; rows of pointers to them, rows of entries.
-/
import Derived.Test.YtedhmhlhjonloaaACollect
import Derived.Test.YtedhmhlhjonloaaALive
import Derived.Test.YtedhmhlhjonloaaAClone
namespace Go.Proofs.Ytedhmhlhjonloaa
open Go.RowKit Go.Maps
set_option linter.unusedVariables false
set_option linter.unusedSimpArgs false

/-- THE ACCEPTORS sv, AT ps. -/
structure Gp (I : Nat → Prop) (w : World) (ps : List (Nat × Nat)) (sv : Nat → A.Ac) : Prop where
  at_ : ∀ (i : Nat) p, ps[i]? = some p → At_ I w p.1 p.2 (sv i)
  ap : ∀ (i j : Nat) p q, ps[i]? = some p → ps[j]? = some q → i ≠ j → p.1 ≠ q.1 ∧ p.1 ≠ q.2 ∧ p.2 ≠ q.1 ∧ p.2 ≠ q.2
/-- their own blocks -/
def Pm (ps : List (Nat × Nat)) : Nat → Prop := fun k => ∃ (i : Nat) (p : Nat × Nat), ps[i]? = some p ∧ (k = p.1 ∨ k = p.2)
theorem At_.nI {I : Nat → Prop} {w : World} {p mb : Nat} {a : A.Ac} (h : At_ I w p mb a) : ¬ I p ∧ ¬ I mb := by
  obtain ⟨_, _, _, l, h⟩ := h
  exact ⟨h.np, h.nm⟩
theorem Gp.kept {I S : Nat → Prop} {w w' : World} {ps : List (Nat × Nat)} {sv : Nat → A.Ac} (h : Gp I w ps sv) (hf : Fr S w w') (hS : ∀ k, Pm ps k → ¬ S k) (hI : ∀ k, I k → ¬ S k) : Gp I w' ps sv :=
  ⟨fun i p hp => (h.at_ i p hp).kept hf (hS _ ⟨i, p, hp, .inl rfl⟩) (hS _ ⟨i, p, hp, .inr rfl⟩) hI, h.ap⟩
theorem Gp.fr {I : Nat → Prop} {w w' : World} {ps : List (Nat × Nat)} {sv : Nat → A.Ac} (h : Gp I w ps sv) (hf : Fr (fun _ => False) w w') : Gp I w' ps sv := h.kept hf (fun _ _ h => h) (fun _ _ h => h)
theorem Gp.lt {I : Nat → Prop} {w : World} {ps : List (Nat × Nat)} {sv : Nat → A.Ac} (h : Gp I w ps sv) {k : Nat} (hk : Pm ps k) : k < w.heap.size := by
  obtain ⟨i, p, hp, e⟩ := hk
  have := h.at_ i p hp
  rcases e with rfl | rfl
  · exact this.2.1
  · exact this.2.2.1
theorem Gp.congr {I : Nat → Prop} {w : World} {ps : List (Nat × Nat)} {sv bs : Nat → A.Ac} (h : Gp I w ps sv) (he : sv = bs) : Gp I w ps bs := he ▸ h
theorem Gp.prepared {I : Nat → Prop} {w w' : World} {ps : List (Nat × Nat)} {sv : Nat → A.Ac} (h : Gp I w ps sv) {i : Nat} {p : Nat × Nat} (hp : ps[i]? = some p) {a' : A.Ac} (ha : At_ I w' p.1 p.2 a') (hf : Fr (fun k => k = p.1) w w') : Gp I w' ps (fun j => if j = i then a' else sv j) := by
  refine ⟨fun j q hq => ?_, h.ap⟩
  by_cases e : j = i
  · subst e
    rw [hp] at hq
    cases hq
    simpa using ha
  · simp only [e, if_false]
    have h1 := h.ap j i q p hq hp e
    exact (h.at_ j q hq).kept hf (fun e => h1.1 e) (fun e => h1.2.2.1 e) (fun k hk e => (h.at_ i p hp).nI.1 (e ▸ hk))
theorem Gp.accepted {I : Nat → Prop} {w w' : World} {ps : List (Nat × Nat)} {sv : Nat → A.Ac} (h : Gp I w ps sv) {i : Nat} {p : Nat × Nat} (hp : ps[i]? = some p) {a' : A.Ac} (ha : At_ (Nw I w w') w' p.1 p.2 a') (hf : Fr (fun k => k = p.1 ∨ k = p.2) w w') : Gp (Nw I w w') w' ps (fun j => if j = i then a' else sv j) := by
  refine ⟨fun j q hq => ?_, h.ap⟩
  by_cases e : j = i
  · subst e
    rw [hp] at hq
    cases hq
    simpa using ha
  · simp only [e, if_false]
    have h1 := h.ap j i q p hq hp e
    have h2 := (h.at_ j q hq).kept hf (fun e => e.elim h1.1 h1.2.1) (fun e => e.elim h1.2.2.1 h1.2.2.2) (fun k hk e => e.elim (fun e => (h.at_ i p hp).nI.1 (e ▸ hk)) (fun e => (h.at_ i p hp).nI.2 (e ▸ hk)))
    exact At_.nw (h.at_ j q hq) h2 hf.size
theorem Gp.add {w w' : World} {ps : List (Nat × Nat)} (h : Gp (fun _ => False) w ps (fun _ => A.new)) (hf : Fr (fun _ => False) w w') {p mb : Nat} (hat : At_ (fun _ => False) w' p mb A.new) (hp : w.heap.size ≤ p) (hm : w.heap.size ≤ mb) : Gp (fun _ => False) w' (ps ++ [(p, mb)]) (fun _ => A.new) := by
  have key : ∀ (i : Nat) q, (ps ++ [(p, mb)])[i]? = some q → ps[i]? = some q ∨ (i = ps.length ∧ q = (p, mb)) := fun i q hq => by
    by_cases hi : i < ps.length
    · rw [List.getElem?_append_left hi] at hq; exact .inl hq
    · rw [List.getElem?_append_right (by omega)] at hq
      have : i - ps.length < 1 := by have := (List.getElem?_eq_some_iff.1 hq).1; simpa using this
      rw [show i - ps.length = 0 by omega] at hq
      simp at hq
      exact .inr ⟨by omega, hq.symm⟩
  refine ⟨fun i q hq => ?_, fun i j q r hq hr hij => ?_⟩
  · rcases key i q hq with h1 | ⟨_, rfl⟩
    · exact (h.at_ i q h1).fr hf
    · exact hat
  · rcases key i q hq with h1 | ⟨e1, rfl⟩ <;> rcases key j r hr with h2 | ⟨e2, rfl⟩
    · exact h.ap i j q r h1 h2 hij
    · have h3 := (h.at_ i q h1).2.1
      have h4 := (h.at_ i q h1).2.2.1
      simp only
      omega
    · have h3 := (h.at_ j r h2).2.1
      have h4 := (h.at_ j r h2).2.2.1
      simp only
      omega
    · omega
theorem Gp.none (w : World) : Gp (fun _ => False) w [] (fun _ => A.new) := ⟨fun i p hp => by simp at hp, fun i j p q hp => by simp at hp⟩
theorem infoPt : (Try.prog.info? 23).map (fun i => (i.zero, i.size, i.bytes)) = some (some (.pointer none), 1, 8) := by kernel_rfl
/-- one more pointer behind the others -/
theorem pt_append (w : World) (ra : Option Addr) (rc n : Nat) (xs : List Value) (hrow : Ro w 23 1 ra n rc xs) (hb : n ≤ 1000) (p : Nat) :
    ∃ ra' rc' w', (Builtin.append_ #[73, 73] 73 #[.slice ra n rc, .slice (some ⟨w.heap.size, 0, none⟩) 1 1]).run Try.prog (w.alloc (.cells #[ptrV p] 23)) = .ok (.slice ra' (n + 1) rc') w' ∧
      Ro w' 23 1 ra' (n + 1) rc' (xs ++ [ptrV p]) ∧ Fr (fun k => blk ra = some k) w w' ∧ (∀ k, blk ra' = some k → blk ra = some k ∨ w.heap.size ≤ k) := by
  obtain ⟨i0, hi, hz0, hz1, hz2⟩ := info_parts infoPt
  have f0 : Fr (fun _ => False) w (w.alloc (.cells #[ptrV p] 23)) := Fr.alloc (Fr.refl _ _) _
  have hn := Go.heap_alloc_new w (.cells #[ptrV p] 23)
  obtain ⟨a', c', w', hr, h2, h3, h4⟩ := run_append_o (P := Try.prog) (w.alloc (.cells #[ptrV p] 23)) 73 73 23 i0 _ 1 8 Try.underlying73 hi hz0 hz1 hz2 rfl (by omega) ra n rc xs (hrow.kept f0 (fun _ _ h => h)) ⟨w.heap.size, 0, none⟩ 1 1 [ptrV p] rfl (fun j u hu => by
    rw [Addr.add_lit, Nat.zero_add]
    exact cellA hn (by simpa using hu)) (by intro u hu; simp at hu; subst hu; rfl) (by omega) (by omega) (by omega)
  refine ⟨a', c', w', hr, h2, (f0.mono (fun _ _ h => h.elim)).trans (Fr.of_grown h3) (fun i hi e => e), fun k hk => ?_⟩
  rcases h4 with ⟨rfl, _⟩ | ⟨rfl, _⟩
  · exact .inl hk
  · simp [blk] at hk; exact .inr (by omega)
theorem infoEn3 : (Try.prog.info? 46).map (fun i => (i.size, i.bytes)) = some (56, 504) := by kernel_rfl
theorem infoEnz : ((Try.prog.info? 46).bind (fun i => i.zero)).map (fun z => z.cells.size) = some 56 := by kernel_rfl
theorem info_en : ∃ i z, Try.prog.info? 46 = some i ∧ i.zero = some z ∧ i.size = 56 ∧ i.bytes = 504 ∧ z.cells.size = 56 := by
  have h1 := infoEn3
  have h2 := infoEnz
  cases hi : Try.prog.info? 46 with
  | none => rw [hi] at h1; cases h1
  | some i =>
    rw [hi] at h1 h2
    simp only [Option.map_some, Option.some.injEq, Prod.mk.injEq, Option.bind_some] at h1 h2
    cases hz : i.zero with
    | none => rw [hz] at h2; cases h2
    | some z =>
      rw [hz] at h2
      simp only [Option.map_some, Option.some.injEq] at h2
      exact ⟨i, z, rfl, hz, h1.1, h1.2, h2⟩
/-- one more entry behind the others -/
theorem en_append (w : World) (ra : Option Addr) (rc n : Nat) (xs : List Value) (hrow : Ro w 46 56 ra n rc xs) (hb : n ≤ 10000000) (cs : Array Value) (hs : cs.size = 56) (h1 : ∀ u ∈ cs.toList, u.oneCell' = true) :
    ∃ ra' rc' w', (Builtin.append_ #[74, 74] 74 #[.slice ra n rc, .slice (some ⟨w.heap.size, 0, none⟩) 1 1]).run Try.prog (w.alloc (.cells cs 46)) = .ok (.slice ra' (n + 1) rc') w' ∧
      Ro w' 46 56 ra' (n + 1) rc' (xs ++ cs.toList) ∧ Fr (fun k => blk ra = some k) w w' ∧ (∀ k, blk ra' = some k → blk ra = some k ∨ w.heap.size ≤ k) := by
  obtain ⟨i0, z, hi, hz0, hz1, hz2, hz3⟩ := info_en
  have f0 : Fr (fun _ => False) w (w.alloc (.cells cs 46)) := Fr.alloc (Fr.refl _ _) _
  have hn := Go.heap_alloc_new w (.cells cs 46)
  obtain ⟨a', c', w', hr, h2, h3, h4⟩ := run_append_o (P := Try.prog) (w.alloc (.cells cs 46)) 74 74 46 i0 z 56 504 Try.underlying74 hi hz0 hz1 hz2 hz3 (by omega) ra n rc xs (hrow.kept f0 (fun _ _ h => h)) ⟨w.heap.size, 0, none⟩ 1 1 cs.toList (by rw [Array.length_toList, hs]) (fun j u hu => by
    rw [Addr.add_lit, Nat.zero_add]
    exact cellA hn (by rw [← Array.getElem?_toList]; exact hu)) h1 (by omega) (by omega) (by omega)
  refine ⟨a', c', w', hr, h2, (f0.mono (fun _ _ h => h.elim)).trans (Fr.of_grown h3) (fun i hi e => e), fun k hk => ?_⟩
  rcases h4 with ⟨rfl, _⟩ | ⟨rfl, _⟩
  · exact .inl hk
  · simp [blk] at hk; exact .inr (by omega)
/-- AN ENTRY WITHOUT ROWS reads the same in whatever memory -/
def Fe (cs : List Value) (e : A.En) : Prop := ∀ (I : Nat → Prop) (w : World), Re I w cs e
theorem Re.fe {I : Nat → Prop} {w : World} {cs : List Value} {e : A.En} (h : Re I w cs e) (h1 : e.ops = []) (h2 : e.dt = []) : Fe cs e := by
  obtain ⟨h0, a1, c1, a2, c2, h3, _, _⟩ := h
  intro J W
  refine ⟨h0, a1, c1, a2, c2, h3, ?_, ?_⟩
  · rw [h1]; exact Rw.nil _ _ _ _
  · rw [h2]; exact Rw.nil _ _ _ _
theorem Rs.fe {I : Nat → Prop} {w : World} {cs : Array Value} {s : A.Sd} (h : Rs I w cs s) (h1 : s.en.ops = []) (h2 : s.en.dt = []) : ∃ ec, cs = (.int .i64 s.slot :: .int .i64 s.bl.1 :: .int .i64 s.bl.2 :: ec).toArray ∧ Fe ec s.en := by
  obtain ⟨ec, h3, h4⟩ := h
  exact ⟨ec, h3, h4.fe h1 h2⟩
/-- what entry answers -/
def A.enN (v : Int) : A.En := ⟨(A.zfx.set 0 (.int .i64 7)).set 53 (.int .i64 v), [], []⟩
theorem A.enN_ok (v : Int) : (A.enN v).Ok := by
  refine ⟨rfl, fun j u hv => ?_, by simp [A.enN], by simp [A.enN], by simp [A.enN]⟩
  simp only [A.enN, List.getElem?_set] at hv
  by_cases e1 : 53 = j
  · subst e1
    simp [A.zfx] at hv
    subst hv
    exact ⟨_, rfl⟩
  · by_cases e2 : 0 = j
    · subst e2
      simp [A.zfx] at hv
      subst hv
      exact ⟨_, rfl⟩
    · simp only [e1, e2, if_false] at hv
      exact A.zen_ok.ty j u hv
theorem A.enN_fe (v : Int) : Fe (A.enN v).fx (A.enN v) := fun I w => ⟨A.enN_ok v, none, 0, none, 0, rfl, Rw.nil _ _ _ _, Rw.nil _ _ _ _⟩
def env (v : Int) : Array Value := (zE56.setIfInBounds 0 (.int .i64 7)).setIfInBounds 53 (.int .i64 v)
theorem enOne (v : Int) : (env v).all (·.oneCell') = true := by kernel_rfl
theorem env_eq (v : Int) : env v = (A.enN v).fx.toArray := by kernel_rfl
set_option maxHeartbeats 1600000 in
set_option maxRecDepth 20000 in
theorem lEntry_any (n : Int) (w : World) : Calls Try.prog 26 #[.int .i64 n] w fun r w' => r = .returned (.agg (env (n.tmod 8))) ∧ Fr (fun _ => False) w w' := by
  obtain ⟨W, hW⟩ : ∃ W, w.alloc (.cells zE56 46) = W := ⟨_, rfl⟩
  have f0 : Fr (fun _ => False) w W := by rw [← hW]; exact Fr.alloc (Fr.refl _ _) _
  have b0 : W.heap[w.heap.size]? = some (.cells zE56 46 (0, 0)) := by rw [← hW]; exact Go.heap_alloc_new w _
  obtain ⟨V, st, lr, fV⟩ := box_back (c := env (n.tmod 8)) b0 (by exact Nat.le_refl 56) (by kernel_rfl) (enOne _) Try.underlying46 rfl
  have fin : Fr (fun _ => False) w V := f0.trans fV (fun i hi e => by omega)
  have HW := hid hW
  have hva : Value.agg (env (n.tmod 8)) = Value.agg (env (n.tmod 8)) := rfl
  obtain ⟨va, hva⟩ : ∃ va, Value.agg (env (n.tmod 8)) = va := ⟨_, rfl⟩
  rw [hva] at st lr
  have HVA := hid hva
  have ST := hid st
  have LR := hid lr
  have FIN := hid fin
  unfold zE56 at HW
  clear hW f0 b0 st lr fV fin hva
  go_enter Try.func26, Try.ntmps26
  go_wp2_with (first
    | (refine wpList_store_v (by rw [HW.out]; exact ST.out) (by exact ⟨_, _, rfl, rfl, HVA.out⟩) (by kernel_rfl) ?_))
  exact bodyPost_ret (v := va) (results_cell1 Try.results26 _ _ _ _ _ (by rfl) LR.out) rfl ⟨by rw [HVA.out], FIN.out⟩
end Go.Proofs.Ytedhmhlhjonloaa

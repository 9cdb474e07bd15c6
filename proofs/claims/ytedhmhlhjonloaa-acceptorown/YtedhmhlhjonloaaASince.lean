/-
  What was accepted from a slot on: gathered, and sorted.
-/
import Derived.Test.YtedhmhlhjonloaaAAcc
namespace Go.Proofs.Ytedhmhlhjonloaa
open Go.RowKit Go.Maps
set_option linter.unusedVariables false
set_option linter.unusedSimpArgs false

theorem infoPtr : (Try.prog.info? 93).map (fun i => (i.zero, i.size, i.bytes)) = some (some (.pointer none), 1, 8) := by kernel_rfl
/-- one more pointer, behind the others -/
theorem ptr_append (w : World) (ra : Option Addr) (rc n : Nat) (xs : List Value) (hrow : Ro w 93 1 ra n rc xs) (hb : n ≤ 1000000000000) (v : Value) (hv : v.oneCell' = true) :
    ∃ ra' rc' w', (Builtin.append_ #[99, 99] 99 #[.slice ra n rc, .slice (some ⟨w.heap.size, 0, none⟩) 1 1]).run Try.prog (w.alloc (.cells #[v] 93)) = .ok (.slice ra' (n + 1) rc') w' ∧
      Ro w' 93 1 ra' (n + 1) rc' (xs ++ [v]) ∧ Fr (fun k => blk ra = some k) w w' ∧ (∀ k, blk ra' = some k → blk ra = some k ∨ w.heap.size ≤ k) := by
  obtain ⟨i0, hi, hz0, hz1, hz2⟩ := info_parts infoPtr
  have f0 : Fr (fun _ => False) w (w.alloc (.cells #[v] 93)) := Fr.alloc (Fr.refl _ _) _
  have hn := Go.heap_alloc_new w (.cells #[v] 93)
  obtain ⟨a', c', w', hr, h2, h3, h4⟩ := run_append_o (P := Try.prog) (w.alloc (.cells #[v] 93)) 99 99 93 i0 _ 1 8 Try.underlying99 hi hz0 hz1 hz2 rfl (by omega) ra n rc xs (hrow.kept f0 (fun _ _ h => h)) ⟨w.heap.size, 0, none⟩ 1 1 [v] (by simp) (fun j u hu => by
    rw [Addr.add_lit, Nat.zero_add]
    cases j with
    | zero => simp at hu; subst hu; exact cellA hn rfl
    | succ j => simp at hu) (by simpa using hv) (by omega) (by omega) (by omega)
  refine ⟨a', c', w', hr, h2, (f0.mono (fun _ _ h => h.elim)).trans (Fr.of_grown h3) (fun i hi e => e), fun k hk => ?_⟩
  rcases h4 with ⟨rfl, _⟩ | ⟨rfl, _⟩
  · exact .inl hk
  · simp [blk] at hk; exact .inr (by omega)
/-- those from a slot on -/
def A.from_ {α : Type} (k : Int) (l : List (Int × α)) : List (Int × α) := l.filter (fun p => decide (k ≤ p.1))
abbrev ptrV (g : Nat) : Value := .pointer (some ⟨g, 0, none⟩)
/-- 'for k, s := range m': THE STEP. -/
theorem wpList_next_sl (w : World) {ops : Array Oper} {rest : List Oper} {o : Oper} {a : Act} {Q : Exit → Act → World → Prop} (hg : o.guard = none) (it : Operand) (hop : o.op = Op.next it false)
    (b r n : Nat) (l : List (Int × Nat)) (left : Lit → Bool) (cnt : Nat) (hit : a.eval it = .pointer (some ⟨r, 0, none⟩)) (h : w.ranges Try.prog 2 slElem b r n (A.toD l) left cnt)
    (hDone : cnt = 0 → (∀ kl, left kl = false) → wpList Try.prog ops Q rest (a.put o.dst (.tuple #[.bool false])) w)
    (hMore : ∀ (x : Int) (g : Nat) (w' : World) (cnt' : Nat), left (.int .i64 x) = true → A.get x l = some g → w'.ranges Try.prog 2 slElem b r n (A.toD l) (fun z => left z && !z.sameKey (.int .i64 x)) cnt' → cnt' < cnt →
      w.grownBy w' (some r) → w'.heap.size = w.heap.size → (Instr.entry (.pointer (some ⟨r, 0, none⟩))).run Try.prog w' = .ok (.tuple #[.int .i64 x, ptrV g]) w' → wpList Try.prog ops Q rest (a.put o.dst (.tuple #[.bool true, .int .i64 x, ptrV g])) w') :
    wpList Try.prog ops Q (o :: rest) a w := by
  refine wpList_next_ranges w hg it hop 2 keyedI slElem (Value.int .i64) (fun c : Option Nat => Value.pointer (c.map fun g => (⟨g, 0, none⟩ : Addr))) (fun key kl hkey => by obtain ⟨x, e, _⟩ := Maps.keyOf_int_inv Try.underlying2 hkey; exact ⟨x, e⟩)
    (fun v y hv => by
      rcases slElem_inv hv with ⟨g, rfl, _⟩ | ⟨rfl, _⟩
      · exact ⟨some g, rfl⟩
      · exact ⟨none, rfl⟩) b r n (A.toD l) left cnt hit h hDone (fun x c kl y w' cnt' hkey hlk hv hat hrg hlt hgr hsz hen => ?_)
  obtain ⟨x', e, rfl, _⟩ := Maps.keyOf_int_inv Try.underlying2 hkey
  cases e
  rcases slElem_inv hv with ⟨g, e1, rfl⟩ | ⟨e1, rfl⟩
  · cases c with
    | none => simp at e1
    | some g' =>
      simp at e1
      subst e1
      have hgt : A.get x l = some g' := by
        have h1 := hat .nil
        rw [A.toD_at] at h1
        cases hg : A.get x l with
        | none => rw [hg] at h1; simp at h1
        | some v => rw [hg] at h1; simp at h1; rw [h1]
      exact hMore x g' w' cnt' hlk hgt hrg hlt hgr hsz hen
  · exfalso
    have h1 := hat (.held 0)
    rw [A.toD_at] at h1
    cases hg : A.get x l with
    | none => rw [hg] at h1; simp at h1
    | some v => rw [hg] at h1; simp at h1
/-- what is left of the keys -/
def il (left : Lit → Bool) : Int → Bool := fun z => left (.int .i64 z)
/-- those that have come, from a slot on -/
def A.come {α : Type} (k : Int) (L : Int → Bool) (l : List (Int × α)) : List (Int × α) := l.filter (fun p => !L p.1 && decide (k ≤ p.1))
theorem A.come_start {α : Type} {k : Int} {L : Int → Bool} {l : List (Int × α)} (h : ∀ p ∈ l, L p.1 = true) : A.come k L l = [] := by
  unfold A.come
  rw [List.filter_eq_nil_iff]
  intro p hp
  simp [h p hp]
theorem A.come_end {α : Type} {k : Int} {L : Int → Bool} {l : List (Int × α)} (h : ∀ p ∈ l, L p.1 = false) : A.come k L l = A.from_ k l := by
  unfold A.come A.from_
  exact List.filter_congr (fun p hp => by simp [h p hp])
theorem A.come_step {α : Type} {k : Int} {L : Int → Bool} {l : List (Int × α)} (hu : A.Up l) {x : Int} {v : α} (hm : (x, v) ∈ l) (hx : L x = true) :
    (k ≤ x → (A.come k (fun z => L z && !(z == x)) l).Perm (A.come k L l ++ [(x, v)])) ∧ (¬ k ≤ x → A.come k (fun z => L z && !(z == x)) l = A.come k L l) := by
  induction l with
  | nil => cases hm
  | cons y r ih =>
    have hu' := hu
    unfold A.Up at hu
    rw [List.pairwise_cons] at hu
    by_cases e : y.1 = x
    · have hy : y = (x, v) := hu'.inj (by simp) hm e
      have hr : A.come k (fun z => L z && !(z == x)) r = A.come k L r := List.filter_congr (fun p hp => by
        have : (p.1 == x) = false := by
          have := hu.1 p hp
          simp
          omega
        simp [this])
      subst hy
      constructor
      · intro hk
        unfold A.come
        rw [List.filter_cons_of_pos (by simp [hk]), List.filter_cons_of_neg (by simp [hx])]
        have := hr
        unfold A.come at this
        rw [this]
        exact (List.perm_append_singleton _ _).symm
      · intro hk
        unfold A.come
        rw [List.filter_cons_of_neg (by simp [hk]), List.filter_cons_of_neg (by simp [hk])]
        exact hr
    · have hm' : (x, v) ∈ r := by
        rcases List.mem_cons.1 hm with h | h
        · exact absurd (by rw [← h]) e
        · exact h
      have ih := ih hu.2 hm'
      have e2 : (y.1 == x) = false := by simpa using e
      unfold A.come at ih ⊢
      by_cases hL : (!L y.1 && decide (k ≤ y.1)) = true
      · rw [List.filter_cons_of_pos (by simp only [e2, Bool.not_false, Bool.and_true]; exact hL), List.filter_cons_of_pos (p := fun p : Int × α => !L p.1 && decide (k ≤ p.1)) hL]
        exact ⟨fun hk => (ih.1 hk).cons y, fun hk => by rw [ih.2 hk]⟩
      · rw [List.filter_cons_of_neg (by simp only [e2, Bool.not_false, Bool.and_true]; exact hL), List.filter_cons_of_neg (p := fun p : Int × α => !L p.1 && decide (k ≤ p.1)) hL]
        exact ih
theorem A.from_mp {α β : Type} (f : α → β) (k : Int) (l : List (Int × α)) : A.from_ k (A.mp f l) = A.mp f (A.from_ k l) := by
  unfold A.from_ A.mp
  rw [List.filter_map]
  rfl
theorem A.Up.from_ {α : Type} {l : List (Int × α)} (h : A.Up l) (k : Int) : A.Up (A.from_ k l) := List.Pairwise.filter _ h
/-- what sorting them leaves -/
def SortsP (w : World) (ra : Option Addr) (n rc : Nat) (m : List (Int × Nat)) : Prop := Calls Try.prog 55 #[.slice ra n rc, .func (.func 56) #[] #[]] w fun e w' => e = .returned (.tuple #[]) ∧ Rw (fun g => blk ra = some g) w' 1 ra m.length (m.map (fun q => ptrV q.2)) ∧ Fr (fun k => blk ra = some k) w w'
set_option maxHeartbeats 3200000 in
set_option maxRecDepth 20000 in
theorem acSince_any {I : Nat → Prop} {w : World} {p mb : Nat} {a : A.Ac} {l : List (Int × SM)} (h : Am I w p mb l a) (k : Int) (hl : l.length ≤ 310000000000) (hmb : mb < w.heap.size)
    (KS : ∀ (W : World) (hf : Fr (fun _ => False) w W) (got : List (Int × Nat)) (ra : Option Addr) (rc : Nat), got.Perm (A.from_ k (A.mp SM.g l)) → Ro W 93 1 ra got.length rc (got.map (fun q => ptrV q.2)) → (∀ j, blk ra = some j → w.heap.size < j) → SortsP W ra got.length rc (A.from_ k (A.mp SM.g l))) :
    Calls Try.prog 45 #[ptrV p, .int .i64 k] w fun e w' => ∃ ra rc, e = .returned (.slice ra (A.from_ k l).length rc) ∧ Rw (fun g => w.heap.size ≤ g ∧ g < w'.heap.size) w' 1 ra (A.from_ k l).length ((A.from_ k l).map (fun q => ptrV q.2.g)) ∧ Fr (fun _ => False) w w' := by
  have c3 : w.cell? ⟨p, 3, none⟩ = some (.map (some mb)) := cellA h.at_ rfl
  have hpl := lt_of_row h.at_
  have HM := hid h.mp
  have HU := hid (h.up.mp SM.g)
  have HN := hid (A.length_mp SM.g l)
  have HL := hid hl
  have HS := hid KS
  have HE := hid (A.from_mp SM.g k l)
  clear h hl KS
  obtain ⟨m, hm⟩ : ∃ m, A.mp SM.g l = m := ⟨_, rfl⟩
  rw [hm] at HM HU HN HS HE
  have HMM := hid hm
  clear hm
  go_enter Try.func45, Try.ntmps45
  go_wp2_with (first
    | (at_range; refine wpList_range_own _ rfl _ 88 rfl 2 93 keyedI Try.underlying88 slElem mb _ _ rfl HM.out ?_; intro w0 hrg0 hg0 hs0))
  go_frame
  go_loopw [5] (fun t wr => ∃ left cnt ra rc got, t = .slice ra (List.length got) rc ∧ wr.ranges Try.prog 2 slElem mb w.heap.size m.length (A.toD m) left cnt ∧ Ro wr 93 1 ra (List.length got) rc (List.map (fun q : Int × Nat => ptrV q.2) got) ∧ List.Perm got (A.come k (il left) m) ∧ (∀ j, blk ra = some j → w.heap.size < j) ∧ Fr (fun _ => False) w wr ∧ w.heap.size < wr.heap.size)
    (fun _ wr => wr.rangeLeft mb w.heap.size)
  case atStart =>
    have f0 : Fr (fun _ => False) w w0 := ⟨hg0.os, hg0.tape, hg0.output, hg0.size, fun k hk _ => hg0.block k hk (by simp)⟩
    refine ⟨_, _, none, 0, [], rfl, hrg0, Ro.nil _ _ _, ?_, by simp [blk], f0, by omega⟩
    rw [A.come_start]
    intro q hq
    show Maps.has (A.toD m) (.int .i64 q.1) = true
    rw [A.toD_has, A.get_of_mem HU.out (show (q.1, q.2) ∈ m from hq)]
    rfl
  case round =>
    obtain ⟨left, cnt, ra, rc, got, rfl, hrg, hro, hpm, hnw, hfr, hsz⟩ := hrel
    have HR := hid hrg
    have HRO := hid hro
    have HP := hid hpm
    have HNW := hid hnw
    have HF := hid hfr
    have hgl : got.length ≤ 310000000000 := by
      have h1 := hpm.length_eq
      have h2 : (A.come k (il left) m).length ≤ m.length := List.length_filter_le _ _
      have h3 := HN.out
      have h4 := HL.out
      omega
    have HGL := hid hgl
    obtain ⟨n, hn⟩ : ∃ n, got.length = n := ⟨_, rfl⟩
    rw [hn]
    have HNN := hid hn
    clear hrg hro hpm hnw hfr hgl hn
    go_wp2_with (first
      | (at_next; refine wpList_next_sl _ rfl _ rfl mb w.heap.size _ _ left cnt rfl HR.out ?_ ?_))
    · intro _ hl0
      have hco : A.come k (il left) m = A.from_ k m := A.come_end (fun q _ => hl0 _)
      have hks := HS.out wr HF.out got ra rc (by rw [← hco]; exact HP.out) HRO.out HNW.out
      rw [HNN.out] at hks
      unfold SortsP at hks
      have hlen : n = (A.from_ k l).length := by rw [← HNN.out, HP.out.length_eq, hco, HE.out, A.length_mp]
      have HKS := hid hks
      have HLEN := hid hlen
      clear hco hks hlen hl0
      go_wp2_with (first | (go_at_call 55; refine HKS.out.mono ?_; rintro e w1 ⟨rfl, hrw, hf1⟩; have RW1 := hid hrw; have F1 := hid hf1; clear hrw hf1))
      go_ret
      have f2 : Fr (fun _ => False) w w1 := HF.out.trans F1.out (fun i hi e => by have := HNW.out i e; omega)
      refine ⟨ra, rc, by rw [← HLEN.out]; rfl, ?_, f2⟩
      have r1 := RW1.out
      rw [HE.out, A.length_mp] at r1
      have e1 : (A.mp SM.g (A.from_ k l)).map (fun q => ptrV q.2) = (A.from_ k l).map (fun q => ptrV q.2.g) := by simp [A.mp, Function.comp_def]
      rw [e1] at r1
      refine r1.mono (fun i hi => ?_)
      have h1 := HNW.out i hi
      have h2 := HRO.out.lt i hi
      have h3 := F1.out.size
      omega
    · intro x g w1 cnt1 hlx hgx hrg1 hlt1 hg1 hs1 hen
      have f1 : Fr (fun j => j = w.heap.size) wr w1 := (Fr.of_grown hg1).mono (fun i _ e => by simp at e; exact e.symm)
      have hro1 := HRO.out.kept f1 (fun j hj e => by have := HNW.out j hj; omega)
      have fw1 : Fr (fun _ => False) w w1 := HF.out.trans f1 (fun i hi e => by omega)
      have hst := A.come_step (k := k) (L := il left) HU.out (A.get_mem hgx) hlx
      have hil : il (fun z => left z && !z.sameKey (.int .i64 x)) = fun z => il left z && !(z == x) := by
        funext z
        show (left (.int .i64 z) && !(Lit.int .i64 z).sameKey (.int .i64 x)) = (left (.int .i64 z) && !(z == x))
        rw [A.same_int]
      rw [← hil] at hst
      by_cases hk : k ≤ x
      · obtain ⟨ra', rc', w2, hr2, hro2, hf2, hb2⟩ := ptr_append w1 ra rc got.length _ hro1 (by have := HGL.out; omega) (ptrV g) rfl
        rw [HNN.out] at hr2
        have fin : ∃ left' cnt' ra'' rc'' got', Value.slice ra' (n + 1) rc' = .slice ra'' (List.length got') rc'' ∧ w2.ranges Try.prog 2 slElem mb w.heap.size m.length (A.toD m) left' cnt' ∧ Ro w2 93 1 ra'' (List.length got') rc'' (List.map (fun q : Int × Nat => ptrV q.2) got') ∧ List.Perm got' (A.come k (il left') m) ∧ (∀ j, blk ra'' = some j → w.heap.size < j) ∧ Fr (fun _ => False) w w2 ∧ w.heap.size < w2.heap.size := by
          refine ⟨_, cnt1, ra', rc', got ++ [(x, g)], by rw [List.length_append, HNN.out]; rfl, rangesI_kept hrg1 hf2 (fun e => by have := HNW.out _ e; omega) (fun e => by have := HNW.out _ e; omega), ?_, ?_, ?_, fw1.trans hf2 (fun i hi e => by have := HNW.out i e; omega), ?_⟩
          · rw [List.length_append, List.map_append]
            exact hro2
          · exact (HP.out.append_right _).trans (hst.1 hk).symm
          · intro j hj
            rcases hb2 j hj with h1 | h1
            · exact HNW.out j h1
            · omega
          · have := hf2.size
            omega
        have hle : w2.rangeLeft mb w.heap.size < wr.rangeLeft mb w.heap.size := by
          have h1 := rangesI_kept hrg1 hf2 (fun e => by have := HNW.out _ e; omega) (fun e => by have := HNW.out _ e; omega)
          rw [h1.left_eq, HR.out.left_eq]
          exact hlt1
        have R2 := hid hr2
        have FIN := hid fin
        have LE := hid hle
        clear hro1 hr2 hro2 hf2 hb2 hrg1 fw1 hst hil f1 hg1 fin hle hs1 hlt1 hgx hlx hsz hs0 hg0 hrg0
        go_wp2_with (first | (at_builtin; refine wpList_append_eq _ _ rfl (.tmp 21) (.tmp 23) _ rfl _ _ _ rfl rfl R2.out ?_))
        exact ⟨FIN.out, LE.out⟩
      · have fin : ∃ left' cnt' ra'' rc'' got', Value.slice ra n rc = .slice ra'' (List.length got') rc'' ∧ w1.ranges Try.prog 2 slElem mb w.heap.size m.length (A.toD m) left' cnt' ∧ Ro w1 93 1 ra'' (List.length got') rc'' (List.map (fun q : Int × Nat => ptrV q.2) got') ∧ List.Perm got' (A.come k (il left') m) ∧ (∀ j, blk ra'' = some j → w.heap.size < j) ∧ Fr (fun _ => False) w w1 ∧ w.heap.size < w1.heap.size :=
          ⟨_, cnt1, ra, rc, got, by rw [HNN.out], hrg1, hro1, by rw [hst.2 hk]; exact HP.out, HNW.out, fw1, by omega⟩
        have hle : w1.rangeLeft mb w.heap.size < wr.rangeLeft mb w.heap.size := by
          rw [hrg1.left_eq, HR.out.left_eq]
          exact hlt1
        have FIN := hid fin
        have LE := hid hle
        clear hro1 hrg1 fw1 hst hil f1 hg1 fin hle hs1 hlt1 hgx hlx hsz hs0 hg0 hrg0
        go_wp2
        exact ⟨FIN.out, LE.out⟩
end Go.Proofs.Ytedhmhlhjonloaa

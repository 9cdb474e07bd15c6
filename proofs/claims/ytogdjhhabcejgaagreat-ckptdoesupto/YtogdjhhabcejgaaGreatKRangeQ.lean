/-
  Going through the files in whatever order.
-/
import Derived.Test.YtogdjhhabcejgaaGreatMg11
namespace Go.Proofs.YtogdjhhabcejgaaGreat
open Go.RowKit Go.Maps
set_option linter.unusedVariables false
namespace K
variable {α : Type}
/-- the sum over those that are no longer to come -/
def totN (L : Nm → Bool) (f : α → Nat) (l : List (Nm × α)) : Nat := tot f (l.filter (fun p => !L p.1))
theorem totN_start {L : Nm → Bool} {f : α → Nat} {l : List (Nm × α)} (h : ∀ p ∈ l, L p.1 = true) : totN L f l = 0 := by
  unfold totN
  rw [List.filter_eq_nil_iff.2 (fun p hp => by simp [h p hp])]
  rfl
theorem totN_end {L : Nm → Bool} {f : α → Nat} {l : List (Nm × α)} (h : ∀ p ∈ l, L p.1 = false) : totN L f l = tot f l := by
  unfold totN
  rw [List.filter_eq_self.2 (fun p hp => by simp [h p hp])]
theorem totN_step {L : Nm → Bool} (f : α → Nat) {l : List (Nm × α)} (hu : Up l) {n : Nm} {v : α} (hm : (n, v) ∈ l) (hn : L n = true) : totN (fun z => L z && !(z == n)) f l = totN L f l + f v := by
  induction l with
  | nil => cases hm
  | cons y r ih =>
    have hu' := hu
    unfold Up at hu
    rw [List.pairwise_cons] at hu
    unfold totN at ih ⊢
    by_cases e : y.1 = n
    · have hy : y = (n, v) := hu'.inj (by simp) hm e
      have hr : r.filter (fun p => !(L p.1 && !(p.1 == n))) = r.filter (fun p => !L p.1) := List.filter_congr (fun p hp => by
        have : p.1 ≠ n := fun e2 => bb_ne (hu.1 p hp) (e.trans e2.symm)
        simp [this])
      subst hy
      rw [List.filter_cons_of_pos (by simp), List.filter_cons_of_neg (by simp [hn]), tot_cons, hr]
      exact Nat.add_comm _ _
    · have hm' : (n, v) ∈ r := by
        rcases List.mem_cons.1 hm with h | h
        · exact absurd (by rw [← h]) e
        · exact h
      have ih := ih hu.2 hm'
      by_cases hL : L y.1 = true
      · rw [List.filter_cons_of_neg (by simp [hL, e]), List.filter_cons_of_neg (by simp [hL])]
        exact ih
      · rw [List.filter_cons_of_pos (by simp [hL]), List.filter_cons_of_pos (by simp [hL]), tot_cons, tot_cons, ih]
        omega
theorem totN_le (L : Nm → Bool) (f : α → Nat) (l : List (Nm × α)) : totN L f l ≤ tot f l := by
  unfold totN
  induction l with
  | nil => exact Nat.le_refl _
  | cons y r ih =>
    rw [List.filter_cons, tot_cons]
    split
    · rw [tot_cons]; omega
    · omega
/-- those that are no longer to come have turned -/
def fsN (t : α → α) (L : Nm → Bool) (l : List (Nm × α)) : List (Nm × α) := l.map (fun p => if L p.1 then p else (p.1, t p.2))
theorem fsN_start {t : α → α} {L : Nm → Bool} {l : List (Nm × α)} (h : ∀ p ∈ l, L p.1 = true) : fsN t L l = l := by
  unfold fsN
  conv => rhs; rw [← List.map_id l]
  exact List.map_congr_left (fun p hp => by simp [h p hp])
theorem fsN_end {t : α → α} {L : Nm → Bool} {l : List (Nm × α)} (h : ∀ p ∈ l, L p.1 = false) : fsN t L l = mp t l := by
  unfold fsN mp
  exact List.map_congr_left (fun p hp => by simp [h p hp])
theorem fsN_step (t : α → α) {L : Nm → Bool} {l : List (Nm × α)} (hu : Up l) {n : Nm} {v : α} (hm : (n, v) ∈ l) (hn : L n = true) : upd n (t v) (fsN t L l) = fsN t (fun z => L z && !(z == n)) l := by
  unfold upd fsN
  rw [List.map_map]
  refine List.map_congr_left (fun p hp => ?_)
  simp only [Function.comp]
  by_cases e : p.1 = n
  · have : p = (n, v) := hu.inj hp hm e
    subst this
    simp [hn]
  · have e1 : (if L p.1 = true then p else (p.1, t p.2)).1 = p.1 := by split <;> rfl
    rw [if_neg (by rw [e1]; simpa using e)]
    simp [e]
theorem fsN_mem {t : α → α} {L : Nm → Bool} {l : List (Nm × α)} {n : Nm} {v : α} (hm : (n, v) ∈ fsN t L l) (hn : L n = true) : (n, v) ∈ l := by
  unfold fsN at hm
  obtain ⟨p, hp, e⟩ := List.mem_map.1 hm
  by_cases hL : L p.1 = true
  · rw [if_pos hL] at e
    exact e ▸ hp
  · rw [if_neg hL] at e
    simp only [Prod.mk.injEq] at e
    rw [e.1] at hL
    exact absurd hn hL
theorem fsN_up {t : α → α} {L : Nm → Bool} {l : List (Nm × α)} (h : Up l) : Up (fsN t L l) := by
  unfold fsN Up
  unfold Up at h
  rw [List.pairwise_map]
  refine List.Pairwise.imp (fun {p q} hpq => ?_) h
  have e : ∀ r : Nm × α, (if L r.1 = true then r else (r.1, t r.2)).1 = r.1 := fun r => by split <;> rfl
  rw [e, e]
  exact hpq
theorem fsN_keys (t : α → α) (L : Nm → Bool) (l : List (Nm × α)) : (fsN t L l).map (·.1) = l.map (·.1) := by
  unfold fsN
  rw [List.map_map]
  exact List.map_congr_left (fun p _ => by simp only [Function.comp]; split <;> rfl)
end K

/-- 'for k, f := range m': THE STEP. -/
theorem wpList_next_file (w : World) {ops : Array Oper} {rest : List Oper} {o : Oper} {a : Act} {Q : Exit → Act → World → Prop} (hg : o.guard = none) (it : Operand) (hop : o.op = Op.next it false)
    (b r n : Nat) (l : List (K.Nm × Nat)) (left : Lit → Bool) (cnt : Nat) (hit : a.eval it = .pointer (some ⟨r, 0, none⟩)) (h : w.ranges Tryz.prog 9 fileElem b r n (K.toD l) left cnt)
    (hDone : cnt = 0 → (∀ kl, left kl = false) → wpList Tryz.prog ops Q rest (a.put o.dst (.tuple #[.bool false])) w)
    (hMore : ∀ (x : List UInt8) (g : Nat) (w' : World) (cnt' : Nat), left (.string x) = true → K.get x l = some g → w'.ranges Tryz.prog 9 fileElem b r n (K.toD l) (fun z => left z && !z.sameKey (.string x)) cnt' → cnt' < cnt →
      w.grownBy w' (some r) → w'.heap.size = w.heap.size → (Instr.entry (.pointer (some ⟨r, 0, none⟩))).run Tryz.prog w' = .ok (.tuple #[encStr x, .pointer (some ⟨g, 0, none⟩)]) w' → wpList Tryz.prog ops Q rest (a.put o.dst (.tuple #[.bool true, encStr x, .pointer (some ⟨g, 0, none⟩)])) w') :
    wpList Tryz.prog ops Q (o :: rest) a w := by
  refine wpList_next_ranges w hg it hop 9 keyed fileElem encStr (fun c : Option Nat => Value.pointer (c.map fun g => (⟨g, 0, none⟩ : Addr))) (fun key kl hkey => by obtain ⟨x, e, _⟩ := Maps.keyOf_str Tryz.underlying9 hkey; exact ⟨x, e⟩)
    (fun v y hv => by
      rcases fileElem_inv hv with ⟨g, rfl, _⟩ | ⟨rfl, _⟩
      · exact ⟨some g, rfl⟩
      · exact ⟨none, rfl⟩) b r n (K.toD l) left cnt hit h hDone (fun x c kl y w' cnt' hkey hlk hv hat hrg hlt hgr hsz hen => ?_)
  obtain ⟨x', e, rfl, _⟩ := Maps.keyOf_str Tryz.underlying9 hkey
  have := encStr_inj e
  subst this
  rcases fileElem_inv hv with ⟨g, e1, rfl⟩ | ⟨e1, rfl⟩
  · cases c with
    | none => simp at e1
    | some g' =>
      simp at e1
      subst e1
      have hgt : K.get x l = some g' := by
        have h1 := hat .nil
        rw [K.toD_at] at h1
        cases hg : K.get x l with
        | none => rw [hg] at h1; simp at h1
        | some v => rw [hg] at h1; simp at h1; rw [h1]
      exact hMore x g' w' cnt' hlk hgt hrg hlt hgr hsz hen
  · exfalso
    have h1 := hat (.held 0)
    rw [K.toD_at] at h1
    cases hg : K.get x l with
    | none => rw [hg] at h1; simp at h1
    | some v => rw [hg] at h1; simp at h1

/-- the disk's own cells are others -/
theorem Du.own {c : Cl} {w w' : World} {p mb : Nat} {l : List (K.Nm × FM)} {d d' : K.DK} {u u' : Int} (h : Du c w p mb l d u) (hf : Fr (fun k => k = p) w w') (hat : w'.heap[p]? = some (.cells #[.int .i64 d'.room, .int .i64 u', .map (some mb), .int .i64 d'.left, .int .i64 d'.keep, .bool d'.down] 46 (0, 0))) (hfs : d'.fs = d.fs) : Du c w' p mb l d' u' := by
  have hpm : mb ≠ p := fun e => by have := h.cm; rw [e, h.cp] at this; simp at this
  exact ⟨hat, h.cp, h.cm, h.mp.kept hf hpm, fun q hq => (h.fl q hq).kept hf (fun k hk e => (h.ne hq).1 (e ▸ hk)), h.inj, h.fs.trans hfs.symm, fun k hk => Nat.lt_of_lt_of_le (h.lt k hk) hf.size⟩
theorem Du.k {c : Cl} {w : World} {p mb : Nat} {l : List (K.Nm × FM)} {d : K.DK} {u : Int} (h : Du c w p mb l d u) : w.cell? ⟨p, 0, none⟩ = some (.int .i64 d.room) ∧ w.cell? ⟨p, 2, none⟩ = some (.map (some mb)) ∧ w.cell? ⟨p, 3, none⟩ = some (.int .i64 d.left) ∧ w.cell? ⟨p, 4, none⟩ = some (.int .i64 d.keep) ∧ w.cell? ⟨p, 5, none⟩ = some (.bool d.down) :=
  ⟨cell_of h.at_ rfl, cell_of h.at_ rfl, cell_of h.at_ rfl, cell_of h.at_ rfl, cell_of h.at_ rfl⟩
theorem Du.ku {c : Cl} {w : World} {p mb : Nat} {l : List (K.Nm × FM)} {d : K.DK} {u : Int} (h : Du c w p mb l d u) : w.cell? ⟨p, 1, none⟩ = some (.int .i64 u) := cell_of h.at_ rfl
/-- the file of a name -/
theorem Du.file {c : Cl} {w : World} {p mb : Nat} {l : List (K.Nm × FM)} {d : K.DK} {u : Int} (h : Du c w p mb l d u) {n : K.Nm} {g : Nat} (hg : K.get n (K.mp FM.g l) = some g) : ∃ m, (n, m) ∈ l ∧ m.g = g ∧ (n, m.f) ∈ d.fs := by
  rw [K.get_mp, Option.map_eq_some_iff] at hg
  obtain ⟨m, hm, e⟩ := hg
  have := K.get_mem hm
  exact ⟨m, this, e, by rw [← h.fs]; exact K.mem_mp.2 ⟨_, this, rfl⟩⟩
theorem Du.get {c : Cl} {w : World} {p mb : Nat} {l : List (K.Nm × FM)} {d : K.DK} {u : Int} (h : Du c w p mb l d u) (n : K.Nm) : K.get n d.fs = (K.get n l).map FM.f ∧ K.get n (K.mp FM.g l) = (K.get n l).map FM.g := by
  rw [← h.fs, K.get_mp, K.get_mp]; exact ⟨rfl, rfl⟩
theorem Du.len {c : Cl} {w : World} {p mb : Nat} {l : List (K.Nm × FM)} {d : K.DK} {u : Int} (h : Du c w p mb l d u) : l.length = d.fs.length := by
  rw [← h.fs, K.length_mp]

end Go.Proofs.YtogdjhhabcejgaaGreat

/-
  From, of any nodes.
  The document's From, in plain words: it takes just what the program takes, and makes the same tree.
-/
import Derived.Test.YtilbdpnioajkoaaGreatMg39
import Derived.Test.YtilbdpnioajkoaaGreatMg41
import Derived.Test.YtilbdpnioajkoaaGreatTGathQ
import Derived.Test.YtilbdpnioajkoaaGreatMg28
namespace Go.Proofs.YtilbdpnioajkoaaGreat
open Go.RowKit Go.Maps
set_option linter.unusedVariables false
set_option linter.unusedSimpArgs false
set_option maxRecDepth 100000
attribute [local go_sem] Oper.semAt_some
theorem T.wfB {x : Int} (h : (Lit.int .i64 x).wf = true) : -9223372036854775808 ≤ x ∧ x ≤ 9223372036854775807 := by
  simp [Lit.wf, IntKind.min, IntKind.max, IntKind.signed, IntKind.bits] at h
  omega
namespace T
/-- are they a tree? -/
noncomputable def fromOk (zs : List Tn) : Bool := (asc (fun (a b : Tn) => decide (a.1.1 < b.1.1)) zs && zs.all gok) && (zs.all (standZ (gathered zero zs)) && !ring (joined (gathered zero zs) zs))
theorem lt_of_asc {zs : List Tn} (h : asc (fun (a b : Tn) => decide (a.1.1 < b.1.1)) zs = true) : zs.Pairwise (fun a b => a.1.1 < b.1.1) := by
  have h1 := asc_iff.1 h
  refine List.pairwise_iff_getElem.2 (fun i j hi hj hij => ?_)
  have : ∀ d, ∀ j (hj : j < zs.length), j = i + d + 1 → (zs[i]'hi).1.1 < (zs[j]'hj).1.1 := fun d => by
    induction d with
    | zero =>
      intro j hj e
      subst e
      have := h1 i _ _ (List.getElem?_eq_getElem hi) (List.getElem?_eq_getElem hj)
      simpa using this
    | succ d ih =>
      intro j hj e
      have h2 := ih (i + d + 1) (by omega) rfl
      subst e
      have := h1 (i + d + 1) _ _ (List.getElem?_eq_getElem (by omega)) (List.getElem?_eq_getElem hj)
      simp only [decide_eq_true_eq] at this
      omega
  exact this (j - i - 1) j hj (by omega)
/-- what is gathered and joined is a tree, but for rings -/
theorem pf_of {zs : List Tn} (hwf : ∀ z ∈ zs, z.1.1 ≤ 9223372036854775807) (h1 : asc (fun (a b : Tn) => decide (a.1.1 < b.1.1)) zs = true) (h2 : zs.all gok = true) (h3 : zs.all (standZ (gathered zero zs)) = true) : Pf (joined (gathered zero zs) zs) := by
  have hlt := lt_of_asc h1
  have hnd : (zs.map (fun z => z.1.1)).Nodup := List.pairwise_map.2 (hlt.imp (fun h e => by rw [e] at h; exact Int.lt_irrefl _ h))
  have hgu := gathered_up zero_up zs
  have hju := joined_up hgu zs
  -- what is at a place
  have hat : ∀ m x, A.get m (joined (gathered zero zs) zs) = some x → (∃ z ∈ zs, z.1.1 = m ∧ x = ⟨if 2 < m then z.1.2.par else 0, if 2 < m then z.1.2.nm else ⟨#[]⟩, z.1.2.ats⟩) ∨ ((∀ z ∈ zs, z.1.1 ≠ m) ∧ x = zn ∧ (m = 1 ∨ m = 2)) := fun m x hx => by
    obtain ⟨g1, g2⟩ := gathered_get zero_up m hnd
    obtain ⟨j1, j2⟩ := joined_get hgu m hnd
    by_cases hz : ∃ z ∈ zs, z.1.1 = m
    · obtain ⟨z, hzm, e⟩ := hz
      refine .inl ⟨z, hzm, e, ?_⟩
      have hg := g1 z hzm e
      by_cases hm : 2 < m
      · rw [j1 z hzm e hm, hg] at hx
        cases hx
        rw [if_pos hm, if_pos hm]
        rfl
      · rw [j2 (.inr (by omega)), hg] at hx
        cases hx
        rw [if_neg hm, if_neg hm]
    · have hno : ∀ z ∈ zs, z.1.1 ≠ m := fun z hzm e => hz ⟨z, hzm, e⟩
      rw [j2 (.inl hno), g2 hno] at hx
      have h4 := A.get_mem hx
      unfold zero at h4
      simp at h4
      refine .inr ⟨hno, ?_, ?_⟩
      · rcases h4 with ⟨_, rfl⟩ | ⟨_, rfl⟩ <;> rfl
      · rcases h4 with ⟨rfl, _⟩ | ⟨rfl, _⟩
        · exact .inl rfl
        · exact .inr rfl
  have hsome : ∀ m, (A.get m (gathered zero zs)).isSome = true → (A.get m (joined (gathered zero zs) zs)).isSome = true := fun m hm => by
    obtain ⟨g1, g2⟩ := gathered_get zero_up m hnd
    obtain ⟨j1, j2⟩ := joined_get hgu m hnd
    by_cases hz : ∃ z ∈ zs, z.1.1 = m
    · obtain ⟨z, hzm, e⟩ := hz
      by_cases hm2 : 2 < m
      · rw [j1 z hzm e hm2]; rfl
      · rw [j2 (.inr (by omega))]; exact hm
    · rw [j2 (.inl (fun z hzm e => hz ⟨z, hzm, e⟩))]; exact hm
  have hz12 : ∀ m, m = 1 ∨ m = 2 → (A.get m (gathered zero zs)).isSome = true := fun m hm => by
    obtain ⟨g1, g2⟩ := gathered_get zero_up m hnd
    by_cases hz : ∃ z ∈ zs, z.1.1 = m
    · obtain ⟨z, hzm, e⟩ := hz
      rw [g1 z hzm e]; rfl
    · rw [g2 (fun z hzm e => hz ⟨z, hzm, e⟩)]
      rcases hm with rfl | rfl <;> rfl
  have hgo : ∀ z ∈ zs, gok z = true := fun z hz => List.all_eq_true.1 h2 z hz
  refine ⟨hju, hsome 1 (hz12 1 (.inl rfl)), hsome 2 (hz12 2 (.inr rfl)), fun m x hx => ?_, fun m x hx hm => ?_, fun m x hx hm => ?_, fun m x hx => ?_⟩
  · rcases hat m x hx with ⟨z, hz, e, _⟩ | ⟨_, _, e⟩
    · have h4 := hgo z hz
      unfold gok at h4
      simp only [Bool.and_eq_true, decide_eq_true_eq] at h4
      have := hwf z hz
      omega
    · omega
  · rcases hat m x hx with ⟨z, hz, e, rfl⟩ | ⟨_, rfl, _⟩
    · rw [if_neg (by omega), if_neg (by omega)]
      exact ⟨rfl, rfl⟩
    · exact ⟨rfl, rfl⟩
  · rcases hat m x hx with ⟨z, hz, e, rfl⟩ | ⟨_, _, e⟩
    · rw [if_pos hm, if_pos hm]
      have h4 := List.all_eq_true.1 h3 z hz
      unfold standZ stand at h4
      rw [if_neg (by omega), Bool.and_eq_true] at h4
      exact ⟨hsome _ h4.1, h4.2⟩
    · omega
  · rcases hat m x hx with ⟨z, hz, e, rfl⟩ | ⟨_, rfl, _⟩
    · have h4 := hgo z hz
      unfold gok at h4
      simp only [Bool.and_eq_true, decide_eq_true_eq] at h4
      refine ⟨?_, fun p hp => ?_⟩
      · exact T.asc_ak h4.2.2
      · have h5 := h4.2.1
        unfold T.txts at h5
        have := List.all_eq_true.1 h5 p hp
        simpa using this
    · exact ⟨List.Pairwise.nil, fun p hp => by cases hp⟩
theorem put_len {k : Int} {v : Nd} : ∀ t : Tr, (A.put k v t).length ≤ t.length + 1 := fun t => A.length_put_le k v t
theorem gathered_len : ∀ (zs : List Tn) (t : Tr), (gathered t zs).length ≤ t.length + zs.length
  | [], t => Nat.le_refl _
  | z :: r, t => by
    have h1 := gathered_len r (gstep t z)
    have h2 : (gstep t z).length ≤ t.length + 1 := put_len t
    show (gathered (gstep t z) r).length ≤ _
    rw [List.length_cons]
    omega
theorem joined_len : ∀ (zs : List Tn) (t : Tr), (joined t zs).length ≤ t.length + zs.length
  | [], t => Nat.le_refl _
  | z :: r, t => by
    have h1 := joined_len r (jstep t z)
    have h2 : (jstep t z).length ≤ t.length + 1 := by
      unfold jstep
      split
      · exact put_len t
      · omega
    show (joined (jstep t z) r).length ≤ _
    rw [List.length_cons]
    omega
theorem gathered_zero_len (zs : List Tn) : (joined (gathered zero zs) zs).length ≤ 2 * zs.length + 2 := by
  have h1 := joined_len zs (gathered zero zs)
  have h2 := gathered_len zs zero
  have h3 : zero.length = 2 := rfl
  omega
/-- the tree of nodes -/
noncomputable def tree (zs : List Tn) : Tr := joined (gathered zero zs) zs
/-- .. has at most two nodes more -/
theorem tree_len {zs : List Tn} (h1 : asc (fun (a b : Tn) => decide (a.1.1 < b.1.1)) zs = true) : (tree zs).length ≤ zs.length + 2 := by
  have hnd : (zs.map (fun z => z.1.1)).Nodup := List.pairwise_map.2 ((lt_of_asc h1).imp (fun h e => by rw [e] at h; exact Int.lt_irrefl _ h))
  have hgu := gathered_up zero_up zs
  have hup : A.Up (tree zs) := joined_up hgu zs
  have hL : ((tree zs).map Prod.fst).Nodup := List.pairwise_map.2 (hup.imp (fun h e => by rw [e] at h; exact Int.lt_irrefl _ h))
  have := len_sub (M := 1 :: 2 :: zs.map (fun z => z.1.1)) hL (fun m hm => by
    obtain ⟨p, hp, rfl⟩ := List.mem_map.1 hm
    have hg : A.get p.1 (tree zs) = some p.2 := (A.get_iff hup).2 hp
    by_cases hz : ∃ z ∈ zs, z.1.1 = p.1
    · obtain ⟨z, hz, e⟩ := hz
      exact List.mem_cons_of_mem _ (List.mem_cons_of_mem _ (List.mem_map.2 ⟨z, hz, e⟩))
    · have hz2 : ∀ z ∈ zs, z.1.1 ≠ p.1 := fun z hz3 e => hz ⟨z, hz3, e⟩
      rw [show tree zs = joined (gathered zero zs) zs from rfl, (joined_get hgu p.1 hnd).2 (.inl hz2), (gathered_get zero_up p.1 hnd).2 hz2] at hg
      have h3 := A.get_mem hg
      unfold zero at h3
      simp only [List.mem_cons, Prod.mk.injEq, List.not_mem_nil, or_false] at h3
      rcases h3 with ⟨h4, _⟩ | ⟨h4, _⟩ <;> rw [h4] <;> simp)
  simpa using this
theorem wf_of {zs : List Tn} (hwf : ∀ z ∈ zs, z.1.1 ≤ 9223372036854775807) (h : fromOk zs = true) : Wf (tree zs) := by
  unfold fromOk at h
  simp only [Bool.and_eq_true, Bool.not_eq_true'] at h
  refine (pf_of hwf h.1.1 h.1.2 h.2.1).wf ?_
  have h4 := h.2.2
  unfold ring at h4
  exact ⟨_, Classical.byContradiction (fun hn => by rw [@decide_eq_true _ (Classical.propDecidable _) hn] at h4; cases h4)⟩
theorem gath_bare {zs : List Tn} (h1 : asc (fun (a b : Tn) => decide (a.1.1 < b.1.1)) zs = true) : ∀ z ∈ zs, ∃ x, A.get z.1.1 (gathered zero zs) = some x ∧ x.par = 0 := fun z hzm =>
  ⟨_, (gathered_get zero_up z.1.1 (List.pairwise_map.2 ((lt_of_asc h1).imp (fun h e => by rw [e] at h; exact Int.lt_irrefl _ h)))).1 z hzm rfl, rfl⟩
end T
set_option maxHeartbeats 8000000 in
theorem from_any {w : World} {zs : List T.Tn} {I : Nat → Prop} {ra : Option Addr} {rc : Nat} (hR : T.Nr I w ra zs) (hI : ∀ i, I i → i < w.heap.size) (hwf : ∀ z ∈ zs, ((Lit.int .i64 z.1.1).wf = true ∧ z.1.2.ats.length ≤ 5000000000000) ∧ (Lit.int .i64 z.1.2.par).wf = true) (hlen : zs.length ≤ 2520000000000) :
    Calls Tryz.prog 15 #[.slice ra zs.length rc] w fun e w' => Fr (fun _ => False) w w' ∧ ((T.fromOk zs = false ∧ e = .returned (.tuple #[.pointer none, .int .i64 121])) ∨ (T.fromOk zs = true ∧ ∃ p c mb f bud, e = .returned (.tuple #[ptr p, .int .i64 0]) ∧ Tf c w' bud p 0 0 (T.tree zs) mb f ∧ bud ≤ 2 * zs.length ∧ Lo c w'.heap.size ∧ (∀ i, c i ≠ none → w.heap.size ≤ i))) := by
  have KN := hid (tnew_any w)
  have hup := T.gathered_up T.zero_up zs
  have KG := hid (fun (W : World) (p mb : Nat) (c : Nat → Option T.Col) (f : Int → Nat) (h : Tf c W 0 p 0 0 T.zero mb f) (hl : Lo c W.heap.size) (hc : ∀ i, c i ≠ none → w.heap.size ≤ i) (hf : Fr (fun _ => False) w W) =>
    gather_any (rc := rc) h hl T.zero_up rfl (fun m x hx => by
      have h1 := A.get_mem hx
      unfold T.zero at h1
      simp at h1
      rcases h1 with ⟨_, rfl⟩ | ⟨_, rfl⟩ <;> rfl) (hR.kept hf (fun _ _ h => h)) (fun i hi => by
        cases hq : c i with
        | none => rfl
        | some col => have := hc i (by rw [hq]; simp); have := hI i hi; omega) (fun z hzm => (hwf z hzm).1) (by omega))
  have KJ := hid (fun (ha : T.asc (fun (a b : T.Tn) => decide (a.1.1 < b.1.1)) zs = true) (W : World) (p mb bud : Nat) (c : Nat → Option T.Col) (f : Int → Nat) (h : Tf c W bud p 0 0 (T.gathered T.zero zs) mb f) (hl : Lo c W.heap.size) (hc : ∀ i, c i ≠ none → w.heap.size ≤ i) (hf : Fr (fun _ => False) w W) (hg0 : A.get 0 (T.gathered T.zero zs) = none) (hbud : bud ≤ 2600000000000) =>
    join_any (rc := rc) h hl hup hg0 (hR.kept hf (fun _ _ h => h)) (fun i hi => by
        cases hq : c i with
        | none => rfl
        | some col => have := hc i (by rw [hq]; simp); have := hI i hi; omega) (T.lt_of_asc ha) (T.gath_bare ha) (fun z hzm => ⟨(hwf z hzm).1.1, (hwf z hzm).2⟩) (by omega))
  have KH := hid (fun (h1 : T.asc (fun (a b : T.Tn) => decide (a.1.1 < b.1.1)) zs = true) (h2 : zs.all T.gok = true) (h3 : zs.all (T.standZ (T.gathered T.zero zs)) = true) (W : World) (p mb bud : Nat) (c : Nat → Option T.Col) (f : Int → Nat) (h : Tf c W bud p 0 0 (T.tree zs) mb f) (hbud : bud ≤ 5200000000000) => hasRing2_any h (by omega) (by have := T.tree_len h1; omega) (T.pf_of (fun z hz => by have := T.wfB (hwf z hz).1.1; omega) h1 h2 h3))
  have hTO : T.fromOk zs = ((T.asc (fun (a b : T.Tn) => decide (a.1.1 < b.1.1)) zs && zs.all T.gok) && (zs.all (T.standZ (T.gathered T.zero zs)) && !T.ring (T.tree zs))) := rfl
  have hTT : T.joined (T.gathered T.zero zs) zs = T.tree zs := rfl
  rw [hTT] at KJ
  obtain ⟨n, hn⟩ : ∃ n, zs.length = n := ⟨_, rfl⟩
  obtain ⟨B1, hB1⟩ : ∃ b, T.asc (fun (a b : T.Tn) => decide (a.1.1 < b.1.1)) zs = b := ⟨_, rfl⟩
  obtain ⟨B2, hB2⟩ : ∃ b, zs.all T.gok = b := ⟨_, rfl⟩
  obtain ⟨B3, hB3⟩ : ∃ b, zs.all (T.standZ (T.gathered T.zero zs)) = b := ⟨_, rfl⟩
  obtain ⟨B4, hB4⟩ : ∃ b, T.ring (T.tree zs) = b := ⟨_, rfl⟩
  rw [hn] at KG KJ ⊢
  rw [hB1] at KG KJ KH hTO
  rw [hB2] at KG KH hTO
  rw [hB3] at KJ KH hTO
  rw [hB4] at KH hTO
  rw [hTO]
  have hn2 : n ≤ 2520000000000 := by omega
  clear hR hI hwf hlen hup hn hTO hTT hB1 hB2 hB3 hB4
  go_enter Tryz.func15, Tryz.ntmps15
  go_wp2_with fail
  refine KN.out.mono ?_
  rintro e w1 ⟨p, c, rfl, ⟨mb, f, h1⟩, hf1, hc1⟩
  have H1 := hid h1
  have F1 := hid hf1
  have C1 := hid hc1
  have KG1 := hid (KG.out w1 p mb c f h1 (fun i hi => (hc1 i hi).2) (fun i hi => (hc1 i hi).1) hf1)
  clear h1 hf1 hc1 KG
  dsimp only
  go_wp2_with fail
  refine KG1.out.mono ?_
  rintro e w2 ⟨rfl, hf2, hx2⟩
  have F2 := hid (show Fr (fun _ => False) w w2 from F1.out.trans hf2 (fun i hi e => by have := (C1.out i e).1; omega))
  cases hb12 : (B1 && B2) with
  | false =>
    clear hf2 hx2 KJ KG1 KH H1 C1 F1
    dsimp only
    go_wp2_with fail
    go_ret2
    exact ⟨F2.out, .inl ⟨by rw [hb12]; rfl, rfl⟩⟩
  | true =>
  rw [Bool.and_eq_true] at hb12
  obtain ⟨rfl, rfl⟩ := hb12
  obtain ⟨c2, f2, hm2, hl2, ht2, _, hg0, _⟩ := hx2 rfl rfl
  have C2 := hid (show ∀ i, c2 i ≠ none → w.heap.size ≤ i from fun i hi => by
    cases Nat.lt_or_ge i w1.heap.size with
    | inl hlt => exact (C1.out i (by rw [← hm2 i hlt]; exact hi)).1
    | inr hge => exact Nat.le_trans F1.out.size hge)
  have KJ1 := hid (KJ.out rfl w2 p mb (0 + n) c2 f2 ht2 hl2 C2.out F2.out hg0 (by omega))
  clear hf2 hx2 hm2 hl2 ht2 hg0 KJ KG1
  dsimp only
  go_wp2_with fail
  refine KJ1.out.mono ?_
  rintro e w3 ⟨rfl, hf3, hx3⟩
  have F3 := hid (show Fr (fun _ => False) w w3 from F2.out.trans hf3 (fun i hi e => by have := C2.out i e; omega))
  cases B3 with
  | false =>
    clear hf3 hx3 KJ1 KH
    dsimp only
    go_wp2_with fail
    go_ret2
    exact ⟨F3.out, .inl ⟨by simp, rfl⟩⟩
  | true =>
  obtain ⟨c3, hm3, hl3, ht3⟩ := hx3 rfl
  have C3 := hid (show ∀ i, c3 i ≠ none → w.heap.size ≤ i from fun i hi => by
    cases Nat.lt_or_ge i w2.heap.size with
    | inl hlt => exact C2.out i (by rw [← hm3 i hlt]; exact hi)
    | inr hge => exact Nat.le_trans F2.out.size hge)
  have KH1 := hid (KH.out trivial trivial rfl w3 p mb _ c3 f2 ht3 (by omega))
  have HT3 := hid ht3
  have HL3 := hid hl3
  clear hf3 hx3 hm3 hl3 ht3 KH KJ1
  dsimp only
  go_wp2_with fail
  refine KH1.out.mono ?_
  rintro e w4 ⟨rfl, hf4⟩
  have F4 := hid hf4
  clear hf4
  cases B4 with
  | true =>
    dsimp only
    go_wp2_with fail
    go_ret2
    exact ⟨F3.out.trans F4.out (fun _ _ h => h), .inl ⟨by simp, rfl⟩⟩
  | false =>
    dsimp only
    go_wp2_with fail
    go_ret2
    exact ⟨F3.out.trans F4.out (fun _ _ h => h), .inr ⟨by simp, p, c3, mb, f2, _, rfl, HT3.out.kept F4.out (fun _ _ h => h), by omega, fun i hi => Nat.lt_of_lt_of_le (HL3.out i hi) F4.out.size, C3.out⟩⟩
end Go.Proofs.YtilbdpnioajkoaaGreat

namespace Go.Proofs.YtilbdpnioajkoaaGreat
set_option linter.unusedVariables false
set_option linter.unusedSimpArgs false
namespace U
open T
/-- the root and the trash have no place; the others have names -/
def tokn (z : Tn) : Bool := if z.1.1 ≤ 2 then decide (z.1.2.par = 0 ∧ z.1.2.nm = ⟨#[]⟩) else nam z.1.2.nm
/-- nodes put one by one -/
def layd (l zs : List Tn) : List Tn := zs.foldl (fun l z => put z l) l
abbrev lay (zs : List Tn) : List Tn := layd zero zs
theorem lay_take {zs : List Tn} {k : Nat} {z : Tn} (h : zs[k]? = some z) : lay (zs.take (k + 1)) = put z (lay (zs.take k)) := by
  unfold lay layd
  rw [List.take_add_one, h, List.foldl_append]
  rfl
theorem layd_up : ∀ (zs : List Tn) {l : List Tn}, A.Up (pl l) → A.Up (pl (layd l zs))
  | [], l, h => h
  | z :: r, l, h => by
    show A.Up (pl (layd (put z l) r))
    exact layd_up r (by rw [pl_put h]; exact h.put _ _)
theorem layd_len : ∀ (zs l : List Tn), (layd l zs).length ≤ l.length + zs.length
  | [], l => by simp [layd]
  | z :: r, l => by
    have h1 := layd_len r (put z l)
    have h2 : (put z l).length ≤ l.length + 1 := put_len
    show (layd (put z l) r).length ≤ _
    rw [List.length_cons]
    omega
theorem layd_get (m : Int) : ∀ {zs : List Tn} {l : List Tn}, A.Up (pl l) → (zs.map (fun z => z.1.1)).Nodup → (∀ z ∈ zs, z.1.1 = m → A.get m (pl (layd l zs)) = some z.1.2) ∧ ((∀ z ∈ zs, z.1.1 ≠ m) → A.get m (pl (layd l zs)) = A.get m (pl l))
  | [], l, _, _ => ⟨fun z hz => by simp at hz, fun _ => rfl⟩
  | y :: r, l, hl, h => by
    rw [List.map_cons, List.nodup_cons] at h
    have hpl : A.Up (pl (put y l)) := by rw [pl_put hl]; exact hl.put _ _
    obtain ⟨h1, h2⟩ := layd_get m (zs := r) hpl h.2
    refine ⟨fun z hz e => ?_, fun hn => ?_⟩
    · rcases List.mem_cons.1 hz with rfl | hz
      · have h3 := h2 (fun z' hz' e' => h.1 (List.mem_map.2 ⟨z', hz', e'.trans e.symm⟩))
        refine h3.trans ?_
        rw [← e, pl_put hl]
        exact A.get_put_same hl _ _
      · exact h1 z hz e
    · refine (h2 (fun z hz => hn z (List.mem_cons_of_mem _ hz))).trans ?_
      rw [pl_put hl]
      exact A.get_put_other hl (Ne.symm (hn y List.mem_cons_self)) _
theorem nodup_of {zs : List Tn} (h1 : asc (fun (a b : Tn) => decide (a.1.1 < b.1.1)) zs = true) : (zs.map (fun z => z.1.1)).Nodup :=
  List.pairwise_map.2 ((lt_of_asc h1).imp (fun h e => by rw [e] at h; exact Int.lt_irrefl _ h))
theorem zup : A.Up (pl zero) := by rw [pl_zero]; exact zero_up
theorem lay_eq {zs : List Tn} (h1 : asc (fun (a b : Tn) => decide (a.1.1 < b.1.1)) zs = true) (h3 : zs.all tokn = true) : pl (lay zs) = tree zs := by
  have hnd := nodup_of h1
  have hgu := gathered_up zero_up zs
  refine get_ext_up (layd_up zs zup) (joined_up hgu zs) (fun m => ?_)
  obtain ⟨l1, l2⟩ := layd_get m zup hnd
  obtain ⟨j1, j2⟩ := joined_get hgu m hnd
  obtain ⟨g1, g2⟩ := gathered_get zero_up m hnd
  by_cases hz : ∃ z ∈ zs, z.1.1 = m
  · obtain ⟨z, hz, e⟩ := hz
    rw [l1 z hz e]
    have ht := List.all_eq_true.1 h3 z hz
    unfold tokn at ht
    by_cases h2 : 2 < m
    · refine Eq.symm ((j1 z hz e h2).trans ?_)
      rw [g1 z hz e]
      rfl
    · refine Eq.symm ((j2 (.inr (by omega))).trans ?_)
      rw [g1 z hz e]
      rw [if_pos (by omega)] at ht
      have ht := of_decide_eq_true ht
      obtain ⟨⟨n, ⟨p, nm, ats⟩⟩, q⟩ := z
      simp only at ht ⊢
      rw [ht.1, ht.2]
  · have hz2 : ∀ z ∈ zs, z.1.1 ≠ m := fun z hz3 e => hz ⟨z, hz3, e⟩
    rw [l2 hz2]
    exact ((j2 (.inl hz2)).trans (g2 hz2)).symm
/-- does one come to the root or the trash, within k steps? -/
def reach (t : Tr) : Nat → Int → Bool
  | 0, n => decide (n = 1 ∨ n = 2)
  | k + 1, n => decide (n = 1 ∨ n = 2) || match A.get n t with
    | none => false
    | some x => reach t k x.par
theorem reach_succ {t : Tr} : ∀ {k : Nat} {n : Int}, reach t k n = true → reach t (k + 1) n = true
  | 0, n, h => by
    unfold reach at h ⊢
    rw [h]; rfl
  | k + 1, n, h => by
    unfold reach at h ⊢
    rw [Bool.or_eq_true] at h ⊢
    rcases h with h | h
    · exact .inl h
    · right
      cases hg : A.get n t with
      | none => rw [hg] at h; cases h
      | some x => rw [hg] at h; exact reach_succ h
theorem reach_le {t : Tr} {n : Int} {k : Nat} (h : reach t k n = true) : ∀ j, reach t (k + j) n = true
  | 0 => h
  | j + 1 => reach_succ (reach_le h j)
theorem reach_ends {t : Tr} (htop : ∀ n, n = 1 ∨ n = 2 → ends t 1 n) : ∀ {k : Nat} {n : Int}, reach t k n = true → ends t (k + 1) n
  | 0, n, h => htop n (of_decide_eq_true h)
  | k + 1, n, h => by
    unfold reach at h
    rw [Bool.or_eq_true] at h
    rcases h with h | h
    · have := ends_le (htop n (of_decide_eq_true h)) (k + 1)
      rw [Nat.add_comm 1] at this
      exact this
    · intro x hx
      rw [hx] at h
      exact reach_ends htop h
theorem ends_reach {t : Tr} (h : Pf t) : ∀ {k : Nat} {n : Int} {x : Nd}, ends t k n → A.get n t = some x → reach t k n = true
  | 0, n, x, he, hx => by rw [show A.get n t = none from he] at hx; cases hx
  | k + 1, n, x, he, hx => by
    unfold reach
    rw [Bool.or_eq_true]
    by_cases h2 : 2 < n
    · right
      rw [hx]
      obtain ⟨y, hy⟩ := Option.isSome_iff_exists.1 (h.low n x hx h2).1
      exact ends_reach h (he x hx) hy
    · left
      have := (h.num n x hx).1
      exact decide_eq_true (by omega)
/-- From takes just these -/
theorem from_iff {zs : List Tn} (hwf : ∀ z ∈ zs, z.1.1 ≤ 9223372036854775807) : fromOk zs = ((asc (fun (a b : Tn) => decide (a.1.1 < b.1.1)) zs && zs.all gok) && (zs.all tokn && (pl (lay zs)).all (fun p => reach (pl (lay zs)) ((lay zs).length + 1) p.1))) := by
  unfold fromOk
  cases h1 : asc (fun (a b : Tn) => decide (a.1.1 < b.1.1)) zs with
  | false => rfl
  | true =>
    cases h2 : zs.all gok with
    | false => rfl
    | true =>
      rw [Bool.true_and, Bool.true_and, Bool.true_and]
      have hst : zs.all (standZ (gathered T.zero zs)) = true → zs.all tokn = true := fun h => List.all_eq_true.2 (fun z hz => by
        have := List.all_eq_true.1 h z hz
        unfold standZ stand at this
        unfold tokn
        by_cases e : z.1.1 ≤ 2
        · rw [if_pos e] at this ⊢
          exact this
        · rw [if_neg e] at this ⊢
          rw [Bool.and_eq_true] at this
          exact this.2)
      cases h3 : zs.all tokn with
      | false =>
        cases h4 : zs.all (standZ (gathered T.zero zs)) with
        | false => rfl
        | true => rw [hst h4] at h3; cases h3
      | true =>
        rw [Bool.true_and]
        have hle := lay_eq h1 h3
        have hnd := nodup_of h1
        have hgu := gathered_up zero_up zs
        have hlen : (lay zs).length = (tree zs).length := by rw [← hle, pl_len]
        rw [hle, hlen]
        have hup : A.Up (tree zs) := joined_up hgu zs
        have hget : ∀ z ∈ zs, A.get z.1.1 (tree zs) = some z.1.2 := fun z hz => by
          rw [← hle]
          exact (layd_get z.1.1 zup hnd).1 z hz rfl
        have hgis : ∀ m, (A.get m (tree zs)).isSome = true → (A.get m (gathered T.zero zs)).isSome = true := fun m hm => by
          by_cases hz : ∃ z ∈ zs, z.1.1 = m
          · obtain ⟨z, hz, e⟩ := hz
            rw [(gathered_get zero_up m hnd).1 z hz e]
            rfl
          · have hz2 : ∀ z ∈ zs, z.1.1 ≠ m := fun z hz3 e => hz ⟨z, hz3, e⟩
            rw [show tree zs = joined (gathered T.zero zs) zs from rfl, (joined_get hgu m hnd).2 (.inl hz2)] at hm
            exact hm
        have htopg : ∀ n, n = 1 ∨ n = 2 → (A.get n (gathered T.zero zs)).isSome = true := fun n hn => by
          by_cases hz : ∃ z ∈ zs, z.1.1 = n
          · obtain ⟨z, hz, e⟩ := hz
            rw [(gathered_get zero_up n hnd).1 z hz e]
            rfl
          · have hz2 : ∀ z ∈ zs, z.1.1 ≠ n := fun z hz3 e => hz ⟨z, hz3, e⟩
            rw [(gathered_get zero_up n hnd).2 hz2]
            rcases hn with rfl | rfl <;> rfl
        cases h5 : (tree zs).all (fun p => reach (tree zs) ((tree zs).length + 1) p.1) with
        | true =>
          have h6 : zs.all (standZ (gathered T.zero zs)) = true := List.all_eq_true.2 (fun z hz => by
            have ht := List.all_eq_true.1 h3 z hz
            unfold tokn at ht
            unfold standZ stand
            by_cases e : z.1.1 ≤ 2
            · rw [if_pos e] at ht ⊢
              exact ht
            · rw [if_neg e] at ht ⊢
              rw [ht, Bool.and_true]
              have hr := List.all_eq_true.1 h5 (z.1.1, z.1.2) (A.get_mem (hget z hz))
              have hr : reach (tree zs) ((tree zs).length + 1) z.1.1 = true := hr
              unfold reach at hr
              rw [hget z hz, decide_eq_false (by omega), Bool.false_or] at hr
              simp only [] at hr
              cases hL : (tree zs).length with
              | zero =>
                rw [hL] at hr
                exact htopg _ (of_decide_eq_true hr)
              | succ L =>
                rw [hL] at hr
                unfold reach at hr
                rw [Bool.or_eq_true] at hr
                rcases hr with hr | hr
                · exact htopg _ (of_decide_eq_true hr)
                · refine hgis _ ?_
                  cases hp : A.get z.1.2.par (tree zs) with
                  | none => rw [hp] at hr; cases hr
                  | some y => rfl)
          rw [h6, Bool.true_and]
          have hP := pf_of hwf h1 h2 h6
          have hall : ∀ n, ends (tree zs) (tree zs).length n := fun n => by
            cases hg : A.get n (tree zs) with
            | none => exact ends_none hg _
            | some x =>
              have hr := List.all_eq_true.1 h5 (n, x) (A.get_mem hg)
              exact ends_len (reach_ends (fun n hn => hP.top_ends (by omega)) hr)
          have : ring (joined (gathered T.zero zs) zs) = false := by
            unfold ring
            exact @decide_eq_false _ (Classical.propDecidable _) (fun h => h hall)
          rw [this]
          rfl
        | false =>
          cases h6 : zs.all (standZ (gathered T.zero zs)) with
          | false => rfl
          | true =>
            have hP := pf_of hwf h1 h2 h6
            cases h7 : ring (joined (gathered T.zero zs) zs) with
            | true => rfl
            | false =>
              have hall : ∀ n, ends (tree zs) (tree zs).length n := by
                have h8 : ring (tree zs) = false := h7
                unfold ring at h8
                exact Classical.byContradiction (fun hn => by rw [@decide_eq_true _ (Classical.propDecidable _) hn] at h8; cases h8)
              have : (tree zs).all (fun p => reach (tree zs) ((tree zs).length + 1) p.1) = true := List.all_eq_true.2 (fun p hp => by
                refine reach_le (ends_reach hP (hall p.1) (x := p.2) ?_) 1
                exact (A.get_iff hup).2 hp)
              rw [this] at h5
              cases h5
end U
end Go.Proofs.YtilbdpnioajkoaaGreat

/-
  The document's From, in plain words: it takes just what the program takes, and makes the same tree.
  The document's tree: put.
-/
import Derived.Test.YtilbdpnioajkoaaGreatMg35
import Derived.Test.YtilbdpnioajkoaaGreatMg37
namespace Go.Proofs.YtilbdpnioajkoaaGreat
set_option linter.unusedVariables false
set_option linter.unusedSimpArgs false
namespace U
open T
/-- the root and the trash have no place; the others have names -/
def tokn (z : Tn) : Bool := if z.1.1 ≤ 2 then decide (z.1.2.par = 0 ∧ z.1.2.nm = ⟨#[]⟩) else nam z.1.2.nm
/-- nodes put one by one -/
def layd (l zs : List Tn) : List Tn := zs.foldl (fun l z => put z l) l
abbrev lay (zs : List Tn) : List Tn := layd zero zs
theorem lay_take {zs : List Tn} {k : Nat} {z : Tn} (h : zs[k]? = some z) : lay (zs.take (k + 1)) = put z (lay (zs.take k)) := by
  unfold lay layd
  rw [List.take_add_one, h, List.foldl_append]
  rfl
theorem layd_up : ∀ (zs : List Tn) {l : List Tn}, A.Up (pl l) → A.Up (pl (layd l zs))
  | [], l, h => h
  | z :: r, l, h => by
    show A.Up (pl (layd (put z l) r))
    exact layd_up r (by rw [pl_put h]; exact h.put _ _)
theorem layd_len : ∀ (zs l : List Tn), (layd l zs).length ≤ l.length + zs.length
  | [], l => by simp [layd]
  | z :: r, l => by
    have h1 := layd_len r (put z l)
    have h2 : (put z l).length ≤ l.length + 1 := put_len
    show (layd (put z l) r).length ≤ _
    rw [List.length_cons]
    omega
theorem layd_get (m : Int) : ∀ {zs : List Tn} {l : List Tn}, A.Up (pl l) → (zs.map (fun z => z.1.1)).Nodup → (∀ z ∈ zs, z.1.1 = m → A.get m (pl (layd l zs)) = some z.1.2) ∧ ((∀ z ∈ zs, z.1.1 ≠ m) → A.get m (pl (layd l zs)) = A.get m (pl l))
  | [], l, _, _ => ⟨fun z hz => by simp at hz, fun _ => rfl⟩
  | y :: r, l, hl, h => by
    rw [List.map_cons, List.nodup_cons] at h
    have hpl : A.Up (pl (put y l)) := by rw [pl_put hl]; exact hl.put _ _
    obtain ⟨h1, h2⟩ := layd_get m (zs := r) hpl h.2
    refine ⟨fun z hz e => ?_, fun hn => ?_⟩
    · rcases List.mem_cons.1 hz with rfl | hz
      · have h3 := h2 (fun z' hz' e' => h.1 (List.mem_map.2 ⟨z', hz', e'.trans e.symm⟩))
        refine h3.trans ?_
        rw [← e, pl_put hl]
        exact A.get_put_same hl _ _
      · exact h1 z hz e
    · refine (h2 (fun z hz => hn z (List.mem_cons_of_mem _ hz))).trans ?_
      rw [pl_put hl]
      exact A.get_put_other hl (Ne.symm (hn y List.mem_cons_self)) _
theorem nodup_of {zs : List Tn} (h1 : asc (fun (a b : Tn) => decide (a.1.1 < b.1.1)) zs = true) : (zs.map (fun z => z.1.1)).Nodup :=
  List.pairwise_map.2 ((lt_of_asc h1).imp (fun h e => by rw [e] at h; exact Int.lt_irrefl _ h))
theorem zup : A.Up (pl zero) := by rw [pl_zero]; exact zero_up
theorem lay_eq {zs : List Tn} (h1 : asc (fun (a b : Tn) => decide (a.1.1 < b.1.1)) zs = true) (h3 : zs.all tokn = true) : pl (lay zs) = tree zs := by
  have hnd := nodup_of h1
  have hgu := gathered_up zero_up zs
  refine get_ext_up (layd_up zs zup) (joined_up hgu zs) (fun m => ?_)
  obtain ⟨l1, l2⟩ := layd_get m zup hnd
  obtain ⟨j1, j2⟩ := joined_get hgu m hnd
  obtain ⟨g1, g2⟩ := gathered_get zero_up m hnd
  by_cases hz : ∃ z ∈ zs, z.1.1 = m
  · obtain ⟨z, hz, e⟩ := hz
    rw [l1 z hz e]
    have ht := List.all_eq_true.1 h3 z hz
    unfold tokn at ht
    by_cases h2 : 2 < m
    · refine Eq.symm ((j1 z hz e h2).trans ?_)
      rw [g1 z hz e]
      rfl
    · refine Eq.symm ((j2 (.inr (by omega))).trans ?_)
      rw [g1 z hz e]
      rw [if_pos (by omega)] at ht
      have ht := of_decide_eq_true ht
      obtain ⟨⟨n, ⟨p, nm, ats⟩⟩, q⟩ := z
      simp only at ht ⊢
      rw [ht.1, ht.2]
  · have hz2 : ∀ z ∈ zs, z.1.1 ≠ m := fun z hz3 e => hz ⟨z, hz3, e⟩
    rw [l2 hz2]
    exact ((j2 (.inl hz2)).trans (g2 hz2)).symm
/-- does one come to the root or the trash, within k steps? -/
def reach (t : Tr) : Nat → Int → Bool
  | 0, n => decide (n = 1 ∨ n = 2)
  | k + 1, n => decide (n = 1 ∨ n = 2) || match A.get n t with
    | none => false
    | some x => reach t k x.par
theorem reach_succ {t : Tr} : ∀ {k : Nat} {n : Int}, reach t k n = true → reach t (k + 1) n = true
  | 0, n, h => by
    unfold reach at h ⊢
    rw [h]; rfl
  | k + 1, n, h => by
    unfold reach at h ⊢
    rw [Bool.or_eq_true] at h ⊢
    rcases h with h | h
    · exact .inl h
    · right
      cases hg : A.get n t with
      | none => rw [hg] at h; cases h
      | some x => rw [hg] at h; exact reach_succ h
theorem reach_le {t : Tr} {n : Int} {k : Nat} (h : reach t k n = true) : ∀ j, reach t (k + j) n = true
  | 0 => h
  | j + 1 => reach_succ (reach_le h j)
theorem reach_ends {t : Tr} (htop : ∀ n, n = 1 ∨ n = 2 → ends t 1 n) : ∀ {k : Nat} {n : Int}, reach t k n = true → ends t (k + 1) n
  | 0, n, h => htop n (of_decide_eq_true h)
  | k + 1, n, h => by
    unfold reach at h
    rw [Bool.or_eq_true] at h
    rcases h with h | h
    · have := ends_le (htop n (of_decide_eq_true h)) (k + 1)
      rw [Nat.add_comm 1] at this
      exact this
    · intro x hx
      rw [hx] at h
      exact reach_ends htop h
theorem ends_reach {t : Tr} (h : Pf t) : ∀ {k : Nat} {n : Int} {x : Nd}, ends t k n → A.get n t = some x → reach t k n = true
  | 0, n, x, he, hx => by rw [show A.get n t = none from he] at hx; cases hx
  | k + 1, n, x, he, hx => by
    unfold reach
    rw [Bool.or_eq_true]
    by_cases h2 : 2 < n
    · right
      rw [hx]
      obtain ⟨y, hy⟩ := Option.isSome_iff_exists.1 (h.low n x hx h2).1
      exact ends_reach h (he x hx) hy
    · left
      have := (h.num n x hx).1
      exact decide_eq_true (by omega)
/-- From takes just these -/
theorem from_iff {zs : List Tn} (hwf : ∀ z ∈ zs, z.1.1 ≤ 9223372036854775807) : fromOk zs = ((asc (fun (a b : Tn) => decide (a.1.1 < b.1.1)) zs && zs.all gok) && (zs.all tokn && (pl (lay zs)).all (fun p => reach (pl (lay zs)) ((lay zs).length + 1) p.1))) := by
  unfold fromOk
  cases h1 : asc (fun (a b : Tn) => decide (a.1.1 < b.1.1)) zs with
  | false => rfl
  | true =>
    cases h2 : zs.all gok with
    | false => rfl
    | true =>
      rw [Bool.true_and, Bool.true_and, Bool.true_and]
      have hst : zs.all (standZ (gathered T.zero zs)) = true → zs.all tokn = true := fun h => List.all_eq_true.2 (fun z hz => by
        have := List.all_eq_true.1 h z hz
        unfold standZ stand at this
        unfold tokn
        by_cases e : z.1.1 ≤ 2
        · rw [if_pos e] at this ⊢
          exact this
        · rw [if_neg e] at this ⊢
          rw [Bool.and_eq_true] at this
          exact this.2)
      cases h3 : zs.all tokn with
      | false =>
        cases h4 : zs.all (standZ (gathered T.zero zs)) with
        | false => rfl
        | true => rw [hst h4] at h3; cases h3
      | true =>
        rw [Bool.true_and]
        have hle := lay_eq h1 h3
        have hnd := nodup_of h1
        have hgu := gathered_up zero_up zs
        have hlen : (lay zs).length = (tree zs).length := by rw [← hle, pl_len]
        rw [hle, hlen]
        have hup : A.Up (tree zs) := joined_up hgu zs
        have hget : ∀ z ∈ zs, A.get z.1.1 (tree zs) = some z.1.2 := fun z hz => by
          rw [← hle]
          exact (layd_get z.1.1 zup hnd).1 z hz rfl
        have hgis : ∀ m, (A.get m (tree zs)).isSome = true → (A.get m (gathered T.zero zs)).isSome = true := fun m hm => by
          by_cases hz : ∃ z ∈ zs, z.1.1 = m
          · obtain ⟨z, hz, e⟩ := hz
            rw [(gathered_get zero_up m hnd).1 z hz e]
            rfl
          · have hz2 : ∀ z ∈ zs, z.1.1 ≠ m := fun z hz3 e => hz ⟨z, hz3, e⟩
            rw [show tree zs = joined (gathered T.zero zs) zs from rfl, (joined_get hgu m hnd).2 (.inl hz2)] at hm
            exact hm
        have htopg : ∀ n, n = 1 ∨ n = 2 → (A.get n (gathered T.zero zs)).isSome = true := fun n hn => by
          by_cases hz : ∃ z ∈ zs, z.1.1 = n
          · obtain ⟨z, hz, e⟩ := hz
            rw [(gathered_get zero_up n hnd).1 z hz e]
            rfl
          · have hz2 : ∀ z ∈ zs, z.1.1 ≠ n := fun z hz3 e => hz ⟨z, hz3, e⟩
            rw [(gathered_get zero_up n hnd).2 hz2]
            rcases hn with rfl | rfl <;> rfl
        cases h5 : (tree zs).all (fun p => reach (tree zs) ((tree zs).length + 1) p.1) with
        | true =>
          have h6 : zs.all (standZ (gathered T.zero zs)) = true := List.all_eq_true.2 (fun z hz => by
            have ht := List.all_eq_true.1 h3 z hz
            unfold tokn at ht
            unfold standZ stand
            by_cases e : z.1.1 ≤ 2
            · rw [if_pos e] at ht ⊢
              exact ht
            · rw [if_neg e] at ht ⊢
              rw [ht, Bool.and_true]
              have hr := List.all_eq_true.1 h5 (z.1.1, z.1.2) (A.get_mem (hget z hz))
              have hr : reach (tree zs) ((tree zs).length + 1) z.1.1 = true := hr
              unfold reach at hr
              rw [hget z hz, decide_eq_false (by omega), Bool.false_or] at hr
              simp only [] at hr
              cases hL : (tree zs).length with
              | zero =>
                rw [hL] at hr
                exact htopg _ (of_decide_eq_true hr)
              | succ L =>
                rw [hL] at hr
                unfold reach at hr
                rw [Bool.or_eq_true] at hr
                rcases hr with hr | hr
                · exact htopg _ (of_decide_eq_true hr)
                · refine hgis _ ?_
                  cases hp : A.get z.1.2.par (tree zs) with
                  | none => rw [hp] at hr; cases hr
                  | some y => rfl)
          rw [h6, Bool.true_and]
          have hP := pf_of hwf h1 h2 h6
          have hall : ∀ n, ends (tree zs) (tree zs).length n := fun n => by
            cases hg : A.get n (tree zs) with
            | none => exact ends_none hg _
            | some x =>
              have hr := List.all_eq_true.1 h5 (n, x) (A.get_mem hg)
              exact ends_len (reach_ends (fun n hn => hP.top_ends (by omega)) hr)
          have : ring (joined (gathered T.zero zs) zs) = false := by
            unfold ring
            exact @decide_eq_false _ (Classical.propDecidable _) (fun h => h hall)
          rw [this]
          rfl
        | false =>
          cases h6 : zs.all (standZ (gathered T.zero zs)) with
          | false => rfl
          | true =>
            have hP := pf_of hwf h1 h2 h6
            cases h7 : ring (joined (gathered T.zero zs) zs) with
            | true => rfl
            | false =>
              have hall : ∀ n, ends (tree zs) (tree zs).length n := by
                have h8 : ring (tree zs) = false := h7
                unfold ring at h8
                exact Classical.byContradiction (fun hn => by rw [@decide_eq_true _ (Classical.propDecidable _) hn] at h8; cases h8)
              have : (tree zs).all (fun p => reach (tree zs) ((tree zs).length + 1) p.1) = true := List.all_eq_true.2 (fun p hp => by
                refine reach_le (ends_reach hP (hall p.1) (x := p.2) ?_) 1
                exact (A.get_iff hup).2 hp)
              rw [this] at h5
              cases h5
end U
end Go.Proofs.YtilbdpnioajkoaaGreat

namespace Go.Proofs.YtilbdpnioajkoaaGreat
open Go.RowKit Go.Maps
set_option linter.unusedVariables false
set_option linter.unusedSimpArgs false
set_option maxRecDepth 100000
attribute [local go_sem] Oper.semAt_some
set_option maxHeartbeats 4000000 in
theorem uput_any {c : Nat → Option U.Col} {w : World} {r : Nat} {ra : Option Addr} {rc : Nat} {zs : List T.Tn} {ha : Option Addr} {hc : Nat} {hs : List U.Hs} (h : U.Dt c w r ra rc zs ha hc hs) (hu : A.Up (U.pl zs)) (hl : zs.length ≤ 3800000000000) (x : T.Tn) (hx : Rw (fun i => c i = some .attr) w 2 x.2.1 x.1.2.ats.length (T.flatA x.1.2.ats)) :
    Calls Tryz.prog 51 #[ptr r, T.aggN x] w fun e w' => e = .returned (.tuple #[]) ∧ ∃ c' ra' rc', U.Dt c' w' r ra' rc' (U.put x zs) ha hc hs ∧ U.More c c' w.heap.size ∧ Fr (fun i => c i = some .tree ∨ c i = some .nodes) w w' := by
  have f0 : Fr (fun _ => False) w (w.alloc (.cells #[.int .i64 x.1.1, .int .i64 x.1.2.par, .string x.1.2.nm, .slice x.2.1 x.1.2.ats.length x.2.2] 63)) := Fr.alloc (Fr.refl _ _) _
  have b0 := Go.heap_alloc_new w (.cells #[.int .i64 x.1.1, .int .i64 x.1.2.par, .string x.1.2.nm, .slice x.2.1 x.1.2.ats.length x.2.2] 63)
  have KF := hid ((h.kept f0 (fun _ _ h => h)).find hu (by omega) x.1.1)
  have H := hid h
  have HX := hid hx
  have HU := hid hu
  have B0 := hid b0
  have F0 := hid f0
  clear h hx hu f0 b0
  go_enter Tryz.func51, Tryz.ntmps51
  go_wp2_with fail
  refine KF.out.mono ?_
  rintro e w1 ⟨rfl, hf1⟩
  have F1 := hid (F0.out.trans hf1 (fun _ _ h => h))
  have H1 := hid (H.out.kept F1.out (fun _ _ h => h))
  have b1 := hf1.cells B0.out (fun h => h)
  have B1 := hid b1
  obtain ⟨len, hlen⟩ : ∃ n, zs.length = n := ⟨_, rfl⟩
  have HL := hid hlen
  have d0 : w1.cell? ⟨r, 0, none⟩ = some (.slice ra len rc) := by rw [← hlen]; exact cellA (j := 0) H1.out.box rfl
  rw [hlen] at hl
  clear hlen b1 hf1 KF
  dsimp only
  cases hg : (A.get x.1.1 (U.pl zs)).isSome with
  | true =>
    obtain ⟨hlt, hput⟩ := U.put_is HU.out hg
    rw [HL.out] at hlt
    obtain ⟨lo, hlo⟩ : ∃ k, A.low x.1.1 (U.pl zs) = k := ⟨_, rfl⟩
    rw [hlo] at hlt hput ⊢
    have HP := hid hput
    have HLT := hid hlt
    have i0 : (0 : Int) ≤ (lo : Int) := by omega
    have i1 : (lo : Int) < (len : Int) := by omega
    obtain ⟨g, o, rfl⟩ := H1.out.now.row.some_of (by rw [HL.out]; omega)
    have hcg : c g = some .nodes := H1.out.cn g rfl
    have hgr : ¬ r = g := fun e => by have := H1.out.cr; rw [e, hcg] at this; cases this
    have hgw : ¬ w.heap.size = g := fun e => by have := H.out.lo g (by rw [hcg]; simp); omega
    have HC := hid (show ∀ W, Fr (fun i => i = g) w1 W → W.cell? ⟨r, 0, none⟩ = some (.slice (some ⟨g, o, none⟩) len rc) from fun W hf => cellFr hf hgr d0)
    have LX := hid (show ∀ W, Fr (fun i => i = g) w1 W → (Instr.loadAt 63 (ptr w.heap.size)).run Tryz.prog W = .ok (T.aggN x) W from fun W hf => load_whole (cs := #[.int .i64 x.1.1, .int .i64 x.1.2.par, .string x.1.2.nm, .slice x.2.1 x.1.2.ats.length x.2.2]) (hf.cells B1.out hgw) Tryz.underlying63 rfl (by kernel_rfl))
    have RO := hid (show ∀ W, Fr (fun _ => False) w1 W → Ro W 63 4 (some ⟨g, o, none⟩) len rc (T.flatN zs) from fun W hf => by have := H1.out.now.row; rw [HL.out] at this; exact this.kept hf (fun _ _ h => h))
    have HCG := hid hcg
    clear hg hput hlo hcg hgr hgw hlt d0
    go_wp2_with fail
    have hmx : Tryz.prog.follows .mixedOrders = true := by kernel_rfl
    refine wp_region_held (S := fun V => Fr (fun i => i = g) w1 V) hmx ?_
    have hS := (Fr.drew (Fr.refl (fun i => i = g) w1))
    simp only [List.size_toArray, List.length_cons, List.length_nil, Nat.reduceAdd, Array.replicate_succ, Array.replicate_zero, List.push_toArray, List.nil_append, List.cons_append]
    refine wpAnyH_take (i := 0) (v := ?_) rfl (by kernel_rfl) (by kernel_rfl) (by kernel_rfl) (fun _ _ _ h => h) (Or.inl ⟨by kernel_rfl, ?_⟩) hS ?_
    rotate_left 1
    · (intro w' hS'; clear hS'; go_simp; try with_reducible rfl)
    simp only [List.getElem_toArray, List.getElem_cons_zero, List.getElem_cons_succ, Act.put, List.setIfInBounds_toArray, List.set_cons_zero, List.set_cons_succ]
    refine wpAnyH_take (i := 1) (v := ?_) rfl (by kernel_rfl) (by kernel_rfl) (by kernel_rfl) (fun _ _ _ h => h) (Or.inl ⟨by kernel_rfl, ?_⟩) hS ?_
    rotate_left 1
    · (intro w' hS'; clear hS'; go_simp; try with_reducible rfl)
    simp only [List.getElem_toArray, List.getElem_cons_zero, List.getElem_cons_succ, Act.put, List.setIfInBounds_toArray, List.set_cons_zero, List.set_cons_succ]
    refine wpAnyH_take (i := 2) (v := ?_) rfl (by kernel_rfl) (by kernel_rfl) (by kernel_rfl) (fun _ _ _ h => h) (Or.inl ⟨by kernel_rfl, ?_⟩) hS ?_
    rotate_left 1
    · (intro w' hS'; clear hS'; go_simp; try with_reducible rfl)
    simp only [List.getElem_toArray, List.getElem_cons_zero, List.getElem_cons_succ, Act.put, List.setIfInBounds_toArray, List.set_cons_zero, List.set_cons_succ]
    refine wpAnyH_take (i := 3) (v := ?_) rfl (by kernel_rfl) (by kernel_rfl) (by kernel_rfl) (fun _ _ _ h => h) (Or.inl ⟨by kernel_rfl, ?_⟩) hS ?_
    rotate_left 1
    · (intro w' hS'; have h1 := HC.out w' hS'; clear hS'; go_simp; try with_reducible rfl)
    simp only [List.getElem_toArray, List.getElem_cons_zero, List.getElem_cons_succ, Act.put, List.setIfInBounds_toArray, List.set_cons_zero, List.set_cons_succ]
    refine wpAnyH_take (i := 4) (v := ?_) rfl (by kernel_rfl) (by kernel_rfl) (by kernel_rfl) (fun _ _ _ h => h) (Or.inl ⟨by kernel_rfl, ?_⟩) hS ?_
    rotate_left 1
    · (intro w' hS'; clear hS'; go_simp; try with_reducible rfl)
    simp only [List.getElem_toArray, List.getElem_cons_zero, List.getElem_cons_succ, Act.put, List.setIfInBounds_toArray, List.set_cons_zero, List.set_cons_succ]
    refine wpAnyH_take (i := 5) rfl (by kernel_rfl) (by kernel_rfl) (by kernel_rfl) (fun _ _ _ h => h) (tyload (by kernel_rfl) (by exact ⟨_, rfl, rfl⟩) (fun w' hS' => LX.out w' hS')) hS ?_
    simp only [List.getElem_toArray, List.getElem_cons_zero, List.getElem_cons_succ, Act.put, List.setIfInBounds_toArray, List.set_cons_zero, List.set_cons_succ]
    refine wpAnyH_take (i := 6) (v := ?_) rfl (by kernel_rfl) (by kernel_rfl) (by kernel_rfl) (fun _ _ _ h => h) (Or.inl ⟨by kernel_rfl, ?_⟩) hS ?_
    rotate_left 1
    · (intro w' hS'; clear hS'; go_simp; try with_reducible rfl)
    simp only [List.getElem_toArray, List.getElem_cons_zero, List.getElem_cons_succ, Act.put, List.setIfInBounds_toArray, List.set_cons_zero, List.set_cons_succ]
    refine wpAnyH_ready (rs := [7]) (by kernel_rfl) (by simp) ?_
    refine AllReadyH.cons rfl (fun K1 hK1 => ?_) (AllReadyH.nil)
    have hd : Fr (fun _ => False) w1 w1.drew := Fr.drew (Fr.refl _ _)
    have HF8 := hid (U.store_node (RO.out _ hd) HL.out HLT.out x)
    clear hd
    refine tstep_store (by kernel_rfl) HF8.out.1 (by exact ⟨_, _, rfl, rfl, rfl⟩) ?_
    refine hK1.out _ _ (hS.trans HF8.out.2.2 (fun _ _ h => h)) (fun hS => ?_)
    clear hK1 K1
    simp only [List.getElem_toArray, List.getElem_cons_zero, List.getElem_cons_succ, Act.put, List.setIfInBounds_toArray, List.set_cons_zero, List.set_cons_succ]
    refine wpAnyH_done (by kernel_rfl) ?_ _
    go_wp2_with fail
    refine bodyPost_ret (results_none rfl _ _ _) rfl ?_
    have f8 : Fr (fun i => i = g) w1 (w1.drew.setCells g (o + lo * 4) (T.cellsN x)) := (Fr.drew (Fr.refl (fun i => i = g) w1)).trans HF8.out.2.2 (fun _ _ h => h)
    refine ⟨rfl, c, some ⟨g, o, none⟩, rc, ?_, fun _ _ => rfl, ?_⟩
    · rw [HP.out]
      exact H1.out.stored f8 (by rw [HL.out]; exact HF8.out.2.1) (HX.out.kept F1.out (fun _ _ h => h))
    · exact (F1.out.mono (fun _ _ h => h.elim)).trans f8 (fun i hi e => .inr (by rw [e]; exact HCG.out))
  | false =>
    obtain ⟨lo, hlo⟩ : ∃ k, A.low x.1.1 (U.pl zs) = k := ⟨_, rfl⟩
    have hll := A.low_le x.1.1 (U.pl zs)
    have hput := U.put_new hg
    rw [U.pl_len, HL.out, hlo] at hll
    rw [hlo] at hput ⊢
    have HP := hid hput
    have i0 : (0 : Int) ≤ (lo : Int) := by omega
    have i1 : (lo : Int) ≤ (len : Int) := by omega
    have hnr := H1.out.now.nr
    obtain ⟨a1, p1, w2, hr1, ho1, hn1, hf2⟩ := U.nodes_append w1 (Ro.nil w1 63 4) (sc := rc) (U.take_rw hnr.1 lo) (by rw [List.length_take, HL.out]; omega)
    rw [List.length_take, HL.out, Nat.min_eq_left hll, Nat.zero_add] at hr1 ho1
    rw [List.nil_append] at ho1
    have f2 : Fr (fun _ => False) w1 w2 := hf2.mono (fun i _ e => by simp [blk] at e)
    have n1 : ∀ k, blk a1 = some k → w1.heap.size ≤ k := fun k hk => (hn1 k hk).elim (fun h => by simp [blk] at h) id
    have b2 := f2.cells B1.out (fun h => h)
    have e0 : w2.cell? ⟨w.heap.size, 0, none⟩ = some (.int .i64 x.1.1) := cellA (j := 0) b2 rfl
    have e1 : w2.cell? ⟨w.heap.size, 1, none⟩ = some (.int .i64 x.1.2.par) := cellA (j := 1) b2 rfl
    have e2 : w2.cell? ⟨w.heap.size, 2, none⟩ = some (.string x.1.2.nm) := cellA (j := 2) b2 rfl
    have e3 : w2.cell? ⟨w.heap.size, 3, none⟩ = some (.slice x.2.1 x.1.2.ats.length x.2.2) := cellA (j := 3) b2 rfl
    obtain ⟨a2, p2, w3, hr2, ho2, hf3, hn2⟩ := T.node_append w2 a1 p1 lo (T.flatN (zs.take lo)) ho1 (by omega) x
    have f3 : Fr (fun _ => False) w1 w3 := f2.trans hf3 (fun i hi e => by have := n1 i e; omega)
    have n2 : ∀ k, blk a2 = some k → w1.heap.size ≤ k := fun k hk => (hn2 k hk).elim (fun h => n1 k h) (fun h => Nat.le_trans f2.size h)
    have g0 : w3.cell? ⟨r, 0, none⟩ = some (.slice ra len rc) := cellFr f3 (fun h => h) d0
    obtain ⟨a3, p3, w4, hr3, ho3, hn3, hf4⟩ := U.nodes_append w3 ho2 (sc := rc - lo) (U.drop_rw (hnr.1.kept f3 (fun _ _ h => h)) (c := rc) H1.out.now.row.le.1 lo) (by rw [List.length_drop, HL.out]; omega)
    rw [List.length_drop, HL.out] at hr3 ho3
    have f4 : Fr (fun _ => False) w1 w4 := f3.trans hf4 (fun i hi e => by have := n2 i e; omega)
    have n3 : ∀ k, blk a3 = some k → w1.heap.size ≤ k := fun k hk => (hn3 k hk).elim (fun h => n2 k h) (fun h => Nat.le_trans f3.size h)
    have H4 := H1.out.kept f4 (fun _ _ h => h)
    have z4 := frozen_of_row (j := 0) H4.box
    have g4 : w4.cell? ⟨r, 0, none⟩ = some (.slice ra len rc) := by rw [← HL.out]; exact cellA (j := 0) H4.box rfl
    have cu := fun W => U.run_cutN_lo W ra len rc lo hll (lo : Int) rfl
    have ch := fun W => U.run_cutN_hi W ra len rc lo (by have := H1.out.now.row.le.1; rw [HL.out] at this; omega) (lo : Int) rfl
    have FA := hid (F1.out.trans f4 (fun _ _ h => h))
    have NA := hid (show ∀ k, blk a3 = some k → w.heap.size ≤ k from fun k hk => Nat.le_trans F1.out.size (n3 k hk))
    have HO := hid ho3
    have H4h := hid H4
    have R1 := hid hr1
    have R2 := hid hr2
    have R3 := hid hr3
    clear hg hput hlo hnr hr1 ho1 hn1 hf2 f2 n1 b2 hr2 ho2 hf3 hn2 f3 n2 hr3 ho3 hn3 hf4 f4 n3 H4
    go_wp2_with (first
      | (at_builtin; refine wpList_append_eq _ _ rfl _ _ _ rfl _ _ _ rfl rfl (by exact R1.out) ?_)
      | (at_builtin; refine wpList_append_eq _ _ rfl _ _ _ rfl _ _ _ rfl rfl (by exact R2.out) ?_)
      | (at_builtin; refine wpList_append_eq _ _ rfl _ _ _ rfl _ _ _ rfl rfl (by exact R3.out) ?_))
    go_end0
    have fs : Fr (fun i => i = r) w (w4.setCell ⟨r, 0, none⟩ (.slice a3 (lo + 1 + (len - lo)) p3)) := Fr.setCell (p := ⟨r, 0, none⟩) (S := fun i => i = r) (FA.out.mono (fun _ _ h => h.elim)) (fun _ => rfl) _
    have fs4 : Fr (fun i => i = r) w4 (w4.setCell ⟨r, 0, none⟩ (.slice a3 (lo + 1 + (len - lo)) p3)) := Fr.setCell (p := ⟨r, 0, none⟩) (Fr.refl (fun i => i = r) _) (fun _ => rfl) _
    have hzl : (U.put x zs).length = lo + 1 + (len - lo) := by
      rw [HP.out, List.length_append, List.length_cons, List.length_take, List.length_drop, HL.out]
      omega
    have hzf : T.flatN (U.put x zs) = T.flatN (zs.take lo) ++ T.cellsN x ++ T.flatN (zs.drop lo) := by
      rw [HP.out, T.flatN_append, U.flatN_cons, List.append_assoc]
    have hrr : r < w.heap.size := lt_of_row H.out.box
    refine ⟨rfl, U.addc c w.heap.size a3 .nodes, a3, p3, ?_, U.addc_more _ _ _ _, fs.mono (fun i hi e => .inl (by rw [e]; exact H.out.cr))⟩
    refine H.out.swap fs (by rw [hzl]; exact setCell_row (j := 0) H4h.out.box _) (by rw [hzl, hzf]; exact HO.out.kept fs4 (fun j hj e => by have := NA.out j hj; omega)) NA.out (fun z hz => ?_)
    rcases U.mem_put hz with rfl | hz
    · exact HX.out
    · exact H.out.now.el z hz
end Go.Proofs.YtilbdpnioajkoaaGreat

/-
  The document's tree and the program's: the same operations, one by one.
  The document's tree: Plain.
  The document's tree: Nodes.
  The document's tree: SameNode, Same.
-/
import Derived.Test.YtilbdpnioajkoaaGreatUDoQ
import Derived.Test.YtilbdpnioajkoaaGreatMg43
import Derived.Test.YtilbdpnioajkoaaGreatMg35
import Derived.Test.YtilbdpnioajkoaaGreatMg37
import Derived.Test.YtilbdpnioajkoaaGreatTSameQ
namespace Go.Proofs.YtilbdpnioajkoaaGreat
open Go.RowKit Go.Maps
set_option linter.unusedVariables false
set_option linter.unusedSimpArgs false
set_option maxRecDepth 100000
attribute [local go_sem] Oper.semAt_some
set_option maxHeartbeats 4000000 in
theorem udo_no {c : Nat → Option U.Col} {w : World} {r : Nat} {ra : Option Addr} {rc : Nat} {zs : List T.Tn} {ha : Option Addr} {hc : Nat} {hs : List U.Hs} (h : U.Dt c w r ra rc zs ha hc hs) (hw : T.Wf (U.pl zs)) (hl : zs.length ≤ 3700000000000) (o : S.Op) (hg : T.guard (U.pl zs) o = false) :
    Calls Tryz.prog 20 #[ptr r, .agg o.cs] w fun e w' => e = .returned (.bool false) ∧ Fr (fun _ => False) w w' := by
  obtain ⟨W, hW⟩ : ∃ W, w.alloc (.cells o.cs 35) = W := ⟨_, rfl⟩
  have fW : Fr (fun _ => False) w W := by rw [← hW]; exact Fr.alloc (Fr.refl _ _) _
  have hbx : W.heap[w.heap.size]? = some (.cells o.cs 35 (0, 0)) := by rw [← hW]; exact Go.heap_alloc_new w _
  have LO := hid (load_whole (cs := o.cs) hbx Tryz.underlying35 rfl (by kernel_rfl))
  have KM := hid (umay_any (h.kept fW (fun _ _ h => h)) hw (by omega) o)
  rw [hg] at KM
  have HW := hid hW
  have FW := hid fW
  clear h hw fW hbx hW hg
  go_enter Tryz.func20, Tryz.ntmps20
  go_upto_region 1 with fail
  rw [HW.out]
  go_wp2_with (first
    | (refine wpList_load_v LO.out (by exact ⟨_, rfl, rfl⟩) (by kernel_rfl) ?_))
  refine KM.out.mono ?_
  rintro e w2 ⟨rfl, hf2⟩
  have F2 := hid (FW.out.trans hf2 (fun _ _ h => h))
  clear hf2 KM LO
  dsimp only
  go_wp2_with fail
  go_ret
  exact ⟨rfl, F2.out⟩
/-- an operation, done or not -/
theorem udstep_any {c : Nat → Option U.Col} {w : World} {r : Nat} {ra : Option Addr} {rc : Nat} {zs : List T.Tn} {ha : Option Addr} {hc : Nat} {hs : List U.Hs} (h : U.Dt c w r ra rc zs ha hc hs) (hw : T.Wf (U.pl zs)) (hl : zs.length ≤ 3700000000000) (hats : ∀ z ∈ zs, z.1.2.ats.length ≤ 1900000000000) (hhl : hs.length ≤ 3700000000000) (o : S.Op) :
    Calls Tryz.prog 20 #[ptr r, .agg o.cs] w fun e w' => e = .returned (.bool (T.guard (U.pl zs) o)) ∧ ∃ c' ra' rc' zs' ha' hc' hs', U.Dt c' w' r ra' rc' zs' ha' hc' hs' ∧ U.pl zs' = T.step (U.pl zs) o ∧ hs'.length ≤ hs.length + 1 ∧ U.More c c' w.heap.size ∧ Fr (fun i => c i ≠ none) w w' := by
  cases hg : T.guard (U.pl zs) o with
  | false =>
    refine (udo_no h hw hl o hg).mono ?_
    rintro e w' ⟨rfl, hf⟩
    exact ⟨rfl, c, ra, rc, zs, ha, hc, hs, h.kept hf (fun _ _ h => h), by unfold T.step; rw [hg]; rfl, by omega, fun _ _ => rfl, hf.mono (fun _ _ h => h.elim)⟩
  | true =>
    refine (udo_any h hw hl hats hhl o hg).mono ?_
    rintro e w' ⟨rfl, c', ra', rc', zs', ha', hc', hs', h1, h2, h3, h4, h5⟩
    have h6 := congrArg List.length h3
    rw [List.length_map, List.length_append, List.length_map] at h6
    simp only [List.length_cons, List.length_nil] at h6
    exact ⟨rfl, c', ra', rc', zs', ha', hc', hs', h1, by rw [h2]; unfold T.step; rw [hg]; rfl, by omega, h4, h5.mono (fun i _ e => by rcases e with e | e | e <;> rw [e] <;> simp)⟩
namespace U
/-- the program's tree and the document's, the same ones, apart -/
structure Pair (w : World) (p r : Nat) (wr : World) (c : Nat → Option T.Col) (cu : Nat → Option Col) (bud : Nat) (dos last : Int) (t : T.Tr) (mb : Nat) (f : Int → Nat) (ra : Option Addr) (rc : Nat) (zs : List T.Tn) (ha : Option Addr) (hc : Nat) (hs : List Hs) : Prop where
  g : Gd c wr bud p dos last t mb f
  d : Dt cu wr r ra rc zs ha hc hs
  eq : pl zs = t
  ap : ∀ i, c i ≠ none → cu i = none
  n1 : ∀ i, c i ≠ none → w.heap.size ≤ i
  n2 : ∀ i, cu i ≠ none → w.heap.size ≤ i
  fr : Fr (fun _ => False) w wr
section
variable {w : World} {p r : Nat} {wr wz : World} {c cz : Nat → Option T.Col} {cu cy : Nat → Option Col} {bud bz : Nat} {dos last dz lz : Int} {t tz : T.Tr} {mb : Nat} {f fz : Int → Nat} {ra ra' : Option Addr} {rc rc' : Nat} {zs zs' : List T.Tn} {ha ha' : Option Addr} {hc hc' : Nat} {hs hs' : List Hs}
theorem Pair.idle (h : Pair w p r wr c cu bud dos last t mb f ra rc zs ha hc hs) (hf : Fr (fun _ => False) wr wz) : Pair w p r wz c cu bud dos last t mb f ra rc zs ha hc hs :=
  ⟨h.g.kept hf (fun _ _ h => h), h.d.kept hf (fun _ _ h => h), h.eq, h.ap, h.n1, h.n2, h.fr.trans hf (fun _ _ h => h.elim)⟩
/-- both have done the same -/
theorem Pair.step (h : Pair w p r wr c cu bud dos last t mb f ra rc zs ha hc hs) (hf : Fr (fun i => c i ≠ none) wr wz) (hM : Go.Proofs.YtilbdpnioajkoaaGreat.More c cz wr.heap.size) (hG : Gd cz wz bz p dz lz tz mb fz) {wa wb : World} (fa : Fr (fun _ => False) wz wa) (hf2 : Fr (fun i => cu i ≠ none) wa wb) (hM2 : More cu cy wa.heap.size) (hD : Dt cy wb r ra' rc' zs' ha' hc' hs') (he : pl zs' = tz) : Pair w p r wb cz cy bz dz lz tz mb fz ra' rc' zs' ha' hc' hs' := by
  have s1 := hf.size
  have s2 := fa.size
  have sw := h.fr.size
  have hcu : ∀ i, cu i ≠ none → i < wr.heap.size := h.d.lo
  have key : ∀ i, cz i ≠ none → cu i = none := fun i hi => by
    cases Nat.lt_or_ge i wr.heap.size with
    | inl hlt => exact h.ap i (by rw [← hM i hlt]; exact hi)
    | inr hge =>
      cases hq : cu i with
      | none => rfl
      | some col => have := hcu i (by rw [hq]; simp); omega
  refine ⟨(hG.kept fa (fun _ _ h => h)).kept hf2 (fun i hi e => e (key i hi)), hD, he, fun i hi => ?_, fun i hi => ?_, fun i hi => ?_, ((h.fr.trans hf (fun i hi e => by have := h.n1 i e; omega)).trans fa (fun _ _ h => h)).trans hf2 (fun i hi e => by have := h.n2 i e; omega)⟩
  · have := hG.lo i hi
    rw [hM2 i (by omega)]
    exact key i hi
  · cases Nat.lt_or_ge i wr.heap.size with
    | inl hlt => exact h.n1 i (by rw [← hM i hlt]; exact hi)
    | inr hge => omega
  · cases Nat.lt_or_ge i wa.heap.size with
    | inl hlt => exact h.n2 i (by rw [← hM2 i hlt]; exact hi)
    | inr hge => omega
end
end U
end Go.Proofs.YtilbdpnioajkoaaGreat

namespace Go.Proofs.YtilbdpnioajkoaaGreat
open Go.RowKit Go.Maps
set_option linter.unusedVariables false
set_option linter.unusedSimpArgs false
set_option maxRecDepth 100000
attribute [local go_sem] Oper.semAt_some
def U.told (zs : List T.Tn) : List T.Tn := zs.filter (fun z => T.tells z.1)
theorem U.told_fst (zs : List T.Tn) : (U.told zs).map Prod.fst = T.told (zs.map Prod.fst) := by
  unfold U.told T.told
  rw [List.filter_map]
  rfl
set_option maxHeartbeats 4000000 in
theorem uplain_any {w : World} {I : Nat → Prop} {ra : Option Addr} {rc : Nat} {zs : List T.Tn} (hR : T.Nr I w ra zs) (hl : zs.length ≤ 3800000000000) (hats : ∀ z ∈ zs, z.1.2.ats.length ≤ 5000000000000) :
    Calls Tryz.prog 18 #[.slice ra zs.length rc] w fun e w' => ∃ a cp zs', e = .returned (.slice a (List.length zs') cp) ∧ List.map Prod.fst zs' = T.told (List.map Prod.fst zs) ∧ T.Lx w.heap.size w' a cp zs' ∧ Fr (fun _ => False) w w' := by
  obtain ⟨n, hn⟩ : ∃ n, zs.length = n := ⟨_, rfl⟩
  have HN := hid hn
  have HR := hid hR
  have HA := hid hats
  rw [hn] at hl ⊢
  clear hn hR hats
  go_enter Tryz.func18, Tryz.ntmps18
  go_wp2_with fail
  go_loopw [3, 4] (fun o i wr => ∃ (k : Nat) (oa : Option Addr) (m oc : Nat), i = .int .i64 k ∧ o = .slice oa m oc ∧ Hid (k ≤ n ∧ m = (U.told (zs.take k)).length ∧ Ro wr 63 4 oa m oc (T.flatN (U.told (zs.take k))) ∧ (∀ j, blk oa = some j → w.heap.size ≤ j) ∧ Fr (fun _ => False) w wr))
    (fun _ i _ => (n - intOf i).toNat)
  case atStart => exact ⟨0, none, 0, 0, rfl, rfl, hid ⟨Nat.zero_le _, rfl, Ro.nil _ _ _, by simp [blk], Fr.refl _ _⟩⟩
  case round =>
    obtain ⟨k, oa, m, oc, rfl, rfl, hall⟩ := hrel
    obtain ⟨hk, hm, hro, hnw, hfr⟩ := hall.out
    by_cases hlt : k < n
    · obtain ⟨z, hz⟩ : ∃ z, zs[k]? = some z := ⟨_, List.getElem?_eq_getElem (by rw [HN.out]; exact hlt)⟩
      obtain ⟨g1, o1, rfl, _, a0, a1, a2, a3⟩ := T.flatN_cells (HR.out.1.kept hfr (fun _ _ h => h)) hz
      have i0 : (0 : Int) ≤ (k : Int) := by omega
      have i1 : (k : Int) < (n : Int) := by omega
      have hto : U.told (zs.take (k + 1)) = U.told (zs.take k) ++ (if T.tells z.1 then [z] else []) := by
        unfold U.told
        rw [List.take_add_one, hz, List.filter_append]
        cases hte : T.tells z.1 <;> simp [hte]
      have hml : m ≤ 3800000000000 := by
        have h2 : (U.told (zs.take k)).length ≤ (zs.take k).length := List.length_filter_le _ _
        rw [List.length_take] at h2
        omega
      cases hte : T.tells z.1 with
      | true =>
        rw [hte] at hto
        obtain ⟨a', cp', V4, hr4, hro4, hf4, hn4⟩ := T.node_append wr oa oc m (T.flatN (U.told (zs.take k))) hro (by omega) z
        have HREL := hid (show k + 1 ≤ n ∧ m + 1 = (U.told (zs.take (k + 1))).length ∧ Ro V4 63 4 a' (m + 1) cp' (T.flatN (U.told (zs.take (k + 1)))) ∧ (∀ j, blk a' = some j → w.heap.size ≤ j) ∧ Fr (fun _ => False) w V4 from
          ⟨hlt, by rw [hto, List.length_append, ← hm]; rfl, by rw [hto, if_pos rfl, T.flatN_append, show T.flatN [z] = T.cellsN z by simp [T.flatN]]; exact hro4, fun j hj => by
            rcases hn4 j hj with h | h
            · exact hnw j h
            · exact Nat.le_trans hfr.size h, hfr.trans hf4 (fun i hi e => by have := hnw i e; omega)⟩)
        have R4 := hid hr4
        clear hall hk hm hro hnw hfr hlt hz hto hr4 hro4 hf4 hn4
        by_cases h2 : 2 < z.1.1
        · clear hte
          go_wp2_with (first | (at_builtin; refine wpList_append_eq _ _ rfl (.tmp 26) (.tmp 31) _ rfl _ _ _ rfl rfl R4.out ?_))
          go_roundw
          case rel => exact ⟨k + 1, a', m + 1, cp', by first | go_num | rfl | trivial, by first | go_num | rfl | trivial, HREL⟩
          case measure => simp [intOf]; omega
        · have hpos : (0 : Int) < (z.1.2.ats.length : Int) := by
            unfold T.tells at hte
            rw [decide_eq_false h2, Bool.false_or] at hte
            cases hx : z.1.2.ats with
            | nil => rw [hx] at hte; cases hte
            | cons a b => rw [List.length_cons]; omega
          clear hte
          go_wp2_with (first | (at_builtin; refine wpList_append_eq _ _ rfl (.tmp 26) (.tmp 31) _ rfl _ _ _ rfl rfl R4.out ?_))
          go_roundw
          case rel => exact ⟨k + 1, a', m + 1, cp', by first | go_num | rfl | trivial, by first | go_num | rfl | trivial, HREL⟩
          case measure => simp [intOf]; omega
      | false =>
        rw [hte] at hto
        unfold T.tells at hte
        rw [Bool.or_eq_false_iff] at hte
        have h2 : ¬ 2 < z.1.1 := of_decide_eq_false hte.1
        have hz0 : z.1.2.ats.length = 0 := by
          have := hte.2
          cases hx : z.1.2.ats with
          | nil => rfl
          | cons a b => rw [hx] at this; cases this
        rw [hz0] at a3
        have HREL := hid (show k + 1 ≤ n ∧ m = (U.told (zs.take (k + 1))).length ∧ Ro wr 63 4 oa m oc (T.flatN (U.told (zs.take (k + 1)))) ∧ (∀ j, blk oa = some j → w.heap.size ≤ j) ∧ Fr (fun _ => False) w wr from
          ⟨hlt, by rw [hto, List.length_append, ← hm]; rfl, by rw [hto, if_neg (by simp), List.append_nil]; exact hro, hnw, hfr⟩)
        clear hall hk hm hro hnw hfr hlt hz hto hte hz0
        go_wp2_with fail
        go_roundw
        case rel => exact ⟨k + 1, oa, m, oc, by first | go_num | rfl | trivial, by first | go_num | rfl | trivial, HREL⟩
        case measure => simp [intOf]; omega
    · have hkn : k = n := by omega
      subst hkn
      have hjn : ¬ ((k : Int) < (k : Int)) := by omega
      rw [List.take_of_length_le (by rw [HN.out]; exact Nat.le_refl _)] at hm hro
      have hnr : T.Nr (fun i => I i ∨ w.heap.size ≤ i) wr oa (U.told zs) := ⟨by rw [← hm]; exact Rw.of_ro hro (fun g hg => .inr (hnw g hg)), fun z hz => ((HR.out.2 z (List.mem_filter.1 hz).1).kept hfr (fun _ _ h => h)).mono (fun _ h => .inl h)⟩
      have hul : (U.told zs).length ≤ zs.length := List.length_filter_le _ _
      have KC := hid (uclone_any (rc := oc) hnr (by have := HN.out; omega) (fun z hz => HA.out z (List.mem_filter.1 hz).1))
      rw [← hm] at KC
      have HF := hid hfr
      have HM := hid hm
      clear hall hk hm hro hnw hfr hlt hnr hul
      go_wp2_with fail
      refine KC.out.mono ?_
      rintro e w3 ⟨a3, c3, z3, rfl, h31, h32, h33⟩
      have H3 := hid (And.intro h31 (And.intro h32 h33))
      clear h31 h32 h33
      dsimp only
      go_wp2_with fail
      go_ret
      refine ⟨a3, c3, z3, ?_, ?_, ?_, ?_⟩
      · have := congrArg List.length H3.out.1
        rw [List.length_map, List.length_map, ← HM.out] at this
        rw [this]
        rfl
      · rw [H3.out.1, U.told_fst]
      · have h := H3.out.2.1
        have hs := HF.out.size
        exact ⟨h.row, fun k hk => Nat.le_trans hs (h.new k hk), fun z hz => (h.el z hz).mono (fun i hi => ⟨Nat.le_trans hs hi.1, hi.2⟩)⟩
      · exact HF.out.trans H3.out.2.2 (fun _ _ h => h)
end Go.Proofs.YtilbdpnioajkoaaGreat

namespace Go.Proofs.YtilbdpnioajkoaaGreat
open Go.RowKit Go.Maps
set_option linter.unusedVariables false
set_option linter.unusedSimpArgs false
set_option maxRecDepth 100000
attribute [local go_sem] Oper.semAt_some
set_option maxHeartbeats 1600000 in
theorem unodes_any {c : Nat → Option U.Col} {w : World} {r : Nat} {ra : Option Addr} {rc : Nat} {zs : List T.Tn} {ha : Option Addr} {hc : Nat} {hs : List U.Hs} (h : U.Dt c w r ra rc zs ha hc hs) (hl : zs.length ≤ 3800000000000) (hats : ∀ z ∈ zs, z.1.2.ats.length ≤ 5000000000000) :
    Calls Tryz.prog 14 #[ptr r] w fun e w' => ∃ a cp zs', e = .returned (.slice a (List.length zs') cp) ∧ List.map Prod.fst zs' = T.told (U.pl zs) ∧ T.Lx w.heap.size w' a cp zs' ∧ Fr (fun _ => False) w w' := by
  have KP := hid (uplain_any (rc := rc) h.now.nr hl hats)
  have d0 : w.cell? ⟨r, 0, none⟩ = some (.slice ra zs.length rc) := cellA (j := 0) h.box rfl
  obtain ⟨len, hlen⟩ : ∃ n, zs.length = n := ⟨_, rfl⟩
  rw [hlen] at KP d0
  clear h hl hats hlen
  go_enter Tryz.func14, Tryz.ntmps14
  go_wp2_with fail
  refine KP.out.mono ?_
  rintro e w2 ⟨a, cp, zs', rfl, h1, h2, h3⟩
  have H := hid (And.intro h1 (And.intro h2 h3))
  obtain ⟨n2, hn2⟩ : ∃ n, List.length zs' = n := ⟨_, rfl⟩
  rw [hn2]
  have HN := hid hn2
  clear h1 h2 h3 hn2
  dsimp only
  go_wp2_with fail
  go_ret
  exact ⟨a, cp, zs', by rw [HN.out]; rfl, H.out.1, H.out.2.1, H.out.2.2⟩
end Go.Proofs.YtilbdpnioajkoaaGreat

namespace Go.Proofs.YtilbdpnioajkoaaGreat
open Go.RowKit Go.Maps
set_option linter.unusedVariables false
set_option linter.unusedSimpArgs false
set_option maxRecDepth 100000
attribute [local go_sem] Oper.semAt_some
set_option maxHeartbeats 8000000 in
theorem usamen_any {I J : Nat → Prop} {w : World} (x y : T.Tn) (h1 : Rw I w 2 x.2.1 x.1.2.ats.length (T.flatA x.1.2.ats)) (h2 : Rw J w 2 y.2.1 y.1.2.ats.length (T.flatA y.1.2.ats)) (hx : x.1.2.ats.length ≤ 9000000000000) :
    Calls Tryz.prog 30 #[T.aggN x, T.aggN y] w fun e w' => e = .returned (.bool (T.same x.1 y.1)) ∧ Fr (fun _ => False) w w' := by
  obtain ⟨⟨n1, ⟨p1, s1, l1⟩⟩, ⟨a1, c1⟩⟩ := x
  obtain ⟨⟨n2, ⟨p2, s2, l2⟩⟩, ⟨a2, c2⟩⟩ := y
  simp only at h1 h2 hx
  obtain ⟨m1, hm1⟩ : ∃ m, l1.length = m := ⟨_, rfl⟩
  obtain ⟨m2, hm2⟩ : ∃ m, l2.length = m := ⟨_, rfl⟩
  obtain ⟨r4, hr4⟩ : ∃ r, decide (l1 = l2) = r := ⟨_, rfl⟩
  unfold T.aggN T.same
  simp only
  by_cases hall : (n1 = n2 ∧ p1 = p2) ∧ s1 = s2 ∧ m1 = m2
  · obtain ⟨⟨rfl, rfl⟩, rfl, rfl⟩ := hall
    have HRES := hid (show ((n1 == n1) && ((p1 == p1) && ((s1.toList == s1.toList) && decide (l1 = l2)))) = r4 from by rw [hr4]; simp)
    have HM1 := hid hm1
    have HM2 := hid hm2
    have HR4 := hid hr4
    have H1 := hid h1
    have H2 := hid h2
    rw [hm1] at hx
    obtain ⟨W, hW⟩ : ∃ W, (w.alloc (.cells #[.int .i64 n1, .int .i64 p1, .string s1, .slice a1 m1 c1] 63)).alloc (.cells #[.int .i64 n1, .int .i64 p1, .string s1, .slice a2 m1 c2] 63) = W := ⟨_, rfl⟩
    have fW : Fr (fun _ => False) w W := by rw [← hW]; exact Fr.alloc (Fr.alloc (Fr.refl _ _) _) _
    have bx : W.heap[w.heap.size]? = some (.cells #[.int .i64 n1, .int .i64 p1, .string s1, .slice a1 m1 c1] 63 (0, 0)) := by
      rw [← hW]
      exact (Fr.alloc (Fr.refl (fun _ => False) _) _).cells (Go.heap_alloc_new w _) (fun h => h)
    have bz : W.heap[w.heap.size + 1]? = some (.cells #[.int .i64 n1, .int .i64 p1, .string s1, .slice a2 m1 c2] 63 (0, 0)) := by
      rw [← hW]
      have := Go.heap_alloc_new (w.alloc (.cells #[.int .i64 n1, .int .i64 p1, .string s1, .slice a1 m1 c1] 63)) (.cells #[.int .i64 n1, .int .i64 p1, .string s1, .slice a2 m1 c2] 63)
      rw [alloc_size] at this
      exact this
    have BX := hid bx
    have BZ := hid bz
    have FW := hid fW
    have HW := hid hW
    rw [hm1, hm2]
    clear h1 h2 fW hW hm1 hm2 hr4 bx bz
    go_enter Tryz.func30, Tryz.ntmps30
    go_wp2_with fail
    go_loopw [5] (fun i wr => ∃ k : Nat, i = .int .i64 k ∧ Hid (k ≤ m1 ∧ l1.take k = l2.take k ∧ Fr (fun _ => False) W wr))
      (fun i _ => m1 - (intOf i).toNat)
    case atStart => exact ⟨0, rfl, by rw [HW.out]; exact hid ⟨Nat.zero_le _, rfl, Fr.refl _ _⟩⟩
    case round =>
      obtain ⟨k, rfl, hall⟩ := hrel
      have u1 : wr.cell? ⟨w.heap.size, 3, none⟩ = some (.slice a1 m1 c1) := cellA (j := 3) (hall.out.2.2.cells BX.out (fun h => h)) rfl
      have u2 : wr.cell? ⟨w.heap.size + 1, 3, none⟩ = some (.slice a2 m1 c2) := cellA (j := 3) (hall.out.2.2.cells BZ.out (fun h => h)) rfl
      by_cases hlt : k < m1
      · obtain ⟨x, hx1⟩ : ∃ q, l1[k]? = some q := ⟨_, List.getElem?_eq_getElem (by rw [HM1.out]; exact hlt)⟩
        obtain ⟨y, hy1⟩ : ∃ q, l2[k]? = some q := ⟨_, List.getElem?_eq_getElem (by rw [HM2.out]; exact hlt)⟩
        obtain ⟨g1, o1, rfl, d0, d1⟩ := T.flatA_cells (H1.out.kept (FW.out.trans hall.out.2.2 (fun _ _ h => h)) (fun _ _ h => h)) hx1
        obtain ⟨g2, o2, rfl, b0, b1⟩ := T.flatA_cells (H2.out.kept (FW.out.trans hall.out.2.2 (fun _ _ h => h)) (fun _ _ h => h)) hy1
        have i0 : (0 : Int) ≤ (k : Int) := by omega
        have i1 : (k : Int) < (m1 : Int) := by omega
        obtain ⟨x1, x2⟩ := x
        obtain ⟨y1, y2⟩ := y
        have HX := hid hx1
        have HY := hid hy1
        clear hx1 hy1
        by_cases hxy : ((x1, x2) : T.Pr) = (y1, y2)
        · have HR2 := hid (show l1.take (k + 1) = l2.take (k + 1) from by rw [List.take_add_one, List.take_add_one, HX.out, HY.out, hall.out.2.1, hxy])
          have HK := hid (show k + 1 ≤ m1 from hlt)
          have HF := hid hall.out.2.2
          obtain ⟨rfl, rfl⟩ : x1 = y1 ∧ x2 = y2 := by cases hxy; exact ⟨rfl, rfl⟩
          clear hxy hall
          go_wp2
          go_quiet (fail)
          go_wp2
          go_roundw
          case rel => exact ⟨k + 1, by first | go_num | rfl | trivial, hid ⟨HK.out, HR2.out, HF.out.trans (Fr.drewN _ _) (fun _ _ h => h)⟩⟩
          case measure => simp [intOf]; omega
        · have HRF := hid (show r4 = false from by
            rw [← HR4.out]
            refine decide_eq_false (fun e => hxy ?_)
            have h3 := HX.out
            rw [e, HY.out] at h3
            exact (Option.some.inj h3).symm)
          have HF := hid hall.out.2.2
          have q : (x1.toList == y1.toList) = false ∨ ((x1.toList == y1.toList) = true ∧ (x2.toList == y2.toList) = false) := by
            cases q1 : (x1.toList == y1.toList) with
            | false => exact .inl rfl
            | true =>
              refine .inr ⟨rfl, ?_⟩
              cases q2 : (x2.toList == y2.toList) with
              | false => rfl
              | true =>
                have e1 : x1 = y1 := T.ba_ext (by rw [← ByteArray.toList_eq, ← ByteArray.toList_eq]; exact eq_of_beq q1)
                have e2 : x2 = y2 := T.ba_ext (by rw [← ByteArray.toList_eq, ← ByteArray.toList_eq]; exact eq_of_beq q2)
                exact absurd (by rw [e1, e2]) hxy
          clear hxy hall
          rcases q with q | ⟨q, q2'⟩
          all_goals
            go_wp2
            go_quiet (fail)
            go_wp2
            go_ret
            exact ⟨ret_bool (by first | rw [HRES.out, HRF.out] | rw [HR4.out, HRF.out]), (FW.out.trans HF.out (fun _ _ h => h)).trans (Fr.drewN _ _) (fun _ _ h => h)⟩
      · obtain rfl : k = m1 := by have := hall.out.1; omega
        have HRT := hid (show r4 = true from by
          rw [← HR4.out]
          refine decide_eq_true ?_
          have h3 := hall.out.2.1
          rw [List.take_of_length_le (by rw [HM1.out]; exact Nat.le_refl _), List.take_of_length_le (by rw [HM2.out]; exact Nat.le_refl _)] at h3
          exact h3)
        have HF := hid hall.out.2.2
        have hkk : ¬ ((k : Int) < (k : Int)) := by omega
        clear hall hlt
        go_wp2
        go_ret
        exact ⟨ret_bool (by first | rw [HRES.out, HRT.out] | rw [HR4.out, HRT.out]), FW.out.trans HF.out (fun _ _ h => h)⟩
  · have hres : ((n1 == n2) && ((p1 == p2) && ((s1.toList == s2.toList) && decide (l1 = l2)))) = false := by
      cases hq : ((n1 == n2) && ((p1 == p2) && ((s1.toList == s2.toList) && decide (l1 = l2)))) with
      | false => rfl
      | true =>
        simp only [Bool.and_eq_true, beq_iff_eq, decide_eq_true_eq] at hq
        exact absurd ⟨⟨hq.1, hq.2.1⟩, T.ba_ext (by rw [← ByteArray.toList_eq, ← ByteArray.toList_eq]; exact hq.2.2.1), by rw [← hm1, ← hm2, hq.2.2.2]⟩ hall
    rw [hres, hm1, hm2]
    have ff : ∀ o o' : Obj, Fr (fun _ => False) w ((w.alloc o).alloc o') := fun o o' => Fr.alloc (Fr.alloc (Fr.refl _ _) _) _
    have FF := hid ff
    clear h1 h2 hx hm1 hm2 hr4 hres ff
    by_cases e1 : n1 = n2
    · subst e1
      by_cases e2 : p1 = p2
      · subst e2
        by_cases e3 : s1 = s2
        · subst e3
          have hm : ¬ m1 = m2 := fun e => hall ⟨⟨rfl, rfl⟩, rfl, e⟩
          have q : ((m1 : Int) == (m2 : Int)) = false := by
            cases hq : ((m1 : Int) == (m2 : Int)) with
            | false => rfl
            | true => exact absurd (by have := eq_of_beq hq; omega) hm
          have q' : (m1 == m2) = false := by simp [hm]
          have qn : ((m1 : Int) != (m2 : Int)) = true := by rw [bne, q]; rfl
          clear hall hm
          go_enter Tryz.func30, Tryz.ntmps30
          go_wp2_with fail
          go_ret
          exact ⟨rfl, FF.out _ _⟩
        · have q : (s1.toList == s2.toList) = false := by
            cases hq : (s1.toList == s2.toList) with
            | false => rfl
            | true => exact absurd (T.ba_ext (by rw [← ByteArray.toList_eq, ← ByteArray.toList_eq]; exact eq_of_beq hq)) e3
          clear hall e3
          go_enter Tryz.func30, Tryz.ntmps30
          go_wp2_with fail
          go_ret
          exact ⟨rfl, FF.out _ _⟩
      · have q : (p1 == p2) = false := by simp [e2]
        have qn : (p1 != p2) = true := by simp [e2]
        clear hall e2
        go_enter Tryz.func30, Tryz.ntmps30
        go_wp2_with fail
        go_ret
        exact ⟨rfl, FF.out _ _⟩
    · have q : (n1 == n2) = false := by simp [e1]
      have qn : (n1 != n2) = true := by simp [e1]
      clear hall e1
      go_enter Tryz.func30, Tryz.ntmps30
      go_wp2_with fail
      go_ret
      exact ⟨rfl, FF.out _ _⟩
end Go.Proofs.YtilbdpnioajkoaaGreat

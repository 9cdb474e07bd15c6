/-
  Attributes and nodes that are read, put behind a row of one's own.
  The document's tree: clone.
  Regions that draw their order: an operation is taken first, in few words.
  Lists by numbers as the document's tree has them: the place of a number; one put there.
-/
import Derived.Test.YtilbdpnioajkoaaGreatTSameQ
import Derived.Test.YtilbdpnioajkoaaGreatTNodesQ
import Derived.Test.YtilbdpnioajkoaaGreatMg5
import Derived.Test.YtilbdpnioajkoaaGreatRows
import Derived.Deep.RegionHeld3
import Derived.Test.YtilbdpnioajkoaaGreatMg3
namespace Go.Proofs.YtilbdpnioajkoaaGreat
open Go.RowKit Go.Maps
set_option linter.unusedVariables false
set_option linter.unusedSimpArgs false
set_option maxRecDepth 100000
theorem T.flatA_one {xs : List T.Pr} {u : Value} (hu : u ∈ T.flatA xs) : u.oneCell' = true := by
  unfold T.flatA at hu
  obtain ⟨l, hl, h⟩ := List.mem_flatten.1 hu
  obtain ⟨x, _, rfl⟩ := List.mem_map.1 hl
  simp at h
  rcases h with rfl | rfl <;> rfl
theorem T.flatN_one {xs : List T.Tn} {u : Value} (hu : u ∈ T.flatN xs) : u.oneCell' = true := by
  unfold T.flatN at hu
  obtain ⟨l, hl, h⟩ := List.mem_flatten.1 hu
  obtain ⟨x, _, rfl⟩ := List.mem_map.1 hl
  simp [T.cellsN] at h
  rcases h with rfl | rfl | rfl | rfl <;> rfl
theorem U.attrs_append (w : World) {I : Nat → Prop} {a : Option Addr} {n c : Nat} {xs : List Value} (hown : Ro w 65 2 a n c xs) {sa : Option Addr} {sc : Nat} {l : T.At} (hR : Rw I w 2 sa l.length (T.flatA l)) (hb : n + l.length ≤ 7000000000000) :
    ∃ a' c' w', (Builtin.append_ #[61, 61] 61 #[.slice a n c, .slice sa l.length sc]).run Tryz.prog w = .ok (.slice a' (n + l.length) c') w' ∧ Ro w' 65 2 a' (n + l.length) c' (xs ++ T.flatA l) ∧ (∀ k, blk a' = some k → blk a = some k ∨ w.heap.size ≤ k) ∧ Fr (fun k => blk a = some k) w w' := by
  obtain ⟨i0, z, hi, hz0, hz1, hz2, hz3⟩ := T.info_a
  by_cases hm : l.length = 0
  · have hl0 : l = [] := List.eq_nil_of_length_eq_zero hm
    subst hl0
    refine ⟨a, c, w, ?_, by simpa [T.flatA] using hown, fun k hk => .inl hk, Fr.refl _ _⟩
    have hs : Src Tryz.prog 2 61 (.slice sa 0 sc) 0 [] w := by
      cases sa with
      | some x => exact Src.ofSlice w Tryz.underlying61 x 0 sc _ rfl (fun j u hu => by simp at hu) (by simp)
      | none => exact Src.ofNil w Tryz.underlying61 sc
    exact run_append_nothing w 61 61 61 65 i0 Tryz.underlying61 hi a n c hown.le.1 _ (by rw [hz1]; exact hs)
  · rcases hR.2 with h0 | ⟨g, o, rfl, _, hc⟩
    · exact absurd h0 hm
    · obtain ⟨a', c', w', hr, h2, h3, h4⟩ := run_append_o (P := Tryz.prog) w 61 61 65 i0 z 2 32 Tryz.underlying61 hi hz0 hz1 hz2 hz3 (by omega) a n c xs hown ⟨g, o, none⟩ l.length sc (T.flatA l) (T.flatA_len l) (fun j u hu => by
        rw [Addr.add_lit]
        exact hc j u hu) (fun u hu => T.flatA_one hu) (by omega) (by omega) (by omega)
      refine ⟨a', c', w', hr, h2, fun k hk => ?_, (Fr.of_grown h3).mono (fun i _ e => by simpa using e)⟩
      rcases h4 with ⟨rfl, _⟩ | ⟨rfl, _⟩
      · exact .inl hk
      · simp [blk] at hk; exact .inr (by omega)
theorem U.nodes_append (w : World) {I : Nat → Prop} {a : Option Addr} {n c : Nat} {xs : List Value} (hown : Ro w 63 4 a n c xs) {sa : Option Addr} {sc : Nat} {zs : List T.Tn} (hR : Rw I w 4 sa zs.length (T.flatN zs)) (hb : n + zs.length ≤ 3900000000000) :
    ∃ a' c' w', (Builtin.append_ #[41, 41] 41 #[.slice a n c, .slice sa zs.length sc]).run Tryz.prog w = .ok (.slice a' (n + zs.length) c') w' ∧ Ro w' 63 4 a' (n + zs.length) c' (xs ++ T.flatN zs) ∧ (∀ k, blk a' = some k → blk a = some k ∨ w.heap.size ≤ k) ∧ Fr (fun k => blk a = some k) w w' := by
  obtain ⟨i0, z, hi, hz0, hz1, hz2, hz3⟩ := T.info_n
  by_cases hm : zs.length = 0
  · have hl0 : zs = [] := List.eq_nil_of_length_eq_zero hm
    subst hl0
    refine ⟨a, c, w, ?_, by simpa [T.flatN] using hown, fun k hk => .inl hk, Fr.refl _ _⟩
    have hs : Src Tryz.prog 4 41 (.slice sa 0 sc) 0 [] w := by
      cases sa with
      | some x => exact Src.ofSlice w Tryz.underlying41 x 0 sc _ rfl (fun j u hu => by simp at hu) (by simp)
      | none => exact Src.ofNil w Tryz.underlying41 sc
    exact run_append_nothing w 41 41 41 63 i0 Tryz.underlying41 hi a n c hown.le.1 _ (by rw [hz1]; exact hs)
  · rcases hR.2 with h0 | ⟨g, o, rfl, _, hc⟩
    · exact absurd h0 hm
    · obtain ⟨a', c', w', hr, h2, h3, h4⟩ := run_append_o (P := Tryz.prog) w 41 41 63 i0 z 4 56 Tryz.underlying41 hi hz0 hz1 hz2 hz3 (by omega) a n c xs hown ⟨g, o, none⟩ zs.length sc (T.flatN zs) (T.flatN_len zs) (fun j u hu => by
        rw [Addr.add_lit]
        exact hc j u hu) (fun u hu => T.flatN_one hu) (by omega) (by omega) (by omega)
      refine ⟨a', c', w', hr, h2, fun k hk => ?_, (Fr.of_grown h3).mono (fun i _ e => by simpa using e)⟩
      rcases h4 with ⟨rfl, _⟩ | ⟨rfl, _⟩
      · exact .inl hk
      · simp [blk] at hk; exact .inr (by omega)
end Go.Proofs.YtilbdpnioajkoaaGreat

namespace Go.Proofs.YtilbdpnioajkoaaGreat
open Go.RowKit Go.Maps
set_option linter.unusedVariables false
set_option linter.unusedSimpArgs false
set_option maxRecDepth 100000
attribute [local go_sem] Oper.semAt_some
set_option maxHeartbeats 4000000 in
theorem uclone_any {w : World} {I : Nat → Prop} {ra : Option Addr} {rc : Nat} {zs : List T.Tn} (hR : T.Nr I w ra zs) (hl : zs.length ≤ 3800000000000) (hats : ∀ z ∈ zs, z.1.2.ats.length ≤ 5000000000000) :
    Calls Tryz.prog 52 #[.slice ra zs.length rc] w fun e w' => ∃ a cp zs', e = .returned (.slice a zs.length cp) ∧ List.map Prod.fst zs' = List.map Prod.fst zs ∧ T.Lx w.heap.size w' a cp zs' ∧ Fr (fun _ => False) w w' := by
  obtain ⟨n, hn⟩ : ∃ n, zs.length = n := ⟨_, rfl⟩
  have HN := hid hn
  have HR := hid hR
  have HA := hid hats
  rw [hn] at hl ⊢
  clear hn hR hats
  go_enter Tryz.func52, Tryz.ntmps52
  go_wp2_with fail
  go_loopw [3, 4] (fun o i wr => ∃ (k : Nat) (oa : Option Addr) (oc : Nat), i = .int .i64 k ∧ o = .slice oa k oc ∧ Hid (k ≤ n ∧ ∃ zs' : List T.Tn, List.map Prod.fst zs' = List.map Prod.fst (zs.take k) ∧ T.Lx w.heap.size wr oa oc zs' ∧ Fr (fun _ => False) w wr))
    (fun _ i _ => (n - intOf i).toNat)
  case atStart => exact ⟨0, none, 0, rfl, rfl, hid ⟨Nat.zero_le _, [], rfl, T.Lx.nil _ _, Fr.refl _ _⟩⟩
  case round =>
    obtain ⟨k, oa, oc, rfl, rfl, hall⟩ := hrel
    obtain ⟨hk, zs', hz', hlx, hfr⟩ := hall.out
    have hzl : zs'.length = k := by
      have := congrArg List.length hz'
      rw [List.length_map, List.length_map, List.length_take, HN.out] at this
      omega
    by_cases hlt : k < n
    · obtain ⟨z, hz⟩ : ∃ z, zs[k]? = some z := ⟨_, List.getElem?_eq_getElem (by rw [HN.out]; exact hlt)⟩
      obtain ⟨g1, o1, rfl, _, a0, a1, a2, a3⟩ := T.flatN_cells (HR.out.1.kept hfr (fun _ _ h => h)) hz
      have hmem := List.mem_of_getElem? hz
      have i0 : (0 : Int) ≤ (k : Int) := by omega
      have i1 : (k : Int) < (n : Int) := by omega
      obtain ⟨V1, hV1⟩ : ∃ V, wr.alloc (.cells #[.int .i64 z.1.1, .int .i64 z.1.2.par, .string z.1.2.nm, .slice z.2.1 z.1.2.ats.length z.2.2] 63) = V := ⟨_, rfl⟩
      have f1 : Fr (fun _ => False) wr V1 := by rw [← hV1]; exact Fr.alloc (Fr.refl _ _) _
      have z1 : V1.heap.size = wr.heap.size + 1 := by rw [← hV1, alloc_size]
      have b1 : V1.heap[wr.heap.size]? = some (.cells #[.int .i64 z.1.1, .int .i64 z.1.2.par, .string z.1.2.nm, .slice z.2.1 z.1.2.ats.length z.2.2] 63 (0, 0)) := by rw [← hV1]; exact Go.heap_alloc_new wr _
      have e3 : V1.cell? ⟨wr.heap.size, 3, none⟩ = some (.slice z.2.1 z.1.2.ats.length z.2.2) := cellA (j := 3) b1 rfl
      obtain ⟨ea, ec, V2, hr2, hro2, hn2, hf2⟩ := U.attrs_append V1 (Ro.nil V1 65 2) (sc := z.2.2) ((HR.out.2 z hmem).kept (hfr.trans f1 (fun _ _ h => h)) (fun _ _ h => h)) (by have := HA.out z hmem; omega)
      rw [Nat.zero_add] at hr2 hro2
      rw [List.nil_append] at hro2
      have hf2' : Fr (fun _ => False) V1 V2 := hf2.mono (fun i _ e => by simp [blk] at e)
      have b2 := hf2'.cells b1 (fun h => h)
      have c3 : V2.cell? ⟨wr.heap.size, 3, none⟩ = some (.slice z.2.1 z.1.2.ats.length z.2.2) := cellA (j := 3) b2 rfl
      have zf := frozen_of_row (j := 3) b2
      obtain ⟨V3, hV3⟩ : ∃ V, V2.setCell ⟨wr.heap.size, 3, none⟩ (.slice ea z.1.2.ats.length ec) = V := ⟨_, rfl⟩
      have f3 : Fr (fun i => i = wr.heap.size) V2 V3 := by rw [← hV3]; exact Fr.setCell (p := ⟨wr.heap.size, 3, none⟩) (Fr.refl (fun i => i = wr.heap.size) _) (fun _ => rfl) _
      have b3 : V3.heap[wr.heap.size]? = some (.cells #[.int .i64 z.1.1, .int .i64 z.1.2.par, .string z.1.2.nm, .slice ea z.1.2.ats.length ec] 63 (0, 0)) := by rw [← hV3]; exact setCell_row (j := 3) b2 _
      have fwr3 : Fr (fun _ => False) wr V3 := (f1.trans hf2' (fun _ _ h => h)).trans f3 (fun i hi e => by omega)
      have s0 : V3.cell? ⟨wr.heap.size, 0, none⟩ = some (.int .i64 z.1.1) := cellA (j := 0) b3 rfl
      have s1 : V3.cell? ⟨wr.heap.size, 1, none⟩ = some (.int .i64 z.1.2.par) := cellA (j := 1) b3 rfl
      have s2 : V3.cell? ⟨wr.heap.size, 2, none⟩ = some (.string z.1.2.nm) := cellA (j := 2) b3 rfl
      have s3 : V3.cell? ⟨wr.heap.size, 3, none⟩ = some (.slice ea z.1.2.ats.length ec) := cellA (j := 3) b3 rfl
      have hrw3 : Rw (fun g => wr.heap.size ≤ g ∧ g < V3.heap.size) V3 2 ea z.1.2.ats.length (T.flatA z.1.2.ats) := by
        refine (Rw.of_ro (hro2.kept f3 (fun j hj e => ?_)) (I := fun g => wr.heap.size ≤ g ∧ g < V3.heap.size) (fun g hg => ⟨?_, ?_⟩))
        · rcases hn2 j hj with h | h
          · simp [blk] at h
          · omega
        · rcases hn2 g hg with h | h
          · simp [blk] at h
          · omega
        · have h1 := hro2.lt g hg
          have h2 := f3.size
          omega
      have hwn3 : T.Wn V3 ea z.1.2.ats.length := T.Wn.of_ro (hro2.kept f3 (fun j hj e => by
        rcases hn2 j hj with h | h
        · simp [blk] at h
        · omega))
      obtain ⟨a', cp', V4, hr4, hro4, hf4, hn4⟩ := T.node_append V3 oa oc k (T.flatN zs') (by have := (hlx.kept fwr3 (fun _ _ _ h => h)).row; rw [hzl] at this; exact this) (by omega) (z.1, (ea, ec))
      have HREL := hid (show k + 1 ≤ n ∧ ∃ zs2 : List T.Tn, List.map Prod.fst zs2 = List.map Prod.fst (zs.take (k + 1)) ∧ T.Lx w.heap.size V4 a' cp' zs2 ∧ Fr (fun _ => False) w V4 from
        ⟨hlt, zs' ++ [(z.1, (ea, ec))], by rw [List.map_append, hz', List.take_add_one, hz, List.map_append]; rfl, hlx.more fwr3 hrw3 hwn3 hfr.size hf4 (by rw [hzl]; exact hro4) hn4, (hfr.trans fwr3 (fun _ _ h => h)).trans hf4 (fun i hi e => by have := hlx.new i e; omega)⟩)
      have HV1 := hid hV1
      have HV3 := hid hV3
      have R2 := hid hr2
      have R4 := hid hr4
      clear hall hk hz' hlx hfr hzl hlt hz hmem hV1 f1 z1 b1 hr2 hro2 hn2 hf2 hf2' b2 hV3 f3 b3 fwr3 hrw3 hwn3 hr4 hro4 hf4 hn4
      dsimp only at R4
      go_upto_region 6 with fail
      rw [HV1.out]
      go_upto_region 7 with (first | (at_builtin; refine wpList_append_eq _ _ rfl (.const (.slice none 0 0)) (.tmp 17) _ rfl _ _ _ rfl rfl R2.out ?_))
      rw [HV3.out]
      go_wp2_with (first | (at_builtin; refine wpList_append_eq _ _ rfl (.tmp 20) (.tmp 22) _ rfl _ _ _ rfl rfl R4.out ?_))
      go_roundw
      case rel => exact ⟨k + 1, a', cp', by first | go_num | rfl | trivial, by first | go_num | rfl | trivial, HREL⟩
      case measure => simp [intOf]; omega
    · have hkn : k = n := by omega
      subst hkn
      have HF := hid (show List.map Prod.fst zs' = List.map Prod.fst zs ∧ T.Lx w.heap.size wr oa oc zs' ∧ Fr (fun _ => False) w wr from ⟨by rw [hz', List.take_of_length_le (by rw [HN.out]; exact Nat.le_refl _)], hlx, hfr⟩)
      have hjn : ¬ ((k : Int) < (k : Int)) := by omega
      clear hall hk hz' hlx hfr hzl hlt
      go_wp2_with fail
      go_ret
      exact ⟨oa, oc, rfl, zs', HF.out.1, HF.out.2.1, HF.out.2.2⟩
end Go.Proofs.YtilbdpnioajkoaaGreat

namespace Go.Proofs.YtilbdpnioajkoaaGreat
theorem q1 {α : Type} (l : List α) (i : Nat) (a : α) : l.toArray.setIfInBounds i a = (l.set i a).toArray := List.setIfInBounds_toArray ..
theorem q2 {α : Type} (a b : α) (l : List α) : (a :: l).set 0 b = b :: l := List.set_cons_zero
theorem q3 {α : Type} (a b : α) (l : List α) (n : Nat) : (a :: l).set (n + 1) b = a :: l.set n b := List.set_cons_succ
variable {md : Region.Mode} {ops : Array Oper} {Q : Exit → Act → World → Prop} {S : World → Prop}
/-- one that yields -/
theorem tk {i : Nat} {oi : Oper} {d : Option Tmp} {v : Value} {fuel : Nat} {listed : Array Bool} {a : Act} {w : World} (hi : ops[i]? = some oi) (hy : YieldsIf Tryz.prog ops S oi v a) (hS : S w)
    (h : wpAnyH Tryz.prog md ops Q S fuel (listed.setIfInBounds i true) (a.put d v) w) (hd : oi.dst = d := by kernel_rfl)
    (hs : Region.noSelect ops = true := by kernel_rfl) (hf : Region.free md ops listed i = true := by kernel_rfl) (hr : (Region.ready md ops listed).contains i = true := by kernel_rfl) (hQ : ∀ c a w, Q (.panic c) (a.put oi.dst v) w → Q (.panic c) a w := by exact fun _ _ _ h => h) :
    wpAnyH Tryz.prog md ops Q S (fuel + 1) listed a w := by
  subst hd
  exact wpAnyH_take hi hs hf hr hQ hy hS h
/-- one that is left out -/
theorem tks {i : Nat} {oi : Oper} {d : Option Tmp} {fuel : Nat} {listed : Array Bool} {a : Act} {w : World} (hi : ops[i]? = some oi) (hS : S w)
    (h : wpAnyH Tryz.prog md ops Q S fuel (listed.setIfInBounds i true) (a.put d undef) w) (hd : oi.dst = d := by kernel_rfl)
    (hw : Region.wanted oi (yielded ops a.tmps) = false := by kernel_rfl)
    (hs : Region.noSelect ops = true := by kernel_rfl) (hf : Region.free md ops listed i = true := by kernel_rfl) (hr : (Region.ready md ops listed).contains i = true := by kernel_rfl) (hQ : ∀ c a w, Q (.panic c) (a.put oi.dst undef) w → Q (.panic c) a w := by exact fun _ _ _ h => h) :
    wpAnyH Tryz.prog md ops Q S (fuel + 1) listed a w := by
  subst hd
  exact wpAnyH_take hi hs hf hr hQ (Or.inr ⟨hw, rfl⟩) hS h
end Go.Proofs.YtilbdpnioajkoaaGreat

namespace Go.Proofs.YtilbdpnioajkoaaGreat
set_option linter.unusedVariables false
namespace A
variable {α : Type}
/-- how many stand ahead of a number -/
def low (n : Int) : List (Int × α) → Nat
  | [] => 0
  | p :: r => if p.1 < n then low n r + 1 else 0
theorem low_le (n : Int) : ∀ l : List (Int × α), low n l ≤ l.length
  | [] => Nat.le_refl _
  | p :: r => by
    unfold low
    split
    · have := low_le n r; rw [List.length_cons]; omega
    · exact Nat.zero_le _
theorem low_lt {n : Int} : ∀ {l : List (Int × α)} {k : Nat} {p : Int × α}, k < low n l → l[k]? = some p → p.1 < n
  | [], k, p, h, hp => by simp at hp
  | q :: r, 0, p, h, hp => by
    unfold low at h
    split at h
    · simp at hp; subst hp; assumption
    · omega
  | q :: r, k + 1, p, h, hp => by
    unfold low at h
    split at h
    · exact low_lt (l := r) (k := k) (by omega) (by simpa using hp)
    · omega
theorem low_ge {n : Int} : ∀ {l : List (Int × α)} {p : Int × α}, l[low n l]? = some p → n ≤ p.1
  | [], p, hp => by simp at hp
  | q :: r, p, hp => by
    unfold low at hp
    split at hp
    · exact low_ge (l := r) (by simpa using hp)
    · simp at hp; subst hp; omega
theorem low_eq {n : Int} {l : List (Int × α)} {k : Nat} (h1 : ∀ j p, j < k → l[j]? = some p → p.1 < n) (h2 : ∀ p, l[k]? = some p → n ≤ p.1) (hk : k ≤ l.length) : k = low n l := by
  rcases Nat.lt_trichotomy k (low n l) with e | e | e
  · have hl := low_le n l
    obtain ⟨p, hp⟩ : ∃ p, l[k]? = some p := ⟨_, List.getElem?_eq_getElem (by omega)⟩
    have := low_lt e hp
    have := h2 p hp
    omega
  · exact e
  · obtain ⟨p, hp⟩ : ∃ p, l[low n l]? = some p := ⟨_, List.getElem?_eq_getElem (by omega)⟩
    have := low_ge hp
    have := h1 _ p e hp
    omega
theorem low_get {l : List (Int × α)} (h : Up l) {n : Int} {v : α} : get n l = some v ↔ l[low n l]? = some (n, v) := by
  rw [get_iff h]
  constructor
  · intro hm
    obtain ⟨i, hi, e⟩ := List.getElem_of_mem hm
    have hk : i = low n l := low_eq (fun j p hj hp => by
      obtain ⟨h1, h2⟩ := List.getElem?_eq_some_iff.1 hp
      have h3 := List.pairwise_iff_getElem.1 h j i h1 hi hj
      rw [e, h2] at h3
      exact h3) (fun p hp => by
      rw [List.getElem?_eq_getElem hi, e] at hp
      cases hp
      exact Int.le_refl _) (Nat.le_of_lt hi)
    rw [← hk, List.getElem?_eq_getElem hi, e]
  · exact List.mem_of_getElem?
theorem low_none {l : List (Int × α)} (h : Up l) {n : Int} (hn : get n l = none) {p : Int × α} (hp : l[low n l]? = some p) : p.1 ≠ n := fun e => by
  have : get n l = some p.2 := (low_get h).2 (by rw [hp, ← e])
  rw [hn] at this
  cases this
theorem put_low {n : Int} {v : α} : ∀ {l : List (Int × α)}, Up l → put n v l = l.take (low n l) ++ (n, v) :: l.drop (low n l + (if (get n l).isSome then 1 else 0))
  | [], h => rfl
  | p :: r, h => by
    have h' := h
    unfold Up at h'
    rw [List.pairwise_cons] at h'
    have hr : Up r := h'.2
    by_cases hlt : p.1 < n
    · have hg : get n (p :: r) = get n r := by
        unfold get
        rw [List.find?_cons, show (p.1 == n) = false from by simp; omega]
      have hl : low n (p :: r) = low n r + 1 := by
        show (if p.1 < n then low n r + 1 else 0) = _
        rw [if_pos hlt]
      rw [hg, hl]
      have hd : del n (p :: r) = p :: del n r := by
        unfold del
        rw [List.filter_cons, if_pos (by simp; omega)]
      have hp : put n v (p :: r) = p :: put n v r := by
        unfold put
        rw [hd]
        show (if n < p.1 then _ else _) = _
        rw [if_neg (by omega)]
      rw [hp, put_low hr, show low n r + 1 + (if (get n r).isSome then 1 else 0) = low n r + (if (get n r).isSome then 1 else 0) + 1 by omega]
      rfl
    · have hl : low n (p :: r) = 0 := by
        show (if p.1 < n then low n r + 1 else 0) = _
        rw [if_neg hlt]
      rw [hl]
      have hno : del n r = r := by
        unfold del
        refine List.filter_eq_self.2 (fun q hq => ?_)
        have := h'.1 q hq
        simp
        omega
      have hin : ∀ l : List (Int × α), (∀ q ∈ l, n < q.1) → ins (n, v) l = (n, v) :: l := fun l hl => by
        cases l with
        | nil => rfl
        | cons q l =>
          show (if n < q.1 then _ else _) = _
          rw [if_pos (hl q List.mem_cons_self)]
      by_cases he : p.1 = n
      · have hg : get n (p :: r) = some p.2 := get_of_mem h (by rw [← he]; exact List.mem_cons_self)
        rw [hg]
        have hd : del n (p :: r) = r := by
          unfold del
          rw [List.filter_cons, if_neg (by simp [he])]
          exact hno
        unfold put
        rw [hd, hin r (fun q hq => by have := h'.1 q hq; omega)]
        rfl
      · have hg : get n (p :: r) = none := get_none.2 (fun q hq => by
          rcases List.mem_cons.1 hq with rfl | hq
          · exact he
          · have := h'.1 q hq; omega)
        rw [hg]
        have hd : del n (p :: r) = p :: r := by
          unfold del
          rw [List.filter_cons, if_pos (by simp [he])]
          congr 1
        unfold put
        rw [hd, hin (p :: r) (fun q hq => by
          rcases List.mem_cons.1 hq with rfl | hq
          · omega
          · have := h'.1 q hq; omega)]
        rfl
theorem put_set {n : Int} {v : α} {l : List (Int × α)} (h : Up l) (hn : (get n l).isSome = true) : put n v l = l.set (low n l) (n, v) := by
  obtain ⟨u, hu⟩ := Option.isSome_iff_exists.1 hn
  have hlt : low n l < l.length := (List.getElem?_eq_some_iff.1 ((low_get h).1 hu)).1
  rw [put_low h, hn, if_pos rfl, List.set_eq_take_append_cons_drop, if_pos hlt]
end A
end Go.Proofs.YtilbdpnioajkoaaGreat

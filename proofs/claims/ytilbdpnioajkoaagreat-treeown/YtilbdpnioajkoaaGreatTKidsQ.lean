/-
  Children: the nodes under a node, by their names, then by their numbers.
-/
import Derived.Test.YtilbdpnioajkoaaGreatMg30
import Derived.Test.YtilbdpnioajkoaaGreatMg23
namespace Go.Proofs.YtilbdpnioajkoaaGreat
open Go.RowKit Go.Maps
set_option linter.unusedVariables false
set_option linter.unusedSimpArgs false
set_option maxRecDepth 100000
namespace T
/-- a child: its name, its number -/
abbrev Ch := ByteArray × Int
def clt (a b : Ch) : Bool := blt a.1 b.1 || (decide (a.1 = b.1) && decide (a.2 < b.2))
def cle (a b : Ch) : Bool := blt a.1 b.1 || (decide (a.1 = b.1) && decide (a.2 ≤ b.2))
/-- those under a node -/
def chs (t : Tr) (n : Int) : List Ch := ((t.filter (fun p => decide (2 < p.1) && p.2.par == n)).map (fun p => (p.2.nm, p.1))).mergeSort cle
theorem clt_irrefl (a : Ch) : clt a a = false := by unfold clt; simp [blt_irrefl]
theorem clt_trans {a b c : Ch} (h : clt a b = true) (k : clt b c = true) : clt a c = true := by
  unfold clt at *
  simp only [Bool.or_eq_true, Bool.and_eq_true, decide_eq_true_eq] at *
  rcases h with h | ⟨h, h'⟩
  · rcases k with k | ⟨k, k'⟩
    · exact .inl (blt_trans h k)
    · rw [← k]; exact .inl h
  · rcases k with k | ⟨k, k'⟩
    · rw [h]; exact .inl k
    · exact .inr ⟨h.trans k, by omega⟩
theorem chs_ext : ∀ {l m : List Ch}, l.Pairwise (fun a b => clt a b = true) → m.Pairwise (fun a b => clt a b = true) → (∀ p, p ∈ l ↔ p ∈ m) → l = m
  | [], [], _, _, _ => rfl
  | [], y :: r, _, _, h => by have := (h y).2 (by simp); cases this
  | x :: r, [], _, _, h => by have := (h x).1 (by simp); cases this
  | x :: r, y :: s, hl, hm, h => by
    rw [List.pairwise_cons] at hl hm
    have e : x = y := by
      rcases List.mem_cons.1 ((h x).1 (by simp)) with e | h1
      · exact e
      · rcases List.mem_cons.1 ((h y).2 (by simp)) with e | h2
        · exact e.symm
        · have a := clt_trans (hl.1 y h2) (hm.1 x h1)
          rw [clt_irrefl] at a; cases a
    subst e
    rw [chs_ext hl.2 hm.2 (fun p => ⟨fun hp => ?_, fun hp => ?_⟩)]
    · rcases List.mem_cons.1 ((h p).1 (by simp [hp])) with rfl | h1
      · have := hl.1 p hp; rw [clt_irrefl] at this; cases this
      · exact h1
    · rcases List.mem_cons.1 ((h p).2 (by simp [hp])) with rfl | h1
      · have := hm.1 p hp; rw [clt_irrefl] at this; cases this
      · exact h1
theorem mem_chs {t : Tr} (ht : A.Up t) {n : Int} {c : Ch} : c ∈ chs t n ↔ 2 < c.2 ∧ ∃ y, A.get c.2 t = some y ∧ y.par = n ∧ y.nm = c.1 := by
  unfold chs
  rw [(List.mergeSort_perm _ _).mem_iff]
  simp only [List.mem_map, List.mem_filter, Bool.and_eq_true, decide_eq_true_eq, beq_iff_eq]
  constructor
  · rintro ⟨⟨a, y⟩, ⟨h1, h2, h3⟩, rfl⟩
    exact ⟨h2, y, A.get_of_mem ht h1, h3, rfl⟩
  · rintro ⟨h2, y, h1, h3, h4⟩
    exact ⟨(c.2, y), ⟨A.get_mem h1, h2, h3⟩, by rw [h4]⟩
theorem chs_len (t : Tr) (n : Int) : (chs t n).length ≤ t.length := by
  unfold chs
  rw [List.length_mergeSort, List.length_map]
  exact List.length_filter_le _ _
theorem cle_trans (a b c : Ch) (h : cle a b = true) (k : cle b c = true) : cle a c = true := by
  unfold cle at *
  simp only [Bool.or_eq_true, Bool.and_eq_true, decide_eq_true_eq] at *
  rcases h with h | ⟨h, h'⟩
  · rcases k with k | ⟨k, k'⟩
    · exact .inl (blt_trans h k)
    · rw [← k]; exact .inl h
  · rcases k with k | ⟨k, k'⟩
    · rw [h]; exact .inl k
    · exact .inr ⟨h.trans k, by omega⟩
theorem cle_total (a b : Ch) : (cle a b || cle b a) = true := by
  unfold cle
  by_cases e : a.1 = b.1
  · rw [e]
    simp only [blt_irrefl, Bool.false_or, decide_true, Bool.true_and, Bool.or_eq_true, decide_eq_true_eq]
    omega
  · by_cases h : blt a.1 b.1 = true
    · simp [h]
    · have := blt_total e h
      simp [this]
theorem chs_sorted {t : Tr} (ht : A.Up t) (n : Int) : (chs t n).Pairwise (fun a b => clt a b = true) := by
  have h1 : (chs t n).Pairwise (fun a b => cle a b = true) := List.pairwise_mergeSort cle_trans cle_total _
  have h2 : (chs t n).Pairwise (fun a b => a ≠ b) := by
    have h3 : ((t.filter (fun p => decide (2 < p.1) && p.2.par == n)).map (fun p => (p.2.nm, p.1))).Pairwise (fun a b : Ch => a ≠ b) := by
      rw [List.pairwise_map]
      refine List.Pairwise.imp (fun {a b} h e => ?_) (List.Pairwise.filter _ ht)
      have := congrArg Prod.snd e
      simp only at this
      omega
    exact ((List.mergeSort_perm _ _).pairwise_iff (fun h e => h e.symm)).2 h3
  refine List.Pairwise.imp (fun {a b} h => ?_) (h1.and h2)
  have h3 := h.1
  have h4 := h.2
  unfold cle at h3
  unfold clt
  simp only [Bool.or_eq_true, Bool.and_eq_true, decide_eq_true_eq] at h3 ⊢
  rcases h3 with h3 | ⟨h3, h5⟩
  · exact .inl h3
  · refine .inr ⟨h3, ?_⟩
    have : a.2 ≠ b.2 := fun e => h4 (Prod.ext h3 e)
    omega
/-- gathered by names, they are the same -/
theorem chs_of {t : Tr} (ht : A.Up t) {n : Int} {L : List ByteArray} (hu : L.Pairwise (fun a b => blt a b = true)) (hm : ∀ s, s ∈ L ↔ kids t n s ≠ []) : L.flatMap (fun s => (kids t n s).map (fun k => (s, k))) = chs t n := by
  refine chs_ext ?_ (chs_sorted ht n) (fun c => ?_)
  · clear hm
    induction L with
    | nil => exact List.Pairwise.nil
    | cons s r ih =>
      rw [List.pairwise_cons] at hu
      rw [List.flatMap_cons, List.pairwise_append]
      refine ⟨?_, ih hu.2, fun a ha b hb => ?_⟩
      · rw [List.pairwise_map]
        refine List.Pairwise.imp (fun {x y} h => ?_) (rise_kids ht n s)
        unfold clt
        simp [h]
      · obtain ⟨k, _, rfl⟩ := List.mem_map.1 ha
        obtain ⟨s2, hs2, hb2⟩ := List.mem_flatMap.1 hb
        obtain ⟨k2, _, rfl⟩ := List.mem_map.1 hb2
        unfold clt
        simp [hu.1 s2 hs2]
  · rw [mem_chs ht, List.mem_flatMap]
    constructor
    · rintro ⟨s, _, hc⟩
      obtain ⟨k, hk, rfl⟩ := List.mem_map.1 hc
      exact (mem_kids ht).1 hk
    · rintro ⟨h1, y, h2, h3, h4⟩
      have hk : c.2 ∈ kids t n c.1 := (mem_kids ht).2 ⟨h1, y, h2, h3, h4⟩
      exact ⟨c.1, (hm _).2 (fun e => by rw [e] at hk; cases hk), List.mem_map.2 ⟨c.2, hk, rfl⟩⟩
def flatC (l : List Ch) : List Value := (l.map (fun c => [Value.string c.1, .int .i64 c.2])).flatten
theorem flatC_append (xs ys : List Ch) : flatC (xs ++ ys) = flatC xs ++ flatC ys := by simp [flatC]
theorem flatC_get : ∀ (xs : List Ch) (j : Nat), (flatC xs)[j]? = (xs[j / 2]?).bind (fun x => [Value.string x.1, .int .i64 x.2][j % 2]?)
  | [], j => by simp [flatC]
  | x :: r, 0 => rfl
  | x :: r, 1 => rfl
  | x :: r, j + 2 => by
    have e : flatC (x :: r) = Value.string x.1 :: Value.int .i64 x.2 :: flatC r := rfl
    rw [e, List.getElem?_cons_succ, List.getElem?_cons_succ, flatC_get r j, show (j + 2) / 2 = j / 2 + 1 by omega, show (j + 2) % 2 = j % 2 by omega, List.getElem?_cons_succ]
end T
theorem T.infoC1 : (Tryz.prog.info? 70).map (fun i => (i.size, i.bytes)) = some (2, 24) := by kernel_rfl
theorem T.infoC2 : ((Tryz.prog.info? 70).bind (fun i => i.zero)).map (fun z => z.cells.size) = some 2 := by kernel_rfl
theorem T.info_c : ∃ i z, Tryz.prog.info? 70 = some i ∧ i.zero = some z ∧ i.size = 2 ∧ i.bytes = 24 ∧ z.cells.size = 2 := by
  have h1 := T.infoC1
  have h2 := T.infoC2
  cases hi : Tryz.prog.info? 70 with
  | none => rw [hi] at h1; cases h1
  | some i =>
    rw [hi] at h1 h2
    simp only [Option.map_some, Option.some.injEq, Prod.mk.injEq, Option.bind_some] at h1 h2
    cases hz : i.zero with
    | none => rw [hz] at h2; cases h2
    | some z =>
      rw [hz] at h2
      simp only [Option.map_some, Option.some.injEq] at h2
      exact ⟨i, z, rfl, hz, h1.1, h1.2, h2⟩
theorem T.child_append (w : World) (ra : Option Addr) (rc n : Nat) (xs : List Value) (hrow : Ro w 70 2 ra n rc xs) (hb : n ≤ 5000000000000) (z : T.Ch) :
    ∃ ra' rc' w', (Builtin.append_ #[66, 66] 66 #[.slice ra n rc, .slice (some ⟨w.heap.size, 0, none⟩) 1 1]).run Tryz.prog (w.alloc (.cells #[.string z.1, .int .i64 z.2] 70)) = .ok (.slice ra' (n + 1) rc') w' ∧
      Ro w' 70 2 ra' (n + 1) rc' (xs ++ [.string z.1, .int .i64 z.2]) ∧ Fr (fun k => blk ra = some k) w w' ∧ (∀ k, blk ra' = some k → blk ra = some k ∨ w.heap.size ≤ k) := by
  obtain ⟨i0, z0, hi, hz0, hz1, hz2, hz3⟩ := T.info_c
  have f0 : Fr (fun _ => False) w (w.alloc (.cells #[.string z.1, .int .i64 z.2] 70)) := Fr.alloc (Fr.refl _ _) _
  have hn := Go.heap_alloc_new w (.cells #[.string z.1, .int .i64 z.2] 70)
  obtain ⟨a', c', w', hr, h2, h3, h4⟩ := run_append_o (P := Tryz.prog) (w.alloc (.cells #[.string z.1, .int .i64 z.2] 70)) 66 66 70 i0 z0 2 24 Tryz.underlying66 hi hz0 hz1 hz2 hz3 (by omega) ra n rc xs (hrow.kept f0 (fun _ _ h => h)) ⟨w.heap.size, 0, none⟩ 1 1 [.string z.1, .int .i64 z.2] rfl (fun j u hu => by
    rw [Addr.add_lit, Nat.zero_add]
    exact cellA hn (by rw [← Array.getElem?_toList]; exact hu)) (fun u hu => by simp at hu; rcases hu with rfl | rfl <;> rfl) (by omega) (by omega) (by omega)
  refine ⟨a', c', w', hr, h2, (f0.mono (fun _ _ h => h.elim)).trans (Fr.of_grown h3) (fun i hi e => e), fun k hk => ?_⟩
  rcases h4 with ⟨rfl, _⟩ | ⟨rfl, _⟩
  · exact .inl hk
  · simp [blk] at hk; exact .inr (by omega)
set_option maxHeartbeats 3200000 in
theorem children_any {c : Nat → Option T.Col} {w : World} {bud p : Nat} {dos last : Int} {t : T.Tr} {mb : Nat} {f : Int → Nat} (h : Tf c w bud p dos last t mb f) (hu : A.Up t) (hb : bud ≤ 8000000000000) (hlen : t.length ≤ 5000000000000) (hnm : ∀ k y, A.get k t = some y → y.nm.size ≤ maxLen) {n : Int} (hn : (Lit.int .i64 n).wf = true) {x : T.Nd} (hx : A.get n t = some x) :
    Calls Tryz.prog 22 #[ptr p, .int .i64 n] w fun e w' => ∃ a cp, e = .returned (.slice a (T.chs t n).length cp) ∧ Ro w' 70 2 a (T.chs t n).length cp (T.flatC (T.chs t n)) ∧ (∀ k, blk a = some k → w.heap.size ≤ k) ∧ Fr (fun _ => False) w w' := by
  have KA := hid (at_any h hn)
  rw [T.loc_some hx] at KA
  obtain ⟨av, uv, g, m, hN⟩ := h.node n x hx
  have KK := hid (keysS_fn uv w)
  have KS := hid (sortedS_any hN.und (by have := hN.few; omega))
  have c3 : w.cell? ⟨f n, 3, none⟩ = some (.map uv) := cellA (j := 3) hN.cells rfl
  have HN := hid hN
  have HU := hid hu
  have HLEN := hid hlen
  have HB := hid hb
  have HFN := hid (lt_of_row hN.cells)
  have HNM := hid hnm
  clear h hn hx hb hlen hu hN hnm
  go_enter Tryz.func22, Tryz.ntmps22
  go_wp2_with (first
    | (go_at_call 58; refine KA.out.mono ?_; rintro e wx ⟨rfl, rfl⟩)
    | (go_at_call 60; refine KK.out.mono ?_; rintro e wx ⟨rfl, rfl⟩)
    | (go_at_call 59; refine KS.out.mono ?_; rintro e w1 ⟨a1, c1, L, rfl, hNo, hLm, hrw, hf⟩; have NO := hid hNo; have HLM := hid hLm; have RW1 := hid hrw; have F1 := hid ((Fr.alloc (Fr.refl (fun _ => False) w) _).trans hf (fun _ _ h => h)); clear hNo hLm hrw hf; obtain ⟨ln, hln⟩ : ∃ n, List.length L = n := ⟨_, rfl⟩; rw [hln]; have HLN := hid hln; clear hln))
  have hne : ∀ s, s ∈ L ↔ T.kids t n s ≠ [] := fun s => by
    rw [NO.out.mem s]
    rcases HN.out.row s with ⟨e1, e2⟩ | ⟨e1, a, cap, e2, _⟩
    · rw [e1, e2]; simp
    · rw [e2]; simp [e1]
  have HNE := hid hne
  have HCH := hid (T.chs_of HU.out NO.out.up hne)
  have hbl : ln ≤ 8000000000000 := by have := HLM.out; have := HN.out.few; have := HB.out; have := HLN.out; omega
  clear hne
  -- what has been gathered
  obtain ⟨G, hG⟩ : ∃ G : List ByteArray → List T.Ch, G = fun l => l.flatMap (fun s => (T.kids t n s).map (fun k => (s, k))) := ⟨_, rfl⟩
  have HG := hid hG
  have HCG : Hid (G L = T.chs t n) := hid (by rw [hG]; exact HCH.out)
  clear hG
  go_loopw [6, 8, 10, 23] (fun l _ _ i wr => ∃ (k m : Nat) (la : Option Addr) (lc : Nat), i = .int .i64 k ∧ l = .slice la m lc ∧ Hid (k ≤ ln ∧ (G (L.take k)).length = m ∧ Ro wr 70 2 la m lc (T.flatC (G (L.take k))) ∧ (∀ i, blk la = some i → w1.heap.size ≤ i) ∧ Fr (fun _ => False) w1 wr))
    (fun _ _ _ i _ => ln - (intOf i).toNat)
  case atStart => exact ⟨0, 0, none, 0, rfl, rfl, hid ⟨Nat.zero_le _, by rw [HG.out]; rfl, by rw [HG.out]; exact Ro.nil _ _ _, by simp [blk], Fr.refl _ _⟩⟩
  case round =>
    obtain ⟨k, m, la, lc, rfl, rfl, hall⟩ := hrel
    by_cases hlt : k < ln
    · obtain ⟨s, hs⟩ : ∃ q, L[k]? = some q := ⟨_, List.getElem?_eq_getElem (by rw [HLN.out]; exact hlt)⟩
      obtain ⟨hk, hgm, hro, hnw, hfr⟩ := hall.out
      obtain ⟨g1, o1, rfl, e0⟩ : ∃ g o, a1 = some ⟨g, o, none⟩ ∧ wr.cell? ⟨g, o + k, none⟩ = some (.string s) := by
        rcases (RW1.out.kept hfr (fun _ _ h => h)).2 with h1 | ⟨g, o, h1, _, h2⟩
        · rw [HLN.out] at h1; omega
        · exact ⟨g, o, h1, h2 k _ (by rw [List.getElem?_map, hs]; rfl)⟩
      have hsn := (HNE.out s).1 (List.mem_of_getElem? hs)
      have hsz : s.size ≤ maxLen := by
        obtain ⟨k0, hk0⟩ := List.exists_mem_of_ne_nil _ hsn
        obtain ⟨_, y, hy, _, rfl⟩ := (T.mem_kids HU.out).1 hk0
        exact HNM.out _ _ hy
      have fwr := F1.out.trans hfr (fun _ _ h => h)
      have hNw := HN.out.kept fwr (fun _ _ _ _ h => h)
      have cu : wr.cell? ⟨f n, 3, none⟩ = some (.map uv) := cellA (j := 3) hNw.cells rfl
      have LK := hid (hNw.und.look keyS Tryz.underlying78 (zeroRow wr) (keyOfS hsz))
      obtain ⟨ra, rc, hgs, hrr⟩ : ∃ ra rc, g s = some (.slice ra (T.kids t n s).length rc) ∧ Ro wr 2 1 ra (T.kids t n s).length rc ((T.kids t n s).map (Value.int .i64)) := by
        rcases hNw.row s with ⟨e1, _⟩ | ⟨_, a, cap, e2, e3, _⟩
        · exact absurd e1 hsn
        · exact ⟨a, cap, e2, e3⟩
      rw [hgs] at LK
      obtain ⟨rn, hrn⟩ : ∃ z : Nat, (T.kids t n s).length = z := ⟨_, rfl⟩
      rw [hrn] at LK hrr
      have hrb : rn ≤ 5000000000000 := by have := T.kids_len t n s; have := HLEN.out; omega
      have hgn : G (L.take (k + 1)) = G (L.take k) ++ (T.kids t n s).map (fun q => (s, q)) := by
        rw [HG.out, List.take_add_one, hs]; simp [List.flatMap_append]
      have hgl : (G (L.take (k + 1))).length ≤ t.length := by
        have h1 : (G L).length ≤ t.length := by rw [HCG.out]; exact T.chs_len t n
        refine Nat.le_trans ?_ h1
        have e : G L = G (L.take (k + 1)) ++ G (L.drop (k + 1)) := by rw [HG.out]; simp only []; rw [← List.flatMap_append, List.take_append_drop]
        rw [e, List.length_append]; omega
      have i0 : (0 : Int) ≤ (k : Int) := by omega
      have i1 : (k : Int) < (ln : Int) := by omega
      have HGS := hid hgs
      have HRR := hid hrr
      have HRN := hid hrn
      have HGN := hid hgn
      have HGL := hid hgl
      have HGM := hid hgm
      have HRO := hid hro
      have HNW := hid hnw
      have HFR := hid hfr
      clear hs hk hgm hro hnw hfr hsn hsz fwr hNw hgs hrr hrn hgn hgl hall
      obtain ⟨wo, rfl⟩ : ∃ wo, wo = wr := ⟨_, rfl⟩
      go_wp2_with (refine wpList_look_v LK.out (by exact ⟨_, _, rfl, rfl, rfl⟩) (by kernel_rfl) ?_)
      go_loopw [6, 10, 34] (fun l _ i wq => ∃ (j q : Nat) (la : Option Addr) (lc : Nat), i = .int .i64 j ∧ l = .slice la q lc ∧ Hid (j ≤ rn ∧ q = m + j ∧ Ro wq 70 2 la q lc (T.flatC (G (L.take k) ++ ((T.kids t n s).take j).map (fun x => (s, x)))) ∧ (∀ i, blk la = some i → w1.heap.size ≤ i) ∧ Fr (fun _ => False) w1 wq))
        (fun _ _ i _ => rn - (intOf i).toNat)
      case atStart => exact ⟨0, m, la, lc, rfl, rfl, hid ⟨Nat.zero_le _, rfl, by rw [List.take_zero, List.map_nil, List.append_nil]; exact HRO.out, HNW.out, HFR.out⟩⟩
      case round =>
        obtain ⟨j, q, la2, lc2, rfl, rfl, hin⟩ := hrel
        by_cases hjt : j < rn
        · obtain ⟨x2, hx2⟩ : ∃ z, (T.kids t n s)[j]? = some z := ⟨_, List.getElem?_eq_getElem (by rw [HRN.out]; exact hjt)⟩
          obtain ⟨hj, hq, hro2, hnw2, hfr2⟩ := hin.out
          have hfrw := hfr2
          obtain ⟨g2, o2, rfl⟩ := HRR.out.some_of (by omega)
          have hcr : wr.cell? ⟨g2, o2 + j, none⟩ = some (.int .i64 x2) := by
            have hNq := HN.out.kept (F1.out.trans hfr2 (fun _ _ h => h)) (fun _ _ _ _ h => h)
            rcases hNq.row s with ⟨e1, _⟩ | ⟨_, a, cap, e2, e3, _⟩
            · rw [e1] at hx2; simp at hx2
            · rw [HGS.out] at e2
              simp only [Option.some.injEq, Value.slice.injEq] at e2
              obtain ⟨rfl, _, rfl⟩ := e2
              exact e3.cell (by rw [List.getElem?_map, hx2]; rfl)
          have hqb : q ≤ 5000000000000 := by
            have h1 := HGL.out
            rw [HGN.out, List.length_append, List.length_map, HGM.out, HRN.out] at h1
            have := HLEN.out
            omega
          obtain ⟨la', lc', w3, hr3, hro3, hf3, hn3⟩ := T.child_append wr la2 lc2 q _ hro2 hqb (s, x2)
          have FIN := hid (show j + 1 ≤ rn ∧ q + 1 = m + (j + 1) ∧ Ro w3 70 2 la' (q + 1) lc' (T.flatC (G (L.take k) ++ ((T.kids t n s).take (j + 1)).map (fun x => (s, x)))) ∧ (∀ i, blk la' = some i → w1.heap.size ≤ i) ∧ Fr (fun _ => False) w1 w3 from by
            refine ⟨hjt, by omega, ?_, fun i hi => ?_, hfr2.trans hf3 (fun i hi e => by have := hnw2 i e; omega)⟩
            · rw [List.take_add_one, hx2, List.map_append, ← List.append_assoc, T.flatC_append]
              exact hro3
            · rcases hn3 i hi with h1 | h1
              · exact hnw2 i h1
              · have := hfr2.size; omega)
          have R3 := hid hr3
          have j0 : (0 : Int) ≤ (j : Int) := by omega
          have j1 : (j : Int) < (rn : Int) := by omega
          clear hx2 hj hq hro2 hnw2 hfr2 hfrw hr3 hro3 hf3 hn3 hin hqb
          go_wp2_with (first | (at_builtin; refine wpList_append_eq _ _ rfl (.tmp 38) (.tmp 42) _ rfl _ _ _ rfl rfl R3.out ?_))
          go_roundw
          case rel => exact ⟨j + 1, q + 1, la', lc', by first | go_num | rfl | trivial, by first | go_num | rfl | trivial, FIN⟩
          case measure => simp [intOf]; omega
        · obtain rfl : j = rn := by have := hin.out.1; omega
          obtain ⟨_, hq, hro2, hnw2, hfr2⟩ := hin.out
          rw [List.take_of_length_le (l := T.kids t n s) (by rw [HRN.out]; exact Nat.le_refl _), ← HGN.out] at hro2
          have FIN := hid (show k + 1 ≤ ln ∧ (G (L.take (k + 1))).length = q ∧ Ro wr 70 2 la2 q lc2 (T.flatC (G (L.take (k + 1)))) ∧ (∀ i, blk la2 = some i → w1.heap.size ≤ i) ∧ Fr (fun _ => False) w1 wr from
            ⟨hlt, by rw [HGN.out, List.length_append, List.length_map, HGM.out, HRN.out, hq], hro2, hnw2, hfr2⟩)
          clear hq hro2 hnw2 hfr2 hin
          go_wp2
          go_roundw
          case rel => exact ⟨k + 1, q, la2, lc2, by first | go_num | rfl | trivial, by first | rfl | trivial, FIN⟩
          case measure => simp [intOf]; omega
    · obtain rfl : k = ln := by have := hall.out.1; omega
      obtain ⟨_, hgm, hro, hnw, hfr⟩ := hall.out
      rw [List.take_of_length_le (by rw [HLN.out]; exact Nat.le_refl _), HCG.out] at hgm hro
      have FIN := hid (show Ro wr 70 2 la (T.chs t n).length lc (T.flatC (T.chs t n)) ∧ (∀ i, blk la = some i → w.heap.size ≤ i) ∧ Fr (fun _ => False) w wr from
        ⟨by rw [hgm]; exact hro, fun i hi => Nat.le_trans F1.out.size (hnw i hi), F1.out.trans hfr (fun _ _ h => h)⟩)
      have HGM := hid hgm
      clear hgm hro hnw hfr hall
      go_wp2
      go_ret
      exact ⟨la, lc, by rw [HGM.out]; rfl, FIN.out⟩
end Go.Proofs.YtilbdpnioajkoaaGreat

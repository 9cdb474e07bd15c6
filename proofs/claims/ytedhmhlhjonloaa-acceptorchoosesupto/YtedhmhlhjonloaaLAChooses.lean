/-
  AcceptorChooses, over any leaders.
-/
import Derived.Test.YtedhmhlhjonloaaAGroup
import Derived.Test.YtedhmhlhjonloaaAPax
import Derived.Test.YtedhmhlhjonloaaAOpen4
import Derived.Test.YtedhmhlhjonloaaASame5
import Derived.Test.YtedhmhlhjonloaaARef
namespace Go.Proofs.Ytedhmhlhjonloaa
open Go.RowKit Go.Maps
set_option linter.unusedVariables false
set_option linter.unusedSimpArgs false

theorem Lds.at {E : Nat → Prop} {w : World} {a : Option Addr} {os : List A.Ld} (h : Lds E w a os) {i : Nat} {x : A.Ld} (hx : os[i]? = some x) : ∃ g o, a = some ⟨g, o, none⟩ ∧ (Instr.loadAt 77 (.pointer (some ⟨g, o + i * 4, none⟩))).run Try.prog w = .ok (.agg x.cells) w := by
  have hi : i < os.length := (List.getElem?_eq_some_iff.1 hx).1
  rcases h.row.2 with h0 | ⟨g, o, ha, hI, hc⟩
  · omega
  · refine ⟨g, o, ha, ?_⟩
    have hf := flat_at (k := 4) (l := os.map (fun x => x.cells.toList)) (fun l hl => by
      obtain ⟨y, hy, rfl⟩ := List.mem_map.1 hl
      rfl) (show (os.map (fun x => x.cells.toList))[i]? = some x.cells.toList by rw [List.getElem?_map, hx]; rfl)
    have := run_loadAt_mid (P := Try.prog) w g (o + i * 4) 77 x.cells.toList _ (fun j v hv => by
      rw [Nat.add_assoc]
      refine hc (i * 4 + j) v ?_
      rw [← hf, List.getElem?_take] at hv
      split at hv
      · rw [List.getElem?_drop] at hv; exact hv
      · cases hv) Try.underlying77 rfl (by kernel_rfl)
    simpa using this
theorem Ro.elem {w : World} {g o n c : Nat} {xs : List (List Value × A.En)} (h : Ro w 46 56 (some ⟨g, o, none⟩) n c ((xs.map (fun x => x.1)).flatten)) (h56 : ∀ z ∈ xs, z.1.length = 56) {i : Nat} {x : List Value × A.En} (hx : xs[i]? = some x) : (Instr.loadAt 46 (.pointer (some ⟨g, o + i * 56, none⟩))).run Try.prog w = .ok (.agg x.1.toArray) w := by
  have hf := flat_at (k := 56) (l := xs.map (fun x => x.1)) (fun l hl => by
    obtain ⟨y, hy, rfl⟩ := List.mem_map.1 hl
    exact h56 y hy) (show (xs.map (fun x => x.1))[i]? = some x.1 by rw [List.getElem?_map, hx]; rfl)
  have := run_loadAt_mid (P := Try.prog) w g (o + i * 56) 46 x.1 _ (fun j v hv => by
    rw [Nat.add_assoc]
    refine h.cell (j := i * 56 + j) ?_
    rw [← hf, List.getElem?_take] at hv
    split at hv
    · rw [List.getElem?_drop] at hv; exact hv
    · cases hv) Try.underlying46 rfl (by rw [h56 x (List.mem_of_getElem? hx)]; kernel_rfl)
  simpa using this
/-- WHAT STANDS BEHIND SOME LEADERS: the acceptors, the row of pointers to them, what was chosen. -/
structure Cst (w : World) (ps : List (Nat × Nat)) (ra : Option Addr) (rc K : Nat) (wr : World) (I : Nat → Prop) (sv : Nat → A.Ac) (ca : Option Addr) (cc : Nat) (xs : List (List Value × A.En)) : Prop where
  gp : Gp I wr ps sv
  row : Ro wr 23 1 ra K rc (ps.map (fun p => ptrV p.1))
  ch : Ro wr 46 56 ca xs.length cc ((xs.map (fun x => x.1)).flatten)
  fe : ∀ x ∈ xs, Fe x.1 x.2
  nr : ∀ j, blk ra = some j → w.heap.size ≤ j ∧ ¬ Pm ps j ∧ ¬ I j
  nc : ∀ j, blk ca = some j → w.heap.size ≤ j ∧ ¬ Pm ps j ∧ ¬ I j ∧ blk ra ≠ some j
  np : ∀ j, Pm ps j → w.heap.size ≤ j
  fr : Fr (fun _ => False) w wr

/-- a slotted entry's cells, without rows -/
def Zs (cs : Array Value) (s : A.Sd) : Prop := ∃ ec, cs = (.int .i64 s.slot :: .int .i64 s.bl.1 :: .int .i64 s.bl.2 :: ec).toArray ∧ Fe ec s.en
theorem Zs.size {cs : Array Value} {s : A.Sd} (h : Zs cs s) : cs.size = 59 := by
  obtain ⟨ec, rfl, h2⟩ := h
  have := (h2 (fun _ => False) default).len
  simp [this]
theorem Zs.one {cs : Array Value} {s : A.Sd} (h : Zs cs s) : cs.all (·.oneCell') = true := by
  obtain ⟨ec, rfl, h2⟩ := h
  exact Rs.one (I := fun _ => False) (w := default) ⟨ec, rfl, h2 _ _⟩
theorem Zs.zero : Zs zS59 A.zsd := ⟨A.zfx, rfl, fun I w => A.zen_re I w⟩
/-- WHILE PROMISES ARE ASKED FOR: the first j have been. -/
def Lp (I : Nat → Prop) (W2 : World) (ps : List (Nat × Nat)) (f : Nat → Bool) (b : A.Bl) (sv : Nat → A.Ac) (Z : Nat) (j : Nat) (wr : World) : Prop :=
  ∃ zc, Gp I wr ps (A.prep f b sv j) ∧ wr.heap[Z]? = some (.cells zc 79 (0, 0)) ∧ Zs zc (A.best A.zsd f sv j) ∧ Fr (fun q => Pm ps q ∨ q = Z) W2 wr
/-- whom a leader asks -/
def A.bit (l : List Bool) (j : Nat) : Bool := l.getD j false
theorem A.bit_of {l : List Bool} {j : Nat} {b : Bool} (h : l[j]? = some b) : A.bit l j = b := by simp [A.bit, h]
theorem Rw.bit {E : Nat → Prop} {w : World} {a : Option Addr} {n : Nat} {l : List Bool} (h : Rw E w 1 a n (l.map Value.bool)) {j : Nat} (hj : j < n) : ∃ g o, a = some ⟨g, o, none⟩ ∧ E g ∧ w.cell? ⟨g, o + j, none⟩ = some (.bool (A.bit l j)) := by
  have hl : l.length = n := by have := h.1; simpa using this
  rcases h.2 with h0 | ⟨g, o, ha, hE, hc⟩
  · omega
  · refine ⟨g, o, ha, hE, ?_⟩
    have h1 : l[j]? = some (A.bit l j) := by
      rw [A.bit, List.getD_eq_getElem?_getD, List.getElem?_eq_getElem (by omega)]; rfl
    exact hc j _ (by rw [List.getElem?_map, h1]; rfl)
theorem Rw.bit_no {E : Nat → Prop} {w : World} {a : Option Addr} {n : Nat} {l : List Bool} (h : Rw E w 1 a n (l.map Value.bool)) {j : Nat} (hj : ¬ j < n) : A.bit l j = false := by
  have hl : l.length = n := by have := h.1; simpa using this
  rw [A.bit, List.getD_eq_getElem?_getD, List.getElem?_eq_none (by omega)]; rfl
/-- WHILE ACCEPTANCE IS ASKED FOR: the first j have been. -/
def La (I : Nat → Prop) (W5 : World) (ps : List (Nat × Nat)) (g : Nat → Bool) (b : A.Bl) (e : A.En) (sv : Nat → A.Ac) (j : Nat) (wr : World) : Prop :=
  ∃ I' : Nat → Prop, (∀ q, I' q → I q ∨ W5.heap.size ≤ q) ∧ Gp I' wr ps (A.accs g b e sv j) ∧ Fr (Pm ps) W5 wr
set_option maxHeartbeats 8000000 in
set_option maxRecDepth 20000 in
theorem acceptorChooses_walk {w : World} (n0 : Int) (h0 : 0 ≤ n0 ∧ n0 ≤ 255) (sa : Option Addr) (n c : Nat) (os : List A.Ld) (hz : Lds (fun g => g < w.heap.size) w sa os) (hn : os.length = n) (hb : n ≤ 1048576) :
    Calls Try.prog 6 #[.int .u8 n0, .slice sa n c] w fun e w' => e = .returned (.bool true) ∧ Below w.heap.size w w' := by
  have HZ := hid hz
  have HN := hid hn
  obtain ⟨m, hm⟩ : ∃ m : Nat, n0.tmod 5 = (m : Int) := ⟨(n0.tmod 5).toNat, by rw [Int.tmod_eq_emod_of_nonneg h0.1]; omega⟩
  have hm5 : m ≤ 4 := by rw [Int.tmod_eq_emod_of_nonneg h0.1] at hm; omega
  clear hz hn h0
  go_enter Try.func6, Try.ntmps6
  go_wp2_with fail
  obtain ⟨K, hK⟩ : ∃ K : Nat, (m : Int) + 1 = (K : Int) := ⟨m + 1, by omega⟩
  rw [hK]
  have HK := hid (show 1 ≤ K ∧ K ≤ 5 by omega)
  clear hm hm5 hK
  go_loopw [31, 6] (fun i l wr => ∃ (k : Nat) (ra : Option Addr) (rc : Nat) (ps : List (Nat × Nat)), k ≤ K ∧ i = .int .i64 k ∧ l = .slice ra k rc ∧ Hid (ps.length = k ∧ Gp (fun _ => False) wr ps (fun _ => A.new) ∧ Ro wr 23 1 ra k rc (ps.map (fun p => ptrV p.1)) ∧ (∀ j, blk ra = some j → w.heap.size ≤ j ∧ ¬ Pm ps j) ∧ (∀ j, Pm ps j → w.heap.size ≤ j) ∧ Fr (fun _ => False) w wr)) (fun i _ _ => K - (intOf i).toNat)
  case atStart => exact ⟨0, none, 0, [], Nat.zero_le _, rfl, rfl, hid ⟨rfl, Gp.none _, Ro.nil _ _ _, by simp [blk], by rintro j ⟨i, p, hp, _⟩; simp at hp, Fr.refl _ _⟩⟩
  case round =>
    obtain ⟨k, ra, rc, ps, hk, rfl, rfl, hall⟩ := hrel
    by_cases hlt : k < K
    · have i1 : (k : Int) < (K : Int) := by omega
      have hK5 : K ≤ 5 := HK.out.2
      go_wp2_with (first
        | (go_at_call 9; refine (acNew_any _).mono ?_; rintro e w1 ⟨p, mb, rfl, hp, hm, hat, f1⟩; obtain ⟨ra', rc', w2, hr, hro, hf2, hn2⟩ := pt_append w1 ra rc k _ (hall.out.2.2.1.kept f1 (fun _ _ h => h)) (by have := HK.out; omega) p; have R := hid hr; have AT := hid hat; have F1 := hid f1; have HPM := hid (And.intro hp hm); have HRO := hid (And.intro hro (And.intro hf2 hn2)); clear hat f1 hp hm hr hro hf2 hn2)
        | (at_builtin; refine wpList_append_eq _ _ rfl _ _ _ rfl _ _ _ rfl rfl (by exact R.out) ?_))
      have fin : (ps ++ [(p, mb)]).length = k + 1 ∧ Gp (fun _ => False) w2 (ps ++ [(p, mb)]) (fun _ => A.new) ∧ Ro w2 23 1 ra' (k + 1) rc' ((ps ++ [(p, mb)]).map (fun p => ptrV p.1)) ∧ (∀ j, blk ra' = some j → w.heap.size ≤ j ∧ ¬ Pm (ps ++ [(p, mb)]) j) ∧ (∀ j, Pm (ps ++ [(p, mb)]) j → w.heap.size ≤ j) ∧ Fr (fun _ => False) w w2 := by
        obtain ⟨h1, h2, h3, h4, h5, h6⟩ := hall.out
        obtain ⟨hro, hf2, hn2⟩ := HRO.out
        have hs1 := F1.out.size
        have hs0 := h6.size
        have hat := AT.out
        have hp1 := hat.2.1
        have hm1 := hat.2.2.1
        have hPM := HPM.out
        have key : ∀ j, Pm (ps ++ [(p, mb)]) j → Pm ps j ∨ j = p ∨ j = mb := by
          rintro j ⟨i, q, hq, e⟩
          by_cases hi : i < ps.length
          · rw [List.getElem?_append_left hi] at hq; exact .inl ⟨i, q, hq, e⟩
          · rw [List.getElem?_append_right (by omega)] at hq
            have hi0 : i - ps.length < 1 := by have := (List.getElem?_eq_some_iff.1 hq).1; simpa using this
            rw [show i - ps.length = 0 by omega] at hq
            simp at hq
            subst hq
            exact .inr e
        have hrl : ∀ j, blk ra = some j → j < wr.heap.size := fun j hj => h3.lt j hj
        have g2 : Gp (fun _ => False) w1 (ps ++ [(p, mb)]) (fun _ => A.new) := h2.add F1.out hat hPM.1 hPM.2
        refine ⟨by simp [h1], g2.kept hf2 (fun j hj e => ?_) (fun j h _ => h), by rw [List.map_append]; exact hro, fun j hj => ⟨?_, fun hpm => ?_⟩, fun j hj => ?_, (h6.trans F1.out (fun _ _ h => h)).trans hf2 (fun i hi e => by have := (h4 i e).1; omega)⟩
        · rcases key j hj with h7 | h7 | h7
          · exact (h4 j e).2 h7
          · have := hrl j e; omega
          · have := hrl j e; omega
        · rcases hn2 j hj with h7 | h7
          · exact (h4 j h7).1
          · omega
        · rcases hn2 j hj with h7 | h7
          · rcases key j hpm with h8 | h8 | h8
            · exact (h4 j h7).2 h8
            · have := hrl j h7; omega
            · have := hrl j h7; omega
          · have := g2.lt hpm; omega
        · rcases key j hj with h7 | h7 | h7
          · exact h5 j h7
          · omega
          · omega
      have FIN := hid fin
      clear fin
      go_roundw
      case rel => exact ⟨k + 1, ra', rc', ps ++ [(p, mb)], by omega, by go_num, rfl, FIN⟩
      case measure => simp [intOf]; omega
    · obtain rfl : K = k := by omega
      have hst : Cst w ps ra rc K wr (fun _ => False) (fun _ => A.new) none 0 [] := by
        obtain ⟨h1, h2, h3, h4, h5, h6⟩ := hall.out
        exact ⟨h2, h3, Ro.nil _ _ _, by simp, fun j hj => ⟨(h4 j hj).1, (h4 j hj).2, fun h => h⟩, by simp [blk], h5, h6⟩
      have HL := hid hall.out.1
      obtain ⟨rg, ro, rfl⟩ := hst.row.some_of (show 0 < K from HK.out.1)
      have HST := hid hst
      have hK5 : K ≤ 5 := HK.out.2
      clear hst hall hlt hk
      go_wp2_with fail
      go_loopw [43, 8] (fun i l wr => ∃ (k : Nat) (ca : Option Addr) (cn cc : Nat), k ≤ n ∧ i = .int .i64 k ∧ l = .slice ca cn cc ∧ cn ≤ k ∧ Hid (∃ I sv xs, List.length xs = cn ∧ Cst w ps (some ⟨rg, ro, none⟩) rc K wr I sv ca cc xs ∧ A.Pax K k sv (xs.map Prod.snd))) (fun i _ _ => n - (intOf i).toNat)
      case atStart => exact ⟨0, none, 0, 0, Nat.zero_le _, rfl, rfl, Nat.le_refl _, hid ⟨_, _, [], rfl, HST.out, A.pax_new K⟩⟩
      case round =>
        clear HST
        obtain ⟨k, ca, cn, cc, hk, rfl, rfl, hcn, hall⟩ := hrel
        by_cases hlt : k < n
        · have i1 : (k : Int) < (n : Int) := by omega
          have i0 : (0 : Int) ≤ (k : Int) := by omega
          obtain ⟨x, hx⟩ : ∃ x, os[k]? = some x := ⟨_, List.getElem?_eq_getElem (by rw [HN.out]; exact hlt)⟩
          obtain ⟨I, sv, xs, hxl, hst, hpx⟩ := hall.out
          have hzr := HZ.out.fr hst.fr
          obtain ⟨g, o, rfl, hld⟩ := hzr.at hx
          have hrl := hzr.el x (List.mem_of_getElem? hx)
          obtain ⟨V, stv, hbV, fV⟩ := box_whole (V := wr.alloc (.cells #[.int .i64 0, .slice none 0 0, .slice none 0 0, .int .i64 0] 77)) (c := x.cells) (Go.heap_alloc_new wr _) rfl (by kernel_rfl) (by kernel_rfl)
          have fW : Fr (fun _ => False) wr V := (Fr.alloc (Fr.refl (fun _ => False) wr) _).trans fV (fun i hi e => by omega)
          have LD := hid hld
          have ST := hid stv
          have HBV := hid hbV
          have FW := hid fW
          have HST := hid hst
          have HPX := hid hpx
          have HXL := hid hxl
          have HRL := hid hrl
          clear hx hzr hld hrl stv hbV fV fW hst hpx hxl hall
          go_upto_region 14 with (first
            | (refine wpList_load_v LD.out (by exact ⟨_, rfl, rfl⟩) (by kernel_rfl) ?_)
            | (refine wpList_store_v (by exact ST.out) (by exact ⟨_, _, rfl, rfl, rfl⟩) (by kernel_rfl) ?_))
          have cx0 : V.cell? ⟨wr.heap.size, 0, none⟩ = some (.int .i64 x.rep) := cellA HBV.out rfl
          obtain ⟨z5, hz5⟩ : ∃ z, x.rep.tmod 5 = z := ⟨_, rfl⟩
          go_upto_region 15 with fail
          have hq : 0 ≤ max 0 z5 ∧ max 0 z5 < 5 := by
            have h1 := Int.tmod_lt_of_pos x.rep (show (0 : Int) < 5 by omega)
            omega
          obtain ⟨q, hqq⟩ : ∃ q : Int, max 0 z5 = q := ⟨_, rfl⟩
          rw [hqq] at hq ⊢
          have HQ := hid hq
          obtain ⟨W1, hW1⟩ : ∃ W1, V.alloc (.cells #[.int .i64 ((k : Int) + 1), .int .i64 q] 27) = W1 := ⟨_, rfl⟩
          have f1 : Fr (fun _ => False) V W1 := by rw [← hW1]; exact Fr.alloc (Fr.refl _ _) _
          have hb1 : W1.heap[V.heap.size]? = some (.cells #[.int .i64 ((k : Int) + 1), .int .i64 q] 27 (0, 0)) := by rw [← hW1]; exact Go.heap_alloc_new V _
          have hx1 := f1.cells HBV.out (fun h => h)
          rw [hW1]
          obtain ⟨W2, st2, hz2, f2⟩ := box_whole (V := W1.alloc (.cells zS59 79)) (c := zS59) (Go.heap_alloc_new W1 _) rfl (by kernel_rfl) (A.zsd_rs (fun _ => False) w).one
          have f12 : Fr (fun _ => False) W1 W2 := (Fr.alloc (Fr.refl (fun _ => False) W1) _).trans f2 (fun i hi e => by omega)
          have hlV := lt_of_row HBV.out
          have hlW := lt_of_row hb1
          have hlZ := lt_of_row hz2
          have fr2 : Fr (fun _ => False) wr W2 := (FW.out.trans f1 (fun _ _ h => h)).trans f12 (fun _ _ h => h)
          have hx2 := f12.cells hx1 (fun h => h)
          have hb2 := f12.cells hb1 (fun h => h)
          have hrl2 := HRL.out.kept fr2 (fun _ _ h => h)
          have hst2 : Cst w ps (some ⟨rg, ro, none⟩) rc K W2 I sv ca cc xs := by
            have h := HST.out
            exact ⟨h.gp.fr fr2, h.row.kept fr2 (fun _ _ h => h), h.ch.kept fr2 (fun _ _ h => h), h.fe, h.nr, h.nc, h.np, h.fr.trans fr2 (fun _ _ h => h)⟩
          have hlts : (∀ j, Pm ps j → j < wr.heap.size) ∧ (∀ j, I j → j < wr.heap.size) ∧ rg < wr.heap.size ∧ (∀ j, blk ca = some j → j < wr.heap.size) := by
            have h := HST.out
            refine ⟨fun j hj => h.gp.lt hj, fun j hj => ?_, h.row.lt rg rfl, fun j hj => h.ch.lt j hj⟩
            obtain ⟨p, hp⟩ : ∃ p, ps[0]? = some p := ⟨_, List.getElem?_eq_getElem (by rw [HL.out]; exact HK.out.1)⟩
            exact (h.gp.at_ 0 p hp).1 j hj
          have hnum : wr.heap.size < V.heap.size ∧ V.heap.size < W1.heap.size ∧ W1.heap.size < W2.heap.size := ⟨hlV, hlW, hlZ⟩
          obtain ⟨va, hva⟩ : ∃ va, Value.agg zS59 = va := ⟨_, rfl⟩
          rw [hva] at st2
          have HVA := hid hva
          have ST2 := hid st2
          clear hqq hz5 cx0 hW1 f1 hb1 hx1 f2 f12 hlV hlW hlZ st2 hva hq LD ST
          go_upto_region 16 with (first
            | (refine wpList_store_v (by exact ST2.out) (by exact ⟨_, _, rfl, rfl, HVA.out⟩) (by kernel_rfl) ?_))
          have hv := HVA.out
          unfold zS59 at hv
          rw [hv]
          clear hv HVA
          obtain ⟨X, hX⟩ : ∃ X, wr.heap.size = X := ⟨_, rfl⟩
          obtain ⟨Bb, hBb⟩ : ∃ X, V.heap.size = X := ⟨_, rfl⟩
          obtain ⟨Z, hZ⟩ : ∃ X, W1.heap.size = X := ⟨_, rfl⟩
          rw [hX, hBb, hZ]
          rw [hX] at hx2 hlts
          rw [hBb] at hb2
          rw [hZ] at hz2
          rw [hX, hBb, hZ] at hnum
          have HX2 := hid hx2
          have HB2 := hid hb2
          have HZ2 := hid hz2
          have HLT := hid hlts
          have HNM := hid hnum
          have HST2 := hid hst2
          have HRL2 := hid hrl2
          clear hx2 hb2 hz2 hlts hnum hst2 hrl2 hX hBb hZ fr2 HBV FW HST HRL ST2
          obtain ⟨rep, pa, pn, pc, pl, aa, an, ac, ql, en⟩ := x
          simp only [A.Ld.cells] at HX2
          obtain ⟨b, hb_⟩ : ∃ b : A.Bl, ((k : Int) + 1, q) = b := ⟨_, rfl⟩
          have HBE := hid hb_
          have hob : A.okB b = true ∧ b.1 = (k : Int) + 1 := by
            have := HQ.out
            rw [← hb_]
            refine ⟨?_, rfl⟩
            simp only [A.okB, decide_eq_true_eq]
            omega
          have HOB := hid hob
          clear hob hb_
          go_wp2_with fail
          obtain ⟨wo, hwo⟩ : ∃ wo, wo = wr := ⟨_, rfl⟩
          clear hwo
          go_loopw [58, 13] (fun i p wr => ∃ (j : Nat), j ≤ K ∧ i = .int .i64 j ∧ p = .int .i64 (A.cnt (A.bit pl) j : Nat) ∧ Hid (Lp I W2 ps (A.bit pl) b sv Z j wr)) (fun i _ _ => K - (intOf i).toNat)
          case atStart => exact ⟨0, Nat.zero_le _, rfl, rfl, hid ⟨zS59, HST2.out.gp.congr (by funext j; simp [A.prep]), HZ2.out, Zs.zero, Fr.refl _ _⟩⟩
          case round =>
            obtain ⟨j, hj, rfl, rfl, hall⟩ := hrel
            by_cases hjl : j < K
            · have j1 : (j : Int) < (K : Int) := by omega
              have j0 : (0 : Int) ≤ (j : Int) := by omega
              obtain ⟨zc, hgp, hzc, hzs, hfr⟩ := hall.out
              obtain ⟨p, hp⟩ : ∃ p, ps[j]? = some p := ⟨_, List.getElem?_eq_getElem (by rw [HL.out]; exact hjl)⟩
              have hns : ∀ q', q' ≠ Z → ¬ Pm ps q' → ¬ (Pm ps q' ∨ q' = Z) := fun q' h1 h2 h3 => h3.elim h2 h1
              have hnm := HNM.out
              have hxw := hfr.cells HX2.out (hns _ (by omega) (fun h => by have := HLT.out.1 _ h; omega))
              have hbw := hfr.cells HB2.out (hns _ (by omega) (fun h => by have := HLT.out.1 _ h; omega))
              have hrow := HST2.out.row.kept hfr (fun q' hq' => by simp [blk] at hq'; subst hq'; exact hns _ (by have := HLT.out.2.2.1; omega) (HST2.out.nr _ rfl).2.1)
              have cp : wr.cell? ⟨rg, ro + j, none⟩ = some (ptrV p.1) := hrow.cell (by rw [List.getElem?_map, hp]; rfl)
              have cx1 : wr.cell? ⟨X, 1, none⟩ = some (.slice pa pn pc) := cellA hxw rfl
              have cb0 : wr.cell? ⟨Bb, 0, none⟩ = some (.int .i64 ((k : Int) + 1)) := cellA hbw rfl
              have cb1 : wr.cell? ⟨Bb, 1, none⟩ = some (.int .i64 q) := cellA hbw rfl
              have hE : ∀ i, i < w.heap.size → ¬ (Pm ps i ∨ i = Z) := fun i hi h => by
                rcases h with h | h
                · have := HST2.out.np i h; omega
                · have := HST2.out.fr.size
                  have h3 := HST2.out.np _ ⟨j, p, hp, .inl rfl⟩
                  have h4 := HLT.out.1 _ ⟨j, p, hp, .inl rfl⟩
                  omega
              have hpr := HRL2.out.p.kept hfr hE
              have HGP := hid hgp
              have HZC := hid hzc
              have HZS := hid hzs
              have HFR := hid hfr
              have HPP := hid hp
              clear hgp hzc hzs hfr hrow hns hnm hxw hbw hE hall
              by_cases hjp : j < pn
              · obtain ⟨pg, po, hpa, _, cbit⟩ := hpr.bit hjp
                simp only at hpa
                subst hpa
                have j2 : (j : Int) < (pn : Int) := by omega
                have j3 : ((j : Int) ≥ (pn : Int)) = False := by simp; omega
                clear hpr
                cases hbit : A.bit pl j with
                | false =>
                  rw [hbit] at cbit
                  go_wp2_with fail
                  go_roundw
                  case rel => exact ⟨j + 1, by omega, by go_num, by rw [A.cnt_succ, hbit]; rfl, hid ⟨zc, HGP.out.congr (by rw [A.prep_succ, hbit]; rfl), HZC.out, by unfold A.best; rw [hbit]; exact HZS.out, HFR.out⟩⟩
                  case measure => simp [intOf]; omega
                | true =>
                  rw [hbit] at cbit
                  have hsole := HPX.out.sole j hjl
                  have hat0 := HGP.out.at_ j p HPP.out
                  rw [A.prep_at] at hat0
                  have KP := acPrepare_any hat0 ((k : Int) + 1) q 0 (by rcases hsole.l with h | ⟨s, h, _⟩ <;> simp [h])
                  rw [HBE.out, A.prepare_sole hsole HOB.out.2 HOB.out.1] at KP
                  simp only at KP
                  have HKP := hid KP
                  have HBIT := hid hbit
                  obtain ⟨cj, hcj⟩ : ∃ cj, A.cnt (A.bit pl) j = cj := ⟨_, rfl⟩
                  have hcl : cj ≤ j := by rw [← hcj]; exact A.cnt_le _ _
                  rw [hcj]
                  have HCJ := hid hcj
                  obtain ⟨bs, hbs⟩ : ∃ bs, A.best A.zsd (A.bit pl) sv j = bs := ⟨_, rfl⟩
                  have HBS := hid hbs
                  rw [hbs] at HZS
                  have HVT := hid (A.vote_of hsole)
                  clear KP hbit hcj hbs hat0 hsole
                  rcases HVT.out with ⟨hv, _⟩ | ⟨s, hv, _, hs0, hs1, hs2, hso, hsd⟩
                  · rw [hv] at HKP
                    have HV := hid hv
                    clear hv HVT
                    go_wp2_with (first | (go_at_call 25; refine HKP.out.mono ?_; rintro e w1 ⟨ga, gc, ys, rfl, hys, hsx, hat, f1⟩; obtain rfl : ys = [] := (by simpa using hys); have AT := hid hat; have F1 := hid f1; clear hat f1 hsx hys))
                    refine wp_loop_rounds 1 ?_
                    rw [rounds_succ]
                    go_wp2_with fail
                    have fin : Lp I W2 ps (A.bit pl) b sv Z (j + 1) w1 := by
                      refine ⟨zc, (HGP.out.prepared HPP.out AT.out F1.out).congr (by rw [A.prep_succ, HBIT.out]; rfl), F1.out.cells HZC.out (fun e => ?_), ?_, HFR.out.trans F1.out (fun i hi e => .inl ⟨j, p, HPP.out, .inl e⟩)⟩
                      · have h1 := HLT.out.1 _ ⟨j, p, HPP.out, .inl e⟩
                        have h2 := HNM.out
                        omega
                      · unfold A.best
                        rw [if_pos HBIT.out, HV.out, HBS.out]
                        exact HZS.out
                    have FIN := hid fin
                    clear fin
                    go_roundw
                    case rel => exact ⟨j + 1, by omega, by go_num, by rw [A.cnt_succ, if_pos HBIT.out, HCJ.out]; go_num, FIN⟩
                    case measure => simp [intOf]; omega
                  · rw [hv] at HKP
                    have HV := hid hv
                    have HSS := hid (And.intro hso hsd)
                    clear hv HVT hs0 hs1 hs2 hso hsd
                    go_wp2_with (first | (go_at_call 25; refine HKP.out.mono ?_; rintro e w1 ⟨ga, gc, ys, rfl, hys, hsx, hat, f1⟩; obtain ⟨y, hy1, hy2⟩ : ∃ y, ys = [y] ∧ y.2 = s := (by
                      match ys, hys with
                      | [y], h => exact ⟨y, rfl, by simpa using h⟩); subst hy1; have AT := hid hat; have F1 := hid f1; have HSX := hid hsx; have HY2 := hid hy2; clear hat f1 hsx hys hy2))
                    have hls := HSX.out.ls
                    obtain ⟨gg, go_, hga⟩ := hls.some_of (by simp)
                    subst hga
                    obtain ⟨_, ldy, hrs⟩ := hls.whole (i := 0) (x := y) rfl
                    rw [HY2.out] at hrs
                    simp only [Nat.zero_mul, Nat.add_zero] at ldy
                    obtain ⟨ec, hy1, hfe⟩ := hrs.fe HSS.out.1 HSS.out.2
                    have hzy : Zs y.1 s := ⟨ec, hy1, hfe⟩
                    obtain ⟨Vy, sty, hby, fy⟩ := box_whole (V := w1.alloc (.cells zS59 79)) (c := y.1) (Go.heap_alloc_new w1 _) (by rw [hzy.size]; rfl) (by rw [hzy.size]; kernel_rfl) hzy.one
                    have f1y : Fr (fun _ => False) w1 Vy := (Fr.alloc (Fr.refl (fun _ => False) w1) _).trans fy (fun i hi e => by omega)
                    have hpZ : ¬ Z = p.1 := fun e => by
                      have h1 := HLT.out.1 _ ⟨j, p, HPP.out, .inl e⟩
                      have h2 := HNM.out
                      omega
                    have hz1 := f1y.cells (F1.out.cells HZC.out hpZ) (fun h => h)
                    obtain ⟨ecb, hzb, hfb⟩ := HZS.out
                    have cy1 : Vy.cell? ⟨w1.heap.size, 1, none⟩ = some (.int .i64 s.bl.1) := cellA hby (by rw [hy1]; rfl)
                    have cy2 : Vy.cell? ⟨w1.heap.size, 2, none⟩ = some (.int .i64 s.bl.2) := cellA hby (by rw [hy1]; rfl)
                    have cz1 : Vy.cell? ⟨Z, 1, none⟩ = some (.int .i64 bs.bl.1) := cellA hz1 (by rw [hzb]; rfl)
                    have cz2 : Vy.cell? ⟨Z, 2, none⟩ = some (.int .i64 bs.bl.2) := cellA hz1 (by rw [hzb]; rfl)
                    have KC := rcompare_any s.bl.1 s.bl.2 bs.bl.1 bs.bl.2 Vy
                    obtain ⟨cv, hcv⟩ : ∃ cv, A.cmp (s.bl.1, s.bl.2) (bs.bl.1, bs.bl.2) = cv := ⟨_, rfl⟩
                    rw [hcv] at KC
                    have LDY := hid ldy
                    have STY := hid sty
                    have HBY := hid hby
                    have FY := hid f1y
                    have HZ1 := hid hz1
                    have HKC := hid KC
                    have HCV := hid (show A.cmp s.bl bs.bl = cv from hcv)
                    have HZY := hid hzy
                    have HPZ := hid hpZ
                    have HYL := hid (show w1.heap.size ≠ Z by have h1 := lt_of_row (F1.out.cells HZC.out hpZ); omega)
                    clear hls ldy hrs hy1 hfe hzy sty hby fy f1y hpZ hz1 hzb hfb KC hcv HKP
                    by_cases hpos : 0 < cv
                    · refine wp_loop_rounds 2 ?_
                      rw [rounds_succ]
                      go_wp2_with (first
                        | (refine wpList_load_v LDY.out (by exact ⟨_, rfl, rfl⟩) (by kernel_rfl) ?_)
                        | (refine wpList_store_v (by exact STY.out) (by exact ⟨_, _, rfl, rfl, rfl⟩) (by kernel_rfl) ?_)
                        | (go_at_call 22; refine HKC.out.mono ?_; rintro e w3 ⟨rfl, f3⟩; obtain ⟨V4, st4, hb4, f4⟩ := box_whole (c := y.1) (f3.cells HZ1.out (fun h => h)) (by rw [HZY.out.size, HZS.out.size]) (by rw [HZY.out.size]; kernel_rfl) HZY.out.one; have LDB := hid (load_whole (ty := 79) (f3.cells HBY.out (fun h => h)) Try.underlying79 rfl (by rw [HZY.out.size]; kernel_rfl)); have ST4 := hid st4; have HB4 := hid (And.intro hb4 f4); have F3 := hid f3; clear st4 hb4 f4 f3)
                        | (refine wpList_load_v LDB.out (by exact ⟨_, rfl, rfl⟩) (by kernel_rfl) ?_)
                        | (refine wpList_store_v (by exact ST4.out) (by exact ⟨_, _, rfl, rfl, rfl⟩) (by kernel_rfl) ?_))
                      rw [rounds_succ]
                      go_wp2_with fail
                      have fin : Lp I W2 ps (A.bit pl) b sv Z (j + 1) V4 := by
                        have g1 := ((HGP.out.prepared HPP.out AT.out F1.out).congr (bs := A.prep (A.bit pl) b sv (j + 1)) (by rw [A.prep_succ, HBIT.out]; rfl)).fr (FY.out.trans F3.out (fun _ _ h => h))
                        refine ⟨y.1, g1.kept HB4.out.2 (fun i hi e => ?_) (fun i hi e => ?_), HB4.out.1, ?_, ((HFR.out.trans F1.out (fun i hi e => .inl ⟨j, p, HPP.out, .inl e⟩)).trans (FY.out.trans F3.out (fun _ _ h => h)) (fun _ _ h => h.elim)).trans HB4.out.2 (fun i hi e => .inr e)⟩
                        · have h1 := HLT.out.1 i hi; have h2 := HNM.out; omega
                        · have h1 := HLT.out.2.1 i hi; have h2 := HNM.out; omega
                        · unfold A.best
                          rw [if_pos HBIT.out, HV.out, HBS.out]
                          simp only [A.better]
                          rw [HCV.out, if_pos hpos]
                          exact HZY.out
                      have FIN := hid fin
                      clear fin
                      go_roundw
                      case rel => exact ⟨j + 1, by omega, by go_num, by rw [A.cnt_succ, if_pos HBIT.out, HCJ.out]; go_num, FIN⟩
                      case measure => simp [intOf]; omega
                    · refine wp_loop_rounds 2 ?_
                      rw [rounds_succ]
                      go_wp2_with (first
                        | (refine wpList_load_v LDY.out (by exact ⟨_, rfl, rfl⟩) (by kernel_rfl) ?_)
                        | (refine wpList_store_v (by exact STY.out) (by exact ⟨_, _, rfl, rfl, rfl⟩) (by kernel_rfl) ?_)
                        | (go_at_call 22; refine HKC.out.mono ?_; rintro e w3 ⟨rfl, f3⟩; have F3 := hid f3; clear f3))
                      rw [rounds_succ]
                      go_wp2_with fail
                      have fin : Lp I W2 ps (A.bit pl) b sv Z (j + 1) w3 := by
                        refine ⟨zc, ((HGP.out.prepared HPP.out AT.out F1.out).congr (bs := A.prep (A.bit pl) b sv (j + 1)) (by rw [A.prep_succ, HBIT.out]; rfl)).fr (FY.out.trans F3.out (fun _ _ h => h)), F3.out.cells HZ1.out (fun h => h), ?_, (HFR.out.trans F1.out (fun i hi e => .inl ⟨j, p, HPP.out, .inl e⟩)).trans (FY.out.trans F3.out (fun _ _ h => h)) (fun _ _ h => h.elim)⟩
                        unfold A.best
                        rw [if_pos HBIT.out, HV.out, HBS.out]
                        simp only [A.better]
                        rw [HCV.out, if_neg (by omega)]
                        exact HZS.out
                      have FIN := hid fin
                      clear fin
                      go_roundw
                      case rel => exact ⟨j + 1, by omega, by go_num, by rw [A.cnt_succ, if_pos HBIT.out, HCJ.out]; go_num, FIN⟩
                      case measure => simp [intOf]; omega
              · have hbit := hpr.bit_no hjp
                have j2 : ¬ (j : Int) < (pn : Int) := by omega
                clear hpr
                go_wp2_with fail
                go_roundw
                case rel => exact ⟨j + 1, by omega, by go_num, by rw [A.cnt_succ, hbit]; rfl, hid ⟨zc, HGP.out.congr (by rw [A.prep_succ, hbit]; rfl), HZC.out, by unfold A.best; rw [hbit]; exact HZS.out, HFR.out⟩⟩
                case measure => simp [intOf]; omega
            · obtain rfl : K = j := by omega
              obtain ⟨zc, hgp, hzc, hzs, hfr⟩ := hall.out
              obtain ⟨cN, hcN⟩ : ∃ c, A.cnt (A.bit pl) K = c := ⟨_, rfl⟩
              have hcl : cN ≤ K := by rw [← hcN]; exact A.cnt_le _ _
              have hns : ∀ q', q' ≠ Z → ¬ Pm ps q' → ¬ (Pm ps q' ∨ q' = Z) := fun q' h1 h2 h3 => h3.elim h2 h1
              have hc3 : Cst w ps (some ⟨rg, ro, none⟩) rc K wr I (A.prep (A.bit pl) b sv K) ca cc xs := by
                have h := HST2.out
                have hnm := HNM.out
                exact ⟨hgp, h.row.kept hfr (fun q' hq' => by simp [blk] at hq'; subst hq'; exact hns _ (by have := HLT.out.2.2.1; omega) (h.nr _ rfl).2.1), h.ch.kept hfr (fun q' hq' => hns _ (by have := HLT.out.2.2.2 q' hq'; omega) (h.nc q' hq').2.1), h.fe, h.nr, h.nc, h.np, h.fr.trans hfr (fun i hi h1 => by
                  rcases h1 with h1 | h1
                  · have := h.np i h1; omega
                  · obtain ⟨p, hp⟩ : ∃ p, ps[0]? = some p := ⟨_, List.getElem?_eq_getElem (by rw [HL.out]; exact HK.out.1)⟩
                    have h3 := h.np _ ⟨0, p, hp, .inl rfl⟩
                    have h4 := HLT.out.1 _ ⟨0, p, hp, .inl rfl⟩
                    omega)⟩
              rw [hcN]
              have HCN := hid hcN
              have HC3 := hid hc3
              by_cases hmj : 2 * cN ≤ K
              · have t1 : 2 * (cN : Int) ≤ (K : Int) := by omega
                have FIN := hid (show ∃ I sv xs, List.length xs = cn ∧ Cst w ps (some ⟨rg, ro, none⟩) rc K wr I sv ca cc xs ∧ A.Pax K (k + 1) sv (xs.map Prod.snd) from ⟨I, _, xs, HXL.out, HC3.out, A.pax_prep HPX.out (A.bit pl) HOB.out.2 K⟩)
                clear hgp hzc hzs hfr hcN hns hc3 hall
                go_wp2_with fail
                go_roundw
                case rel => exact ⟨k + 1, ca, cn, cc, by omega, by go_num, rfl, by omega, FIN⟩
                case measure => simp [intOf]; omega
              · have t1 : ¬ 2 * (cN : Int) ≤ (K : Int) := by omega
                have HMAJ := hid (show K < 2 * A.cnt (A.bit pl) K by rw [HCN.out]; omega)
                have hnm := HNM.out
                have hX3 := hfr.cells HX2.out (hns _ (by omega) (fun h => by have := HLT.out.1 _ h; omega))
                have hB3 := hfr.cells HB2.out (hns _ (by omega) (fun h => by have := HLT.out.1 _ h; omega))
                have cx3 : wr.cell? ⟨X, 3, none⟩ = some (.int .i64 en) := cellA hX3 rfl
                obtain ⟨z0, hz0⟩ : ∃ z, en.tmod 1000 = z := ⟨_, rfl⟩
                have HX3 := hid hX3
                have HB3 := hid hB3
                have HZC := hid hzc
                have HZS := hid hzs
                have HFR := hid hfr
                clear hgp hzc hzs hfr hcN hns hc3 hall hnm hX3 hB3
                obtain ⟨own_, hown⟩ : ∃ e, A.enN ((max 0 z0).tmod 8) = e := ⟨_, rfl⟩
                have HOWN := hid (show own_.ops = [] ∧ own_.dt = [] by rw [← hown]; exact ⟨rfl, rfl⟩)
                have HOWE := hid hown
                obtain ⟨bs, hbs⟩ : ∃ bs, A.best A.zsd (A.bit pl) sv K = bs := ⟨_, rfl⟩
                have HBS := hid hbs
                rw [hbs] at HZS
                clear hown hbs
                go_upto_region 32 with (first
                  | (go_at_call 26; refine (lEntry_any _ _).mono ?_; rintro r w4 ⟨rfl, f4⟩; obtain ⟨V4, st4, hb4, fv4⟩ := box_whole (V := w4.alloc (.cells zE56 46)) (c := env ((max 0 z0).tmod 8)) (Go.heap_alloc_new w4 _) rfl (by kernel_rfl) (enOne _); have ST4 := hid st4; have HB4 := hid (And.intro hb4 fv4); have F4 := hid f4; clear st4 hb4 fv4 f4)
                  | (refine wpList_store_v (by exact ST4.out) (by exact ⟨_, _, rfl, rfl, rfl⟩) (by kernel_rfl) ?_))
                obtain ⟨hE4, fv4⟩ := HB4.out
                have f44 : Fr (fun _ => False) wr V4 := F4.out.trans ((Fr.alloc (Fr.refl (fun _ => False) w4) _).trans fv4 (fun i hi e => by omega)) (fun _ _ h => h)
                have hw4 : wr.heap.size ≤ w4.heap.size := F4.out.size
                have hE4l := lt_of_row hE4
                have hz4 := f44.cells HZC.out (fun h => h)
                obtain ⟨ecb, hzb, hfb⟩ := HZS.out
                have cz : V4.cell? ⟨Z, 1, none⟩ = some (.int .i64 bs.bl.1) := cellA hz4 (by rw [hzb]; rfl)
                have hx4 := f44.cells HX3.out (fun h => h)
                have hb4 := f44.cells HB3.out (fun h => h)
                have hc4 : Cst w ps (some ⟨rg, ro, none⟩) rc K V4 I (A.prep (A.bit pl) b sv K) ca cc xs := by
                  have h := HC3.out
                  exact ⟨h.gp.fr f44, h.row.kept f44 (fun _ _ h => h), h.ch.kept f44 (fun _ _ h => h), h.fe, h.nr, h.nc, h.np, h.fr.trans f44 (fun _ _ h => h)⟩
                have hf24 : Fr (fun q => Pm ps q ∨ q = Z) W2 V4 := HFR.out.trans f44 (fun _ _ h => h.elim)
                obtain ⟨Eb, hEb⟩ : ∃ E, w4.heap.size = E := ⟨_, rfl⟩
                rw [hEb] at hE4 hE4l hw4 ⊢
                have hn4 : Z < Eb := by
                  have h1 := lt_of_row HZC.out
                  omega
                have hEW : W2.heap.size ≤ Eb := by
                  have h1 := HFR.out.size
                  omega
                have hEP : ∀ q', Pm ps q' ∨ I q' ∨ q' = rg ∨ blk ca = some q' ∨ q' = X ∨ q' = Bb → q' ≠ Eb := fun q' h => by
                  have h1 := HLT.out
                  have h2 := HNM.out
                  have h3 : q' < Z := by
                    rcases h with h | h | h | h | h | h
                    · have := h1.1 q' h; omega
                    · have := h1.2.1 q' h; omega
                    · omega
                    · have := h1.2.2.2 q' h; omega
                    · omega
                    · omega
                  omega
                clear HB4 ST4 hEb F4 fv4 f44
                by_cases hbp : 0 < bs.bl.1
                · have ldm : (Instr.loadAt 46 (.pointer (some ⟨Z, 3, none⟩))).run Try.prog V4 = .ok (.agg ecb.toArray) V4 := by
                    have := run_loadAt_mid (P := Try.prog) V4 Z 3 46 ecb _ (rangeAt_of hz4 3 ecb (by rw [hzb]; simp)) Try.underlying46 rfl (by rw [(hfb (fun _ => False) w).len]; kernel_rfl)
                    simpa using this
                  have hl56 : ecb.toArray.size = 56 := by rw [List.size_toArray]; exact (hfb (fun _ => False) w).len
                  obtain ⟨W5, st5, he5, f5⟩ := box_whole (c := ecb.toArray) hE4 (by rw [hl56]; rfl) (by rw [hl56]; kernel_rfl) (by
                    rw [Array.all_eq_true_iff_forall_mem]
                    intro u hu
                    exact (hfb (fun _ => False) w).one u (by simpa using hu))
                  have hx5 := f5.cells hx4 (hEP _ (by simp))
                  have hb5 := f5.cells hb4 (hEP _ (by simp))
                  have hc5 : Cst w ps (some ⟨rg, ro, none⟩) rc K W5 I (A.prep (A.bit pl) b sv K) ca cc xs := by
                    have h := hc4
                    exact ⟨h.gp.kept f5 (fun q' h1 => hEP q' (.inl h1)) (fun q' h1 => hEP q' (.inr (.inl h1))), h.row.kept f5 (fun q' h1 => hEP q' (.inr (.inr (.inl (by simp [blk] at h1; exact h1.symm))))), h.ch.kept f5 (fun q' h1 => hEP q' (.inr (.inr (.inr (.inl h1))))), h.fe, h.nr, h.nc, h.np, h.fr.trans f5 (fun i hi e => by have := h.fr.size; have := HC3.out.fr.size; omega)⟩
                  have hn5 : Z < Eb ∧ Eb < W5.heap.size := ⟨hn4, lt_of_row he5⟩
                  have HF25 := hid (hf24.trans f5 (fun i hi e => by have e : i = Eb := e; omega))
                  obtain ⟨e, heq⟩ : ∃ e, e = if 0 < (A.best A.zsd (A.bit pl) sv K).bl.1 then (A.best A.zsd (A.bit pl) sv K).en else own_ := ⟨_, rfl⟩
                  have hfe5 : Fe ecb e := by rw [heq, HBS.out, if_pos hbp]; exact hfb
                  obtain ⟨ec5, hec5⟩ : ∃ x, ecb = x := ⟨_, rfl⟩
                  rw [hec5] at he5 hfe5 ldm st5
                  have LDM := hid ldm
                  have ST5 := hid st5
                  clear ldm st5 hl56 hzb hfb hz4 hx4 hb4 hc4 hf24 f5 hE4 hE4l hw4 hn4 hEW hEP hec5
                  go_upto_region 34 with (first
                    | (refine wpList_load_v LDM.out (by exact ⟨_, rfl, rfl⟩) (by kernel_rfl) ?_)
                    | (refine wpList_store_v (by exact ST5.out) (by exact ⟨_, _, rfl, rfl, rfl⟩) (by kernel_rfl) ?_))
                  clear LDM ST5 cz
                  obtain ⟨ea, hea⟩ : ∃ x, ec5.toArray = x := ⟨_, rfl⟩
                  rw [hea] at he5
                  try rw [hea]
                  have hl56 : ea.size = 56 := by rw [← hea, List.size_toArray]; exact (hfe5 (fun _ => False) w).len
                  have hone : ∀ u ∈ ea.toList, u.oneCell' = true := fun u hu => (hfe5 (fun _ => False) w).one u (by rw [← hea] at hu; simpa using hu)
                  have HEA := hid hea
                  have H56 := hid (And.intro hl56 hone)
                  clear hea hl56 hone
                  have HEQ := hid heq
                  have HFE := hid hfe5
                  have HE5 := hid he5
                  have HX5 := hid hx5
                  have HB5 := hid hb5
                  have HC5 := hid hc5
                  have HN5 := hid hn5
                  clear heq hfe5 he5 hx5 hb5 hc5 hn5
                  go_wp2_with fail
                  go_loopw [118, 21] (fun i p wr => ∃ (j : Nat), j ≤ K ∧ i = .int .i64 j ∧ p = .int .i64 (A.cnt (A.bit ql) j : Nat) ∧ Hid (La I W5 ps (A.bit ql) b e (A.prep (A.bit pl) b sv K) j wr)) (fun i _ _ => K - (intOf i).toNat)
                  case atStart => exact ⟨0, Nat.zero_le _, rfl, rfl, hid ⟨I, fun q h => .inl h, HC5.out.gp.congr (by funext j; simp [A.accs]), Fr.refl _ _⟩⟩
                  case round =>
                    obtain ⟨j, hj, rfl, rfl, hall⟩ := hrel
                    obtain ⟨I', hI', hgp, hfr⟩ := hall.out
                    have hnP : ∀ q', X ≤ q' → ¬ Pm ps q' := fun q' h1 h2 => by have := HLT.out.1 _ h2; omega
                    have hxw := hfr.cells HX5.out (hnP _ (Nat.le_refl _))
                    have hbw := hfr.cells HB5.out (hnP _ (by have := HNM.out; omega))
                    have hew := hfr.cells HE5.out (hnP _ (by have := HN5.out; have := HNM.out; omega))
                    have hrow := HC5.out.row.kept hfr (fun q' hq' => by simp [blk] at hq'; subst hq'; exact (HC5.out.nr _ rfl).2.1)
                    by_cases hjl : j < K
                    · have j1 : (j : Int) < (K : Int) := by omega
                      have j0 : (0 : Int) ≤ (j : Int) := by omega
                      obtain ⟨p, hp⟩ : ∃ p, ps[j]? = some p := ⟨_, List.getElem?_eq_getElem (by rw [HL.out]; exact hjl)⟩
                      have cp : wr.cell? ⟨rg, ro + j, none⟩ = some (ptrV p.1) := hrow.cell (by rw [List.getElem?_map, hp]; rfl)
                      have cx2 : wr.cell? ⟨X, 2, none⟩ = some (.slice aa an ac) := cellA hxw rfl
                      have cb0 : wr.cell? ⟨Bb, 0, none⟩ = some (.int .i64 ((k : Int) + 1)) := cellA hbw rfl
                      have cb1 : wr.cell? ⟨Bb, 1, none⟩ = some (.int .i64 q) := cellA hbw rfl
                      have hpr := (HRL2.out.a.kept HF25.out (fun i hi h => by
                        rcases h with h | h
                        · have := HC5.out.np i h; omega
                        · have h3 := HC5.out.np _ ⟨j, p, hp, .inl rfl⟩
                          have h4 := HLT.out.1 _ ⟨j, p, hp, .inl rfl⟩
                          have h5 := HNM.out
                          omega)).kept hfr (fun i hi h => by have := HC5.out.np i h; omega)
                      have lde := load_whole (ty := 46) hew Try.underlying46 rfl (by rw [H56.out.1]; kernel_rfl)
                      have LDE := hid lde
                      have HGP := hid hgp
                      have HFR := hid hfr
                      have HPP := hid hp
                      have HI := hid hI'
                      obtain ⟨cj, hcj⟩ : ∃ cj, A.cnt (A.bit ql) j = cj := ⟨_, rfl⟩
                      have hcl : cj ≤ j := by rw [← hcj]; exact A.cnt_le _ _
                      rw [hcj]
                      have HCJ := hid hcj
                      clear hgp hfr hxw hbw hew hrow hnP lde hall hI' hcj
                      by_cases hjp : j < an
                      · obtain ⟨pg, po, hpa, _, cbit⟩ := hpr.bit hjp
                        simp only at hpa
                        subst hpa
                        have j2 : (j : Int) < (an : Int) := by omega
                        clear hpr
                        cases hbit : A.bit ql j with
                        | false =>
                          rw [hbit] at cbit
                          go_wp2_with fail
                          go_roundw
                          case rel => exact ⟨j + 1, by omega, by go_num, by rw [A.cnt_succ, hbit, HCJ.out]; rfl, hid ⟨I', HI.out, HGP.out.congr (by rw [A.accs_succ, hbit]; rfl), HFR.out⟩⟩
                          case measure => simp [intOf]; omega
                        | true =>
                          rw [hbit] at cbit
                          have hsole := (A.prep_sole (many := K) (f := A.bit pl) (k := K) (HPX.out.sole j hjl) HOB.out.2)
                          have hle := A.prep_le (f := A.bit pl) (k := K) (HPX.out.sole j hjl) HOB.out.2
                          have hat0 := HGP.out.at_ j p HPP.out
                          rw [A.accs_at] at hat0
                          have KA := acAccept_any hat0 ((k : Int) + 1) q 0 (HFE.out (fun _ => False) wr) (by rcases hsole.l with h | ⟨s, h, _⟩ <;> simp [h]) (fun h => h)
                          rw [HBE.out, A.accept_sole hsole hle HOB.out.1, HEA.out] at KA
                          simp only at KA
                          have HKA := hid KA
                          have HBIT := hid hbit
                          clear KA hbit hat0 hsole hle
                          go_wp2_with (first
                            | (refine wpList_load_v LDE.out (by exact ⟨_, rfl, rfl⟩) (by kernel_rfl) ?_)
                            | (go_at_call 12; refine HKA.out.mono ?_; rintro r w6 ⟨rfl, hat, f6⟩; have AT := hid hat; have F6 := hid f6; clear hat f6))
                          have fin : La I W5 ps (A.bit ql) b e (A.prep (A.bit pl) b sv K) (j + 1) w6 := by
                            refine ⟨_, fun q' hq' => ?_, (HGP.out.accepted HPP.out AT.out F6.out).congr (by rw [A.accs_succ, HBIT.out]; rfl), HFR.out.trans F6.out (fun i hi e => ⟨j, p, HPP.out, e⟩)⟩
                            rcases hq' with h | h
                            · exact HI.out q' h
                            · exact .inr (Nat.le_trans HFR.out.size h.1)
                          have FIN := hid fin
                          clear fin
                          go_roundw
                          case rel => exact ⟨j + 1, by omega, by go_num, by rw [A.cnt_succ, if_pos HBIT.out, HCJ.out]; go_num, FIN⟩
                          case measure => simp [intOf]; omega
                      · have hbit := hpr.bit_no hjp
                        have j2 : ¬ (j : Int) < (an : Int) := by omega
                        clear hpr
                        go_wp2_with fail
                        go_roundw
                        case rel => exact ⟨j + 1, by omega, by go_num, by rw [A.cnt_succ, hbit, HCJ.out]; rfl, hid ⟨I', HI.out, HGP.out.congr (by rw [A.accs_succ, hbit]; rfl), HFR.out⟩⟩
                        case measure => simp [intOf]; omega
                    · obtain rfl : K = j := by omega
                      have hps := A.pax_step HPX.out (A.bit pl) (A.bit ql) HOB.out.2 A.zsd rfl ⟨rfl, rfl⟩ own_ HOWN.out HMAJ.out HEQ.out
                      have hc6 : Cst w ps (some ⟨rg, ro, none⟩) rc K wr I' (A.accs (A.bit ql) b e (A.prep (A.bit pl) b sv K) K) ca cc xs := by
                        have h := HC5.out
                        have hlt5 : ∀ q', q' < X → ¬ I q' → ¬ I' q' := fun q' h1 h2 h3 => (hI' q' h3).elim h2 (fun h4 => by have := HN5.out; have := HNM.out; omega)
                        exact ⟨hgp, hrow, h.ch.kept hfr (fun q' hq' => (h.nc q' hq').2.1), h.fe, fun q' hq' => ⟨(h.nr q' hq').1, (h.nr q' hq').2.1, hlt5 q' (by simp [blk] at hq'; subst hq'; exact HLT.out.2.2.1) (h.nr q' hq').2.2⟩, fun q' hq' => ⟨(h.nc q' hq').1, (h.nc q' hq').2.1, hlt5 q' (HLT.out.2.2.2 q' hq') (h.nc q' hq').2.2.1, (h.nc q' hq').2.2.2⟩, h.np, h.fr.trans hfr (fun i hi h1 => by have := h.np i h1; omega)⟩
                      have lde := load_whole (ty := 46) hew Try.underlying46 rfl (by rw [H56.out.1]; kernel_rfl)
                      obtain ⟨cj, hcj⟩ : ∃ cj, A.cnt (A.bit ql) K = cj := ⟨_, rfl⟩
                      have hcl : cj ≤ K := by rw [← hcj]; exact A.cnt_le _ _
                      rw [hcj] at hps ⊢
                      have HPS := hid hps
                      have HC6 := hid hc6
                      have LDE := hid lde
                      clear hps hc6 lde hcj hgp hfr hxw hbw hew hrow hnP hall hI'
                      by_cases htk : K < 2 * cj
                      · have t1 : (K : Int) < 2 * (cj : Int) := by omega
                        have hc6' := HC6.out.ch
                        rw [HXL.out] at hc6'
                        obtain ⟨ca', cc', W7, hr, hro, hf7, hn7⟩ := en_append wr ca cc cn _ hc6' (by omega) ea H56.out.1 H56.out.2
                        have hfo : Array.foldl (fun (cs : Array Value) x => cs.setIfInBounds x.2 x.1) zE56 ea.zipIdx 0 56 = ea := fold_set0 56 ea zE56 H56.out.1 rfl
                        rw [← hfo] at hr
                        have R := hid hr
                        have fin : ∃ I sv xs, List.length xs = cn + 1 ∧ Cst w ps (some ⟨rg, ro, none⟩) rc K W7 I sv ca' cc' xs ∧ A.Pax K (k + 1) sv (xs.map Prod.snd) := by
                          have h := HC6.out
                          have hp7 := HPS.out.2
                          rw [if_pos htk] at hp7
                          have hfz : ∀ q', (Pm ps q' ∨ I' q' ∨ q' = rg) → ¬ blk ca = some q' := fun q' h1 h2 => by
                            have h3 := h.nc q' h2
                            rcases h1 with h1 | h1 | h1
                            · exact h3.2.1 h1
                            · exact h3.2.2.1 h1
                            · exact h3.2.2.2 (by simp [blk, h1])
                          have hI7 : ∀ q', I' q' → q' < wr.heap.size := fun q' hq' => by
                            obtain ⟨p, hp⟩ : ∃ p, ps[0]? = some p := ⟨_, List.getElem?_eq_getElem (by rw [HL.out]; exact HK.out.1)⟩
                            exact (h.gp.at_ 0 p hp).1 q' hq'
                          refine ⟨I', _, xs ++ [(ec5, e)], by simp [HXL.out], ⟨h.gp.kept hf7 (fun q' h1 => hfz q' (.inl h1)) (fun q' h1 => hfz q' (.inr (.inl h1))), h.row.kept hf7 (fun q' h1 => hfz q' (.inr (.inr (by simp [blk] at h1; exact h1.symm)))), ?_, fun x hx => ?_, h.nr, fun q' hq' => ?_, h.np, h.fr.trans hf7 (fun i hi h1 => by have := (h.nc i h1).1; omega)⟩, by rw [List.map_append]; exact hp7⟩
                          · rw [List.length_append, HXL.out, List.map_append, List.flatten_append]
                            rw [← HEA.out] at hro
                            simpa using hro
                          · rcases List.mem_append.1 hx with hx | hx
                            · exact h.fe x hx
                            · simp at hx; rw [hx]; exact HFE.out
                          · rcases hn7 q' hq' with h1 | h1
                            · exact h.nc q' h1
                            · have h2 := h.fr.size
                              exact ⟨by omega, fun h3 => by have := h.gp.lt h3; omega, fun h3 => by have := hI7 q' h3; omega, fun h3 => by have := h.row.lt q' h3; omega⟩
                        have FIN := hid fin
                        clear fin hr hro hf7 hn7 hc6' hfo
                        have hz56 := H56.out.1
                        go_wp2_with (first
                          | (refine wpList_load_v LDE.out (by exact ⟨_, rfl, rfl⟩) (by kernel_rfl) ?_)
                          | (at_builtin; refine wpList_append_eq _ _ rfl _ _ _ rfl _ _ _ rfl rfl (by exact R.out) ?_))
                        go_roundw
                        case rel => exact ⟨k + 1, ca', cn + 1, cc', by omega, by go_num, rfl, by omega, FIN⟩
                        case measure => simp [intOf]; omega
                      · have t1 : ¬ (K : Int) < 2 * (cj : Int) := by omega
                        have fin : ∃ I sv xs, List.length xs = cn ∧ Cst w ps (some ⟨rg, ro, none⟩) rc K wr I sv ca cc xs ∧ A.Pax K (k + 1) sv (xs.map Prod.snd) := by
                          have hp7 := HPS.out.2
                          rw [if_neg htk] at hp7
                          exact ⟨I', _, xs, HXL.out, HC6.out, hp7⟩
                        have FIN := hid fin
                        clear fin
                        go_wp2_with fail
                        go_roundw
                        case rel => exact ⟨k + 1, ca, cn, cc, by omega, by go_num, rfl, by omega, FIN⟩
                        case measure => simp [intOf]; omega
                · have hx5 := hx4
                  have hb5 := hb4
                  have hc5 := hc4
                  have hn5 : Z < Eb ∧ Eb < V4.heap.size := ⟨hn4, hE4l⟩
                  have HF25 := hid hf24
                  obtain ⟨e, heq⟩ : ∃ e, e = if 0 < (A.best A.zsd (A.bit pl) sv K).bl.1 then (A.best A.zsd (A.bit pl) sv K).en else own_ := ⟨_, rfl⟩
                  have hfe5 : Fe own_.fx e := by rw [heq, HBS.out, if_neg hbp, ← HOWE.out]; exact A.enN_fe _
                  have he5 : V4.heap[Eb]? = some (.cells own_.fx.toArray 46 (0, 0)) := by rw [← HOWE.out, ← env_eq]; exact hE4
                  obtain ⟨ec5, hec5⟩ : ∃ x, own_.fx = x := ⟨_, rfl⟩
                  rw [hec5] at he5 hfe5
                  obtain ⟨W5, hW5⟩ : ∃ W, V4 = W := ⟨_, rfl⟩
                  subst hW5
                  obtain ⟨W5, hW5⟩ : ∃ W, W = V4 := ⟨_, rfl⟩
                  subst hW5
                  clear hzb hfb hz4 hx4 hb4 hc4 hf24 hE4 hE4l hw4 hn4 hEW hEP hec5
                  go_upto_region 34 with fail
                  clear cz
                  obtain ⟨ea, hea⟩ : ∃ x, ec5.toArray = x := ⟨_, rfl⟩
                  rw [hea] at he5
                  try rw [hea]
                  have hl56 : ea.size = 56 := by rw [← hea, List.size_toArray]; exact (hfe5 (fun _ => False) w).len
                  have hone : ∀ u ∈ ea.toList, u.oneCell' = true := fun u hu => (hfe5 (fun _ => False) w).one u (by rw [← hea] at hu; simpa using hu)
                  have HEA := hid hea
                  have H56 := hid (And.intro hl56 hone)
                  clear hea hl56 hone
                  have HEQ := hid heq
                  have HFE := hid hfe5
                  have HE5 := hid he5
                  have HX5 := hid hx5
                  have HB5 := hid hb5
                  have HC5 := hid hc5
                  have HN5 := hid hn5
                  clear heq hfe5 he5 hx5 hb5 hc5 hn5
                  go_wp2_with fail
                  go_loopw [118, 21] (fun i p wr => ∃ (j : Nat), j ≤ K ∧ i = .int .i64 j ∧ p = .int .i64 (A.cnt (A.bit ql) j : Nat) ∧ Hid (La I W5 ps (A.bit ql) b e (A.prep (A.bit pl) b sv K) j wr)) (fun i _ _ => K - (intOf i).toNat)
                  case atStart => exact ⟨0, Nat.zero_le _, rfl, rfl, hid ⟨I, fun q h => .inl h, HC5.out.gp.congr (by funext j; simp [A.accs]), Fr.refl _ _⟩⟩
                  case round =>
                    obtain ⟨j, hj, rfl, rfl, hall⟩ := hrel
                    obtain ⟨I', hI', hgp, hfr⟩ := hall.out
                    have hnP : ∀ q', X ≤ q' → ¬ Pm ps q' := fun q' h1 h2 => by have := HLT.out.1 _ h2; omega
                    have hxw := hfr.cells HX5.out (hnP _ (Nat.le_refl _))
                    have hbw := hfr.cells HB5.out (hnP _ (by have := HNM.out; omega))
                    have hew := hfr.cells HE5.out (hnP _ (by have := HN5.out; have := HNM.out; omega))
                    have hrow := HC5.out.row.kept hfr (fun q' hq' => by simp [blk] at hq'; subst hq'; exact (HC5.out.nr _ rfl).2.1)
                    by_cases hjl : j < K
                    · have j1 : (j : Int) < (K : Int) := by omega
                      have j0 : (0 : Int) ≤ (j : Int) := by omega
                      obtain ⟨p, hp⟩ : ∃ p, ps[j]? = some p := ⟨_, List.getElem?_eq_getElem (by rw [HL.out]; exact hjl)⟩
                      have cp : wr.cell? ⟨rg, ro + j, none⟩ = some (ptrV p.1) := hrow.cell (by rw [List.getElem?_map, hp]; rfl)
                      have cx2 : wr.cell? ⟨X, 2, none⟩ = some (.slice aa an ac) := cellA hxw rfl
                      have cb0 : wr.cell? ⟨Bb, 0, none⟩ = some (.int .i64 ((k : Int) + 1)) := cellA hbw rfl
                      have cb1 : wr.cell? ⟨Bb, 1, none⟩ = some (.int .i64 q) := cellA hbw rfl
                      have hpr := (HRL2.out.a.kept HF25.out (fun i hi h => by
                        rcases h with h | h
                        · have := HC5.out.np i h; omega
                        · have h3 := HC5.out.np _ ⟨j, p, hp, .inl rfl⟩
                          have h4 := HLT.out.1 _ ⟨j, p, hp, .inl rfl⟩
                          have h5 := HNM.out
                          omega)).kept hfr (fun i hi h => by have := HC5.out.np i h; omega)
                      have lde := load_whole (ty := 46) hew Try.underlying46 rfl (by rw [H56.out.1]; kernel_rfl)
                      have LDE := hid lde
                      have HGP := hid hgp
                      have HFR := hid hfr
                      have HPP := hid hp
                      have HI := hid hI'
                      obtain ⟨cj, hcj⟩ : ∃ cj, A.cnt (A.bit ql) j = cj := ⟨_, rfl⟩
                      have hcl : cj ≤ j := by rw [← hcj]; exact A.cnt_le _ _
                      rw [hcj]
                      have HCJ := hid hcj
                      clear hgp hfr hxw hbw hew hrow hnP lde hall hI' hcj
                      by_cases hjp : j < an
                      · obtain ⟨pg, po, hpa, _, cbit⟩ := hpr.bit hjp
                        simp only at hpa
                        subst hpa
                        have j2 : (j : Int) < (an : Int) := by omega
                        clear hpr
                        cases hbit : A.bit ql j with
                        | false =>
                          rw [hbit] at cbit
                          go_wp2_with fail
                          go_roundw
                          case rel => exact ⟨j + 1, by omega, by go_num, by rw [A.cnt_succ, hbit, HCJ.out]; rfl, hid ⟨I', HI.out, HGP.out.congr (by rw [A.accs_succ, hbit]; rfl), HFR.out⟩⟩
                          case measure => simp [intOf]; omega
                        | true =>
                          rw [hbit] at cbit
                          have hsole := (A.prep_sole (many := K) (f := A.bit pl) (k := K) (HPX.out.sole j hjl) HOB.out.2)
                          have hle := A.prep_le (f := A.bit pl) (k := K) (HPX.out.sole j hjl) HOB.out.2
                          have hat0 := HGP.out.at_ j p HPP.out
                          rw [A.accs_at] at hat0
                          have KA := acAccept_any hat0 ((k : Int) + 1) q 0 (HFE.out (fun _ => False) wr) (by rcases hsole.l with h | ⟨s, h, _⟩ <;> simp [h]) (fun h => h)
                          rw [HBE.out, A.accept_sole hsole hle HOB.out.1, HEA.out] at KA
                          simp only at KA
                          have HKA := hid KA
                          have HBIT := hid hbit
                          clear KA hbit hat0 hsole hle
                          go_wp2_with (first
                            | (refine wpList_load_v LDE.out (by exact ⟨_, rfl, rfl⟩) (by kernel_rfl) ?_)
                            | (go_at_call 12; refine HKA.out.mono ?_; rintro r w6 ⟨rfl, hat, f6⟩; have AT := hid hat; have F6 := hid f6; clear hat f6))
                          have fin : La I W5 ps (A.bit ql) b e (A.prep (A.bit pl) b sv K) (j + 1) w6 := by
                            refine ⟨_, fun q' hq' => ?_, (HGP.out.accepted HPP.out AT.out F6.out).congr (by rw [A.accs_succ, HBIT.out]; rfl), HFR.out.trans F6.out (fun i hi e => ⟨j, p, HPP.out, e⟩)⟩
                            rcases hq' with h | h
                            · exact HI.out q' h
                            · exact .inr (Nat.le_trans HFR.out.size h.1)
                          have FIN := hid fin
                          clear fin
                          go_roundw
                          case rel => exact ⟨j + 1, by omega, by go_num, by rw [A.cnt_succ, if_pos HBIT.out, HCJ.out]; go_num, FIN⟩
                          case measure => simp [intOf]; omega
                      · have hbit := hpr.bit_no hjp
                        have j2 : ¬ (j : Int) < (an : Int) := by omega
                        clear hpr
                        go_wp2_with fail
                        go_roundw
                        case rel => exact ⟨j + 1, by omega, by go_num, by rw [A.cnt_succ, hbit, HCJ.out]; rfl, hid ⟨I', HI.out, HGP.out.congr (by rw [A.accs_succ, hbit]; rfl), HFR.out⟩⟩
                        case measure => simp [intOf]; omega
                    · obtain rfl : K = j := by omega
                      have hps := A.pax_step HPX.out (A.bit pl) (A.bit ql) HOB.out.2 A.zsd rfl ⟨rfl, rfl⟩ own_ HOWN.out HMAJ.out HEQ.out
                      have hc6 : Cst w ps (some ⟨rg, ro, none⟩) rc K wr I' (A.accs (A.bit ql) b e (A.prep (A.bit pl) b sv K) K) ca cc xs := by
                        have h := HC5.out
                        have hlt5 : ∀ q', q' < X → ¬ I q' → ¬ I' q' := fun q' h1 h2 h3 => (hI' q' h3).elim h2 (fun h4 => by have := HN5.out; have := HNM.out; omega)
                        exact ⟨hgp, hrow, h.ch.kept hfr (fun q' hq' => (h.nc q' hq').2.1), h.fe, fun q' hq' => ⟨(h.nr q' hq').1, (h.nr q' hq').2.1, hlt5 q' (by simp [blk] at hq'; subst hq'; exact HLT.out.2.2.1) (h.nr q' hq').2.2⟩, fun q' hq' => ⟨(h.nc q' hq').1, (h.nc q' hq').2.1, hlt5 q' (HLT.out.2.2.2 q' hq') (h.nc q' hq').2.2.1, (h.nc q' hq').2.2.2⟩, h.np, h.fr.trans hfr (fun i hi h1 => by have := h.np i h1; omega)⟩
                      have lde := load_whole (ty := 46) hew Try.underlying46 rfl (by rw [H56.out.1]; kernel_rfl)
                      obtain ⟨cj, hcj⟩ : ∃ cj, A.cnt (A.bit ql) K = cj := ⟨_, rfl⟩
                      have hcl : cj ≤ K := by rw [← hcj]; exact A.cnt_le _ _
                      rw [hcj] at hps ⊢
                      have HPS := hid hps
                      have HC6 := hid hc6
                      have LDE := hid lde
                      clear hps hc6 lde hcj hgp hfr hxw hbw hew hrow hnP hall hI'
                      by_cases htk : K < 2 * cj
                      · have t1 : (K : Int) < 2 * (cj : Int) := by omega
                        have hc6' := HC6.out.ch
                        rw [HXL.out] at hc6'
                        obtain ⟨ca', cc', W7, hr, hro, hf7, hn7⟩ := en_append wr ca cc cn _ hc6' (by omega) ea H56.out.1 H56.out.2
                        have hfo : Array.foldl (fun (cs : Array Value) x => cs.setIfInBounds x.2 x.1) zE56 ea.zipIdx 0 56 = ea := fold_set0 56 ea zE56 H56.out.1 rfl
                        rw [← hfo] at hr
                        have R := hid hr
                        have fin : ∃ I sv xs, List.length xs = cn + 1 ∧ Cst w ps (some ⟨rg, ro, none⟩) rc K W7 I sv ca' cc' xs ∧ A.Pax K (k + 1) sv (xs.map Prod.snd) := by
                          have h := HC6.out
                          have hp7 := HPS.out.2
                          rw [if_pos htk] at hp7
                          have hfz : ∀ q', (Pm ps q' ∨ I' q' ∨ q' = rg) → ¬ blk ca = some q' := fun q' h1 h2 => by
                            have h3 := h.nc q' h2
                            rcases h1 with h1 | h1 | h1
                            · exact h3.2.1 h1
                            · exact h3.2.2.1 h1
                            · exact h3.2.2.2 (by simp [blk, h1])
                          have hI7 : ∀ q', I' q' → q' < wr.heap.size := fun q' hq' => by
                            obtain ⟨p, hp⟩ : ∃ p, ps[0]? = some p := ⟨_, List.getElem?_eq_getElem (by rw [HL.out]; exact HK.out.1)⟩
                            exact (h.gp.at_ 0 p hp).1 q' hq'
                          refine ⟨I', _, xs ++ [(ec5, e)], by simp [HXL.out], ⟨h.gp.kept hf7 (fun q' h1 => hfz q' (.inl h1)) (fun q' h1 => hfz q' (.inr (.inl h1))), h.row.kept hf7 (fun q' h1 => hfz q' (.inr (.inr (by simp [blk] at h1; exact h1.symm)))), ?_, fun x hx => ?_, h.nr, fun q' hq' => ?_, h.np, h.fr.trans hf7 (fun i hi h1 => by have := (h.nc i h1).1; omega)⟩, by rw [List.map_append]; exact hp7⟩
                          · rw [List.length_append, HXL.out, List.map_append, List.flatten_append]
                            rw [← HEA.out] at hro
                            simpa using hro
                          · rcases List.mem_append.1 hx with hx | hx
                            · exact h.fe x hx
                            · simp at hx; rw [hx]; exact HFE.out
                          · rcases hn7 q' hq' with h1 | h1
                            · exact h.nc q' h1
                            · have h2 := h.fr.size
                              exact ⟨by omega, fun h3 => by have := h.gp.lt h3; omega, fun h3 => by have := hI7 q' h3; omega, fun h3 => by have := h.row.lt q' h3; omega⟩
                        have FIN := hid fin
                        clear fin hr hro hf7 hn7 hc6' hfo
                        have hz56 := H56.out.1
                        go_wp2_with (first
                          | (refine wpList_load_v LDE.out (by exact ⟨_, rfl, rfl⟩) (by kernel_rfl) ?_)
                          | (at_builtin; refine wpList_append_eq _ _ rfl _ _ _ rfl _ _ _ rfl rfl (by exact R.out) ?_))
                        go_roundw
                        case rel => exact ⟨k + 1, ca', cn + 1, cc', by omega, by go_num, rfl, by omega, FIN⟩
                        case measure => simp [intOf]; omega
                      · have t1 : ¬ (K : Int) < 2 * (cj : Int) := by omega
                        have fin : ∃ I sv xs, List.length xs = cn ∧ Cst w ps (some ⟨rg, ro, none⟩) rc K wr I sv ca cc xs ∧ A.Pax K (k + 1) sv (xs.map Prod.snd) := by
                          have hp7 := HPS.out.2
                          rw [if_neg htk] at hp7
                          exact ⟨I', _, xs, HXL.out, HC6.out, hp7⟩
                        have FIN := hid fin
                        clear fin
                        go_wp2_with fail
                        go_roundw
                        case rel => exact ⟨k + 1, ca, cn, cc, by omega, by go_num, rfl, by omega, FIN⟩
                        case measure => simp [intOf]; omega
        · obtain rfl : k = n := by omega
          obtain ⟨I, sv, xs, hxl, hst, hpx⟩ := hall.out
          have HXL := hid hxl
          have HST := hid hst
          have HSM := hid (show ∀ x ∈ xs, ∀ y ∈ xs, x.2 = y.2 from fun x hx y hy => by
            rcases hpx.ch with h1 | ⟨_, e, _, h2, _⟩
            · rw [List.map_eq_nil_iff] at h1; rw [h1] at hx; simp at hx
            · rw [h2 x.2 (List.mem_map.2 ⟨x, hx, rfl⟩), h2 y.2 (List.mem_map.2 ⟨y, hy, rfl⟩)])
          clear hxl hst hpx hall hlt
          go_wp2_with fail
          obtain ⟨wo, hwo⟩ : ∃ wo, wo = wr := ⟨_, rfl⟩
          rw [← hwo] at HST ⊢
          clear hwo
          go_loopw [156] (fun i wr => ∃ (j : Nat), j ≤ cn ∧ i = .int .i64 j ∧ Hid (Fr (fun _ => False) wo wr)) (fun i _ => cn - (intOf i).toNat)
          case atStart => exact ⟨0, Nat.zero_le _, rfl, hid (Fr.refl _ _)⟩
          case round =>
            obtain ⟨j, hj, rfl, hfr⟩ := hrel
            by_cases hjl : j < cn
            · have j1 : (j : Int) < (cn : Int) := by omega
              have j0 : (0 : Int) ≤ (j : Int) := by omega
              have j2 : (0 : Int) < (cn : Int) := by omega
              have j3 : 0 < cn := by omega
              obtain ⟨x, hx⟩ : ∃ x, xs[j]? = some x := ⟨_, List.getElem?_eq_getElem (by rw [HXL.out]; exact hjl)⟩
              obtain ⟨y, hy⟩ : ∃ x, xs[0]? = some x := ⟨_, List.getElem?_eq_getElem (by rw [HXL.out]; omega)⟩
              have hxm := List.mem_of_getElem? hx
              have hym := List.mem_of_getElem? hy
              have hfx := HST.out.fe x hxm
              have hfy := HST.out.fe y hym
              have hsame := HSM.out x hxm y hym
              obtain ⟨cg, co, rfl⟩ := HST.out.ch.some_of (by rw [HXL.out]; omega)
              have hrow := HST.out.ch.kept hfr.out (fun _ _ h => h)
              have h56 : ∀ z ∈ xs, z.1.length = 56 := fun z hz => (HST.out.fe z hz (fun _ => False) w).len
              have ldx := hrow.elem h56 hx
              have hlx : x.1.toArray.size = 56 := by rw [List.size_toArray]; exact h56 x hxm
              obtain ⟨V6, st6, hb6, f6⟩ := box_whole (V := wr.alloc (.cells zE56 46)) (c := x.1.toArray) (Go.heap_alloc_new wr _) (by rw [hlx]; rfl) (by rw [hlx]; kernel_rfl) (by
                rw [Array.all_eq_true_iff_forall_mem]
                intro u hu
                exact (hfx (fun _ => False) w).one u (by simpa using hu))
              have f66 : Fr (fun _ => False) wr V6 := (Fr.alloc (Fr.refl (fun _ => False) wr) _).trans f6 (fun i hi e => by omega)
              have LDX := hid ldx
              have ST6 := hid st6
              have LB := hid (fun (V : World) (hf : Fr (fun _ => False) V6 V) => load_whole (ty := 46) (hf.cells hb6 (fun h => h)) Try.underlying46 rfl (by rw [hlx]; kernel_rfl))
              have LC := hid (fun (V : World) (hf : Fr (fun _ => False) V6 V) => show (Instr.loadAt 46 (.pointer (some ⟨cg, co, none⟩))).run Try.prog V = .ok (.agg y.1.toArray) V by
                have := (hrow.kept (f66.trans hf (fun _ _ h => h)) (fun _ _ h => h)).elem h56 hy
                simpa using this)
              have KS := hid (fun (V : World) => sameEntry_any (hfx (fun _ => False) V) (hfy (fun _ => False) V))
              have HSE := hid hsame
              have F66 := hid (hfr.out.trans f66 (fun _ _ h => h))
              have hmx : Try.prog.follows .mixedOrders = true := by kernel_rfl
              clear hx hy hxm hym hfx hfy hsame hrow h56 ldx hlx st6 hb6 f6 f66
              obtain ⟨xa, hxa⟩ : ∃ a, x.1.toArray = a := ⟨_, rfl⟩
              obtain ⟨ya, hya⟩ : ∃ a, y.1.toArray = a := ⟨_, rfl⟩
              rw [hxa] at LDX ST6 LB KS
              rw [hya] at LC KS
              clear hxa hya
              go_upto_region 47 with (first
                | (refine wpList_load_v LDX.out (by exact ⟨_, rfl, rfl⟩) (by kernel_rfl) ?_)
                | (refine wpList_store_v (by exact ST6.out) (by exact ⟨_, _, rfl, rfl, rfl⟩) (by kernel_rfl) ?_))
              refine wp_region_held (S := fun V => Fr (fun _ => False) V6 V) hmx ?_
              have hS : Fr (fun _ => False) V6 V6.drew := Fr.drew (Fr.refl _ _)
              simp only [List.size_toArray, List.length_cons, List.length_nil, Nat.reduceAdd, Array.replicate_succ, Array.replicate_zero, List.push_toArray, List.nil_append, List.cons_append]
              refine wpAnyH_take (i := 0) rfl (by kernel_rfl) (by kernel_rfl) (by kernel_rfl) (fun _ _ _ h => h) (yieldsIf_load_v (by kernel_rfl) (by exact ⟨_, rfl, rfl⟩) (fun w' hS' => LB.out w' hS')) hS ?_
              simp only [List.getElem_toArray, List.getElem_cons_zero, List.getElem_cons_succ, Act.put, List.setIfInBounds_toArray, List.set_cons_zero, List.set_cons_succ]
              refine wpAnyH_take (i := 1) (v := ?_) rfl (by kernel_rfl) (by kernel_rfl) (by kernel_rfl) (fun _ _ _ h => h) (Or.inl ⟨by kernel_rfl, ?_⟩) hS ?_
              rotate_left 1
              · (intro w' hS'; clear hS'; go_simp; try with_reducible rfl)
              simp only [List.getElem_toArray, List.getElem_cons_zero, List.getElem_cons_succ, Act.put, List.setIfInBounds_toArray, List.set_cons_zero, List.set_cons_succ]
              refine wpAnyH_take (i := 2) (v := ?_) rfl (by kernel_rfl) (by kernel_rfl) (by kernel_rfl) (fun _ _ _ h => h) (Or.inl ⟨by kernel_rfl, ?_⟩) hS ?_
              rotate_left 1
              · (intro w' hS'; clear hS'; go_simp; try with_reducible rfl)
              simp only [List.getElem_toArray, List.getElem_cons_zero, List.getElem_cons_succ, Act.put, List.setIfInBounds_toArray, List.set_cons_zero, List.set_cons_succ]
              refine wpAnyH_take (i := 3) rfl (by kernel_rfl) (by kernel_rfl) (by kernel_rfl) (fun _ _ _ h => h) (yieldsIf_load_v (by kernel_rfl) (by exact ⟨_, rfl, rfl⟩) (fun w' hS' => LC.out w' hS')) hS ?_
              simp only [List.getElem_toArray, List.getElem_cons_zero, List.getElem_cons_succ, Act.put, List.setIfInBounds_toArray, List.set_cons_zero, List.set_cons_succ]
              refine wpAnyH_ready (rs := [4]) (by kernel_rfl) (by simp) ?_
              refine AllReadyH.cons rfl (fun K1 hK1 => ?_) AllReadyH.nil
              go_simp
              refine (KS.out _).mono ?_
              rintro e w7 ⟨rb, rfl, hrb, f7⟩
              obtain rfl : rb = true := hrb.2 HSE.out
              have f8 : Fr (fun _ => False) V6 w7 := hS.trans f7 (fun _ _ h => h)
              refine hK1.out _ _ f8 (fun hS => ?_)
              clear hK1 K1
              simp only [Act.put, List.setIfInBounds_toArray, List.set_cons_zero, List.set_cons_succ]
              refine wpAnyH_take (i := 5) (v := ?_) rfl (by kernel_rfl) (by kernel_rfl) (by kernel_rfl) (fun _ _ _ h => h) (Or.inl ⟨by kernel_rfl, ?_⟩) hS ?_
              rotate_left 1
              · (intro w' hS'; clear hS'; go_simp; try with_reducible rfl)
              simp only [List.getElem_toArray, List.getElem_cons_zero, List.getElem_cons_succ, Act.put, List.setIfInBounds_toArray, List.set_cons_zero, List.set_cons_succ]
              refine wpAnyH_done (by kernel_rfl) ?_ _
              have F8 := hid (F66.out.trans hS (fun _ _ h => h))
              clear hrb f7 f8 hS LB LC KS
              go_wp2_with fail
              go_roundw
              case rel => exact ⟨j + 1, by omega, by go_num, F8⟩
              case measure => simp [intOf]; omega
            · obtain rfl : cn = j := by omega
              have F9 := hid (HST.out.fr.trans hfr.out (fun _ _ h => h))
              clear hfr hjl
              go_wp2_with (first
                | (go_at_call 10; refine (live_any _).mono ?_; rintro e w9 ⟨rfl, f9⟩; have F10 := hid f9; clear f9))
              go_ret
              exact ⟨rfl, (F9.out.trans F10.out (fun _ _ h => h)).below (Nat.le_refl _) (fun _ _ h => h)⟩
end Go.Proofs.Ytedhmhlhjonloaa

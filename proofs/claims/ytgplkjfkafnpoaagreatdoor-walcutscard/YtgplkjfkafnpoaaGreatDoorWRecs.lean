/-
  Records of a log: the row is cloned, then gone through.
-/
import Derived.Test.YtgplkjfkafnpoaaGreatDoorWCut
import Derived.Test.YtgplkjfkafnpoaaGreatDoorKNames
import Derived.Stop.RegionWithIn
namespace Go.Proofs.YtgplkjfkafnpoaaGreatDoor
open Go.RowKit Go.Shelf
set_option linter.unusedVariables false
attribute [local go_sem] Oper.semAt_some

/-- slices.Clone of a row of segments -/
theorem sclone_any (w : World) (sa : Option Addr) (n sc : Nat) (sl : List SM) (h : Ro w 112 2 sa n sc (scs sl)) (hb : n ≤ 1000000000) :
    Calls Tryz.prog 68 #[.slice sa n sc] w fun e w' => ∃ a' c', e = .returned (.slice a' n c') ∧ Ro w' 112 2 a' n c' (scs sl) ∧ (∀ k, blk a' = some k → w.heap.size ≤ k) ∧ Fr (fun _ => False) w w' := by
  have k1 := fun (w : World) (a : Option Addr) (l c : Nat) => Lib.run_eql_slice_nil (P := Tryz.prog) w 59 112 a l c 0 0 Tryz.underlying59
  cases sa with
  | none =>
    have h0 : n = 0 ∧ sc = 0 := by
      rcases h.2 with ⟨_, h0, h1⟩ | ⟨g, o, cur, hv, _⟩
      · exact ⟨h0, h1⟩
      · cases hv
    obtain ⟨rfl, rfl⟩ := h0
    have hs : scs sl = [] := List.eq_nil_of_length_eq_zero (by rw [h.1])
    have HS := hid hs
    clear h hs
    go_enter Tryz.func68, Tryz.ntmps68
    go_wp2
    go_ret
    exact ⟨_, _, rfl, by rw [HS.out]; exact Ro.nil _ _ _, by simp [blk], Fr.refl _ _⟩
  | some ad =>
    obtain ⟨i0, hi, hz0, hz1, hz2⟩ := info_parts infoSeg
    have f0 : Fr (fun _ => False) w (w.alloc (.cells #[] 112)) := Fr.alloc (Fr.refl _ _) _
    have hr0 : Ro (w.alloc (.cells #[] 112)) 112 2 (some ⟨w.heap.size, 0, none⟩) 0 0 [] := ⟨by simp, .inr ⟨w.heap.size, 0, #[], by simp, Go.heap_alloc_new w _, Nat.le_refl _, Nat.zero_le _, by simp, by simp⟩⟩
    have hcell : ∀ j u, (scs sl)[j]? = some u → (w.alloc (.cells #[] 112)).cell? (ad.add j) = some u := fun j u hu => by
      rcases h.2 with ⟨hv, _⟩ | ⟨g, o, cur, hv, _⟩
      · cases hv
      · cases hv
        rw [Addr.add_lit]
        exact (h.kept f0 (fun _ _ h => h)).cell hu
    have hE : ∃ a' c' w', (Builtin.append_ #[59, 59] 59 #[.slice (some ⟨w.heap.size, 0, none⟩) 0 0, .slice (some ad) n sc]).run Tryz.prog (w.alloc (.cells #[] 112)) = .ok (.slice a' n c') w' ∧ Ro w' 112 2 a' n c' (scs sl) ∧ (∀ k, blk a' = some k → w.heap.size ≤ k) ∧ Fr (fun _ => False) w w' := by
      rcases Nat.eq_zero_or_pos n with h0 | h0
      · subst h0
        have hs : scs sl = [] := List.eq_nil_of_length_eq_zero (by rw [h.1])
        have hsrc : Src Tryz.prog 2 59 (.slice (some ad) 0 sc) 0 [] (w.alloc (.cells #[] 112)) := Src.ofSlice _ Tryz.underlying59 ad 0 sc [] (by simp) (by simp) (by simp)
        refine ⟨_, _, _, run_append_nothing (w.alloc (.cells #[] 112)) 59 59 59 112 i0 Tryz.underlying59 hi (some ⟨w.heap.size, 0, none⟩) 0 0 (Nat.le_refl _) _ (by rw [hz1]; exact hsrc), by rw [hs]; exact hr0, by simp [blk], f0⟩
      · obtain ⟨a', c', w', hr, h2, h3, h4⟩ := run_append_o (P := Tryz.prog) (w.alloc (.cells #[] 112)) 59 59 112 i0 _ 2 32 Tryz.underlying59 hi hz0 hz1 hz2 rfl (by omega) (some ⟨w.heap.size, 0, none⟩) 0 0 [] hr0 ad n sc (scs sl) (by rw [scs_length]; have := h.1; rw [scs_length] at this; omega) hcell (one_scs sl) h0 (by omega) (by omega)
        rw [Nat.zero_add, List.nil_append] at h2
        rw [Nat.zero_add] at hr
        refine ⟨a', c', w', hr, h2, fun k hk => ?_, f0.trans (Fr.of_grown h3) (fun i hi e => by simp [blk] at e; omega)⟩
        rcases h4 with ⟨rfl, _⟩ | ⟨rfl, _⟩
        · simp [blk] at hk; omega
        · simp [blk] at hk; omega
    obtain ⟨a', c', w', hr, h2, h3, h4⟩ := hE
    have R := hid hr
    have HP := hid (And.intro h2 (And.intro h3 h4))
    clear hr h2 h3 h4 h hcell hr0 f0 hi hz0 hz1 hz2
    go_enter Tryz.func68, Tryz.ntmps68
    go_wp2_with (first | (at_builtin; refine wpList_append_eq _ _ rfl (.tmp 5) (.tmp 6) _ rfl _ _ _ rfl rfl R.out ?_))
    go_ret
    exact ⟨_, _, rfl, HP.out⟩

/-- WHAT IS GONE THROUGH: the variable's block, the cloned row, the segments. -/
structure Rg (co : Nat → Option LC) (w : World) (B : Nat) (ka : Option Addr) (kc : Nat) (sl : List SM) : Prop where
  bx : w.heap[B]? = some (.cells #[.slice ka sl.length kc] 59 (0, 0))
  row : Ro w 112 2 ka sl.length kc (scs sl)
  sg : ∀ i s, sl[i]? = some s → Sg co w i s
/-- its blocks -/
def Rgk (co : Nat → Option LC) (B : Nat) (ka : Option Addr) (k : Nat) : Prop := k = B ∨ blk ka = some k ∨ co k ≠ none
/-- WHAT A ROUND KEEPS: all cells but those of M. -/
def Kc (M : Nat → Prop) (W W' : World) : Prop := ∀ k cs t m, W.heap[k]? = some (.cells cs t m) → ¬ M k → W'.heap[k]? = W.heap[k]?
theorem Kc.refl (M : Nat → Prop) (W : World) : Kc M W W := fun _ _ _ _ _ _ => rfl
theorem Kc.trans {M : Nat → Prop} {A B C : World} (h : Kc M A B) (k : Kc M B C) : Kc M A C := fun i cs t m hi hM => by
  have h1 := h i cs t m hi hM
  rw [k i cs t m (h1.trans hi) hM, h1]
theorem Kc.of_fr {M : Nat → Prop} {W W' : World} (h : Fr (fun _ => False) W W') : Kc M W W' := fun k cs t m hk _ => h.block k (lt_of_row hk) (fun h => h)
theorem Kc.cell {M : Nat → Prop} {W W' : World} (h : Kc M W W') {b o : Nat} {u : Value} (hc : W.cell? ⟨b, o, none⟩ = some u) (hM : ¬ M b) : W'.cell? ⟨b, o, none⟩ = some u := by
  have hex : ∃ cs t m, W.heap[b]? = some (.cells cs t m) := by
    unfold World.cell? at hc
    simp only at hc
    split at hc
    · rename_i cs t m he
      exact ⟨cs, t, m, he⟩
    · cases hc
  obtain ⟨cs, t, m, he⟩ := hex
  rw [World.cell?_of_block (w := W) (w' := W') (h b cs t m he hM)]
  exact hc
theorem Ro.kc {M : Nat → Prop} {w w' : World} {e : TypeId} {k : Nat} {a : Option Addr} {n c : Nat} {xs : List Value} (h : Ro w e k a n c xs) (hk : Kc M w w') (hM : ∀ j, blk a = some j → ¬ M j) : Ro w' e k a n c xs := by
  refine ⟨h.1, ?_⟩
  rcases h.2 with h0 | ⟨g, o, cur, hv, hg, r⟩
  · exact .inl h0
  · exact .inr ⟨g, o, cur, hv, (hk g _ _ _ hg (hM g (by rw [hv]; rfl))).trans hg, r⟩
theorem Sl.kc {M : Nat → Prop} {w w' : World} {a : Option Addr} {len : Nat} {bs : List UInt8} (h : Sl w a len bs) (hk : Kc M w w') (hM : 0 < len → ∀ j, blk a = some j → ¬ M j) : Sl w' a len bs := by
  obtain ⟨hl, h0⟩ := h
  refine ⟨hl, ?_⟩
  rcases h0 with h0 | ⟨b, off, rfl, hc⟩
  · exact .inl h0
  · by_cases hz : len = 0
    · exact .inl hz
    · exact .inr ⟨b, off, rfl, fun j x hx => hk.cell (hc j x hx) (hM (by omega) b rfl)⟩
theorem Sg.kc {M : Nat → Prop} {c : Nat → Option LC} {w w' : World} {i : Nat} {s : SM} (h : Sg c w i s) (hk : Kc M w w') (hM : ∀ k, c k ≠ none → ¬ M k) : Sg c w' i s := by
  refine ⟨⟨h.row.1, ?_⟩, h.cr, fun r hr => (h.by_ r hr).kc hk (fun hz k hk2 => hM k (by rw [h.cb r hr hz k hk2]; simp)), h.cb⟩
  rcases h.row.2 with h0 | ⟨g, cap, cur, hv, hb, hg, r⟩
  · exact .inl h0
  · have hv' := hv
    simp only [Value.slice.injEq] at hv'
    exact .inr ⟨g, cap, cur, hv, hb, (hk g _ _ _ hg (hM g (by rw [h.cr g (by rw [hv'.1]; rfl)]; simp))).trans hg, r⟩
theorem Rg.kc {M : Nat → Prop} {co : Nat → Option LC} {w w' : World} {B : Nat} {ka : Option Addr} {kc : Nat} {sl : List SM} (h : Rg co w B ka kc sl) (hk : Kc M w w') (hM : ∀ k, Rgk co B ka k → ¬ M k) : Rg co w' B ka kc sl :=
  ⟨(hk B _ _ _ h.bx (hM B (.inl rfl))).trans h.bx, h.row.kc hk (fun j hj => hM j (.inr (.inl hj))), fun i s hi => (h.sg i s hi).kc hk (fun k hk2 => hM k (.inr (.inr hk2)))⟩
/-- the numbers of the records -/
def numsS (s : SM) (j : Nat) : List Int := (List.range j).map (fun i : Nat => s.first + (i : Int))
def numsOf (sl : List SM) : List Int := sl.flatMap (fun s => numsS s s.rl.length)
theorem numsOf_next {sl : List SM} {k : Nat} {s : SM} (h : sl[k]? = some s) : numsOf (sl.take (k + 1)) = numsOf (sl.take k) ++ numsS s s.rl.length := by
  rw [List.take_add_one, h]; simp [numsOf]
theorem numsS_next (s : SM) (j : Nat) : numsS s (j + 1) = numsS s j ++ [s.first + (j : Int)] := by
  unfold numsS
  rw [List.range_succ, List.map_append]
  rfl
theorem numsOf_prefix {sl : List SM} {k j : Nat} {s : SM} (h : sl[k]? = some s) (hj : j ≤ s.rl.length) : numsOf (sl.take k) ++ numsS s j <+: numsOf sl := by
  have h1 : numsOf sl = numsOf (sl.take (k + 1)) ++ numsOf (sl.drop (k + 1)) := by
    unfold numsOf
    rw [← List.flatMap_append, List.take_append_drop]
  rw [h1, numsOf_next h, List.append_assoc]
  refine (List.prefix_append_right_inj _).2 ?_
  have h2 : numsS s j <+: numsS s s.rl.length := by
    obtain ⟨q, hq⟩ : ∃ q, s.rl.length = j + q := ⟨s.rl.length - j, by omega⟩
    rw [hq]
    clear hq hj
    induction q with
    | zero => exact List.prefix_rfl
    | succ q ih => exact ih.trans (by rw [← Nat.add_assoc, numsS_next]; exact List.prefix_append _ _)
  exact h2.trans (List.prefix_append _ _)

set_option maxRecDepth 100000 in
set_option maxHeartbeats 4000000 in
theorem recs1_in (n : Nat) (hn : 1 ≤ n) (l B kc : Nat) (ka : Option Addr) (sl : List SM) (co : Nat → Option LC) (M : Nat → Prop) (J Jx : List (Int × Value) → World → Prop) (W : World) (hJ : AbidesFrom W.heap.size J)
    (hY : ∀ pre x W1, J pre W1 → pre.length < (numsOf sl).length → YieldAt Fence.wide (n - 1) Tryz.prog l #[.int .i64 x.1, x.2] W1 fun e W' =>
      (e = .returned (.bool true) ∧ J (pre ++ [x]) W' ∧ Kc M W1 W') ∨ (e = .returned (.bool false) ∧ Jx (pre ++ [x]) W'))
    (hR : Rg co W B ka kc sl) (hM : ∀ k, Rgk co B ka k → ¬ M k) (hMl : ∀ k, M k → k < W.heap.size) (hb : sl.length ≤ 1000000000) (hbs : ∀ s ∈ sl, s.rl.length ≤ 1000000000 ∧ 0 ≤ s.first ∧ s.first ≤ 1000000000000) (hbb : ∀ s ∈ sl, ∀ r ∈ s.rl, r.b.length ≤ 1000000) (h0 : J [] W) :
    CallsIn Fence.wide n Tryz.prog 69 #[.func (.yield l) #[] #[], .pointer (some ⟨B, 0, none⟩)] W fun e W' => (∃ v, e = .returned v) ∧
      ((∃ ys, ys.map Prod.fst = numsOf sl ∧ J ys W') ∨ (∃ pre, pre.map Prod.fst <+: numsOf sl ∧ Jx pre W')) := by
  obtain ⟨len, hlen⟩ : ∃ len, sl.length = len := ⟨_, rfl⟩
  have HL := hid hlen
  have HY := hid hY
  have HR := hid hR
  have HMM := hid hM
  have HML := hid hMl
  have HBS := hid hbs
  have HBB := hid hbb
  have HJ := hid hJ
  have hB := cell_of (j := 0) hR.bx rfl
  rw [hlen] at hB hb
  clear hlen hY hR hM hMl hbs hbb hJ
  refine callsIn_of_wp Tryz.func69 rfl trivial ?_ rfl
  simp only [Tryz.ntmps69, List.size_toArray, List.length_cons, List.length_nil, Nat.reduceAdd, Nat.reduceSub, Array.replicate_succ, Array.replicate_zero, List.push_toArray, List.append_toArray, List.nil_append, List.cons_append]
  gi_wp2
  gi_loopw [9] (fun i wr => ∃ (k : Nat) (pre : List (Int × Value)), k ≤ len ∧ i = .int .i64 k ∧ Hid (J pre wr ∧ pre.map Prod.fst = numsOf (sl.take k) ∧ Kc M W wr ∧ W.heap.size ≤ wr.heap.size))
    (fun i _ => len - (intOf i).toNat)
  case atStart => exact ⟨0, [], Nat.zero_le _, rfl, hid ⟨h0, rfl, Kc.refl _ _, Nat.le_refl _⟩⟩
  case round =>
    obtain ⟨wo, rfl⟩ : ∃ wo : World, wo = wr := ⟨wr, rfl⟩
    obtain ⟨k, pre, hk, rfl, hall⟩ := hrel
    by_cases hlt : k < len
    · obtain ⟨m, hm⟩ : ∃ m, sl[k]? = some m := ⟨_, List.getElem?_eq_getElem (by rw [HL.out]; exact hlt)⟩
      have hRr := HR.out.kc hall.out.2.2.1 HMM.out
      obtain ⟨g, fo, rfl⟩ := hRr.row.some_of (by rw [HL.out]; omega)
      have ha := scs_at hm
      have e0 := hRr.row.cell ha.1
      have e1 := hRr.row.cell ha.2
      rw [← Nat.add_assoc] at e1
      have i0 : (0 : Int) ≤ (k : Int) := by omega
      have i1 : (k : Int) < (len : Int) := by omega
      obtain ⟨rl, hrl⟩ : ∃ rl, m.rl.length = rl := ⟨_, rfl⟩
      rw [hrl] at e1
      obtain ⟨f0, hf0⟩ : ∃ f0, m.first = f0 := ⟨_, rfl⟩
      rw [hf0] at e0
      have hmem := List.mem_of_getElem? hm
      have HMEM := hid (And.intro hmem (And.intro hm (And.intro hrl hf0)))
      have hbm := HBS.out m hmem
      rw [hrl, hf0] at hbm
      have hsb : ¬ M wo.heap.size := fun e => by have h1 := HML.out _ e; have h2 := hall.out.2.2.2; omega
      have HSB := hid hsb
      clear hRr ha hm hrl hf0 hmem hsb
      gi_wp2
      gi_loopw [16] (fun i w2 => ∃ (j : Nat) (pre' : List (Int × Value)), j ≤ rl ∧ i = .int .i64 j ∧ Hid (J pre' w2 ∧ pre'.map Prod.fst = numsOf (sl.take k) ++ numsS m j ∧ Kc M W w2 ∧ W.heap.size ≤ w2.heap.size ∧ w2.heap[wo.heap.size]? = some (.cells #[.int .i64 f0, .slice m.ra rl m.rc] 112 (0, 0))))
        (fun i _ => rl - (intOf i).toNat)
      case atStart =>
        have fa : Fr (fun _ => False) wo (wo.alloc (.cells #[.int .i64 f0, .slice m.ra rl m.rc] 112)) := Fr.alloc (Fr.refl _ _) _
        refine ⟨0, pre, Nat.zero_le _, rfl, hid ⟨HJ.out pre wo _ none hall.out.1 ⟨rfl, rfl, rfl, fa.size, fun i hi _ => fa.block i hi (fun h => h)⟩ (fun r e => by cases e), by rw [hall.out.2.1]; simp [numsS], hall.out.2.2.1.trans (Kc.of_fr fa), Nat.le_trans hall.out.2.2.2 fa.size, Go.heap_alloc_new wo _⟩⟩
      case round =>
        obtain ⟨j, pre', hj, rfl, hin⟩ := hrel
        by_cases hjl : j < rl
        · have hRr := HR.out.kc hin.out.2.2.1 HMM.out
          have hS := hRr.sg k m HMEM.out.2.1
          obtain ⟨r, hr⟩ : ∃ r, m.rl[j]? = some r := ⟨_, List.getElem?_eq_getElem (by rw [HMEM.out.2.2.1]; exact hjl)⟩
          have hrm := List.mem_of_getElem? hr
          obtain ⟨rg, hrg, er⟩ := ownsRow_cell hS.row (show (m.rl.map RcM.v)[j]? = some r.v from by rw [List.getElem?_map, hr]; rfl)
          have hsl := hS.by_ r hrm
          have hbr := HBB.out m HMEM.out.1 r hrm
          obtain ⟨bl, hbl⟩ : ∃ bl, r.b.length = bl := ⟨_, rfl⟩
          have er2 : wr.cell? ⟨rg, j, none⟩ = some (.slice r.a bl r.c) := by rw [er]; unfold RcM.v; rw [hbl]
          rw [hbl] at hsl hbr
          have b0 := cell_of (j := 0) hin.out.2.2.2.2 rfl
          have j0 : (0 : Int) ≤ (j : Int) := by omega
          have j1 : (j : Int) < (rl : Int) := by omega
          have hw1 : IntKind.i64.wrap (f0 + (j : Int)) = f0 + (j : Int) := by rw [IntKind.wrap_i64]; omega
          have hpl : pre'.length < (numsOf sl).length := by
            have h1 := (numsOf_prefix (j := j + 1) HMEM.out.2.1 (by rw [HMEM.out.2.2.1]; omega)).length_le
            have h2 := congrArg List.length hin.out.2.1
            rw [List.length_map] at h2
            rw [numsS_next, ← List.append_assoc, List.length_append] at h1
            simp only [List.length_cons, List.length_nil] at h1
            omega
          have KC := hid (fun V (hV : Fr (fun _ => False) wr V) => clone_any r.a bl r.c r.b V (hsl.kept hV (fun _ _ _ h => h)) (by omega))
          have HPL := hid hpl
          have HB0 := hid (fun V (hV : Fr (fun _ => False) wr V) => cell_fr hV (fun h => h) b0)
          have hfc : Fence.wide.fn 70 := trivial
          have HRG := hid hrg
          rw [hrg]
          clear hRr hS hr hrm er hsl hbl hpl hrg
          gi_wp2
          gi_region_with (first
            | (gi_at_call 70; refine (callsIn_wide.2 (KC.out _ (by first | exact Fr.refl _ _ | exact Fr.drew (Fr.refl _ _) | exact Fr.drewN _ _))).mono ?_; rintro e w7 ⟨ba, bc, rfl, how, hf7⟩; have f7 : Fr (fun _ => False) wr w7 := (by first | exact hf7 | exact (Fr.drew (Fr.refl _ _)).trans hf7 (fun _ _ h => h)); have b7 := HB0.out w7 f7; have hJ7 := HJ.out pre' wr w7 none hin.out.1 ⟨f7.os, f7.tape, f7.output, f7.size, fun i hi _ => f7.block i hi (fun h => h)⟩ (fun r e => by cases e); obtain ⟨fn, tmps, assign, body, hy, hYR⟩ := HY.out pre' (f0 + (j : Int), .slice ba bl bc) w7 hJ7 HPL.out; have HYB := hid (hYR.mono (R' := fun e W' => ∃ bv, e = .returned (.bool bv) ∧ ((bv = true ∧ J (pre' ++ [(f0 + (j : Int), .slice ba bl bc)]) W' ∧ Kc M w7 W') ∨ (bv = false ∧ Jx (pre' ++ [(f0 + (j : Int), .slice ba bl bc)]) W'))) (fun e W' h => by rcases h with ⟨h1, h2, h3⟩ | ⟨h1, h2⟩; exact ⟨true, h1, .inl ⟨rfl, h2, h3⟩⟩; exact ⟨false, h1, .inr ⟨rfl, h2⟩⟩)); have F7 := hid f7; clear how hf7 f7 hJ7 hYR)
            | (refine HYB.out.mono ?_; rintro e w8 ⟨bv, rfl, hor⟩; have HOR := hid hor; clear hor))
          all_goals (
            have hmap : (pre' ++ [(f0 + (j : Int), Value.slice ba bl bc)]).map Prod.fst = numsOf (sl.take k) ++ numsS m (j + 1) := by
              rw [List.map_append, hin.out.2.1, numsS_next, List.append_assoc, HMEM.out.2.2.2]
              rfl
            have HMP := hid hmap
            clear hmap
            rcases HOR.out with ⟨hbv, hJ8, hK8⟩ | ⟨hbv, hJx8⟩
            · subst hbv
              have hbox : w8.heap[wo.heap.size]? = some (.cells #[.int .i64 f0, .slice m.ra rl m.rc] 112 (0, 0)) := by
                have h7 := F7.out.cells hin.out.2.2.2.2 (fun h => h)
                exact (hK8 _ _ _ _ h7 HSB.out).trans h7
              have HREL := hid (show J (pre' ++ [(f0 + (j : Int), Value.slice ba bl bc)]) w8 ∧ Kc M W w8 ∧ W.heap.size ≤ w8.heap.size ∧ w8.heap[wo.heap.size]? = some (.cells #[.int .i64 f0, .slice m.ra rl m.rc] 112 (0, 0)) from ⟨hJ8, (hin.out.2.2.1.trans (Kc.of_fr F7.out)).trans hK8, Nat.le_of_lt (Nat.lt_of_le_of_lt hall.out.2.2.2 (lt_of_row hbox)), hbox⟩)
              clear hJ8 hK8 hbox
              gi_wp2
              go_roundw
              case rel => exact ⟨j + 1, _, by omega, by first | go_num | trivial, hid ⟨HREL.out.1, HMP.out, HREL.out.2.1, HREL.out.2.2.1, by rw [← HRG.out]; exact HREL.out.2.2.2⟩⟩
              case measure => simp [intOf]; omega
            · subst hbv
              have HJX := hid hJx8
              clear hJx8
              gi_wp2
              refine bodyPost_ret (results_none rfl _ _ _) rfl ?_
              exact ⟨⟨_, rfl⟩, .inr ⟨_, by rw [HMP.out]; exact numsOf_prefix HMEM.out.2.1 (by rw [HMEM.out.2.2.1]; omega), HJX.out⟩⟩)
        · obtain rfl : j = rl := by omega
          gi_wp2
          go_roundw
          case rel => exact ⟨k + 1, pre', by omega, by first | go_num | trivial, hid ⟨hin.out.1, by rw [hin.out.2.1, numsOf_next HMEM.out.2.1, HMEM.out.2.2.1], hin.out.2.2.1, hin.out.2.2.2.1⟩⟩
          case measure => simp [intOf]; omega
    · obtain rfl : k = len := by omega
      gi_wp2
      go_end0
      exact ⟨⟨_, rfl⟩, .inl ⟨pre, by rw [hall.out.2.1, List.take_of_length_le (by rw [HL.out]; exact Nat.le_refl _)], hall.out.1⟩⟩

theorem recs1_stops (n : Nat) (hn : 1 ≤ n) (B kc : Nat) (ka : Option Addr) (sl : List SM) (co : Nat → Option LC) (M : Nat → Prop) (w : World)
    (hR : Rg co w B ka kc sl) (hM : ∀ k, Rgk co B ka k → ¬ M k) (hMl : ∀ k, M k → k < w.heap.size) (hb : sl.length ≤ 1000000000) (hbs : ∀ s ∈ sl, s.rl.length ≤ 1000000000 ∧ 0 ≤ s.first ∧ s.first ≤ 1000000000000) (hbb : ∀ s ∈ sl, ∀ r ∈ s.rl, r.b.length ≤ 1000000) :
    SeqStopsK Fence.wide n Tryz.prog 69 #[.pointer (some ⟨B, 0, none⟩)] (fun x : Int × Value => #[.int .i64 x.1, x.2]) (Kc M) (fun ys => ys.map Prod.fst = numsOf sl) (fun pre => pre.map Prod.fst <+: numsOf sl) (numsOf sl).length w := fun l J Jx W hW hJ _ hY h0 => by
  have hk : Kc M w W := fun k cs t m hk _ => hW.block k (lt_of_row hk)
  exact recs1_in n hn l B kc ka sl co M J Jx W hJ hY (hR.kc hk hM) hM (fun k hk => Nat.lt_of_lt_of_le (hMl k hk) hW.size) hb hbs hbb h0
theorem records_any {S : Nat → Prop} {w : World} {p q : Nat} {d : K.DK} {L : W.LG} (h : LD S w p q d L) (hb : L.segs.length ≤ 1000000000) :
    Calls Tryz.prog 22 #[.pointer (some ⟨q, 0, none⟩)] w fun e w' => ∃ B ka kc sl co, e = .returned (.func (.func 69) #[] #[.pointer (some ⟨B, 0, none⟩)]) ∧ Rg co w' B ka kc sl ∧ sl.map SM.sg = L.segs ∧ (∀ k, Rgk co B ka k → S k ∨ w.heap.size ≤ k) ∧ Fr (fun _ => False) w w' := by
  obtain ⟨h1, Sd, Sl', h2, h3, h4, h5, g1, ok, co, sa, sc, sl, hcs, hm⟩ := h
  obtain ⟨k0, k1, k2, k3, k4, k5, k6⟩ := hm.k
  have hl : sl.length = L.segs.length := by rw [← hm.eq, List.length_map]
  obtain ⟨n, hn⟩ : ∃ n, sl.length = n := ⟨_, rfl⟩
  have hrow := hm.row
  rw [hn] at k2 hrow
  have HMd := hid (fun W (hW : Fr (fun _ => False) w W) => lmade_any W q L.nm ok.ne (cell_fr hW (fun h => h) k1))
  have KC := hid (fun W (hW : Fr (fun _ => False) w W) => sclone_any W sa n sc sl (hrow.kept hW (fun _ _ h => h)) (by omega))
  have HM := hid hm
  have HN := hid hn
  have HS := hid (And.intro h3 (And.intro hcs hm.eq))
  clear h1 h2 h3 h4 h5 g1 ok hcs hm k0 k1 k3 k4 k5 k6 hl hrow hn
  go_enter Tryz.func22, Tryz.ntmps22
  go_wp2_with (first
    | (go_at_call 67; refine (HMd.out _ (Fr.alloc (Fr.refl _ _) _)).mono ?_; rintro e w' ⟨rfl, hw1⟩; have F1 := hid (show Fr (fun _ => False) w w' from hw1 ▸ Fr.alloc (Fr.refl _ _) _); have hb1 : w'.heap[w.heap.size]? = some (.cells #[.slice none 0 0] 59 (0, 0)) := (hw1 ▸ Go.heap_alloc_new w _); have B1 := hid hb1; have d2 := cell_fr F1.out (fun h => h) k2; clear hw1 hb1)
    | (go_at_call 68; refine (KC.out _ F1.out).mono ?_; rintro e w2 ⟨ka, kc, rfl, hro, hkb, hf2⟩; have hb2 := hf2.cells B1.out (fun h => h); have q20 := cell_of (j := 0) hb2 rfl; have z20 := frozen_of_row (j := 0) hb2; have B2 := hid hb2; have F2 := hid (F1.out.trans hf2 (fun _ _ h => h)); have HP := hid (And.intro hro hkb); have F1s := hid F1.out.size; clear hro hkb hf2 hb2))
  go_ret
  have hlt : w.heap.size < w'.heap.size := lt_of_row B1.out
  have fB : Fr (fun k => k = w.heap.size) w2 (w2.setCell ⟨w.heap.size, 0, none⟩ (.slice ka n kc)) := Fr.setCell (p := ⟨w.heap.size, 0, none⟩) (S := fun k => k = w.heap.size) (Fr.refl _ _) (fun _ => rfl) _
  refine ⟨w.heap.size, ka, kc, sl, co, rfl, ⟨by rw [setCell_row B2.out, HN.out]; rfl, by rw [HN.out]; exact HP.out.1.kept fB (fun k hk e => by have := HP.out.2 k hk; omega), fun i s hi => ((HM.out.sg i s hi).kept F2.out (fun _ _ h => h)).kept fB (fun k hk e => by have := HM.out.lt k (by rcases hk with e2 | e2 <;> rw [e2] <;> simp); omega)⟩, HS.out.2.2, fun k hk => ?_, F2.out.trans fB (fun i hi e => by omega)⟩
  rcases hk with e | e | e
  · exact .inr (by omega)
  · exact .inr (by have := HP.out.2 k e; omega)
  · exact .inl (HS.out.1 k (HS.out.2.1 k e))

end Go.Proofs.YtgplkjfkafnpoaaGreatDoor

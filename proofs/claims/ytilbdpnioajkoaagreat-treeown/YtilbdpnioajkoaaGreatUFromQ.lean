/-
  The document's tree: From.
-/
import Derived.Test.YtilbdpnioajkoaaGreatMg26
import Derived.Test.YtilbdpnioajkoaaGreatMg43
import Derived.Test.YtilbdpnioajkoaaGreatMg28
import Derived.Test.YtilbdpnioajkoaaGreatUAttrsQ
import Derived.Test.YtilbdpnioajkoaaGreatMg29
namespace Go.Proofs.YtilbdpnioajkoaaGreat
open Go.RowKit Go.Maps
set_option linter.unusedVariables false
set_option linter.unusedSimpArgs false
set_option maxRecDepth 100000
attribute [local go_sem] Oper.semAt_some
/-- with the blocks of I, which nobody writes -/
noncomputable def U.within (I : Nat → Prop) (c : Nat → Option U.Col) : Nat → Option U.Col := fun i => @ite _ (I i) (Classical.propDecidable _) (some .attr) (c i)
theorem U.within_in {I : Nat → Prop} {c : Nat → Option U.Col} {i : Nat} (h : I i) : U.within I c i = some .attr := by
  unfold U.within
  rw [@if_pos _ (Classical.propDecidable _) h]
theorem U.within_out {I : Nat → Prop} {c : Nat → Option U.Col} {i : Nat} (h : ¬ I i) : U.within I c i = c i := by
  unfold U.within
  rw [@if_neg _ (Classical.propDecidable _) h]
/-- the first k may be, one by one -/
structure U.Fok (zs : List T.Tn) (k : Nat) : Prop where
  gok : ∀ j z, j < k → zs[j]? = some z → T.gok z = true
  tok : ∀ j z, j < k → zs[j]? = some z → U.tokn z = true
  asc : ∀ j a b, j + 1 < k → zs[j]? = some a → zs[j + 1]? = some b → a.1.1 < b.1.1
theorem U.Fok.all {zs : List T.Tn} (h : U.Fok zs zs.length) : T.asc (fun (a b : T.Tn) => decide (a.1.1 < b.1.1)) zs = true ∧ zs.all T.gok = true ∧ zs.all U.tokn = true := by
  refine ⟨T.asc_iff.2 (fun k a b ha hb => decide_eq_true (h.asc k a b (List.getElem?_eq_some_iff.1 hb).1 ha hb)), List.all_eq_true.2 (fun z hz => ?_), List.all_eq_true.2 (fun z hz => ?_)⟩
  · obtain ⟨j, hj, e⟩ := List.getElem_of_mem hz
    exact h.gok j z hj (by rw [List.getElem?_eq_getElem hj, e])
  · obtain ⟨j, hj, e⟩ := List.getElem_of_mem hz
    exact h.tok j z hj (by rw [List.getElem?_eq_getElem hj, e])
theorem U.fok_of {zs : List T.Tn} (hwf : ∀ z ∈ zs, z.1.1 ≤ 9223372036854775807) (h : T.fromOk zs = true) : U.Fok zs zs.length := by
  rw [U.from_iff hwf] at h
  simp only [Bool.and_eq_true] at h
  exact ⟨fun j z _ hz => List.all_eq_true.1 h.1.2 z (List.mem_of_getElem? hz), fun j z _ hz => List.all_eq_true.1 h.2.1 z (List.mem_of_getElem? hz), fun j a b _ ha hb => of_decide_eq_true (T.asc_iff.1 h.1.1 j a b ha hb)⟩
theorem U.empty_of {s : ByteArray} (h : s.toList.isEmpty = true) : s = ⟨#[]⟩ := T.ba_ext (by
  have h1 : s.data.toList = [] := by rw [← ByteArray.toList_eq]; exact List.isEmpty_iff.1 h
  exact h1)
theorem U.fok_step {zs : List T.Tn} {n k : Nat} {z : T.Tn} (hn : zs.length = n) (hz : zs[k]? = some z) (h : U.Fok zs k) (hp : k = 0 ∨ ∃ q y, k = q + 1 ∧ zs[q]? = some y ∧ y.1.1 < z.1.1) (hg : T.gok z = true) (ht : U.tokn z = true) : U.Fok zs (k + 1) := by
  refine ⟨fun j x hj hx => ?_, fun j x hj hx => ?_, fun j a b hj ha hb => ?_⟩
  · by_cases e : j = k
    · subst e; rw [hz] at hx; cases hx; exact hg
    · exact h.gok j x (by omega) hx
  · by_cases e : j = k
    · subst e; rw [hz] at hx; cases hx; exact ht
    · exact h.tok j x (by omega) hx
  · by_cases e : j + 1 = k
    · rcases hp with h0 | ⟨q, y, e2, hy, hlt⟩
      · omega
      · obtain rfl : j = q := by omega
        rw [e, hz] at hb; cases hb
        rw [hy] at ha; cases ha
        exact hlt
    · exact h.asc j a b (by omega) ha hb
/-- one more is put in -/
theorem U.from_step {zs : List T.Tn} {I : Nat → Prop} {w wx w5 : World} {n k r : Nat} {z : T.Tn} {c c5 : Nat → Option U.Col} {ra5 : Option Addr} {rc5 : Nat} (hn : zs.length = n) (hz : zs[k]? = some z) (hk : k ≤ n) (hfk : U.Fok zs (k + 1)) (hI : ∀ i, I i → i < w.heap.size) (hci : ∀ i, I i → c i = some .attr) (hcn : ∀ i, c i ≠ none → I i ∨ w.heap.size ≤ i) (hfx : Fr (fun _ => False) w wx)
    (D5 : U.Dt c5 w5 r ra5 rc5 (U.put z (U.lay (zs.take k))) none 0 []) (hm5 : U.More c c5 wx.heap.size) (hf5 : Fr (fun i => c i = some .tree ∨ c i = some .nodes) wx w5) :
    k + 1 ≤ n ∧ U.Fok zs (k + 1) ∧ ∃ c ra1 rc1, U.Dt c w5 r ra1 rc1 (U.lay (zs.take (k + 1))) none 0 [] ∧ (∀ i, I i → c i = some .attr) ∧ (∀ i, c i ≠ none → I i ∨ w.heap.size ≤ i) ∧ Fr (fun _ => False) w w5 := by
  have hs := hfx.size
  refine ⟨by have := (List.getElem?_eq_some_iff.1 hz).1; omega, hfk, c5, ra5, rc5, by rw [U.lay_take hz]; exact D5, fun i hi => ?_, fun i hi => ?_, hfx.trans hf5 (fun i hi e => ?_)⟩
  · rw [hm5 i (by have := hI i hi; omega)]; exact hci i hi
  · by_cases h : i < wx.heap.size
    · rw [hm5 i h] at hi; exact hcn i hi
    · exact .inr (by omega)
  · have hne : c i ≠ none := by rcases e with e | e <;> rw [e] <;> simp
    rcases hcn i hne with h | h
    · rw [hci i h] at e; rcases e with e | e <;> cases e
    · omega
theorem U.reach_top {t : T.Tr} {m : Int} (h : m = 1 ∨ m = 2) : ∀ K, U.reach t K m = true
  | 0 => decide_eq_true h
  | K + 1 => by
    unfold U.reach
    rw [decide_eq_true h]
    rfl
theorem U.reach_none {t : T.Tr} {m : Int} (h : ¬ (m = 1 ∨ m = 2)) (hg : A.get m t = none) : ∀ K, U.reach t K m = false
  | 0 => decide_eq_false h
  | K + 1 => by
    unfold U.reach
    rw [decide_eq_false h, hg]
    rfl
theorem U.reach_some {t : T.Tr} {m : Int} {y : T.Nd} (h : ¬ (m = 1 ∨ m = 2)) (hg : A.get m t = some y) (K : Nat) : U.reach t (K + 1) m = U.reach t K y.par := by
  show (decide (m = 1 ∨ m = 2) || match A.get m t with | none => false | some x => U.reach t K x.par) = _
  rw [decide_eq_false h, hg]
  rfl
theorem U.not_ok {zs z3 : List T.Tn} (hwf : ∀ z ∈ zs, z.1.1 ≤ 9223372036854775807) (hz : U.pl z3 = U.pl (U.lay zs)) {j : Nat} {p : Int × T.Nd} (hp : (U.pl z3)[j]? = some p) (h : U.reach (U.pl z3) (z3.length + 1) p.1 = false) : T.fromOk zs = false := by
  have hl : z3.length = (U.lay zs).length := by
    have := congrArg List.length hz
    rwa [U.pl_len, U.pl_len] at this
  rw [U.from_iff hwf]
  have : (U.pl (U.lay zs)).all (fun p => U.reach (U.pl (U.lay zs)) ((U.lay zs).length + 1) p.1) = false := by
    rw [← hz, ← hl]
    refine Bool.eq_false_iff.2 (fun ht => ?_)
    have := List.all_eq_true.1 ht p (List.mem_of_getElem? hp)
    rw [h] at this
    cases this
  rw [this]
  simp
theorem U.is_ok {zs z3 : List T.Tn} (hwf : ∀ z ∈ zs, z.1.1 ≤ 9223372036854775807) (hz : U.pl z3 = U.pl (U.lay zs)) (hf : U.Fok zs zs.length) (h : ∀ j p, j < z3.length → (U.pl z3)[j]? = some p → U.reach (U.pl z3) (z3.length + 1) p.1 = true) : T.fromOk zs = true := by
  have hl : z3.length = (U.lay zs).length := by
    have := congrArg List.length hz
    rwa [U.pl_len, U.pl_len] at this
  rw [U.from_iff hwf, hf.all.1, hf.all.2.1, hf.all.2.2, ← hz, ← hl]
  refine List.all_eq_true.2 (fun p hp => ?_)
  obtain ⟨j, hj, e⟩ := List.getElem_of_mem hp
  exact h j p (by rw [U.pl_len] at hj; exact hj) (by rw [List.getElem?_eq_getElem hj, e])
theorem U.Dt.recolour {c : Nat → Option U.Col} {w w3 w4 : World} {r : Nat} {ra a3 : Option Addr} {rc cp3 : Nat} {zl z3 : List T.Tn} (h : U.Dt c w r ra rc zl none 0 []) (hx : T.Lx w.heap.size w3 a3 cp3 z3) (hf : Fr (fun _ => False) w w3) (f4 : Fr (fun i => i = r) w3 w4)
    (hbox : w4.heap[r]? = some (.cells #[.slice a3 z3.length cp3, .slice none 0 0] 86 (0, 0))) : U.Dt (fun i => if i = r then some .tree else if blk a3 = some i then some .nodes else if w.heap.size ≤ i ∧ i < w3.heap.size then some .attr else none) w4 r a3 cp3 z3 none 0 [] := by
  have hr : r < w.heap.size := lt_of_row h.box
  have s4 := f4.size
  refine ⟨hbox, ⟨hx.row.kept f4 (fun i hi e => by have := hx.new i hi; omega), fun z hz => ((hx.el z hz).kept f4 (fun i hi e => by have := hi.1; omega)).mono (fun i hi => ?_)⟩, Ro.nil _ _ _, fun j x hx => by simp at hx, if_pos rfl, fun g hg => ?_, by simp [blk], fun i hi => ?_⟩
  · obtain ⟨h1, h2, h3⟩ := hi
    simp only [if_neg (show ¬ i = r by omega), if_neg h3, if_pos (And.intro h1 h2)]
  · have := hx.new g hg
    simp only [if_neg (show ¬ g = r by omega), if_pos hg]
  · by_cases e1 : i = r
    · have := hf.size; omega
    · by_cases e2 : blk a3 = some i
      · have := hx.row.lt i e2; omega
      · by_cases e3 : w.heap.size ≤ i ∧ i < w3.heap.size
        · omega
        · simp only [if_neg e1, if_neg e2, if_neg e3] at hi
          exact absurd rfl hi
theorem U.layd_mem : ∀ (zs l : List T.Tn) {z : T.Tn}, z ∈ U.layd l zs → z ∈ zs ∨ z ∈ l
  | [], l, z, h => .inr h
  | y :: r, l, z, h => by
    rcases U.layd_mem r (U.put y l) h with h1 | h1
    · exact .inl (List.mem_cons_of_mem _ h1)
    · rcases U.mem_put h1 with rfl | h2
      · exact .inl List.mem_cons_self
      · exact .inr h2
set_option maxHeartbeats 8000000 in
theorem ufrom_any {w : World} {zs : List T.Tn} {I : Nat → Prop} {ra : Option Addr} {rc : Nat} (hR : T.Nr I w ra zs) (hI : ∀ i, I i → i < w.heap.size) (hwf : ∀ z ∈ zs, z.1.1 ≤ 9223372036854775807) (hats : ∀ z ∈ zs, z.1.2.ats.length ≤ 5000000000000) (hlen : zs.length ≤ 3700000000000) :
    Calls Tryz.prog 16 #[.slice ra zs.length rc] w fun e w' => Fr (fun _ => False) w w' ∧ ((T.fromOk zs = false ∧ e = .returned (.tuple #[.pointer none, .bool false])) ∨ (T.fromOk zs = true ∧ ∃ r c ra' rc' zs', e = .returned (.tuple #[ptr r, .bool true]) ∧ U.Dt c w' r ra' rc' zs' none 0 [] ∧ U.pl zs' = T.tree zs ∧ (∀ i, c i ≠ none → w.heap.size ≤ i))) := by
  have KN := hid (unew_any w)
  have HR := hid hR
  have HI := hid hI
  have HWF := hid hwf
  have HATS := hid hats
  obtain ⟨n, hn⟩ : ∃ n, zs.length = n := ⟨_, rfl⟩
  have HN := hid hn
  rw [hn] at hlen ⊢
  clear hR hI hwf hats hn
  go_enter Tryz.func16, Tryz.ntmps16
  go_wp2_with fail
  refine KN.out.mono ?_
  rintro e w1 ⟨r, ra0, rc0, c0, rfl, h1, hc1, hf1⟩
  have D1 := hid (show U.Dt (U.within I c0) w1 r ra0 rc0 U.zero none 0 [] from h1.ext (fun i col e => by
    by_cases hi : I i
    · have := HI.out i hi; have := hc1 i (by rw [e]; simp); omega
    · rw [U.within_out hi, e]) (fun i hi => by
    by_cases hq : I i
    · have := HI.out i hq; have := hf1.size; omega
    · rw [U.within_out hq] at hi; exact h1.lo i hi))
  have C1 := hid (show ∀ i, U.within I c0 i ≠ none → I i ∨ w.heap.size ≤ i from fun i hi => by
    by_cases hq : I i
    · exact .inl hq
    · rw [U.within_out hq] at hi; exact .inr (hc1 i hi))
  have F1 := hid hf1
  clear h1 hc1 hf1
  dsimp only
  go_wp2_with fail
  go_loopw [5] (fun i wr => ∃ k : Nat, i = .int .i64 k ∧ Hid (k ≤ n ∧ U.Fok zs k ∧ ∃ c ra1 rc1, U.Dt c wr r ra1 rc1 (U.lay (zs.take k)) none 0 [] ∧ (∀ i, I i → c i = some .attr) ∧ (∀ i, c i ≠ none → I i ∨ w.heap.size ≤ i) ∧ Fr (fun _ => False) w wr))
    (fun i _ => (n - intOf i).toNat)
  case atStart => exact ⟨0, rfl, hid ⟨Nat.zero_le _, ⟨fun j z hj => by omega, fun j z hj => by omega, fun j a b hj => by omega⟩, _, ra0, rc0, D1.out, fun i hi => U.within_in hi, C1.out, F1.out⟩⟩
  case round =>
    obtain ⟨k, rfl, hall⟩ := hrel
    obtain ⟨hk, hfk, c, ra1, rc1, D, hci, hcn, hfr⟩ := hall.out
    by_cases hlt : k < n
    · obtain ⟨z, hz⟩ : ∃ z, zs[k]? = some z := ⟨_, List.getElem?_eq_getElem (by rw [HN.out]; exact hlt)⟩
      obtain ⟨g, o, rfl, _, a0, a1, a2, a3⟩ := T.flatN_cells (HR.out.1.kept hfr (fun _ _ h => h)) hz
      have hzm := List.mem_of_getElem? hz
      have hel := HR.out.2 z hzm
      have hal3 := HATS.out z hzm
      obtain ⟨⟨zn, ⟨zp, zs2, zat⟩⟩, ⟨za, zc⟩⟩ := z
      simp only at a0 a1 a2 a3 hel hal3
      obtain ⟨al, hal⟩ : ∃ n, zat.length = n := ⟨_, rfl⟩
      have i0 : (0 : Int) ≤ (k : Int) := by omega
      have i1 : (k : Int) < (n : Int) := by omega
      obtain ⟨V8, hV8⟩ : ∃ V, wr.alloc (.cells #[.int .i64 zn, .int .i64 zp, .string zs2, .slice za al zc] 63) = V := ⟨_, rfl⟩
      have f8 : Fr (fun _ => False) wr V8 := by rw [← hV8]; exact Fr.alloc (Fr.refl _ _) _
      have x8 : V8.heap[wr.heap.size]? = some (.cells #[.int .i64 zn, .int .i64 zp, .string zs2, .slice za al zc] 63 (0, 0)) := by rw [← hV8]; exact Go.heap_alloc_new wr _
      have FW8 := hid (hfr.trans f8 (fun _ _ h => h))
      have KA := hid (fun (V : World) (hf : Fr (fun _ => False) V8 V) => uattrs_any (rc := zc) (hel.kept (FW8.out.trans hf (fun _ _ h => h)) (fun _ _ h => h)) (by omega))
      rw [hal] at KA a3
      have KM := hid (fun (V : World) => rtname_any zs2 V)
      have HX8 := hid (show ∀ W, Fr (fun _ => False) V8 W → W.cell? ⟨wr.heap.size, 0, none⟩ = some (.int .i64 zn) ∧ W.cell? ⟨wr.heap.size, 1, none⟩ = some (.int .i64 zp) ∧ W.cell? ⟨wr.heap.size, 2, none⟩ = some (.string zs2) ∧ W.cell? ⟨wr.heap.size, 3, none⟩ = some (.slice za al zc) from fun W hf => by
        have := hf.cells x8 (fun h => h)
        exact ⟨cellA (j := 0) this rfl, cellA (j := 1) this rfl, cellA (j := 2) this rfl, cellA (j := 3) this rfl⟩)
      obtain ⟨c0, c1, c2, c3⟩ := HX8.out V8 (Fr.refl _ _)
      have HV8 := hid hV8
      have X8 := hid x8
      have F8 := hid f8
      have DH := hid D
      have HZ := hid hz
      have HAL := hid hal
      have HEL := hid hel
      have HALL := hid (And.intro hk (And.intro hfk (And.intro hci (And.intro hcn hfr))))
      clear hall hk hfk D hci hcn hfr hz hzm hel hal3 hal hV8 f8 x8
      go_upto_region 6 with fail
      clear a0 a1 a2 a3
      rw [HV8.out]
      rename_i Q1 K1 HK1
      have HLL := hid (show (U.lay (zs.take k)).length ≤ 3800000000000 from by have h1 := U.layd_len (zs.take k) U.zero; have h2 : U.zero.length = 2 := rfl; rw [List.length_take] at h1; unfold U.lay; omega)
      have REST : ∀ (tp : Bool) (v24 v25 v26 v27 v28 v29 v30 v31 : Value), tp = decide (zn = 1 ∨ zn = 2) → K1 { tmps := List.toArray ((.slice (some ⟨g, o, none⟩) n rc) :: (undef) :: (u2) :: (u3) :: (ptr r) :: (.int .i64 k) :: (ptr wr.heap.size) :: (.bool tp) :: (undef) :: (undef) :: (undef) :: (undef) :: (undef) :: (ptr r) :: (.int .i64 k) :: (.slice (some ⟨g, o, none⟩) n rc) :: (.int .i64 n) :: (.bool true) :: (u18) :: (u19) :: (.slice (some ⟨g, o, none⟩) n rc) :: (.int .i64 k) :: (.pointer (some ⟨g, o + k * 4, none⟩)) :: (.agg #[.int .i64 zn, .int .i64 zp, .string zs2, .slice za al zc]) :: (v24) :: (v25) :: (v26) :: (v27) :: (v28) :: (v29) :: (v30) :: (v31) :: (u32) :: (u33) :: (u34) :: (u35) :: (u36) :: (u37) :: (u38) :: (u39) :: (u40) :: (u41) :: (u42) :: (u43) :: (u44) :: (u45) :: (u46) :: (u47) :: (u48) :: (u49) :: (u50) :: (u51) :: (u52) :: (u53) :: (u54) :: (u55) :: (u56) :: (u57) :: (u58) :: (u59) :: (u60) :: (u61) :: (u62) :: (u63) :: (u64) :: (u65) :: (u66) :: (u67) :: (u68) :: (u69) :: (u70) :: (u71) :: (u72) :: (u73) :: (u74) :: (u75) :: (u76) :: (u77) :: (u78) :: (u79) :: (u80) :: (u81) :: (undef) :: (undef) :: (undef) :: (undef) :: (undef) :: (undef) :: (undef) :: (undef) :: (undef) :: (undef) :: (undef) :: (undef) :: (undef) :: (undef) :: (undef) :: (undef) :: (undef) :: (undef) :: (undef) :: (undef) :: (undef) :: (undef) :: (undef) :: (undef) :: (undef) :: (undef) :: (undef) :: (undef) :: (undef) :: (undef) :: (undef) :: (undef) :: (undef) :: (undef) :: (undef) :: (undef) :: (undef) :: (undef) :: (undef) :: (undef) :: (undef) :: (undef) :: (undef) :: (undef) :: (undef) :: (undef) :: (undef) :: (undef) :: (undef) :: (undef) :: (undef) :: (undef) :: (undef) :: (undef) :: (undef) :: (undef) :: (undef) :: (undef) :: (undef) :: []), defers := [] } V8 := by
        intro tp v24 v25 v26 v27 v28 v29 v30 v31 htp
        refine HK1 _ _ ?_
        clear HK1 c0 c1 c2 c3
        rcases Nat.eq_zero_or_pos k with hk0 | hk0
        · have e2 : decide ((0 : Int) < (k : Int)) = false := decide_eq_false (by omega)
          have HS := hid (show ∀ W, Fr (fun _ => False) V8 W → W.cell? ⟨wr.heap.size, 0, none⟩ = some (.int .i64 zn) ∧ W.cell? ⟨wr.heap.size, 1, none⟩ = some (.int .i64 zp) ∧ W.cell? ⟨wr.heap.size, 2, none⟩ = some (.string zs2) ∧ W.cell? ⟨wr.heap.size, 3, none⟩ = some (.slice za al zc) from fun W hf => HX8.out W hf)
          clear HX8
          by_cases hn1 : zn < 1
          · obtain rfl : tp = false := by rw [htp]; exact decide_eq_false (by omega)
            have e1 : decide (zn < 1) = true := decide_eq_true hn1
            clear htp
            have HB := hid (show T.fromOk zs = false from by
              cases hq : T.fromOk zs with
              | false => rfl
              | true =>
                have hfo := U.fok_of HWF.out hq
                have hz := hfo.gok k _ (by rw [HN.out]; omega) HZ.out
                unfold T.gok at hz
                rw [decide_eq_false (show ¬ 1 ≤ zn by omega)] at hz
                cases hz)
            clear HALL HZ DH HEL
            go_wp2_with fail
            have hmx : Tryz.prog.follows .mixedOrders = true := by kernel_rfl
            refine wp_region_held (S := fun V => Fr (fun _ => False) V8 V) hmx ?_
            have hS := (Fr.drew (Fr.refl (fun _ => False) V8))
            simp only [List.size_toArray, List.length_cons, List.length_nil, Nat.reduceAdd, Array.replicate_succ, Array.replicate_zero, List.push_toArray, List.nil_append, List.cons_append]
            refine tk (i := 0) (d := some 32) (v := ?_) rfl (Or.inl ⟨by kernel_rfl, ?_⟩) hS ?_; rotate_left 1; (intro w' hS'; clear hS'; go_simp; try with_reducible rfl); simp only [Act.put, q1, q2, q3]
            refine tk (i := 1) (d := some 33) (v := ?_) rfl (Or.inl ⟨by kernel_rfl, ?_⟩) hS ?_; rotate_left 1; (intro w' hS'; have h1 := (HS.out w' hS').1; clear hS'; go_simp; try with_reducible rfl); simp only [Act.put, q1, q2, q3]
            refine tk (i := 2) (d := some 34) (v := ?_) rfl (Or.inl ⟨by kernel_rfl, ?_⟩) hS ?_; rotate_left 1; (intro w' hS'; clear hS'; go_simp; try with_reducible rfl); simp only [Act.put, q1, q2, q3]
            refine tk (i := 3) (d := some 35) (v := ?_) rfl (Or.inl ⟨by kernel_rfl, ?_⟩) hS ?_; rotate_left 1; (intro w' hS'; clear hS'; go_simp; try with_reducible rfl); simp only [Act.put, q1, q2, q3]
            refine tks (i := 4) (d := some 36) rfl hS ?_; simp only [Act.put, q1, q2, q3]
            refine tks (i := 5) (d := some 37) rfl hS ?_; simp only [Act.put, q1, q2, q3]
            refine tks (i := 6) (d := some 38) rfl hS ?_; simp only [Act.put, q1, q2, q3]
            refine tks (i := 7) (d := some 39) rfl hS ?_; simp only [Act.put, q1, q2, q3]
            refine tks (i := 8) (d := some 40) rfl hS ?_; simp only [Act.put, q1, q2, q3]
            refine tks (i := 9) (d := some 41) rfl hS ?_; simp only [Act.put, q1, q2, q3]
            refine tks (i := 10) (d := some 42) rfl hS ?_; simp only [Act.put, q1, q2, q3]
            refine tks (i := 11) (d := some 43) rfl hS ?_; simp only [Act.put, q1, q2, q3]
            refine tks (i := 12) (d := some 44) rfl hS ?_; simp only [Act.put, q1, q2, q3]
            refine tks (i := 13) (d := some 45) rfl hS ?_; simp only [Act.put, q1, q2, q3]
            refine tks (i := 14) (d := some 46) rfl hS ?_; simp only [Act.put, q1, q2, q3]
            refine tks (i := 15) (d := some 47) rfl hS ?_; simp only [Act.put, q1, q2, q3]
            refine tks (i := 16) (d := some 48) rfl hS ?_; simp only [Act.put, q1, q2, q3]
            refine tk (i := 17) (d := some 49) (v := ?_) rfl (Or.inl ⟨by kernel_rfl, ?_⟩) hS ?_; rotate_left 1; (intro w' hS'; clear hS'; go_simp; try with_reducible rfl); simp only [Act.put, q1, q2, q3]
            refine tk (i := 18) (d := some 50) (v := ?_) rfl (Or.inl ⟨by kernel_rfl, ?_⟩) hS ?_; rotate_left 1; (intro w' hS'; clear hS'; go_simp; try with_reducible rfl); simp only [Act.put, q1, q2, q3]
            refine tks (i := 19) (d := some 51) rfl hS ?_; simp only [Act.put, q1, q2, q3]
            refine tks (i := 20) (d := some 52) rfl hS ?_; simp only [Act.put, q1, q2, q3]
            refine tks (i := 21) (d := some 53) rfl hS ?_; simp only [Act.put, q1, q2, q3]
            refine tks (i := 22) (d := some 54) rfl hS ?_; simp only [Act.put, q1, q2, q3]
            refine tk (i := 23) (d := some 55) (v := ?_) rfl (Or.inl ⟨by kernel_rfl, ?_⟩) hS ?_; rotate_left 1; (intro w' hS'; clear hS'; go_simp; try with_reducible rfl); simp only [Act.put, q1, q2, q3]
            refine tk (i := 24) (d := some 56) (v := ?_) rfl (Or.inl ⟨by kernel_rfl, ?_⟩) hS ?_; rotate_left 1; (intro w' hS'; clear hS'; go_simp; try with_reducible rfl); simp only [Act.put, q1, q2, q3]
            refine tks (i := 25) (d := some 57) rfl hS ?_; simp only [Act.put, q1, q2, q3]
            refine tks (i := 26) (d := some 58) rfl hS ?_; simp only [Act.put, q1, q2, q3]
            refine tks (i := 27) (d := some 59) rfl hS ?_; simp only [Act.put, q1, q2, q3]
            refine tks (i := 28) (d := some 60) rfl hS ?_; simp only [Act.put, q1, q2, q3]
            refine tks (i := 29) (d := some 61) rfl hS ?_; simp only [Act.put, q1, q2, q3]
            refine tks (i := 30) (d := some 62) rfl hS ?_; simp only [Act.put, q1, q2, q3]
            refine tks (i := 31) (d := some 63) rfl hS ?_; simp only [Act.put, q1, q2, q3]
            refine tks (i := 32) (d := some 64) rfl hS ?_; simp only [Act.put, q1, q2, q3]
            refine tks (i := 33) (d := some 65) rfl hS ?_; simp only [Act.put, q1, q2, q3]
            refine tks (i := 34) (d := some 66) rfl hS ?_; simp only [Act.put, q1, q2, q3]
            refine tks (i := 35) (d := some 67) rfl hS ?_; simp only [Act.put, q1, q2, q3]
            refine tk (i := 36) (d := some 68) (v := ?_) rfl (Or.inl ⟨by kernel_rfl, ?_⟩) hS ?_; rotate_left 1; (intro w' hS'; clear hS'; go_simp; try with_reducible rfl); simp only [Act.put, q1, q2, q3]
            refine tk (i := 37) (d := some 69) (v := ?_) rfl (Or.inl ⟨by kernel_rfl, ?_⟩) hS ?_; rotate_left 1; (intro w' hS'; clear hS'; go_simp; try with_reducible rfl); simp only [Act.put, q1, q2, q3]
            refine tks (i := 38) (d := some 70) rfl hS ?_; simp only [Act.put, q1, q2, q3]
            refine tks (i := 39) (d := some 71) rfl hS ?_; simp only [Act.put, q1, q2, q3]
            refine tks (i := 40) (d := some 72) rfl hS ?_; simp only [Act.put, q1, q2, q3]
            refine tks (i := 41) (d := some 73) rfl hS ?_; simp only [Act.put, q1, q2, q3]
            refine tks (i := 42) (d := some 74) rfl hS ?_; simp only [Act.put, q1, q2, q3]
            refine tks (i := 43) (d := some 75) rfl hS ?_; simp only [Act.put, q1, q2, q3]
            refine tks (i := 44) (d := some 76) rfl hS ?_; simp only [Act.put, q1, q2, q3]
            refine tks (i := 45) (d := some 77) rfl hS ?_; simp only [Act.put, q1, q2, q3]
            refine tk (i := 46) (d := some 78) (v := ?_) rfl (Or.inl ⟨by kernel_rfl, ?_⟩) hS ?_; rotate_left 1; (intro w' hS'; clear hS'; go_simp; try with_reducible rfl); simp only [Act.put, q1, q2, q3]
            refine wpAnyH_done (by kernel_rfl) ?_ _
            have FZ := hid hS
            clear hS
            go_wp2_with fail
            go_ret2
            exact ⟨(FW8.out.trans FZ.out (fun _ _ h => h)), .inl ⟨HB.out, rfl⟩⟩
          · have e1 : decide (zn < 1) = false := decide_eq_false hn1
            cases tp with
            | true =>
              have htop := of_decide_eq_true htp.symm
              clear htp
              cases hat : (T.txts zat && T.asc (fun a b => T.blt a.1 b.1) zat) with
              | false =>
                rw [hat] at KA
                have HB := hid (show T.fromOk zs = false from by
                  cases hq : T.fromOk zs with
                  | false => rfl
                  | true =>
                    have hfo := U.fok_of HWF.out hq
                    have hz := hfo.gok k _ (by rw [HN.out]; omega) HZ.out
                    unfold T.gok at hz
                    rw [hat, Bool.and_false] at hz
                    cases hz)
                clear HALL HZ DH HEL
                go_wp2_with fail
                have hmx : Tryz.prog.follows .mixedOrders = true := by kernel_rfl
                refine wp_region_held (S := fun V => Fr (fun _ => False) V8 V) hmx ?_
                have hS := (Fr.drew (Fr.refl (fun _ => False) V8))
                simp only [List.size_toArray, List.length_cons, List.length_nil, Nat.reduceAdd, Array.replicate_succ, Array.replicate_zero, List.push_toArray, List.nil_append, List.cons_append]
                refine tk (i := 0) (d := some 32) (v := ?_) rfl (Or.inl ⟨by kernel_rfl, ?_⟩) hS ?_; rotate_left 1; (intro w' hS'; clear hS'; go_simp; try with_reducible rfl); simp only [Act.put, q1, q2, q3]
                refine tk (i := 1) (d := some 33) (v := ?_) rfl (Or.inl ⟨by kernel_rfl, ?_⟩) hS ?_; rotate_left 1; (intro w' hS'; have h1 := (HS.out w' hS').1; clear hS'; go_simp; try with_reducible rfl); simp only [Act.put, q1, q2, q3]
                refine tk (i := 2) (d := some 34) (v := ?_) rfl (Or.inl ⟨by kernel_rfl, ?_⟩) hS ?_; rotate_left 1; (intro w' hS'; clear hS'; go_simp; try with_reducible rfl); simp only [Act.put, q1, q2, q3]
                refine tk (i := 3) (d := some 35) (v := ?_) rfl (Or.inl ⟨by kernel_rfl, ?_⟩) hS ?_; rotate_left 1; (intro w' hS'; clear hS'; go_simp; try with_reducible rfl); simp only [Act.put, q1, q2, q3]
                refine tk (i := 4) (d := some 36) (v := ?_) rfl (Or.inl ⟨by kernel_rfl, ?_⟩) hS ?_; rotate_left 1; (intro w' hS'; clear hS'; go_simp; try with_reducible rfl); simp only [Act.put, q1, q2, q3]
                refine tk (i := 5) (d := some 37) (v := ?_) rfl (Or.inl ⟨by kernel_rfl, ?_⟩) hS ?_; rotate_left 1; (intro w' hS'; clear hS'; go_simp; try with_reducible rfl); simp only [Act.put, q1, q2, q3]
                refine tk (i := 6) (d := some 38) (v := ?_) rfl (Or.inl ⟨by kernel_rfl, ?_⟩) hS ?_; rotate_left 1; (intro w' hS'; clear hS'; go_simp; try with_reducible rfl); simp only [Act.put, q1, q2, q3]
                refine tks (i := 7) (d := some 39) rfl hS ?_; simp only [Act.put, q1, q2, q3]
                refine tks (i := 8) (d := some 40) rfl hS ?_; simp only [Act.put, q1, q2, q3]
                refine tks (i := 9) (d := some 41) rfl hS ?_; simp only [Act.put, q1, q2, q3]
                refine tks (i := 10) (d := some 42) rfl hS ?_; simp only [Act.put, q1, q2, q3]
                refine tks (i := 11) (d := some 43) rfl hS ?_; simp only [Act.put, q1, q2, q3]
                refine tks (i := 12) (d := some 44) rfl hS ?_; simp only [Act.put, q1, q2, q3]
                refine tks (i := 13) (d := some 45) rfl hS ?_; simp only [Act.put, q1, q2, q3]
                refine tks (i := 14) (d := some 46) rfl hS ?_; simp only [Act.put, q1, q2, q3]
                refine tks (i := 15) (d := some 47) rfl hS ?_; simp only [Act.put, q1, q2, q3]
                refine tk (i := 16) (d := some 48) (v := ?_) rfl (Or.inl ⟨by kernel_rfl, ?_⟩) hS ?_; rotate_left 1; (intro w' hS'; clear hS'; go_simp; try with_reducible rfl); simp only [Act.put, q1, q2, q3]
                refine tk (i := 17) (d := some 49) (v := ?_) rfl (Or.inl ⟨by kernel_rfl, ?_⟩) hS ?_; rotate_left 1; (intro w' hS'; clear hS'; go_simp; try with_reducible rfl); simp only [Act.put, q1, q2, q3]
                refine tk (i := 18) (d := some 50) (v := ?_) rfl (Or.inl ⟨by kernel_rfl, ?_⟩) hS ?_; rotate_left 1; (intro w' hS'; clear hS'; go_simp; try with_reducible rfl); simp only [Act.put, q1, q2, q3]
                refine tk (i := 19) (d := some 51) (v := ?_) rfl (Or.inl ⟨by kernel_rfl, ?_⟩) hS ?_; rotate_left 1; (intro w' hS'; clear hS'; go_simp; try with_reducible rfl); simp only [Act.put, q1, q2, q3]
                refine tk (i := 20) (d := some 52) (v := ?_) rfl (Or.inl ⟨by kernel_rfl, ?_⟩) hS ?_; rotate_left 1; (intro w' hS'; have h1 := (HS.out w' hS').2.2.2; clear hS'; go_simp; try with_reducible rfl); simp only [Act.put, q1, q2, q3]
                refine wpAnyH_ready (rs := [21]) (by kernel_rfl) (by simp) ?_
                refine AllReadyH.cons rfl (fun K1 hK1 => ?_) (AllReadyH.nil)
                go_simp
                refine (KA.out _ hS).mono ?_
                rintro e w3 ⟨rfl, fx⟩
                refine hK1.out _ _ (hS.trans fx (fun _ _ h => h)) (fun hS => ?_)
                clear fx
                clear hK1 K1
                simp only [List.getElem_toArray, List.getElem_cons_zero, List.getElem_cons_succ, Act.put, List.setIfInBounds_toArray, List.set_cons_zero, List.set_cons_succ]
                refine tk (i := 22) (d := some 54) (v := ?_) rfl (Or.inl ⟨by kernel_rfl, ?_⟩) hS ?_; rotate_left 1; (intro w' hS'; clear hS'; go_simp; try with_reducible rfl); simp only [Act.put, q1, q2, q3]
                refine tk (i := 23) (d := some 55) (v := ?_) rfl (Or.inl ⟨by kernel_rfl, ?_⟩) hS ?_; rotate_left 1; (intro w' hS'; clear hS'; go_simp; try with_reducible rfl); simp only [Act.put, q1, q2, q3]
                refine tk (i := 24) (d := some 56) (v := ?_) rfl (Or.inl ⟨by kernel_rfl, ?_⟩) hS ?_; rotate_left 1; (intro w' hS'; clear hS'; go_simp; try with_reducible rfl); simp only [Act.put, q1, q2, q3]
                refine tks (i := 25) (d := some 57) rfl hS ?_; simp only [Act.put, q1, q2, q3]
                refine tks (i := 26) (d := some 58) rfl hS ?_; simp only [Act.put, q1, q2, q3]
                refine tks (i := 27) (d := some 59) rfl hS ?_; simp only [Act.put, q1, q2, q3]
                refine tks (i := 28) (d := some 60) rfl hS ?_; simp only [Act.put, q1, q2, q3]
                refine tks (i := 29) (d := some 61) rfl hS ?_; simp only [Act.put, q1, q2, q3]
                refine tks (i := 30) (d := some 62) rfl hS ?_; simp only [Act.put, q1, q2, q3]
                refine tks (i := 31) (d := some 63) rfl hS ?_; simp only [Act.put, q1, q2, q3]
                refine tks (i := 32) (d := some 64) rfl hS ?_; simp only [Act.put, q1, q2, q3]
                refine tks (i := 33) (d := some 65) rfl hS ?_; simp only [Act.put, q1, q2, q3]
                refine tks (i := 34) (d := some 66) rfl hS ?_; simp only [Act.put, q1, q2, q3]
                refine tks (i := 35) (d := some 67) rfl hS ?_; simp only [Act.put, q1, q2, q3]
                refine tk (i := 36) (d := some 68) (v := ?_) rfl (Or.inl ⟨by kernel_rfl, ?_⟩) hS ?_; rotate_left 1; (intro w' hS'; clear hS'; go_simp; try with_reducible rfl); simp only [Act.put, q1, q2, q3]
                refine tk (i := 37) (d := some 69) (v := ?_) rfl (Or.inl ⟨by kernel_rfl, ?_⟩) hS ?_; rotate_left 1; (intro w' hS'; clear hS'; go_simp; try with_reducible rfl); simp only [Act.put, q1, q2, q3]
                refine tks (i := 38) (d := some 70) rfl hS ?_; simp only [Act.put, q1, q2, q3]
                refine tks (i := 39) (d := some 71) rfl hS ?_; simp only [Act.put, q1, q2, q3]
                refine tks (i := 40) (d := some 72) rfl hS ?_; simp only [Act.put, q1, q2, q3]
                refine tks (i := 41) (d := some 73) rfl hS ?_; simp only [Act.put, q1, q2, q3]
                refine tks (i := 42) (d := some 74) rfl hS ?_; simp only [Act.put, q1, q2, q3]
                refine tks (i := 43) (d := some 75) rfl hS ?_; simp only [Act.put, q1, q2, q3]
                refine tks (i := 44) (d := some 76) rfl hS ?_; simp only [Act.put, q1, q2, q3]
                refine tks (i := 45) (d := some 77) rfl hS ?_; simp only [Act.put, q1, q2, q3]
                refine tk (i := 46) (d := some 78) (v := ?_) rfl (Or.inl ⟨by kernel_rfl, ?_⟩) hS ?_; rotate_left 1; (intro w' hS'; clear hS'; go_simp; try with_reducible rfl); simp only [Act.put, q1, q2, q3]
                refine wpAnyH_done (by kernel_rfl) ?_ _
                have FZ := hid hS
                clear hS
                go_wp2_with fail
                go_ret2
                exact ⟨(FW8.out.trans FZ.out (fun _ _ h => h)), .inl ⟨HB.out, rfl⟩⟩
              | true =>
                rw [hat] at KA
                by_cases hzp : zp = 0
                · have HZP := hid hzp
                  cases hnm : zs2.toList.isEmpty with
                  | true =>
                    have HFK := hid (U.fok_step HN.out HZ.out HALL.out.2.1 (.inl hk0) (by unfold T.gok; rw [hat, decide_eq_true (show 1 ≤ zn by omega)]; rfl) (by unfold U.tokn; rw [if_pos (show zn ≤ 2 by omega)]; exact decide_eq_true ⟨hzp, U.empty_of hnm⟩))
                    clear hzp
                    have KP := hid (fun (V : World) (hf : Fr (fun _ => False) V8 V) => uput_any (DH.out.kept (F8.out.trans hf (fun _ _ h => h)) (fun _ _ h => h)) (U.layd_up _ U.zup) HLL.out ((zn, ⟨zp, zs2, zat⟩), (za, zc)) ((HEL.out.kept (FW8.out.trans hf (fun _ _ h => h)) (fun _ _ h => h)).mono (fun i hi => HALL.out.2.2.1 i hi)))
                    dsimp only [T.aggN] at KP
                    rw [HAL.out] at KP
                    go_wp2_with fail
                    have hmx : Tryz.prog.follows .mixedOrders = true := by kernel_rfl
                    refine wp_region_held (S := fun V => Fr (fun _ => False) V8 V) hmx ?_
                    have hS := (Fr.drew (Fr.refl (fun _ => False) V8))
                    simp only [List.size_toArray, List.length_cons, List.length_nil, Nat.reduceAdd, Array.replicate_succ, Array.replicate_zero, List.push_toArray, List.nil_append, List.cons_append]
                    refine tk (i := 0) (d := some 32) (v := ?_) rfl (Or.inl ⟨by kernel_rfl, ?_⟩) hS ?_; rotate_left 1; (intro w' hS'; clear hS'; go_simp; try with_reducible rfl); simp only [Act.put, q1, q2, q3]
                    refine tk (i := 1) (d := some 33) (v := ?_) rfl (Or.inl ⟨by kernel_rfl, ?_⟩) hS ?_; rotate_left 1; (intro w' hS'; have h1 := (HS.out w' hS').1; clear hS'; go_simp; try with_reducible rfl); simp only [Act.put, q1, q2, q3]
                    refine tk (i := 2) (d := some 34) (v := ?_) rfl (Or.inl ⟨by kernel_rfl, ?_⟩) hS ?_; rotate_left 1; (intro w' hS'; clear hS'; go_simp; try with_reducible rfl); simp only [Act.put, q1, q2, q3]
                    refine tk (i := 3) (d := some 35) (v := ?_) rfl (Or.inl ⟨by kernel_rfl, ?_⟩) hS ?_; rotate_left 1; (intro w' hS'; clear hS'; go_simp; try with_reducible rfl); simp only [Act.put, q1, q2, q3]
                    refine tk (i := 4) (d := some 36) (v := ?_) rfl (Or.inl ⟨by kernel_rfl, ?_⟩) hS ?_; rotate_left 1; (intro w' hS'; clear hS'; go_simp; try with_reducible rfl); simp only [Act.put, q1, q2, q3]
                    refine tk (i := 5) (d := some 37) (v := ?_) rfl (Or.inl ⟨by kernel_rfl, ?_⟩) hS ?_; rotate_left 1; (intro w' hS'; clear hS'; go_simp; try with_reducible rfl); simp only [Act.put, q1, q2, q3]
                    refine tk (i := 6) (d := some 38) (v := ?_) rfl (Or.inl ⟨by kernel_rfl, ?_⟩) hS ?_; rotate_left 1; (intro w' hS'; clear hS'; go_simp; try with_reducible rfl); simp only [Act.put, q1, q2, q3]
                    refine tks (i := 7) (d := some 39) rfl hS ?_; simp only [Act.put, q1, q2, q3]
                    refine tks (i := 8) (d := some 40) rfl hS ?_; simp only [Act.put, q1, q2, q3]
                    refine tks (i := 9) (d := some 41) rfl hS ?_; simp only [Act.put, q1, q2, q3]
                    refine tks (i := 10) (d := some 42) rfl hS ?_; simp only [Act.put, q1, q2, q3]
                    refine tks (i := 11) (d := some 43) rfl hS ?_; simp only [Act.put, q1, q2, q3]
                    refine tks (i := 12) (d := some 44) rfl hS ?_; simp only [Act.put, q1, q2, q3]
                    refine tks (i := 13) (d := some 45) rfl hS ?_; simp only [Act.put, q1, q2, q3]
                    refine tks (i := 14) (d := some 46) rfl hS ?_; simp only [Act.put, q1, q2, q3]
                    refine tks (i := 15) (d := some 47) rfl hS ?_; simp only [Act.put, q1, q2, q3]
                    refine tk (i := 16) (d := some 48) (v := ?_) rfl (Or.inl ⟨by kernel_rfl, ?_⟩) hS ?_; rotate_left 1; (intro w' hS'; clear hS'; go_simp; try with_reducible rfl); simp only [Act.put, q1, q2, q3]
                    refine tk (i := 17) (d := some 49) (v := ?_) rfl (Or.inl ⟨by kernel_rfl, ?_⟩) hS ?_; rotate_left 1; (intro w' hS'; clear hS'; go_simp; try with_reducible rfl); simp only [Act.put, q1, q2, q3]
                    refine tk (i := 18) (d := some 50) (v := ?_) rfl (Or.inl ⟨by kernel_rfl, ?_⟩) hS ?_; rotate_left 1; (intro w' hS'; clear hS'; go_simp; try with_reducible rfl); simp only [Act.put, q1, q2, q3]
                    refine tk (i := 19) (d := some 51) (v := ?_) rfl (Or.inl ⟨by kernel_rfl, ?_⟩) hS ?_; rotate_left 1; (intro w' hS'; clear hS'; go_simp; try with_reducible rfl); simp only [Act.put, q1, q2, q3]
                    refine tk (i := 20) (d := some 52) (v := ?_) rfl (Or.inl ⟨by kernel_rfl, ?_⟩) hS ?_; rotate_left 1; (intro w' hS'; have h1 := (HS.out w' hS').2.2.2; clear hS'; go_simp; try with_reducible rfl); simp only [Act.put, q1, q2, q3]
                    refine wpAnyH_ready (rs := [21]) (by kernel_rfl) (by simp) ?_
                    refine AllReadyH.cons rfl (fun K1 hK1 => ?_) (AllReadyH.nil)
                    go_simp
                    refine (KA.out _ hS).mono ?_
                    rintro e w3 ⟨rfl, fx⟩
                    refine hK1.out _ _ (hS.trans fx (fun _ _ h => h)) (fun hS => ?_)
                    clear fx
                    clear hK1 K1
                    simp only [List.getElem_toArray, List.getElem_cons_zero, List.getElem_cons_succ, Act.put, List.setIfInBounds_toArray, List.set_cons_zero, List.set_cons_succ]
                    refine tk (i := 22) (d := some 54) (v := ?_) rfl (Or.inl ⟨by kernel_rfl, ?_⟩) hS ?_; rotate_left 1; (intro w' hS'; clear hS'; go_simp; try with_reducible rfl); simp only [Act.put, q1, q2, q3]
                    refine tk (i := 23) (d := some 55) (v := ?_) rfl (Or.inl ⟨by kernel_rfl, ?_⟩) hS ?_; rotate_left 1; (intro w' hS'; clear hS'; go_simp; try with_reducible rfl); simp only [Act.put, q1, q2, q3]
                    refine tk (i := 24) (d := some 56) (v := ?_) rfl (Or.inl ⟨by kernel_rfl, ?_⟩) hS ?_; rotate_left 1; (intro w' hS'; clear hS'; go_simp; try with_reducible rfl); simp only [Act.put, q1, q2, q3]
                    refine tk (i := 25) (d := some 57) (v := ?_) rfl (Or.inl ⟨by kernel_rfl, ?_⟩) hS ?_; rotate_left 1; (intro w' hS'; clear hS'; go_simp; try with_reducible rfl); simp only [Act.put, q1, q2, q3]
                    refine tk (i := 26) (d := some 58) (v := ?_) rfl (Or.inl ⟨by kernel_rfl, ?_⟩) hS ?_; rotate_left 1; (intro w' hS'; clear hS'; go_simp; try with_reducible rfl); simp only [Act.put, q1, q2, q3]
                    refine tk (i := 27) (d := some 59) (v := ?_) rfl (Or.inl ⟨by kernel_rfl, ?_⟩) hS ?_; rotate_left 1; (intro w' hS'; clear hS'; go_simp; try with_reducible rfl); simp only [Act.put, q1, q2, q3]
                    refine tk (i := 28) (d := some 60) (v := ?_) rfl (Or.inl ⟨by kernel_rfl, ?_⟩) hS ?_; rotate_left 1; (intro w' hS'; have h1 := (HS.out w' hS').2.1; clear hS'; go_simp; try with_reducible rfl); simp only [Act.put, q1, q2, q3]
                    refine tk (i := 29) (d := some 61) (v := .bool false) rfl (Or.inl ⟨by kernel_rfl, fun w' hS' => by have hz0 := HZP.out; clear hS'; go_simp; try simp [hz0]⟩) hS ?_; simp only [Act.put, q1, q2, q3]
                    refine tk (i := 30) (d := some 62) (v := ?_) rfl (Or.inl ⟨by kernel_rfl, ?_⟩) hS ?_; rotate_left 1; (intro w' hS'; clear hS'; go_simp; try with_reducible rfl); simp only [Act.put, q1, q2, q3]
                    refine tk (i := 31) (d := some 63) (v := ?_) rfl (Or.inl ⟨by kernel_rfl, ?_⟩) hS ?_; rotate_left 1; (intro w' hS'; clear hS'; go_simp; try with_reducible rfl); simp only [Act.put, q1, q2, q3]
                    refine tk (i := 32) (d := some 64) (v := ?_) rfl (Or.inl ⟨by kernel_rfl, ?_⟩) hS ?_; rotate_left 1; (intro w' hS'; have h1 := (HS.out w' hS').2.2.1; clear hS'; go_simp; try with_reducible rfl); simp only [Act.put, q1, q2, q3]
                    refine tk (i := 33) (d := some 65) (v := ?_) rfl (Or.inl ⟨by kernel_rfl, ?_⟩) hS ?_; rotate_left 1; (intro w' hS'; clear hS'; go_simp; try with_reducible rfl); simp only [Act.put, q1, q2, q3]
                    refine tk (i := 34) (d := some 66) (v := ?_) rfl (Or.inl ⟨by kernel_rfl, ?_⟩) hS ?_; rotate_left 1; (intro w' hS'; clear hS'; go_simp; try with_reducible rfl); simp only [Act.put, q1, q2, q3]
                    refine tk (i := 35) (d := some 67) (v := ?_) rfl (Or.inl ⟨by kernel_rfl, ?_⟩) hS ?_; rotate_left 1; (intro w' hS'; clear hS'; go_simp; try with_reducible rfl); simp only [Act.put, q1, q2, q3]
                    refine tk (i := 36) (d := some 68) (v := ?_) rfl (Or.inl ⟨by kernel_rfl, ?_⟩) hS ?_; rotate_left 1; (intro w' hS'; clear hS'; go_simp; try with_reducible rfl); simp only [Act.put, q1, q2, q3]
                    refine tk (i := 37) (d := some 69) (v := ?_) rfl (Or.inl ⟨by kernel_rfl, ?_⟩) hS ?_; rotate_left 1; (intro w' hS'; clear hS'; go_simp; try with_reducible rfl); simp only [Act.put, q1, q2, q3]
                    refine tk (i := 38) (d := some 70) (v := ?_) rfl (Or.inl ⟨by kernel_rfl, ?_⟩) hS ?_; rotate_left 1; (intro w' hS'; clear hS'; go_simp; try with_reducible rfl); simp only [Act.put, q1, q2, q3]
                    refine tk (i := 39) (d := some 71) (v := ?_) rfl (Or.inl ⟨by kernel_rfl, ?_⟩) hS ?_; rotate_left 1; (intro w' hS'; clear hS'; go_simp; try with_reducible rfl); simp only [Act.put, q1, q2, q3]
                    refine tk (i := 40) (d := some 72) (v := ?_) rfl (Or.inl ⟨by kernel_rfl, ?_⟩) hS ?_; rotate_left 1; (intro w' hS'; clear hS'; go_simp; try with_reducible rfl); simp only [Act.put, q1, q2, q3]
                    refine tks (i := 41) (d := some 73) rfl hS ?_; simp only [Act.put, q1, q2, q3]
                    refine tks (i := 42) (d := some 74) rfl hS ?_; simp only [Act.put, q1, q2, q3]
                    refine tks (i := 43) (d := some 75) rfl hS ?_; simp only [Act.put, q1, q2, q3]
                    refine tks (i := 44) (d := some 76) rfl hS ?_; simp only [Act.put, q1, q2, q3]
                    refine tk (i := 45) (d := some 77) (v := ?_) rfl (Or.inl ⟨by kernel_rfl, ?_⟩) hS ?_; rotate_left 1; (intro w' hS'; clear hS'; go_simp; try with_reducible rfl); simp only [Act.put, q1, q2, q3]
                    refine tk (i := 46) (d := some 78) (v := ?_) rfl (Or.inl ⟨by kernel_rfl, ?_⟩) hS ?_; rotate_left 1; (intro w' hS'; clear hS'; go_simp; try with_reducible rfl); simp only [Act.put, q1, q2, q3]
                    refine wpAnyH_done (by kernel_rfl) ?_ _
                    have FZ := hid hS
                    clear hS
                    obtain ⟨k0, k1, k2, k3⟩ := HS.out _ FZ.out
                    go_wp2_with fail
                    refine (KP.out _ FZ.out).mono ?_
                    rintro e w5 ⟨rfl, c5, ra5, rc5, D5, hm5, hf5⟩
                    have HREL := hid (U.from_step HN.out HZ.out HALL.out.1 HFK.out HI.out HALL.out.2.2.1 HALL.out.2.2.2.1 (FW8.out.trans FZ.out (fun _ _ h => h)) D5 hm5 hf5)
                    clear KP D5 hm5 hf5
                    dsimp only
                    go_wp2_with fail
                    go_roundw
                    case rel => exact ⟨k + 1, by first | go_num | rfl | trivial, HREL⟩
                    case measure => simp [intOf]; omega
                  | false =>
                    have HB := hid (show T.fromOk zs = false from by
                      cases hq : T.fromOk zs with
                      | false => rfl
                      | true =>
                        have hfo := U.fok_of HWF.out hq
                        have hz := hfo.tok k _ (by rw [HN.out]; omega) HZ.out
                        unfold U.tokn at hz
                        rw [if_pos (show zn ≤ 2 by omega)] at hz
                        have hz := of_decide_eq_true hz
                        rw [show zs2 = ⟨#[]⟩ from hz.2, ByteArray.toList_eq] at hnm
                        cases hnm)
                    clear hzp HALL HZ DH HEL
                    go_wp2_with fail
                    have hmx : Tryz.prog.follows .mixedOrders = true := by kernel_rfl
                    refine wp_region_held (S := fun V => Fr (fun _ => False) V8 V) hmx ?_
                    have hS := (Fr.drew (Fr.refl (fun _ => False) V8))
                    simp only [List.size_toArray, List.length_cons, List.length_nil, Nat.reduceAdd, Array.replicate_succ, Array.replicate_zero, List.push_toArray, List.nil_append, List.cons_append]
                    refine tk (i := 0) (d := some 32) (v := ?_) rfl (Or.inl ⟨by kernel_rfl, ?_⟩) hS ?_; rotate_left 1; (intro w' hS'; clear hS'; go_simp; try with_reducible rfl); simp only [Act.put, q1, q2, q3]
                    refine tk (i := 1) (d := some 33) (v := ?_) rfl (Or.inl ⟨by kernel_rfl, ?_⟩) hS ?_; rotate_left 1; (intro w' hS'; have h1 := (HS.out w' hS').1; clear hS'; go_simp; try with_reducible rfl); simp only [Act.put, q1, q2, q3]
                    refine tk (i := 2) (d := some 34) (v := ?_) rfl (Or.inl ⟨by kernel_rfl, ?_⟩) hS ?_; rotate_left 1; (intro w' hS'; clear hS'; go_simp; try with_reducible rfl); simp only [Act.put, q1, q2, q3]
                    refine tk (i := 3) (d := some 35) (v := ?_) rfl (Or.inl ⟨by kernel_rfl, ?_⟩) hS ?_; rotate_left 1; (intro w' hS'; clear hS'; go_simp; try with_reducible rfl); simp only [Act.put, q1, q2, q3]
                    refine tk (i := 4) (d := some 36) (v := ?_) rfl (Or.inl ⟨by kernel_rfl, ?_⟩) hS ?_; rotate_left 1; (intro w' hS'; clear hS'; go_simp; try with_reducible rfl); simp only [Act.put, q1, q2, q3]
                    refine tk (i := 5) (d := some 37) (v := ?_) rfl (Or.inl ⟨by kernel_rfl, ?_⟩) hS ?_; rotate_left 1; (intro w' hS'; clear hS'; go_simp; try with_reducible rfl); simp only [Act.put, q1, q2, q3]
                    refine tk (i := 6) (d := some 38) (v := ?_) rfl (Or.inl ⟨by kernel_rfl, ?_⟩) hS ?_; rotate_left 1; (intro w' hS'; clear hS'; go_simp; try with_reducible rfl); simp only [Act.put, q1, q2, q3]
                    refine tks (i := 7) (d := some 39) rfl hS ?_; simp only [Act.put, q1, q2, q3]
                    refine tks (i := 8) (d := some 40) rfl hS ?_; simp only [Act.put, q1, q2, q3]
                    refine tks (i := 9) (d := some 41) rfl hS ?_; simp only [Act.put, q1, q2, q3]
                    refine tks (i := 10) (d := some 42) rfl hS ?_; simp only [Act.put, q1, q2, q3]
                    refine tks (i := 11) (d := some 43) rfl hS ?_; simp only [Act.put, q1, q2, q3]
                    refine tks (i := 12) (d := some 44) rfl hS ?_; simp only [Act.put, q1, q2, q3]
                    refine tks (i := 13) (d := some 45) rfl hS ?_; simp only [Act.put, q1, q2, q3]
                    refine tks (i := 14) (d := some 46) rfl hS ?_; simp only [Act.put, q1, q2, q3]
                    refine tks (i := 15) (d := some 47) rfl hS ?_; simp only [Act.put, q1, q2, q3]
                    refine tk (i := 16) (d := some 48) (v := ?_) rfl (Or.inl ⟨by kernel_rfl, ?_⟩) hS ?_; rotate_left 1; (intro w' hS'; clear hS'; go_simp; try with_reducible rfl); simp only [Act.put, q1, q2, q3]
                    refine tk (i := 17) (d := some 49) (v := ?_) rfl (Or.inl ⟨by kernel_rfl, ?_⟩) hS ?_; rotate_left 1; (intro w' hS'; clear hS'; go_simp; try with_reducible rfl); simp only [Act.put, q1, q2, q3]
                    refine tk (i := 18) (d := some 50) (v := ?_) rfl (Or.inl ⟨by kernel_rfl, ?_⟩) hS ?_; rotate_left 1; (intro w' hS'; clear hS'; go_simp; try with_reducible rfl); simp only [Act.put, q1, q2, q3]
                    refine tk (i := 19) (d := some 51) (v := ?_) rfl (Or.inl ⟨by kernel_rfl, ?_⟩) hS ?_; rotate_left 1; (intro w' hS'; clear hS'; go_simp; try with_reducible rfl); simp only [Act.put, q1, q2, q3]
                    refine tk (i := 20) (d := some 52) (v := ?_) rfl (Or.inl ⟨by kernel_rfl, ?_⟩) hS ?_; rotate_left 1; (intro w' hS'; have h1 := (HS.out w' hS').2.2.2; clear hS'; go_simp; try with_reducible rfl); simp only [Act.put, q1, q2, q3]
                    refine wpAnyH_ready (rs := [21]) (by kernel_rfl) (by simp) ?_
                    refine AllReadyH.cons rfl (fun K1 hK1 => ?_) (AllReadyH.nil)
                    go_simp
                    refine (KA.out _ hS).mono ?_
                    rintro e w3 ⟨rfl, fx⟩
                    refine hK1.out _ _ (hS.trans fx (fun _ _ h => h)) (fun hS => ?_)
                    clear fx
                    clear hK1 K1
                    simp only [List.getElem_toArray, List.getElem_cons_zero, List.getElem_cons_succ, Act.put, List.setIfInBounds_toArray, List.set_cons_zero, List.set_cons_succ]
                    refine tk (i := 22) (d := some 54) (v := ?_) rfl (Or.inl ⟨by kernel_rfl, ?_⟩) hS ?_; rotate_left 1; (intro w' hS'; clear hS'; go_simp; try with_reducible rfl); simp only [Act.put, q1, q2, q3]
                    refine tk (i := 23) (d := some 55) (v := ?_) rfl (Or.inl ⟨by kernel_rfl, ?_⟩) hS ?_; rotate_left 1; (intro w' hS'; clear hS'; go_simp; try with_reducible rfl); simp only [Act.put, q1, q2, q3]
                    refine tk (i := 24) (d := some 56) (v := ?_) rfl (Or.inl ⟨by kernel_rfl, ?_⟩) hS ?_; rotate_left 1; (intro w' hS'; clear hS'; go_simp; try with_reducible rfl); simp only [Act.put, q1, q2, q3]
                    refine tk (i := 25) (d := some 57) (v := ?_) rfl (Or.inl ⟨by kernel_rfl, ?_⟩) hS ?_; rotate_left 1; (intro w' hS'; clear hS'; go_simp; try with_reducible rfl); simp only [Act.put, q1, q2, q3]
                    refine tk (i := 26) (d := some 58) (v := ?_) rfl (Or.inl ⟨by kernel_rfl, ?_⟩) hS ?_; rotate_left 1; (intro w' hS'; clear hS'; go_simp; try with_reducible rfl); simp only [Act.put, q1, q2, q3]
                    refine tk (i := 27) (d := some 59) (v := ?_) rfl (Or.inl ⟨by kernel_rfl, ?_⟩) hS ?_; rotate_left 1; (intro w' hS'; clear hS'; go_simp; try with_reducible rfl); simp only [Act.put, q1, q2, q3]
                    refine tk (i := 28) (d := some 60) (v := ?_) rfl (Or.inl ⟨by kernel_rfl, ?_⟩) hS ?_; rotate_left 1; (intro w' hS'; have h1 := (HS.out w' hS').2.1; clear hS'; go_simp; try with_reducible rfl); simp only [Act.put, q1, q2, q3]
                    refine tk (i := 29) (d := some 61) (v := .bool false) rfl (Or.inl ⟨by kernel_rfl, fun w' hS' => by have hz0 := HZP.out; clear hS'; go_simp; try simp [hz0]⟩) hS ?_; simp only [Act.put, q1, q2, q3]
                    refine tk (i := 30) (d := some 62) (v := ?_) rfl (Or.inl ⟨by kernel_rfl, ?_⟩) hS ?_; rotate_left 1; (intro w' hS'; clear hS'; go_simp; try with_reducible rfl); simp only [Act.put, q1, q2, q3]
                    refine tk (i := 31) (d := some 63) (v := ?_) rfl (Or.inl ⟨by kernel_rfl, ?_⟩) hS ?_; rotate_left 1; (intro w' hS'; clear hS'; go_simp; try with_reducible rfl); simp only [Act.put, q1, q2, q3]
                    refine tk (i := 32) (d := some 64) (v := ?_) rfl (Or.inl ⟨by kernel_rfl, ?_⟩) hS ?_; rotate_left 1; (intro w' hS'; have h1 := (HS.out w' hS').2.2.1; clear hS'; go_simp; try with_reducible rfl); simp only [Act.put, q1, q2, q3]
                    refine tk (i := 33) (d := some 65) (v := ?_) rfl (Or.inl ⟨by kernel_rfl, ?_⟩) hS ?_; rotate_left 1; (intro w' hS'; clear hS'; go_simp; try with_reducible rfl); simp only [Act.put, q1, q2, q3]
                    refine tk (i := 34) (d := some 66) (v := ?_) rfl (Or.inl ⟨by kernel_rfl, ?_⟩) hS ?_; rotate_left 1; (intro w' hS'; clear hS'; go_simp; try with_reducible rfl); simp only [Act.put, q1, q2, q3]
                    refine tk (i := 35) (d := some 67) (v := ?_) rfl (Or.inl ⟨by kernel_rfl, ?_⟩) hS ?_; rotate_left 1; (intro w' hS'; clear hS'; go_simp; try with_reducible rfl); simp only [Act.put, q1, q2, q3]
                    refine tk (i := 36) (d := some 68) (v := ?_) rfl (Or.inl ⟨by kernel_rfl, ?_⟩) hS ?_; rotate_left 1; (intro w' hS'; clear hS'; go_simp; try with_reducible rfl); simp only [Act.put, q1, q2, q3]
                    refine tk (i := 37) (d := some 69) (v := ?_) rfl (Or.inl ⟨by kernel_rfl, ?_⟩) hS ?_; rotate_left 1; (intro w' hS'; clear hS'; go_simp; try with_reducible rfl); simp only [Act.put, q1, q2, q3]
                    refine tks (i := 38) (d := some 70) rfl hS ?_; simp only [Act.put, q1, q2, q3]
                    refine tks (i := 39) (d := some 71) rfl hS ?_; simp only [Act.put, q1, q2, q3]
                    refine tks (i := 40) (d := some 72) rfl hS ?_; simp only [Act.put, q1, q2, q3]
                    refine tks (i := 41) (d := some 73) rfl hS ?_; simp only [Act.put, q1, q2, q3]
                    refine tks (i := 42) (d := some 74) rfl hS ?_; simp only [Act.put, q1, q2, q3]
                    refine tks (i := 43) (d := some 75) rfl hS ?_; simp only [Act.put, q1, q2, q3]
                    refine tks (i := 44) (d := some 76) rfl hS ?_; simp only [Act.put, q1, q2, q3]
                    refine tks (i := 45) (d := some 77) rfl hS ?_; simp only [Act.put, q1, q2, q3]
                    refine tk (i := 46) (d := some 78) (v := ?_) rfl (Or.inl ⟨by kernel_rfl, ?_⟩) hS ?_; rotate_left 1; (intro w' hS'; clear hS'; go_simp; try with_reducible rfl); simp only [Act.put, q1, q2, q3]
                    refine wpAnyH_done (by kernel_rfl) ?_ _
                    have FZ := hid hS
                    clear hS
                    go_wp2_with fail
                    go_ret2
                    exact ⟨(FW8.out.trans FZ.out (fun _ _ h => h)), .inl ⟨HB.out, rfl⟩⟩
                · have HZP := hid hzp
                  have HB := hid (show T.fromOk zs = false from by
                    cases hq : T.fromOk zs with
                    | false => rfl
                    | true =>
                      have hfo := U.fok_of HWF.out hq
                      have hz := hfo.tok k _ (by rw [HN.out]; omega) HZ.out
                      unfold U.tokn at hz
                      rw [if_pos (show zn ≤ 2 by omega)] at hz
                      have hz := of_decide_eq_true hz
                      exact absurd hz.1 hzp)
                  clear hzp HALL HZ DH HEL
                  go_wp2_with fail
                  have hmx : Tryz.prog.follows .mixedOrders = true := by kernel_rfl
                  refine wp_region_held (S := fun V => Fr (fun _ => False) V8 V) hmx ?_
                  have hS := (Fr.drew (Fr.refl (fun _ => False) V8))
                  simp only [List.size_toArray, List.length_cons, List.length_nil, Nat.reduceAdd, Array.replicate_succ, Array.replicate_zero, List.push_toArray, List.nil_append, List.cons_append]
                  refine tk (i := 0) (d := some 32) (v := ?_) rfl (Or.inl ⟨by kernel_rfl, ?_⟩) hS ?_; rotate_left 1; (intro w' hS'; clear hS'; go_simp; try with_reducible rfl); simp only [Act.put, q1, q2, q3]
                  refine tk (i := 1) (d := some 33) (v := ?_) rfl (Or.inl ⟨by kernel_rfl, ?_⟩) hS ?_; rotate_left 1; (intro w' hS'; have h1 := (HS.out w' hS').1; clear hS'; go_simp; try with_reducible rfl); simp only [Act.put, q1, q2, q3]
                  refine tk (i := 2) (d := some 34) (v := ?_) rfl (Or.inl ⟨by kernel_rfl, ?_⟩) hS ?_; rotate_left 1; (intro w' hS'; clear hS'; go_simp; try with_reducible rfl); simp only [Act.put, q1, q2, q3]
                  refine tk (i := 3) (d := some 35) (v := ?_) rfl (Or.inl ⟨by kernel_rfl, ?_⟩) hS ?_; rotate_left 1; (intro w' hS'; clear hS'; go_simp; try with_reducible rfl); simp only [Act.put, q1, q2, q3]
                  refine tk (i := 4) (d := some 36) (v := ?_) rfl (Or.inl ⟨by kernel_rfl, ?_⟩) hS ?_; rotate_left 1; (intro w' hS'; clear hS'; go_simp; try with_reducible rfl); simp only [Act.put, q1, q2, q3]
                  refine tk (i := 5) (d := some 37) (v := ?_) rfl (Or.inl ⟨by kernel_rfl, ?_⟩) hS ?_; rotate_left 1; (intro w' hS'; clear hS'; go_simp; try with_reducible rfl); simp only [Act.put, q1, q2, q3]
                  refine tk (i := 6) (d := some 38) (v := ?_) rfl (Or.inl ⟨by kernel_rfl, ?_⟩) hS ?_; rotate_left 1; (intro w' hS'; clear hS'; go_simp; try with_reducible rfl); simp only [Act.put, q1, q2, q3]
                  refine tks (i := 7) (d := some 39) rfl hS ?_; simp only [Act.put, q1, q2, q3]
                  refine tks (i := 8) (d := some 40) rfl hS ?_; simp only [Act.put, q1, q2, q3]
                  refine tks (i := 9) (d := some 41) rfl hS ?_; simp only [Act.put, q1, q2, q3]
                  refine tks (i := 10) (d := some 42) rfl hS ?_; simp only [Act.put, q1, q2, q3]
                  refine tks (i := 11) (d := some 43) rfl hS ?_; simp only [Act.put, q1, q2, q3]
                  refine tks (i := 12) (d := some 44) rfl hS ?_; simp only [Act.put, q1, q2, q3]
                  refine tks (i := 13) (d := some 45) rfl hS ?_; simp only [Act.put, q1, q2, q3]
                  refine tks (i := 14) (d := some 46) rfl hS ?_; simp only [Act.put, q1, q2, q3]
                  refine tks (i := 15) (d := some 47) rfl hS ?_; simp only [Act.put, q1, q2, q3]
                  refine tk (i := 16) (d := some 48) (v := ?_) rfl (Or.inl ⟨by kernel_rfl, ?_⟩) hS ?_; rotate_left 1; (intro w' hS'; clear hS'; go_simp; try with_reducible rfl); simp only [Act.put, q1, q2, q3]
                  refine tk (i := 17) (d := some 49) (v := ?_) rfl (Or.inl ⟨by kernel_rfl, ?_⟩) hS ?_; rotate_left 1; (intro w' hS'; clear hS'; go_simp; try with_reducible rfl); simp only [Act.put, q1, q2, q3]
                  refine tk (i := 18) (d := some 50) (v := ?_) rfl (Or.inl ⟨by kernel_rfl, ?_⟩) hS ?_; rotate_left 1; (intro w' hS'; clear hS'; go_simp; try with_reducible rfl); simp only [Act.put, q1, q2, q3]
                  refine tk (i := 19) (d := some 51) (v := ?_) rfl (Or.inl ⟨by kernel_rfl, ?_⟩) hS ?_; rotate_left 1; (intro w' hS'; clear hS'; go_simp; try with_reducible rfl); simp only [Act.put, q1, q2, q3]
                  refine tk (i := 20) (d := some 52) (v := ?_) rfl (Or.inl ⟨by kernel_rfl, ?_⟩) hS ?_; rotate_left 1; (intro w' hS'; have h1 := (HS.out w' hS').2.2.2; clear hS'; go_simp; try with_reducible rfl); simp only [Act.put, q1, q2, q3]
                  refine wpAnyH_ready (rs := [21]) (by kernel_rfl) (by simp) ?_
                  refine AllReadyH.cons rfl (fun K1 hK1 => ?_) (AllReadyH.nil)
                  go_simp
                  refine (KA.out _ hS).mono ?_
                  rintro e w3 ⟨rfl, fx⟩
                  refine hK1.out _ _ (hS.trans fx (fun _ _ h => h)) (fun hS => ?_)
                  clear fx
                  clear hK1 K1
                  simp only [List.getElem_toArray, List.getElem_cons_zero, List.getElem_cons_succ, Act.put, List.setIfInBounds_toArray, List.set_cons_zero, List.set_cons_succ]
                  refine tk (i := 22) (d := some 54) (v := ?_) rfl (Or.inl ⟨by kernel_rfl, ?_⟩) hS ?_; rotate_left 1; (intro w' hS'; clear hS'; go_simp; try with_reducible rfl); simp only [Act.put, q1, q2, q3]
                  refine tk (i := 23) (d := some 55) (v := ?_) rfl (Or.inl ⟨by kernel_rfl, ?_⟩) hS ?_; rotate_left 1; (intro w' hS'; clear hS'; go_simp; try with_reducible rfl); simp only [Act.put, q1, q2, q3]
                  refine tk (i := 24) (d := some 56) (v := ?_) rfl (Or.inl ⟨by kernel_rfl, ?_⟩) hS ?_; rotate_left 1; (intro w' hS'; clear hS'; go_simp; try with_reducible rfl); simp only [Act.put, q1, q2, q3]
                  refine tk (i := 25) (d := some 57) (v := ?_) rfl (Or.inl ⟨by kernel_rfl, ?_⟩) hS ?_; rotate_left 1; (intro w' hS'; clear hS'; go_simp; try with_reducible rfl); simp only [Act.put, q1, q2, q3]
                  refine tk (i := 26) (d := some 58) (v := ?_) rfl (Or.inl ⟨by kernel_rfl, ?_⟩) hS ?_; rotate_left 1; (intro w' hS'; clear hS'; go_simp; try with_reducible rfl); simp only [Act.put, q1, q2, q3]
                  refine tk (i := 27) (d := some 59) (v := ?_) rfl (Or.inl ⟨by kernel_rfl, ?_⟩) hS ?_; rotate_left 1; (intro w' hS'; clear hS'; go_simp; try with_reducible rfl); simp only [Act.put, q1, q2, q3]
                  refine tk (i := 28) (d := some 60) (v := ?_) rfl (Or.inl ⟨by kernel_rfl, ?_⟩) hS ?_; rotate_left 1; (intro w' hS'; have h1 := (HS.out w' hS').2.1; clear hS'; go_simp; try with_reducible rfl); simp only [Act.put, q1, q2, q3]
                  refine tk (i := 29) (d := some 61) (v := .bool true) rfl (Or.inl ⟨by kernel_rfl, fun w' hS' => by have hz0 := HZP.out; clear hS'; go_simp; try simp [hz0]⟩) hS ?_; simp only [Act.put, q1, q2, q3]
                  refine tk (i := 30) (d := some 62) (v := ?_) rfl (Or.inl ⟨by kernel_rfl, ?_⟩) hS ?_; rotate_left 1; (intro w' hS'; clear hS'; go_simp; try with_reducible rfl); simp only [Act.put, q1, q2, q3]
                  refine tks (i := 31) (d := some 63) rfl hS ?_; simp only [Act.put, q1, q2, q3]
                  refine tks (i := 32) (d := some 64) rfl hS ?_; simp only [Act.put, q1, q2, q3]
                  refine tks (i := 33) (d := some 65) rfl hS ?_; simp only [Act.put, q1, q2, q3]
                  refine tk (i := 34) (d := some 66) (v := ?_) rfl (Or.inl ⟨by kernel_rfl, ?_⟩) hS ?_; rotate_left 1; (intro w' hS'; clear hS'; go_simp; try with_reducible rfl); simp only [Act.put, q1, q2, q3]
                  refine tk (i := 35) (d := some 67) (v := ?_) rfl (Or.inl ⟨by kernel_rfl, ?_⟩) hS ?_; rotate_left 1; (intro w' hS'; clear hS'; go_simp; try with_reducible rfl); simp only [Act.put, q1, q2, q3]
                  refine tk (i := 36) (d := some 68) (v := ?_) rfl (Or.inl ⟨by kernel_rfl, ?_⟩) hS ?_; rotate_left 1; (intro w' hS'; clear hS'; go_simp; try with_reducible rfl); simp only [Act.put, q1, q2, q3]
                  refine tk (i := 37) (d := some 69) (v := ?_) rfl (Or.inl ⟨by kernel_rfl, ?_⟩) hS ?_; rotate_left 1; (intro w' hS'; clear hS'; go_simp; try with_reducible rfl); simp only [Act.put, q1, q2, q3]
                  refine tks (i := 38) (d := some 70) rfl hS ?_; simp only [Act.put, q1, q2, q3]
                  refine tks (i := 39) (d := some 71) rfl hS ?_; simp only [Act.put, q1, q2, q3]
                  refine tks (i := 40) (d := some 72) rfl hS ?_; simp only [Act.put, q1, q2, q3]
                  refine tks (i := 41) (d := some 73) rfl hS ?_; simp only [Act.put, q1, q2, q3]
                  refine tks (i := 42) (d := some 74) rfl hS ?_; simp only [Act.put, q1, q2, q3]
                  refine tks (i := 43) (d := some 75) rfl hS ?_; simp only [Act.put, q1, q2, q3]
                  refine tks (i := 44) (d := some 76) rfl hS ?_; simp only [Act.put, q1, q2, q3]
                  refine tks (i := 45) (d := some 77) rfl hS ?_; simp only [Act.put, q1, q2, q3]
                  refine tk (i := 46) (d := some 78) (v := ?_) rfl (Or.inl ⟨by kernel_rfl, ?_⟩) hS ?_; rotate_left 1; (intro w' hS'; clear hS'; go_simp; try with_reducible rfl); simp only [Act.put, q1, q2, q3]
                  refine wpAnyH_done (by kernel_rfl) ?_ _
                  have FZ := hid hS
                  clear hS
                  go_wp2_with fail
                  go_ret2
                  exact ⟨(FW8.out.trans FZ.out (fun _ _ h => h)), .inl ⟨HB.out, rfl⟩⟩
            | false =>
              have htop : ¬ (zn = 1 ∨ zn = 2) := of_decide_eq_false htp.symm
              clear htp
              cases hat : (T.txts zat && T.asc (fun a b => T.blt a.1 b.1) zat) with
              | false =>
                rw [hat] at KA
                have HB := hid (show T.fromOk zs = false from by
                  cases hq : T.fromOk zs with
                  | false => rfl
                  | true =>
                    have hfo := U.fok_of HWF.out hq
                    have hz := hfo.gok k _ (by rw [HN.out]; omega) HZ.out
                    unfold T.gok at hz
                    rw [hat, Bool.and_false] at hz
                    cases hz)
                clear HALL HZ DH HEL
                go_wp2_with fail
                have hmx : Tryz.prog.follows .mixedOrders = true := by kernel_rfl
                refine wp_region_held (S := fun V => Fr (fun _ => False) V8 V) hmx ?_
                have hS := (Fr.drew (Fr.refl (fun _ => False) V8))
                simp only [List.size_toArray, List.length_cons, List.length_nil, Nat.reduceAdd, Array.replicate_succ, Array.replicate_zero, List.push_toArray, List.nil_append, List.cons_append]
                refine tk (i := 0) (d := some 32) (v := ?_) rfl (Or.inl ⟨by kernel_rfl, ?_⟩) hS ?_; rotate_left 1; (intro w' hS'; clear hS'; go_simp; try with_reducible rfl); simp only [Act.put, q1, q2, q3]
                refine tk (i := 1) (d := some 33) (v := ?_) rfl (Or.inl ⟨by kernel_rfl, ?_⟩) hS ?_; rotate_left 1; (intro w' hS'; have h1 := (HS.out w' hS').1; clear hS'; go_simp; try with_reducible rfl); simp only [Act.put, q1, q2, q3]
                refine tk (i := 2) (d := some 34) (v := ?_) rfl (Or.inl ⟨by kernel_rfl, ?_⟩) hS ?_; rotate_left 1; (intro w' hS'; clear hS'; go_simp; try with_reducible rfl); simp only [Act.put, q1, q2, q3]
                refine tk (i := 3) (d := some 35) (v := ?_) rfl (Or.inl ⟨by kernel_rfl, ?_⟩) hS ?_; rotate_left 1; (intro w' hS'; clear hS'; go_simp; try with_reducible rfl); simp only [Act.put, q1, q2, q3]
                refine tk (i := 4) (d := some 36) (v := ?_) rfl (Or.inl ⟨by kernel_rfl, ?_⟩) hS ?_; rotate_left 1; (intro w' hS'; clear hS'; go_simp; try with_reducible rfl); simp only [Act.put, q1, q2, q3]
                refine tk (i := 5) (d := some 37) (v := ?_) rfl (Or.inl ⟨by kernel_rfl, ?_⟩) hS ?_; rotate_left 1; (intro w' hS'; clear hS'; go_simp; try with_reducible rfl); simp only [Act.put, q1, q2, q3]
                refine tk (i := 6) (d := some 38) (v := ?_) rfl (Or.inl ⟨by kernel_rfl, ?_⟩) hS ?_; rotate_left 1; (intro w' hS'; clear hS'; go_simp; try with_reducible rfl); simp only [Act.put, q1, q2, q3]
                refine tks (i := 7) (d := some 39) rfl hS ?_; simp only [Act.put, q1, q2, q3]
                refine tks (i := 8) (d := some 40) rfl hS ?_; simp only [Act.put, q1, q2, q3]
                refine tks (i := 9) (d := some 41) rfl hS ?_; simp only [Act.put, q1, q2, q3]
                refine tks (i := 10) (d := some 42) rfl hS ?_; simp only [Act.put, q1, q2, q3]
                refine tks (i := 11) (d := some 43) rfl hS ?_; simp only [Act.put, q1, q2, q3]
                refine tks (i := 12) (d := some 44) rfl hS ?_; simp only [Act.put, q1, q2, q3]
                refine tks (i := 13) (d := some 45) rfl hS ?_; simp only [Act.put, q1, q2, q3]
                refine tks (i := 14) (d := some 46) rfl hS ?_; simp only [Act.put, q1, q2, q3]
                refine tks (i := 15) (d := some 47) rfl hS ?_; simp only [Act.put, q1, q2, q3]
                refine tk (i := 16) (d := some 48) (v := ?_) rfl (Or.inl ⟨by kernel_rfl, ?_⟩) hS ?_; rotate_left 1; (intro w' hS'; clear hS'; go_simp; try with_reducible rfl); simp only [Act.put, q1, q2, q3]
                refine tk (i := 17) (d := some 49) (v := ?_) rfl (Or.inl ⟨by kernel_rfl, ?_⟩) hS ?_; rotate_left 1; (intro w' hS'; clear hS'; go_simp; try with_reducible rfl); simp only [Act.put, q1, q2, q3]
                refine tk (i := 18) (d := some 50) (v := ?_) rfl (Or.inl ⟨by kernel_rfl, ?_⟩) hS ?_; rotate_left 1; (intro w' hS'; clear hS'; go_simp; try with_reducible rfl); simp only [Act.put, q1, q2, q3]
                refine tk (i := 19) (d := some 51) (v := ?_) rfl (Or.inl ⟨by kernel_rfl, ?_⟩) hS ?_; rotate_left 1; (intro w' hS'; clear hS'; go_simp; try with_reducible rfl); simp only [Act.put, q1, q2, q3]
                refine tk (i := 20) (d := some 52) (v := ?_) rfl (Or.inl ⟨by kernel_rfl, ?_⟩) hS ?_; rotate_left 1; (intro w' hS'; have h1 := (HS.out w' hS').2.2.2; clear hS'; go_simp; try with_reducible rfl); simp only [Act.put, q1, q2, q3]
                refine wpAnyH_ready (rs := [21]) (by kernel_rfl) (by simp) ?_
                refine AllReadyH.cons rfl (fun K1 hK1 => ?_) (AllReadyH.nil)
                go_simp
                refine (KA.out _ hS).mono ?_
                rintro e w3 ⟨rfl, fx⟩
                refine hK1.out _ _ (hS.trans fx (fun _ _ h => h)) (fun hS => ?_)
                clear fx
                clear hK1 K1
                simp only [List.getElem_toArray, List.getElem_cons_zero, List.getElem_cons_succ, Act.put, List.setIfInBounds_toArray, List.set_cons_zero, List.set_cons_succ]
                refine tk (i := 22) (d := some 54) (v := ?_) rfl (Or.inl ⟨by kernel_rfl, ?_⟩) hS ?_; rotate_left 1; (intro w' hS'; clear hS'; go_simp; try with_reducible rfl); simp only [Act.put, q1, q2, q3]
                refine tk (i := 23) (d := some 55) (v := ?_) rfl (Or.inl ⟨by kernel_rfl, ?_⟩) hS ?_; rotate_left 1; (intro w' hS'; clear hS'; go_simp; try with_reducible rfl); simp only [Act.put, q1, q2, q3]
                refine tk (i := 24) (d := some 56) (v := ?_) rfl (Or.inl ⟨by kernel_rfl, ?_⟩) hS ?_; rotate_left 1; (intro w' hS'; clear hS'; go_simp; try with_reducible rfl); simp only [Act.put, q1, q2, q3]
                refine tks (i := 25) (d := some 57) rfl hS ?_; simp only [Act.put, q1, q2, q3]
                refine tks (i := 26) (d := some 58) rfl hS ?_; simp only [Act.put, q1, q2, q3]
                refine tks (i := 27) (d := some 59) rfl hS ?_; simp only [Act.put, q1, q2, q3]
                refine tks (i := 28) (d := some 60) rfl hS ?_; simp only [Act.put, q1, q2, q3]
                refine tks (i := 29) (d := some 61) rfl hS ?_; simp only [Act.put, q1, q2, q3]
                refine tks (i := 30) (d := some 62) rfl hS ?_; simp only [Act.put, q1, q2, q3]
                refine tks (i := 31) (d := some 63) rfl hS ?_; simp only [Act.put, q1, q2, q3]
                refine tks (i := 32) (d := some 64) rfl hS ?_; simp only [Act.put, q1, q2, q3]
                refine tks (i := 33) (d := some 65) rfl hS ?_; simp only [Act.put, q1, q2, q3]
                refine tks (i := 34) (d := some 66) rfl hS ?_; simp only [Act.put, q1, q2, q3]
                refine tks (i := 35) (d := some 67) rfl hS ?_; simp only [Act.put, q1, q2, q3]
                refine tk (i := 36) (d := some 68) (v := ?_) rfl (Or.inl ⟨by kernel_rfl, ?_⟩) hS ?_; rotate_left 1; (intro w' hS'; clear hS'; go_simp; try with_reducible rfl); simp only [Act.put, q1, q2, q3]
                refine tk (i := 37) (d := some 69) (v := ?_) rfl (Or.inl ⟨by kernel_rfl, ?_⟩) hS ?_; rotate_left 1; (intro w' hS'; clear hS'; go_simp; try with_reducible rfl); simp only [Act.put, q1, q2, q3]
                refine tks (i := 38) (d := some 70) rfl hS ?_; simp only [Act.put, q1, q2, q3]
                refine tks (i := 39) (d := some 71) rfl hS ?_; simp only [Act.put, q1, q2, q3]
                refine tks (i := 40) (d := some 72) rfl hS ?_; simp only [Act.put, q1, q2, q3]
                refine tks (i := 41) (d := some 73) rfl hS ?_; simp only [Act.put, q1, q2, q3]
                refine tks (i := 42) (d := some 74) rfl hS ?_; simp only [Act.put, q1, q2, q3]
                refine tks (i := 43) (d := some 75) rfl hS ?_; simp only [Act.put, q1, q2, q3]
                refine tks (i := 44) (d := some 76) rfl hS ?_; simp only [Act.put, q1, q2, q3]
                refine tks (i := 45) (d := some 77) rfl hS ?_; simp only [Act.put, q1, q2, q3]
                refine tk (i := 46) (d := some 78) (v := ?_) rfl (Or.inl ⟨by kernel_rfl, ?_⟩) hS ?_; rotate_left 1; (intro w' hS'; clear hS'; go_simp; try with_reducible rfl); simp only [Act.put, q1, q2, q3]
                refine wpAnyH_done (by kernel_rfl) ?_ _
                have FZ := hid hS
                clear hS
                go_wp2_with fail
                go_ret2
                exact ⟨(FW8.out.trans FZ.out (fun _ _ h => h)), .inl ⟨HB.out, rfl⟩⟩
              | true =>
                rw [hat] at KA
                cases hnm : T.nam zs2 with
                | true =>
                  rw [hnm] at KM
                  have HFK := hid (U.fok_step HN.out HZ.out HALL.out.2.1 (.inl hk0) (by unfold T.gok; rw [hat, decide_eq_true (show 1 ≤ zn by omega)]; rfl) (by unfold U.tokn; rw [if_neg (show ¬ zn ≤ 2 by omega)]; exact hnm))
                  have KP := hid (fun (V : World) (hf : Fr (fun _ => False) V8 V) => uput_any (DH.out.kept (F8.out.trans hf (fun _ _ h => h)) (fun _ _ h => h)) (U.layd_up _ U.zup) HLL.out ((zn, ⟨zp, zs2, zat⟩), (za, zc)) ((HEL.out.kept (FW8.out.trans hf (fun _ _ h => h)) (fun _ _ h => h)).mono (fun i hi => HALL.out.2.2.1 i hi)))
                  dsimp only [T.aggN] at KP
                  rw [HAL.out] at KP
                  go_wp2_with fail
                  have hmx : Tryz.prog.follows .mixedOrders = true := by kernel_rfl
                  refine wp_region_held (S := fun V => Fr (fun _ => False) V8 V) hmx ?_
                  have hS := (Fr.drew (Fr.refl (fun _ => False) V8))
                  simp only [List.size_toArray, List.length_cons, List.length_nil, Nat.reduceAdd, Array.replicate_succ, Array.replicate_zero, List.push_toArray, List.nil_append, List.cons_append]
                  refine tk (i := 0) (d := some 32) (v := ?_) rfl (Or.inl ⟨by kernel_rfl, ?_⟩) hS ?_; rotate_left 1; (intro w' hS'; clear hS'; go_simp; try with_reducible rfl); simp only [Act.put, q1, q2, q3]
                  refine tk (i := 1) (d := some 33) (v := ?_) rfl (Or.inl ⟨by kernel_rfl, ?_⟩) hS ?_; rotate_left 1; (intro w' hS'; have h1 := (HS.out w' hS').1; clear hS'; go_simp; try with_reducible rfl); simp only [Act.put, q1, q2, q3]
                  refine tk (i := 2) (d := some 34) (v := ?_) rfl (Or.inl ⟨by kernel_rfl, ?_⟩) hS ?_; rotate_left 1; (intro w' hS'; clear hS'; go_simp; try with_reducible rfl); simp only [Act.put, q1, q2, q3]
                  refine tk (i := 3) (d := some 35) (v := ?_) rfl (Or.inl ⟨by kernel_rfl, ?_⟩) hS ?_; rotate_left 1; (intro w' hS'; clear hS'; go_simp; try with_reducible rfl); simp only [Act.put, q1, q2, q3]
                  refine tk (i := 4) (d := some 36) (v := ?_) rfl (Or.inl ⟨by kernel_rfl, ?_⟩) hS ?_; rotate_left 1; (intro w' hS'; clear hS'; go_simp; try with_reducible rfl); simp only [Act.put, q1, q2, q3]
                  refine tk (i := 5) (d := some 37) (v := ?_) rfl (Or.inl ⟨by kernel_rfl, ?_⟩) hS ?_; rotate_left 1; (intro w' hS'; clear hS'; go_simp; try with_reducible rfl); simp only [Act.put, q1, q2, q3]
                  refine tk (i := 6) (d := some 38) (v := ?_) rfl (Or.inl ⟨by kernel_rfl, ?_⟩) hS ?_; rotate_left 1; (intro w' hS'; clear hS'; go_simp; try with_reducible rfl); simp only [Act.put, q1, q2, q3]
                  refine tks (i := 7) (d := some 39) rfl hS ?_; simp only [Act.put, q1, q2, q3]
                  refine tks (i := 8) (d := some 40) rfl hS ?_; simp only [Act.put, q1, q2, q3]
                  refine tks (i := 9) (d := some 41) rfl hS ?_; simp only [Act.put, q1, q2, q3]
                  refine tks (i := 10) (d := some 42) rfl hS ?_; simp only [Act.put, q1, q2, q3]
                  refine tks (i := 11) (d := some 43) rfl hS ?_; simp only [Act.put, q1, q2, q3]
                  refine tks (i := 12) (d := some 44) rfl hS ?_; simp only [Act.put, q1, q2, q3]
                  refine tks (i := 13) (d := some 45) rfl hS ?_; simp only [Act.put, q1, q2, q3]
                  refine tks (i := 14) (d := some 46) rfl hS ?_; simp only [Act.put, q1, q2, q3]
                  refine tks (i := 15) (d := some 47) rfl hS ?_; simp only [Act.put, q1, q2, q3]
                  refine tk (i := 16) (d := some 48) (v := ?_) rfl (Or.inl ⟨by kernel_rfl, ?_⟩) hS ?_; rotate_left 1; (intro w' hS'; clear hS'; go_simp; try with_reducible rfl); simp only [Act.put, q1, q2, q3]
                  refine tk (i := 17) (d := some 49) (v := ?_) rfl (Or.inl ⟨by kernel_rfl, ?_⟩) hS ?_; rotate_left 1; (intro w' hS'; clear hS'; go_simp; try with_reducible rfl); simp only [Act.put, q1, q2, q3]
                  refine tk (i := 18) (d := some 50) (v := ?_) rfl (Or.inl ⟨by kernel_rfl, ?_⟩) hS ?_; rotate_left 1; (intro w' hS'; clear hS'; go_simp; try with_reducible rfl); simp only [Act.put, q1, q2, q3]
                  refine tk (i := 19) (d := some 51) (v := ?_) rfl (Or.inl ⟨by kernel_rfl, ?_⟩) hS ?_; rotate_left 1; (intro w' hS'; clear hS'; go_simp; try with_reducible rfl); simp only [Act.put, q1, q2, q3]
                  refine tk (i := 20) (d := some 52) (v := ?_) rfl (Or.inl ⟨by kernel_rfl, ?_⟩) hS ?_; rotate_left 1; (intro w' hS'; have h1 := (HS.out w' hS').2.2.2; clear hS'; go_simp; try with_reducible rfl); simp only [Act.put, q1, q2, q3]
                  refine wpAnyH_ready (rs := [21]) (by kernel_rfl) (by simp) ?_
                  refine AllReadyH.cons rfl (fun K1 hK1 => ?_) (AllReadyH.nil)
                  go_simp
                  refine (KA.out _ hS).mono ?_
                  rintro e w3 ⟨rfl, fx⟩
                  refine hK1.out _ _ (hS.trans fx (fun _ _ h => h)) (fun hS => ?_)
                  clear fx
                  clear hK1 K1
                  simp only [List.getElem_toArray, List.getElem_cons_zero, List.getElem_cons_succ, Act.put, List.setIfInBounds_toArray, List.set_cons_zero, List.set_cons_succ]
                  refine tk (i := 22) (d := some 54) (v := ?_) rfl (Or.inl ⟨by kernel_rfl, ?_⟩) hS ?_; rotate_left 1; (intro w' hS'; clear hS'; go_simp; try with_reducible rfl); simp only [Act.put, q1, q2, q3]
                  refine tk (i := 23) (d := some 55) (v := ?_) rfl (Or.inl ⟨by kernel_rfl, ?_⟩) hS ?_; rotate_left 1; (intro w' hS'; clear hS'; go_simp; try with_reducible rfl); simp only [Act.put, q1, q2, q3]
                  refine tk (i := 24) (d := some 56) (v := ?_) rfl (Or.inl ⟨by kernel_rfl, ?_⟩) hS ?_; rotate_left 1; (intro w' hS'; clear hS'; go_simp; try with_reducible rfl); simp only [Act.put, q1, q2, q3]
                  refine tk (i := 25) (d := some 57) (v := ?_) rfl (Or.inl ⟨by kernel_rfl, ?_⟩) hS ?_; rotate_left 1; (intro w' hS'; clear hS'; go_simp; try with_reducible rfl); simp only [Act.put, q1, q2, q3]
                  refine tk (i := 26) (d := some 58) (v := ?_) rfl (Or.inl ⟨by kernel_rfl, ?_⟩) hS ?_; rotate_left 1; (intro w' hS'; clear hS'; go_simp; try with_reducible rfl); simp only [Act.put, q1, q2, q3]
                  refine tks (i := 27) (d := some 59) rfl hS ?_; simp only [Act.put, q1, q2, q3]
                  refine tks (i := 28) (d := some 60) rfl hS ?_; simp only [Act.put, q1, q2, q3]
                  refine tks (i := 29) (d := some 61) rfl hS ?_; simp only [Act.put, q1, q2, q3]
                  refine tks (i := 30) (d := some 62) rfl hS ?_; simp only [Act.put, q1, q2, q3]
                  refine tks (i := 31) (d := some 63) rfl hS ?_; simp only [Act.put, q1, q2, q3]
                  refine tks (i := 32) (d := some 64) rfl hS ?_; simp only [Act.put, q1, q2, q3]
                  refine tks (i := 33) (d := some 65) rfl hS ?_; simp only [Act.put, q1, q2, q3]
                  refine tks (i := 34) (d := some 66) rfl hS ?_; simp only [Act.put, q1, q2, q3]
                  refine tk (i := 35) (d := some 67) (v := ?_) rfl (Or.inl ⟨by kernel_rfl, ?_⟩) hS ?_; rotate_left 1; (intro w' hS'; clear hS'; go_simp; try with_reducible rfl); simp only [Act.put, q1, q2, q3]
                  refine tk (i := 36) (d := some 68) (v := ?_) rfl (Or.inl ⟨by kernel_rfl, ?_⟩) hS ?_; rotate_left 1; (intro w' hS'; clear hS'; go_simp; try with_reducible rfl); simp only [Act.put, q1, q2, q3]
                  refine tk (i := 37) (d := some 69) (v := ?_) rfl (Or.inl ⟨by kernel_rfl, ?_⟩) hS ?_; rotate_left 1; (intro w' hS'; clear hS'; go_simp; try with_reducible rfl); simp only [Act.put, q1, q2, q3]
                  refine tk (i := 38) (d := some 70) (v := ?_) rfl (Or.inl ⟨by kernel_rfl, ?_⟩) hS ?_; rotate_left 1; (intro w' hS'; clear hS'; go_simp; try with_reducible rfl); simp only [Act.put, q1, q2, q3]
                  refine tk (i := 39) (d := some 71) (v := ?_) rfl (Or.inl ⟨by kernel_rfl, ?_⟩) hS ?_; rotate_left 1; (intro w' hS'; clear hS'; go_simp; try with_reducible rfl); simp only [Act.put, q1, q2, q3]
                  refine tk (i := 40) (d := some 72) (v := ?_) rfl (Or.inl ⟨by kernel_rfl, ?_⟩) hS ?_; rotate_left 1; (intro w' hS'; clear hS'; go_simp; try with_reducible rfl); simp only [Act.put, q1, q2, q3]
                  refine tk (i := 41) (d := some 73) (v := ?_) rfl (Or.inl ⟨by kernel_rfl, ?_⟩) hS ?_; rotate_left 1; (intro w' hS'; clear hS'; go_simp; try with_reducible rfl); simp only [Act.put, q1, q2, q3]
                  refine tk (i := 42) (d := some 74) (v := ?_) rfl (Or.inl ⟨by kernel_rfl, ?_⟩) hS ?_; rotate_left 1; (intro w' hS'; have h1 := (HS.out w' hS').2.2.1; clear hS'; go_simp; try with_reducible rfl); simp only [Act.put, q1, q2, q3]
                  refine wpAnyH_ready (rs := [43]) (by kernel_rfl) (by simp) ?_
                  refine AllReadyH.cons rfl (fun K1 hK1 => ?_) (AllReadyH.nil)
                  go_simp
                  refine (KM.out _).mono ?_
                  rintro e w4 ⟨rfl, rfl⟩
                  refine hK1.out _ _ hS (fun hS => ?_)
                  clear hK1 K1
                  simp only [List.getElem_toArray, List.getElem_cons_zero, List.getElem_cons_succ, Act.put, List.setIfInBounds_toArray, List.set_cons_zero, List.set_cons_succ]
                  refine tk (i := 44) (d := some 76) (v := ?_) rfl (Or.inl ⟨by kernel_rfl, ?_⟩) hS ?_; rotate_left 1; (intro w' hS'; clear hS'; go_simp; try with_reducible rfl); simp only [Act.put, q1, q2, q3]
                  refine tk (i := 45) (d := some 77) (v := ?_) rfl (Or.inl ⟨by kernel_rfl, ?_⟩) hS ?_; rotate_left 1; (intro w' hS'; clear hS'; go_simp; try with_reducible rfl); simp only [Act.put, q1, q2, q3]
                  refine tk (i := 46) (d := some 78) (v := ?_) rfl (Or.inl ⟨by kernel_rfl, ?_⟩) hS ?_; rotate_left 1; (intro w' hS'; clear hS'; go_simp; try with_reducible rfl); simp only [Act.put, q1, q2, q3]
                  refine wpAnyH_done (by kernel_rfl) ?_ _
                  have FZ := hid hS
                  clear hS
                  obtain ⟨k0, k1, k2, k3⟩ := HS.out _ FZ.out
                  go_wp2_with fail
                  refine (KP.out _ FZ.out).mono ?_
                  rintro e w5 ⟨rfl, c5, ra5, rc5, D5, hm5, hf5⟩
                  have HREL := hid (U.from_step HN.out HZ.out HALL.out.1 HFK.out HI.out HALL.out.2.2.1 HALL.out.2.2.2.1 (FW8.out.trans FZ.out (fun _ _ h => h)) D5 hm5 hf5)
                  clear KP D5 hm5 hf5
                  dsimp only
                  go_wp2_with fail
                  go_roundw
                  case rel => exact ⟨k + 1, by first | go_num | rfl | trivial, HREL⟩
                  case measure => simp [intOf]; omega
                | false =>
                  rw [hnm] at KM
                  have HB := hid (show T.fromOk zs = false from by
                    cases hq : T.fromOk zs with
                    | false => rfl
                    | true =>
                      have hfo := U.fok_of HWF.out hq
                      have hz := hfo.tok k _ (by rw [HN.out]; omega) HZ.out
                      unfold U.tokn at hz
                      rw [if_neg (show ¬ zn ≤ 2 by omega), hnm] at hz
                      cases hz)
                  clear HALL HZ DH HEL
                  go_wp2_with fail
                  have hmx : Tryz.prog.follows .mixedOrders = true := by kernel_rfl
                  refine wp_region_held (S := fun V => Fr (fun _ => False) V8 V) hmx ?_
                  have hS := (Fr.drew (Fr.refl (fun _ => False) V8))
                  simp only [List.size_toArray, List.length_cons, List.length_nil, Nat.reduceAdd, Array.replicate_succ, Array.replicate_zero, List.push_toArray, List.nil_append, List.cons_append]
                  refine tk (i := 0) (d := some 32) (v := ?_) rfl (Or.inl ⟨by kernel_rfl, ?_⟩) hS ?_; rotate_left 1; (intro w' hS'; clear hS'; go_simp; try with_reducible rfl); simp only [Act.put, q1, q2, q3]
                  refine tk (i := 1) (d := some 33) (v := ?_) rfl (Or.inl ⟨by kernel_rfl, ?_⟩) hS ?_; rotate_left 1; (intro w' hS'; have h1 := (HS.out w' hS').1; clear hS'; go_simp; try with_reducible rfl); simp only [Act.put, q1, q2, q3]
                  refine tk (i := 2) (d := some 34) (v := ?_) rfl (Or.inl ⟨by kernel_rfl, ?_⟩) hS ?_; rotate_left 1; (intro w' hS'; clear hS'; go_simp; try with_reducible rfl); simp only [Act.put, q1, q2, q3]
                  refine tk (i := 3) (d := some 35) (v := ?_) rfl (Or.inl ⟨by kernel_rfl, ?_⟩) hS ?_; rotate_left 1; (intro w' hS'; clear hS'; go_simp; try with_reducible rfl); simp only [Act.put, q1, q2, q3]
                  refine tk (i := 4) (d := some 36) (v := ?_) rfl (Or.inl ⟨by kernel_rfl, ?_⟩) hS ?_; rotate_left 1; (intro w' hS'; clear hS'; go_simp; try with_reducible rfl); simp only [Act.put, q1, q2, q3]
                  refine tk (i := 5) (d := some 37) (v := ?_) rfl (Or.inl ⟨by kernel_rfl, ?_⟩) hS ?_; rotate_left 1; (intro w' hS'; clear hS'; go_simp; try with_reducible rfl); simp only [Act.put, q1, q2, q3]
                  refine tk (i := 6) (d := some 38) (v := ?_) rfl (Or.inl ⟨by kernel_rfl, ?_⟩) hS ?_; rotate_left 1; (intro w' hS'; clear hS'; go_simp; try with_reducible rfl); simp only [Act.put, q1, q2, q3]
                  refine tks (i := 7) (d := some 39) rfl hS ?_; simp only [Act.put, q1, q2, q3]
                  refine tks (i := 8) (d := some 40) rfl hS ?_; simp only [Act.put, q1, q2, q3]
                  refine tks (i := 9) (d := some 41) rfl hS ?_; simp only [Act.put, q1, q2, q3]
                  refine tks (i := 10) (d := some 42) rfl hS ?_; simp only [Act.put, q1, q2, q3]
                  refine tks (i := 11) (d := some 43) rfl hS ?_; simp only [Act.put, q1, q2, q3]
                  refine tks (i := 12) (d := some 44) rfl hS ?_; simp only [Act.put, q1, q2, q3]
                  refine tks (i := 13) (d := some 45) rfl hS ?_; simp only [Act.put, q1, q2, q3]
                  refine tks (i := 14) (d := some 46) rfl hS ?_; simp only [Act.put, q1, q2, q3]
                  refine tks (i := 15) (d := some 47) rfl hS ?_; simp only [Act.put, q1, q2, q3]
                  refine tk (i := 16) (d := some 48) (v := ?_) rfl (Or.inl ⟨by kernel_rfl, ?_⟩) hS ?_; rotate_left 1; (intro w' hS'; clear hS'; go_simp; try with_reducible rfl); simp only [Act.put, q1, q2, q3]
                  refine tk (i := 17) (d := some 49) (v := ?_) rfl (Or.inl ⟨by kernel_rfl, ?_⟩) hS ?_; rotate_left 1; (intro w' hS'; clear hS'; go_simp; try with_reducible rfl); simp only [Act.put, q1, q2, q3]
                  refine tk (i := 18) (d := some 50) (v := ?_) rfl (Or.inl ⟨by kernel_rfl, ?_⟩) hS ?_; rotate_left 1; (intro w' hS'; clear hS'; go_simp; try with_reducible rfl); simp only [Act.put, q1, q2, q3]
                  refine tk (i := 19) (d := some 51) (v := ?_) rfl (Or.inl ⟨by kernel_rfl, ?_⟩) hS ?_; rotate_left 1; (intro w' hS'; clear hS'; go_simp; try with_reducible rfl); simp only [Act.put, q1, q2, q3]
                  refine tk (i := 20) (d := some 52) (v := ?_) rfl (Or.inl ⟨by kernel_rfl, ?_⟩) hS ?_; rotate_left 1; (intro w' hS'; have h1 := (HS.out w' hS').2.2.2; clear hS'; go_simp; try with_reducible rfl); simp only [Act.put, q1, q2, q3]
                  refine wpAnyH_ready (rs := [21]) (by kernel_rfl) (by simp) ?_
                  refine AllReadyH.cons rfl (fun K1 hK1 => ?_) (AllReadyH.nil)
                  go_simp
                  refine (KA.out _ hS).mono ?_
                  rintro e w3 ⟨rfl, fx⟩
                  refine hK1.out _ _ (hS.trans fx (fun _ _ h => h)) (fun hS => ?_)
                  clear fx
                  clear hK1 K1
                  simp only [List.getElem_toArray, List.getElem_cons_zero, List.getElem_cons_succ, Act.put, List.setIfInBounds_toArray, List.set_cons_zero, List.set_cons_succ]
                  refine tk (i := 22) (d := some 54) (v := ?_) rfl (Or.inl ⟨by kernel_rfl, ?_⟩) hS ?_; rotate_left 1; (intro w' hS'; clear hS'; go_simp; try with_reducible rfl); simp only [Act.put, q1, q2, q3]
                  refine tk (i := 23) (d := some 55) (v := ?_) rfl (Or.inl ⟨by kernel_rfl, ?_⟩) hS ?_; rotate_left 1; (intro w' hS'; clear hS'; go_simp; try with_reducible rfl); simp only [Act.put, q1, q2, q3]
                  refine tk (i := 24) (d := some 56) (v := ?_) rfl (Or.inl ⟨by kernel_rfl, ?_⟩) hS ?_; rotate_left 1; (intro w' hS'; clear hS'; go_simp; try with_reducible rfl); simp only [Act.put, q1, q2, q3]
                  refine tk (i := 25) (d := some 57) (v := ?_) rfl (Or.inl ⟨by kernel_rfl, ?_⟩) hS ?_; rotate_left 1; (intro w' hS'; clear hS'; go_simp; try with_reducible rfl); simp only [Act.put, q1, q2, q3]
                  refine tk (i := 26) (d := some 58) (v := ?_) rfl (Or.inl ⟨by kernel_rfl, ?_⟩) hS ?_; rotate_left 1; (intro w' hS'; clear hS'; go_simp; try with_reducible rfl); simp only [Act.put, q1, q2, q3]
                  refine tks (i := 27) (d := some 59) rfl hS ?_; simp only [Act.put, q1, q2, q3]
                  refine tks (i := 28) (d := some 60) rfl hS ?_; simp only [Act.put, q1, q2, q3]
                  refine tks (i := 29) (d := some 61) rfl hS ?_; simp only [Act.put, q1, q2, q3]
                  refine tks (i := 30) (d := some 62) rfl hS ?_; simp only [Act.put, q1, q2, q3]
                  refine tks (i := 31) (d := some 63) rfl hS ?_; simp only [Act.put, q1, q2, q3]
                  refine tks (i := 32) (d := some 64) rfl hS ?_; simp only [Act.put, q1, q2, q3]
                  refine tks (i := 33) (d := some 65) rfl hS ?_; simp only [Act.put, q1, q2, q3]
                  refine tks (i := 34) (d := some 66) rfl hS ?_; simp only [Act.put, q1, q2, q3]
                  refine tk (i := 35) (d := some 67) (v := ?_) rfl (Or.inl ⟨by kernel_rfl, ?_⟩) hS ?_; rotate_left 1; (intro w' hS'; clear hS'; go_simp; try with_reducible rfl); simp only [Act.put, q1, q2, q3]
                  refine tk (i := 36) (d := some 68) (v := ?_) rfl (Or.inl ⟨by kernel_rfl, ?_⟩) hS ?_; rotate_left 1; (intro w' hS'; clear hS'; go_simp; try with_reducible rfl); simp only [Act.put, q1, q2, q3]
                  refine tk (i := 37) (d := some 69) (v := ?_) rfl (Or.inl ⟨by kernel_rfl, ?_⟩) hS ?_; rotate_left 1; (intro w' hS'; clear hS'; go_simp; try with_reducible rfl); simp only [Act.put, q1, q2, q3]
                  refine tk (i := 38) (d := some 70) (v := ?_) rfl (Or.inl ⟨by kernel_rfl, ?_⟩) hS ?_; rotate_left 1; (intro w' hS'; clear hS'; go_simp; try with_reducible rfl); simp only [Act.put, q1, q2, q3]
                  refine tk (i := 39) (d := some 71) (v := ?_) rfl (Or.inl ⟨by kernel_rfl, ?_⟩) hS ?_; rotate_left 1; (intro w' hS'; clear hS'; go_simp; try with_reducible rfl); simp only [Act.put, q1, q2, q3]
                  refine tk (i := 40) (d := some 72) (v := ?_) rfl (Or.inl ⟨by kernel_rfl, ?_⟩) hS ?_; rotate_left 1; (intro w' hS'; clear hS'; go_simp; try with_reducible rfl); simp only [Act.put, q1, q2, q3]
                  refine tk (i := 41) (d := some 73) (v := ?_) rfl (Or.inl ⟨by kernel_rfl, ?_⟩) hS ?_; rotate_left 1; (intro w' hS'; clear hS'; go_simp; try with_reducible rfl); simp only [Act.put, q1, q2, q3]
                  refine tk (i := 42) (d := some 74) (v := ?_) rfl (Or.inl ⟨by kernel_rfl, ?_⟩) hS ?_; rotate_left 1; (intro w' hS'; have h1 := (HS.out w' hS').2.2.1; clear hS'; go_simp; try with_reducible rfl); simp only [Act.put, q1, q2, q3]
                  refine wpAnyH_ready (rs := [43]) (by kernel_rfl) (by simp) ?_
                  refine AllReadyH.cons rfl (fun K1 hK1 => ?_) (AllReadyH.nil)
                  go_simp
                  refine (KM.out _).mono ?_
                  rintro e w4 ⟨rfl, rfl⟩
                  refine hK1.out _ _ hS (fun hS => ?_)
                  clear hK1 K1
                  simp only [List.getElem_toArray, List.getElem_cons_zero, List.getElem_cons_succ, Act.put, List.setIfInBounds_toArray, List.set_cons_zero, List.set_cons_succ]
                  refine tk (i := 44) (d := some 76) (v := ?_) rfl (Or.inl ⟨by kernel_rfl, ?_⟩) hS ?_; rotate_left 1; (intro w' hS'; clear hS'; go_simp; try with_reducible rfl); simp only [Act.put, q1, q2, q3]
                  refine tk (i := 45) (d := some 77) (v := ?_) rfl (Or.inl ⟨by kernel_rfl, ?_⟩) hS ?_; rotate_left 1; (intro w' hS'; clear hS'; go_simp; try with_reducible rfl); simp only [Act.put, q1, q2, q3]
                  refine tk (i := 46) (d := some 78) (v := ?_) rfl (Or.inl ⟨by kernel_rfl, ?_⟩) hS ?_; rotate_left 1; (intro w' hS'; clear hS'; go_simp; try with_reducible rfl); simp only [Act.put, q1, q2, q3]
                  refine wpAnyH_done (by kernel_rfl) ?_ _
                  have FZ := hid hS
                  clear hS
                  go_wp2_with fail
                  go_ret2
                  exact ⟨(FW8.out.trans FZ.out (fun _ _ h => h)), .inl ⟨HB.out, rfl⟩⟩
        · obtain ⟨q, rfl⟩ : ∃ q, k = q + 1 := ⟨k - 1, by omega⟩
          obtain ⟨y, hy⟩ : ∃ p, zs[q]? = some p := ⟨_, List.getElem?_eq_getElem (by rw [HN.out]; omega)⟩
          obtain ⟨g', o', e', _, d0, _⟩ := T.flatN_cells (HR.out.1.kept FW8.out (fun _ _ h => h)) hy
          cases e'
          have HY := hid hy
          have e5 : ((q + 1 : Nat) : Int) - 1 = (q : Int) := by omega
          have i2 : (0 : Int) < ((q + 1 : Nat) : Int) := by omega
          have i3 : (0 : Int) ≤ (q : Int) := by omega
          have i4 : (q : Int) < (n : Int) := by omega
          have i5 : (0 : Int) ≤ (q : Int) + 1 := by omega
          have i6 : (q : Int) + 1 < (n : Int) := by omega
          have i7 : (0 : Int) < (q : Int) + 1 := by omega
          have i8 : decide ((0 : Int) < (q : Int) + 1) = true := decide_eq_true i7
          have i9 : decide ((0 : Int) < ((q + 1 : Nat) : Int)) = true := decide_eq_true i2
          have e6 : (q : Int) + 1 - 1 = (q : Int) := by omega
          have hw : IntKind.i64.wrap (q : Int) = (q : Int) := by rw [IntKind.wrap_i64]; omega
          have HS := hid (show ∀ W, Fr (fun _ => False) V8 W → W.cell? ⟨wr.heap.size, 0, none⟩ = some (.int .i64 zn) ∧ W.cell? ⟨wr.heap.size, 1, none⟩ = some (.int .i64 zp) ∧ W.cell? ⟨wr.heap.size, 2, none⟩ = some (.string zs2) ∧ W.cell? ⟨wr.heap.size, 3, none⟩ = some (.slice za al zc) ∧ W.cell? ⟨g, o + q * 4, none⟩ = some (.int .i64 y.1.1) from fun W hf => by
            obtain ⟨h1, h2, h3, h4⟩ := HX8.out W hf
            exact ⟨h1, h2, h3, h4, cellFr hf (fun h => h) d0⟩)
          clear hy hk0
          clear HX8
          by_cases hn1 : zn < 1
          · obtain rfl : tp = false := by rw [htp]; exact decide_eq_false (by omega)
            have e1 : decide (zn < 1) = true := decide_eq_true hn1
            clear htp
            have HB := hid (show T.fromOk zs = false from by
              cases hq : T.fromOk zs with
              | false => rfl
              | true =>
                have hfo := U.fok_of HWF.out hq
                have hz := hfo.gok (q + 1) _ (by rw [HN.out]; omega) HZ.out
                unfold T.gok at hz
                rw [decide_eq_false (show ¬ 1 ≤ zn by omega)] at hz
                cases hz)
            clear HALL HZ DH HEL
            go_wp2_with fail
            have hmx : Tryz.prog.follows .mixedOrders = true := by kernel_rfl
            refine wp_region_held (S := fun V => Fr (fun _ => False) V8 V) hmx ?_
            have hS := (Fr.drew (Fr.refl (fun _ => False) V8))
            simp only [List.size_toArray, List.length_cons, List.length_nil, Nat.reduceAdd, Array.replicate_succ, Array.replicate_zero, List.push_toArray, List.nil_append, List.cons_append]
            refine tk (i := 0) (d := some 32) (v := ?_) rfl (Or.inl ⟨by kernel_rfl, ?_⟩) hS ?_; rotate_left 1; (intro w' hS'; clear hS'; go_simp; try with_reducible rfl); simp only [Act.put, q1, q2, q3]
            refine tk (i := 1) (d := some 33) (v := ?_) rfl (Or.inl ⟨by kernel_rfl, ?_⟩) hS ?_; rotate_left 1; (intro w' hS'; have h1 := (HS.out w' hS').1; clear hS'; go_simp; try with_reducible rfl); simp only [Act.put, q1, q2, q3]
            refine tk (i := 2) (d := some 34) (v := ?_) rfl (Or.inl ⟨by kernel_rfl, ?_⟩) hS ?_; rotate_left 1; (intro w' hS'; clear hS'; go_simp; try with_reducible rfl); simp only [Act.put, q1, q2, q3]
            refine tk (i := 3) (d := some 35) (v := ?_) rfl (Or.inl ⟨by kernel_rfl, ?_⟩) hS ?_; rotate_left 1; (intro w' hS'; clear hS'; go_simp; try with_reducible rfl); simp only [Act.put, q1, q2, q3]
            refine tks (i := 4) (d := some 36) rfl hS ?_; simp only [Act.put, q1, q2, q3]
            refine tks (i := 5) (d := some 37) rfl hS ?_; simp only [Act.put, q1, q2, q3]
            refine tks (i := 6) (d := some 38) rfl hS ?_; simp only [Act.put, q1, q2, q3]
            refine tks (i := 7) (d := some 39) rfl hS ?_; simp only [Act.put, q1, q2, q3]
            refine tks (i := 8) (d := some 40) rfl hS ?_; simp only [Act.put, q1, q2, q3]
            refine tks (i := 9) (d := some 41) rfl hS ?_; simp only [Act.put, q1, q2, q3]
            refine tks (i := 10) (d := some 42) rfl hS ?_; simp only [Act.put, q1, q2, q3]
            refine tks (i := 11) (d := some 43) rfl hS ?_; simp only [Act.put, q1, q2, q3]
            refine tks (i := 12) (d := some 44) rfl hS ?_; simp only [Act.put, q1, q2, q3]
            refine tks (i := 13) (d := some 45) rfl hS ?_; simp only [Act.put, q1, q2, q3]
            refine tks (i := 14) (d := some 46) rfl hS ?_; simp only [Act.put, q1, q2, q3]
            refine tks (i := 15) (d := some 47) rfl hS ?_; simp only [Act.put, q1, q2, q3]
            refine tks (i := 16) (d := some 48) rfl hS ?_; simp only [Act.put, q1, q2, q3]
            refine tk (i := 17) (d := some 49) (v := ?_) rfl (Or.inl ⟨by kernel_rfl, ?_⟩) hS ?_; rotate_left 1; (intro w' hS'; clear hS'; go_simp; try with_reducible rfl); simp only [Act.put, q1, q2, q3]
            refine tk (i := 18) (d := some 50) (v := ?_) rfl (Or.inl ⟨by kernel_rfl, ?_⟩) hS ?_; rotate_left 1; (intro w' hS'; clear hS'; go_simp; try with_reducible rfl); simp only [Act.put, q1, q2, q3]
            refine tks (i := 19) (d := some 51) rfl hS ?_; simp only [Act.put, q1, q2, q3]
            refine tks (i := 20) (d := some 52) rfl hS ?_; simp only [Act.put, q1, q2, q3]
            refine tks (i := 21) (d := some 53) rfl hS ?_; simp only [Act.put, q1, q2, q3]
            refine tks (i := 22) (d := some 54) rfl hS ?_; simp only [Act.put, q1, q2, q3]
            refine tk (i := 23) (d := some 55) (v := ?_) rfl (Or.inl ⟨by kernel_rfl, ?_⟩) hS ?_; rotate_left 1; (intro w' hS'; clear hS'; go_simp; try with_reducible rfl); simp only [Act.put, q1, q2, q3]
            refine tk (i := 24) (d := some 56) (v := ?_) rfl (Or.inl ⟨by kernel_rfl, ?_⟩) hS ?_; rotate_left 1; (intro w' hS'; clear hS'; go_simp; try with_reducible rfl); simp only [Act.put, q1, q2, q3]
            refine tks (i := 25) (d := some 57) rfl hS ?_; simp only [Act.put, q1, q2, q3]
            refine tks (i := 26) (d := some 58) rfl hS ?_; simp only [Act.put, q1, q2, q3]
            refine tks (i := 27) (d := some 59) rfl hS ?_; simp only [Act.put, q1, q2, q3]
            refine tks (i := 28) (d := some 60) rfl hS ?_; simp only [Act.put, q1, q2, q3]
            refine tks (i := 29) (d := some 61) rfl hS ?_; simp only [Act.put, q1, q2, q3]
            refine tks (i := 30) (d := some 62) rfl hS ?_; simp only [Act.put, q1, q2, q3]
            refine tks (i := 31) (d := some 63) rfl hS ?_; simp only [Act.put, q1, q2, q3]
            refine tks (i := 32) (d := some 64) rfl hS ?_; simp only [Act.put, q1, q2, q3]
            refine tks (i := 33) (d := some 65) rfl hS ?_; simp only [Act.put, q1, q2, q3]
            refine tks (i := 34) (d := some 66) rfl hS ?_; simp only [Act.put, q1, q2, q3]
            refine tks (i := 35) (d := some 67) rfl hS ?_; simp only [Act.put, q1, q2, q3]
            refine tk (i := 36) (d := some 68) (v := ?_) rfl (Or.inl ⟨by kernel_rfl, ?_⟩) hS ?_; rotate_left 1; (intro w' hS'; clear hS'; go_simp; try with_reducible rfl); simp only [Act.put, q1, q2, q3]
            refine tk (i := 37) (d := some 69) (v := ?_) rfl (Or.inl ⟨by kernel_rfl, ?_⟩) hS ?_; rotate_left 1; (intro w' hS'; clear hS'; go_simp; try with_reducible rfl); simp only [Act.put, q1, q2, q3]
            refine tks (i := 38) (d := some 70) rfl hS ?_; simp only [Act.put, q1, q2, q3]
            refine tks (i := 39) (d := some 71) rfl hS ?_; simp only [Act.put, q1, q2, q3]
            refine tks (i := 40) (d := some 72) rfl hS ?_; simp only [Act.put, q1, q2, q3]
            refine tks (i := 41) (d := some 73) rfl hS ?_; simp only [Act.put, q1, q2, q3]
            refine tks (i := 42) (d := some 74) rfl hS ?_; simp only [Act.put, q1, q2, q3]
            refine tks (i := 43) (d := some 75) rfl hS ?_; simp only [Act.put, q1, q2, q3]
            refine tks (i := 44) (d := some 76) rfl hS ?_; simp only [Act.put, q1, q2, q3]
            refine tks (i := 45) (d := some 77) rfl hS ?_; simp only [Act.put, q1, q2, q3]
            refine tk (i := 46) (d := some 78) (v := ?_) rfl (Or.inl ⟨by kernel_rfl, ?_⟩) hS ?_; rotate_left 1; (intro w' hS'; clear hS'; go_simp; try with_reducible rfl); simp only [Act.put, q1, q2, q3]
            refine wpAnyH_done (by kernel_rfl) ?_ _
            have FZ := hid hS
            clear hS
            go_wp2_with fail
            go_ret2
            exact ⟨(FW8.out.trans FZ.out (fun _ _ h => h)), .inl ⟨HB.out, rfl⟩⟩
          · have e1 : decide (zn < 1) = false := decide_eq_false hn1
            by_cases hle : zn ≤ y.1.1
            · have e3 : decide (zn ≤ y.1.1) = true := decide_eq_true hle
              clear htp
              cases tp with
              | false =>
                have HB := hid (show T.fromOk zs = false from by
                  cases hq : T.fromOk zs with
                  | false => rfl
                  | true =>
                    have hfo := U.fok_of HWF.out hq
                    have hz := hfo.asc q _ _ (by rw [HN.out]; omega) HY.out HZ.out
                    exact absurd hz (by show ¬ y.1.1 < zn; omega))
                clear HALL HZ DH HEL
                go_wp2_with fail
                have hmx : Tryz.prog.follows .mixedOrders = true := by kernel_rfl
                refine wp_region_held (S := fun V => Fr (fun _ => False) V8 V) hmx ?_
                have hS := (Fr.drew (Fr.refl (fun _ => False) V8))
                simp only [List.size_toArray, List.length_cons, List.length_nil, Nat.reduceAdd, Array.replicate_succ, Array.replicate_zero, List.push_toArray, List.nil_append, List.cons_append]
                refine tk (i := 0) (d := some 32) (v := ?_) rfl (Or.inl ⟨by kernel_rfl, ?_⟩) hS ?_; rotate_left 1; (intro w' hS'; clear hS'; go_simp; try with_reducible rfl); simp only [Act.put, q1, q2, q3]
                refine tk (i := 1) (d := some 33) (v := ?_) rfl (Or.inl ⟨by kernel_rfl, ?_⟩) hS ?_; rotate_left 1; (intro w' hS'; have h1 := (HS.out w' hS').1; clear hS'; go_simp; try with_reducible rfl); simp only [Act.put, q1, q2, q3]
                refine tk (i := 2) (d := some 34) (v := ?_) rfl (Or.inl ⟨by kernel_rfl, ?_⟩) hS ?_; rotate_left 1; (intro w' hS'; clear hS'; go_simp; try with_reducible rfl); simp only [Act.put, q1, q2, q3]
                refine tk (i := 3) (d := some 35) (v := ?_) rfl (Or.inl ⟨by kernel_rfl, ?_⟩) hS ?_; rotate_left 1; (intro w' hS'; clear hS'; go_simp; try with_reducible rfl); simp only [Act.put, q1, q2, q3]
                refine tk (i := 4) (d := some 36) (v := ?_) rfl (Or.inl ⟨by kernel_rfl, ?_⟩) hS ?_; rotate_left 1; (intro w' hS'; clear hS'; go_simp; try with_reducible rfl); simp only [Act.put, q1, q2, q3]
                refine tk (i := 5) (d := some 37) (v := ?_) rfl (Or.inl ⟨by kernel_rfl, ?_⟩) hS ?_; rotate_left 1; (intro w' hS'; clear hS'; go_simp; try with_reducible rfl); simp only [Act.put, q1, q2, q3]
                refine tk (i := 6) (d := some 38) (v := ?_) rfl (Or.inl ⟨by kernel_rfl, ?_⟩) hS ?_; rotate_left 1; (intro w' hS'; clear hS'; go_simp; try with_reducible rfl); simp only [Act.put, q1, q2, q3]
                refine tk (i := 7) (d := some 39) (v := ?_) rfl (Or.inl ⟨by kernel_rfl, ?_⟩) hS ?_; rotate_left 1; (intro w' hS'; clear hS'; go_simp; try with_reducible rfl); simp only [Act.put, q1, q2, q3]
                refine tk (i := 8) (d := some 40) (v := ?_) rfl (Or.inl ⟨by kernel_rfl, ?_⟩) hS ?_; rotate_left 1; (intro w' hS'; have h1 := (HS.out w' hS').1; clear hS'; go_simp; try with_reducible rfl); simp only [Act.put, q1, q2, q3]
                refine tk (i := 9) (d := some 41) (v := ?_) rfl (Or.inl ⟨by kernel_rfl, ?_⟩) hS ?_; rotate_left 1; (intro w' hS'; clear hS'; go_simp; try with_reducible rfl); simp only [Act.put, q1, q2, q3]
                refine tk (i := 10) (d := some 42) (v := ?_) rfl (Or.inl ⟨by kernel_rfl, ?_⟩) hS ?_; rotate_left 1; (intro w' hS'; clear hS'; go_simp; try with_reducible rfl); simp only [Act.put, q1, q2, q3]
                refine tk (i := 11) (d := some 43) (v := ?_) rfl (Or.inl ⟨by kernel_rfl, ?_⟩) hS ?_; rotate_left 1; (intro w' hS'; clear hS'; go_simp; try with_reducible rfl); simp only [Act.put, q1, q2, q3]
                refine tk (i := 12) (d := some 44) (v := ?_) rfl (Or.inl ⟨by kernel_rfl, ?_⟩) hS ?_; rotate_left 1; (intro w' hS'; clear hS'; go_simp; try with_reducible rfl); simp only [Act.put, q1, q2, q3]
                refine tk (i := 13) (d := some 45) (v := ?_) rfl (Or.inl ⟨by kernel_rfl, ?_⟩) hS ?_; rotate_left 1; (intro w' hS'; clear hS'; go_simp; try with_reducible rfl); simp only [Act.put, q1, q2, q3]
                refine tk (i := 14) (d := some 46) (v := ?_) rfl (Or.inl ⟨by kernel_rfl, ?_⟩) hS ?_; rotate_left 1; (intro w' hS'; have h1 := (HS.out w' hS').2.2.2.2; clear hS'; go_simp; try with_reducible rfl); simp only [Act.put, q1, q2, q3]
                refine tk (i := 15) (d := some 47) (v := ?_) rfl (Or.inl ⟨by kernel_rfl, ?_⟩) hS ?_; rotate_left 1; (intro w' hS'; clear hS'; go_simp; try with_reducible rfl); simp only [Act.put, q1, q2, q3]
                refine tk (i := 16) (d := some 48) (v := ?_) rfl (Or.inl ⟨by kernel_rfl, ?_⟩) hS ?_; rotate_left 1; (intro w' hS'; clear hS'; go_simp; try with_reducible rfl); simp only [Act.put, q1, q2, q3]
                refine tk (i := 17) (d := some 49) (v := ?_) rfl (Or.inl ⟨by kernel_rfl, ?_⟩) hS ?_; rotate_left 1; (intro w' hS'; clear hS'; go_simp; try with_reducible rfl); simp only [Act.put, q1, q2, q3]
                refine tk (i := 18) (d := some 50) (v := ?_) rfl (Or.inl ⟨by kernel_rfl, ?_⟩) hS ?_; rotate_left 1; (intro w' hS'; clear hS'; go_simp; try with_reducible rfl); simp only [Act.put, q1, q2, q3]
                refine tks (i := 19) (d := some 51) rfl hS ?_; simp only [Act.put, q1, q2, q3]
                refine tks (i := 20) (d := some 52) rfl hS ?_; simp only [Act.put, q1, q2, q3]
                refine tks (i := 21) (d := some 53) rfl hS ?_; simp only [Act.put, q1, q2, q3]
                refine tks (i := 22) (d := some 54) rfl hS ?_; simp only [Act.put, q1, q2, q3]
                refine tk (i := 23) (d := some 55) (v := ?_) rfl (Or.inl ⟨by kernel_rfl, ?_⟩) hS ?_; rotate_left 1; (intro w' hS'; clear hS'; go_simp; try with_reducible rfl); simp only [Act.put, q1, q2, q3]
                refine tk (i := 24) (d := some 56) (v := ?_) rfl (Or.inl ⟨by kernel_rfl, ?_⟩) hS ?_; rotate_left 1; (intro w' hS'; clear hS'; go_simp; try with_reducible rfl); simp only [Act.put, q1, q2, q3]
                refine tks (i := 25) (d := some 57) rfl hS ?_; simp only [Act.put, q1, q2, q3]
                refine tks (i := 26) (d := some 58) rfl hS ?_; simp only [Act.put, q1, q2, q3]
                refine tks (i := 27) (d := some 59) rfl hS ?_; simp only [Act.put, q1, q2, q3]
                refine tks (i := 28) (d := some 60) rfl hS ?_; simp only [Act.put, q1, q2, q3]
                refine tks (i := 29) (d := some 61) rfl hS ?_; simp only [Act.put, q1, q2, q3]
                refine tks (i := 30) (d := some 62) rfl hS ?_; simp only [Act.put, q1, q2, q3]
                refine tks (i := 31) (d := some 63) rfl hS ?_; simp only [Act.put, q1, q2, q3]
                refine tks (i := 32) (d := some 64) rfl hS ?_; simp only [Act.put, q1, q2, q3]
                refine tks (i := 33) (d := some 65) rfl hS ?_; simp only [Act.put, q1, q2, q3]
                refine tks (i := 34) (d := some 66) rfl hS ?_; simp only [Act.put, q1, q2, q3]
                refine tks (i := 35) (d := some 67) rfl hS ?_; simp only [Act.put, q1, q2, q3]
                refine tk (i := 36) (d := some 68) (v := ?_) rfl (Or.inl ⟨by kernel_rfl, ?_⟩) hS ?_; rotate_left 1; (intro w' hS'; clear hS'; go_simp; try with_reducible rfl); simp only [Act.put, q1, q2, q3]
                refine tk (i := 37) (d := some 69) (v := ?_) rfl (Or.inl ⟨by kernel_rfl, ?_⟩) hS ?_; rotate_left 1; (intro w' hS'; clear hS'; go_simp; try with_reducible rfl); simp only [Act.put, q1, q2, q3]
                refine tks (i := 38) (d := some 70) rfl hS ?_; simp only [Act.put, q1, q2, q3]
                refine tks (i := 39) (d := some 71) rfl hS ?_; simp only [Act.put, q1, q2, q3]
                refine tks (i := 40) (d := some 72) rfl hS ?_; simp only [Act.put, q1, q2, q3]
                refine tks (i := 41) (d := some 73) rfl hS ?_; simp only [Act.put, q1, q2, q3]
                refine tks (i := 42) (d := some 74) rfl hS ?_; simp only [Act.put, q1, q2, q3]
                refine tks (i := 43) (d := some 75) rfl hS ?_; simp only [Act.put, q1, q2, q3]
                refine tks (i := 44) (d := some 76) rfl hS ?_; simp only [Act.put, q1, q2, q3]
                refine tks (i := 45) (d := some 77) rfl hS ?_; simp only [Act.put, q1, q2, q3]
                refine tk (i := 46) (d := some 78) (v := ?_) rfl (Or.inl ⟨by kernel_rfl, ?_⟩) hS ?_; rotate_left 1; (intro w' hS'; clear hS'; go_simp; try with_reducible rfl); simp only [Act.put, q1, q2, q3]
                refine wpAnyH_done (by kernel_rfl) ?_ _
                have FZ := hid hS
                clear hS
                go_wp2_with fail
                go_ret2
                exact ⟨(FW8.out.trans FZ.out (fun _ _ h => h)), .inl ⟨HB.out, rfl⟩⟩
              | true =>
                have HB := hid (show T.fromOk zs = false from by
                  cases hq : T.fromOk zs with
                  | false => rfl
                  | true =>
                    have hfo := U.fok_of HWF.out hq
                    have hz := hfo.asc q _ _ (by rw [HN.out]; omega) HY.out HZ.out
                    exact absurd hz (by show ¬ y.1.1 < zn; omega))
                clear HALL HZ DH HEL
                go_wp2_with fail
                have hmx : Tryz.prog.follows .mixedOrders = true := by kernel_rfl
                refine wp_region_held (S := fun V => Fr (fun _ => False) V8 V) hmx ?_
                have hS := (Fr.drew (Fr.refl (fun _ => False) V8))
                simp only [List.size_toArray, List.length_cons, List.length_nil, Nat.reduceAdd, Array.replicate_succ, Array.replicate_zero, List.push_toArray, List.nil_append, List.cons_append]
                refine tk (i := 0) (d := some 32) (v := ?_) rfl (Or.inl ⟨by kernel_rfl, ?_⟩) hS ?_; rotate_left 1; (intro w' hS'; clear hS'; go_simp; try with_reducible rfl); simp only [Act.put, q1, q2, q3]
                refine tk (i := 1) (d := some 33) (v := ?_) rfl (Or.inl ⟨by kernel_rfl, ?_⟩) hS ?_; rotate_left 1; (intro w' hS'; have h1 := (HS.out w' hS').1; clear hS'; go_simp; try with_reducible rfl); simp only [Act.put, q1, q2, q3]
                refine tk (i := 2) (d := some 34) (v := ?_) rfl (Or.inl ⟨by kernel_rfl, ?_⟩) hS ?_; rotate_left 1; (intro w' hS'; clear hS'; go_simp; try with_reducible rfl); simp only [Act.put, q1, q2, q3]
                refine tk (i := 3) (d := some 35) (v := ?_) rfl (Or.inl ⟨by kernel_rfl, ?_⟩) hS ?_; rotate_left 1; (intro w' hS'; clear hS'; go_simp; try with_reducible rfl); simp only [Act.put, q1, q2, q3]
                refine tk (i := 4) (d := some 36) (v := ?_) rfl (Or.inl ⟨by kernel_rfl, ?_⟩) hS ?_; rotate_left 1; (intro w' hS'; clear hS'; go_simp; try with_reducible rfl); simp only [Act.put, q1, q2, q3]
                refine tk (i := 5) (d := some 37) (v := ?_) rfl (Or.inl ⟨by kernel_rfl, ?_⟩) hS ?_; rotate_left 1; (intro w' hS'; clear hS'; go_simp; try with_reducible rfl); simp only [Act.put, q1, q2, q3]
                refine tk (i := 6) (d := some 38) (v := ?_) rfl (Or.inl ⟨by kernel_rfl, ?_⟩) hS ?_; rotate_left 1; (intro w' hS'; clear hS'; go_simp; try with_reducible rfl); simp only [Act.put, q1, q2, q3]
                refine tk (i := 7) (d := some 39) (v := ?_) rfl (Or.inl ⟨by kernel_rfl, ?_⟩) hS ?_; rotate_left 1; (intro w' hS'; clear hS'; go_simp; try with_reducible rfl); simp only [Act.put, q1, q2, q3]
                refine tk (i := 8) (d := some 40) (v := ?_) rfl (Or.inl ⟨by kernel_rfl, ?_⟩) hS ?_; rotate_left 1; (intro w' hS'; have h1 := (HS.out w' hS').1; clear hS'; go_simp; try with_reducible rfl); simp only [Act.put, q1, q2, q3]
                refine tk (i := 9) (d := some 41) (v := ?_) rfl (Or.inl ⟨by kernel_rfl, ?_⟩) hS ?_; rotate_left 1; (intro w' hS'; clear hS'; go_simp; try with_reducible rfl); simp only [Act.put, q1, q2, q3]
                refine tk (i := 10) (d := some 42) (v := ?_) rfl (Or.inl ⟨by kernel_rfl, ?_⟩) hS ?_; rotate_left 1; (intro w' hS'; clear hS'; go_simp; try with_reducible rfl); simp only [Act.put, q1, q2, q3]
                refine tk (i := 11) (d := some 43) (v := ?_) rfl (Or.inl ⟨by kernel_rfl, ?_⟩) hS ?_; rotate_left 1; (intro w' hS'; clear hS'; go_simp; try with_reducible rfl); simp only [Act.put, q1, q2, q3]
                refine tk (i := 12) (d := some 44) (v := ?_) rfl (Or.inl ⟨by kernel_rfl, ?_⟩) hS ?_; rotate_left 1; (intro w' hS'; clear hS'; go_simp; try with_reducible rfl); simp only [Act.put, q1, q2, q3]
                refine tk (i := 13) (d := some 45) (v := ?_) rfl (Or.inl ⟨by kernel_rfl, ?_⟩) hS ?_; rotate_left 1; (intro w' hS'; clear hS'; go_simp; try with_reducible rfl); simp only [Act.put, q1, q2, q3]
                refine tk (i := 14) (d := some 46) (v := ?_) rfl (Or.inl ⟨by kernel_rfl, ?_⟩) hS ?_; rotate_left 1; (intro w' hS'; have h1 := (HS.out w' hS').2.2.2.2; clear hS'; go_simp; try with_reducible rfl); simp only [Act.put, q1, q2, q3]
                refine tk (i := 15) (d := some 47) (v := ?_) rfl (Or.inl ⟨by kernel_rfl, ?_⟩) hS ?_; rotate_left 1; (intro w' hS'; clear hS'; go_simp; try with_reducible rfl); simp only [Act.put, q1, q2, q3]
                refine tk (i := 16) (d := some 48) (v := ?_) rfl (Or.inl ⟨by kernel_rfl, ?_⟩) hS ?_; rotate_left 1; (intro w' hS'; clear hS'; go_simp; try with_reducible rfl); simp only [Act.put, q1, q2, q3]
                refine tk (i := 17) (d := some 49) (v := ?_) rfl (Or.inl ⟨by kernel_rfl, ?_⟩) hS ?_; rotate_left 1; (intro w' hS'; clear hS'; go_simp; try with_reducible rfl); simp only [Act.put, q1, q2, q3]
                refine tk (i := 18) (d := some 50) (v := ?_) rfl (Or.inl ⟨by kernel_rfl, ?_⟩) hS ?_; rotate_left 1; (intro w' hS'; clear hS'; go_simp; try with_reducible rfl); simp only [Act.put, q1, q2, q3]
                refine tks (i := 19) (d := some 51) rfl hS ?_; simp only [Act.put, q1, q2, q3]
                refine tks (i := 20) (d := some 52) rfl hS ?_; simp only [Act.put, q1, q2, q3]
                refine tks (i := 21) (d := some 53) rfl hS ?_; simp only [Act.put, q1, q2, q3]
                refine tks (i := 22) (d := some 54) rfl hS ?_; simp only [Act.put, q1, q2, q3]
                refine tk (i := 23) (d := some 55) (v := ?_) rfl (Or.inl ⟨by kernel_rfl, ?_⟩) hS ?_; rotate_left 1; (intro w' hS'; clear hS'; go_simp; try with_reducible rfl); simp only [Act.put, q1, q2, q3]
                refine tk (i := 24) (d := some 56) (v := ?_) rfl (Or.inl ⟨by kernel_rfl, ?_⟩) hS ?_; rotate_left 1; (intro w' hS'; clear hS'; go_simp; try with_reducible rfl); simp only [Act.put, q1, q2, q3]
                refine tks (i := 25) (d := some 57) rfl hS ?_; simp only [Act.put, q1, q2, q3]
                refine tks (i := 26) (d := some 58) rfl hS ?_; simp only [Act.put, q1, q2, q3]
                refine tks (i := 27) (d := some 59) rfl hS ?_; simp only [Act.put, q1, q2, q3]
                refine tks (i := 28) (d := some 60) rfl hS ?_; simp only [Act.put, q1, q2, q3]
                refine tks (i := 29) (d := some 61) rfl hS ?_; simp only [Act.put, q1, q2, q3]
                refine tks (i := 30) (d := some 62) rfl hS ?_; simp only [Act.put, q1, q2, q3]
                refine tks (i := 31) (d := some 63) rfl hS ?_; simp only [Act.put, q1, q2, q3]
                refine tks (i := 32) (d := some 64) rfl hS ?_; simp only [Act.put, q1, q2, q3]
                refine tks (i := 33) (d := some 65) rfl hS ?_; simp only [Act.put, q1, q2, q3]
                refine tks (i := 34) (d := some 66) rfl hS ?_; simp only [Act.put, q1, q2, q3]
                refine tks (i := 35) (d := some 67) rfl hS ?_; simp only [Act.put, q1, q2, q3]
                refine tk (i := 36) (d := some 68) (v := ?_) rfl (Or.inl ⟨by kernel_rfl, ?_⟩) hS ?_; rotate_left 1; (intro w' hS'; clear hS'; go_simp; try with_reducible rfl); simp only [Act.put, q1, q2, q3]
                refine tk (i := 37) (d := some 69) (v := ?_) rfl (Or.inl ⟨by kernel_rfl, ?_⟩) hS ?_; rotate_left 1; (intro w' hS'; clear hS'; go_simp; try with_reducible rfl); simp only [Act.put, q1, q2, q3]
                refine tks (i := 38) (d := some 70) rfl hS ?_; simp only [Act.put, q1, q2, q3]
                refine tks (i := 39) (d := some 71) rfl hS ?_; simp only [Act.put, q1, q2, q3]
                refine tks (i := 40) (d := some 72) rfl hS ?_; simp only [Act.put, q1, q2, q3]
                refine tks (i := 41) (d := some 73) rfl hS ?_; simp only [Act.put, q1, q2, q3]
                refine tks (i := 42) (d := some 74) rfl hS ?_; simp only [Act.put, q1, q2, q3]
                refine tks (i := 43) (d := some 75) rfl hS ?_; simp only [Act.put, q1, q2, q3]
                refine tks (i := 44) (d := some 76) rfl hS ?_; simp only [Act.put, q1, q2, q3]
                refine tks (i := 45) (d := some 77) rfl hS ?_; simp only [Act.put, q1, q2, q3]
                refine tk (i := 46) (d := some 78) (v := ?_) rfl (Or.inl ⟨by kernel_rfl, ?_⟩) hS ?_; rotate_left 1; (intro w' hS'; clear hS'; go_simp; try with_reducible rfl); simp only [Act.put, q1, q2, q3]
                refine wpAnyH_done (by kernel_rfl) ?_ _
                have FZ := hid hS
                clear hS
                go_wp2_with fail
                go_ret2
                exact ⟨(FW8.out.trans FZ.out (fun _ _ h => h)), .inl ⟨HB.out, rfl⟩⟩
            · have e3 : decide (zn ≤ y.1.1) = false := decide_eq_false hle
              cases tp with
              | true =>
                have htop := of_decide_eq_true htp.symm
                clear htp
                cases hat : (T.txts zat && T.asc (fun a b => T.blt a.1 b.1) zat) with
                | false =>
                  rw [hat] at KA
                  have HB := hid (show T.fromOk zs = false from by
                    cases hq : T.fromOk zs with
                    | false => rfl
                    | true =>
                      have hfo := U.fok_of HWF.out hq
                      have hz := hfo.gok (q + 1) _ (by rw [HN.out]; omega) HZ.out
                      unfold T.gok at hz
                      rw [hat, Bool.and_false] at hz
                      cases hz)
                  clear HALL HZ DH HEL
                  go_wp2_with fail
                  have hmx : Tryz.prog.follows .mixedOrders = true := by kernel_rfl
                  refine wp_region_held (S := fun V => Fr (fun _ => False) V8 V) hmx ?_
                  have hS := (Fr.drew (Fr.refl (fun _ => False) V8))
                  simp only [List.size_toArray, List.length_cons, List.length_nil, Nat.reduceAdd, Array.replicate_succ, Array.replicate_zero, List.push_toArray, List.nil_append, List.cons_append]
                  refine tk (i := 0) (d := some 32) (v := ?_) rfl (Or.inl ⟨by kernel_rfl, ?_⟩) hS ?_; rotate_left 1; (intro w' hS'; clear hS'; go_simp; try with_reducible rfl); simp only [Act.put, q1, q2, q3]
                  refine tk (i := 1) (d := some 33) (v := ?_) rfl (Or.inl ⟨by kernel_rfl, ?_⟩) hS ?_; rotate_left 1; (intro w' hS'; have h1 := (HS.out w' hS').1; clear hS'; go_simp; try with_reducible rfl); simp only [Act.put, q1, q2, q3]
                  refine tk (i := 2) (d := some 34) (v := ?_) rfl (Or.inl ⟨by kernel_rfl, ?_⟩) hS ?_; rotate_left 1; (intro w' hS'; clear hS'; go_simp; try with_reducible rfl); simp only [Act.put, q1, q2, q3]
                  refine tk (i := 3) (d := some 35) (v := ?_) rfl (Or.inl ⟨by kernel_rfl, ?_⟩) hS ?_; rotate_left 1; (intro w' hS'; clear hS'; go_simp; try with_reducible rfl); simp only [Act.put, q1, q2, q3]
                  refine tk (i := 4) (d := some 36) (v := ?_) rfl (Or.inl ⟨by kernel_rfl, ?_⟩) hS ?_; rotate_left 1; (intro w' hS'; clear hS'; go_simp; try with_reducible rfl); simp only [Act.put, q1, q2, q3]
                  refine tk (i := 5) (d := some 37) (v := ?_) rfl (Or.inl ⟨by kernel_rfl, ?_⟩) hS ?_; rotate_left 1; (intro w' hS'; clear hS'; go_simp; try with_reducible rfl); simp only [Act.put, q1, q2, q3]
                  refine tk (i := 6) (d := some 38) (v := ?_) rfl (Or.inl ⟨by kernel_rfl, ?_⟩) hS ?_; rotate_left 1; (intro w' hS'; clear hS'; go_simp; try with_reducible rfl); simp only [Act.put, q1, q2, q3]
                  refine tk (i := 7) (d := some 39) (v := ?_) rfl (Or.inl ⟨by kernel_rfl, ?_⟩) hS ?_; rotate_left 1; (intro w' hS'; clear hS'; go_simp; try with_reducible rfl); simp only [Act.put, q1, q2, q3]
                  refine tk (i := 8) (d := some 40) (v := ?_) rfl (Or.inl ⟨by kernel_rfl, ?_⟩) hS ?_; rotate_left 1; (intro w' hS'; have h1 := (HS.out w' hS').1; clear hS'; go_simp; try with_reducible rfl); simp only [Act.put, q1, q2, q3]
                  refine tk (i := 9) (d := some 41) (v := ?_) rfl (Or.inl ⟨by kernel_rfl, ?_⟩) hS ?_; rotate_left 1; (intro w' hS'; clear hS'; go_simp; try with_reducible rfl); simp only [Act.put, q1, q2, q3]
                  refine tk (i := 10) (d := some 42) (v := ?_) rfl (Or.inl ⟨by kernel_rfl, ?_⟩) hS ?_; rotate_left 1; (intro w' hS'; clear hS'; go_simp; try with_reducible rfl); simp only [Act.put, q1, q2, q3]
                  refine tk (i := 11) (d := some 43) (v := ?_) rfl (Or.inl ⟨by kernel_rfl, ?_⟩) hS ?_; rotate_left 1; (intro w' hS'; clear hS'; go_simp; try with_reducible rfl); simp only [Act.put, q1, q2, q3]
                  refine tk (i := 12) (d := some 44) (v := ?_) rfl (Or.inl ⟨by kernel_rfl, ?_⟩) hS ?_; rotate_left 1; (intro w' hS'; clear hS'; go_simp; try with_reducible rfl); simp only [Act.put, q1, q2, q3]
                  refine tk (i := 13) (d := some 45) (v := ?_) rfl (Or.inl ⟨by kernel_rfl, ?_⟩) hS ?_; rotate_left 1; (intro w' hS'; clear hS'; go_simp; try with_reducible rfl); simp only [Act.put, q1, q2, q3]
                  refine tk (i := 14) (d := some 46) (v := ?_) rfl (Or.inl ⟨by kernel_rfl, ?_⟩) hS ?_; rotate_left 1; (intro w' hS'; have h1 := (HS.out w' hS').2.2.2.2; clear hS'; go_simp; try with_reducible rfl); simp only [Act.put, q1, q2, q3]
                  refine tk (i := 15) (d := some 47) (v := ?_) rfl (Or.inl ⟨by kernel_rfl, ?_⟩) hS ?_; rotate_left 1; (intro w' hS'; clear hS'; go_simp; try with_reducible rfl); simp only [Act.put, q1, q2, q3]
                  refine tk (i := 16) (d := some 48) (v := ?_) rfl (Or.inl ⟨by kernel_rfl, ?_⟩) hS ?_; rotate_left 1; (intro w' hS'; clear hS'; go_simp; try with_reducible rfl); simp only [Act.put, q1, q2, q3]
                  refine tk (i := 17) (d := some 49) (v := ?_) rfl (Or.inl ⟨by kernel_rfl, ?_⟩) hS ?_; rotate_left 1; (intro w' hS'; clear hS'; go_simp; try with_reducible rfl); simp only [Act.put, q1, q2, q3]
                  refine tk (i := 18) (d := some 50) (v := ?_) rfl (Or.inl ⟨by kernel_rfl, ?_⟩) hS ?_; rotate_left 1; (intro w' hS'; clear hS'; go_simp; try with_reducible rfl); simp only [Act.put, q1, q2, q3]
                  refine tk (i := 19) (d := some 51) (v := ?_) rfl (Or.inl ⟨by kernel_rfl, ?_⟩) hS ?_; rotate_left 1; (intro w' hS'; clear hS'; go_simp; try with_reducible rfl); simp only [Act.put, q1, q2, q3]
                  refine tk (i := 20) (d := some 52) (v := ?_) rfl (Or.inl ⟨by kernel_rfl, ?_⟩) hS ?_; rotate_left 1; (intro w' hS'; have h1 := (HS.out w' hS').2.2.2.1; clear hS'; go_simp; try with_reducible rfl); simp only [Act.put, q1, q2, q3]
                  refine wpAnyH_ready (rs := [21]) (by kernel_rfl) (by simp) ?_
                  refine AllReadyH.cons rfl (fun K1 hK1 => ?_) (AllReadyH.nil)
                  go_simp
                  refine (KA.out _ hS).mono ?_
                  rintro e w3 ⟨rfl, fx⟩
                  refine hK1.out _ _ (hS.trans fx (fun _ _ h => h)) (fun hS => ?_)
                  clear fx
                  clear hK1 K1
                  simp only [List.getElem_toArray, List.getElem_cons_zero, List.getElem_cons_succ, Act.put, List.setIfInBounds_toArray, List.set_cons_zero, List.set_cons_succ]
                  refine tk (i := 22) (d := some 54) (v := ?_) rfl (Or.inl ⟨by kernel_rfl, ?_⟩) hS ?_; rotate_left 1; (intro w' hS'; clear hS'; go_simp; try with_reducible rfl); simp only [Act.put, q1, q2, q3]
                  refine tk (i := 23) (d := some 55) (v := ?_) rfl (Or.inl ⟨by kernel_rfl, ?_⟩) hS ?_; rotate_left 1; (intro w' hS'; clear hS'; go_simp; try with_reducible rfl); simp only [Act.put, q1, q2, q3]
                  refine tk (i := 24) (d := some 56) (v := ?_) rfl (Or.inl ⟨by kernel_rfl, ?_⟩) hS ?_; rotate_left 1; (intro w' hS'; clear hS'; go_simp; try with_reducible rfl); simp only [Act.put, q1, q2, q3]
                  refine tks (i := 25) (d := some 57) rfl hS ?_; simp only [Act.put, q1, q2, q3]
                  refine tks (i := 26) (d := some 58) rfl hS ?_; simp only [Act.put, q1, q2, q3]
                  refine tks (i := 27) (d := some 59) rfl hS ?_; simp only [Act.put, q1, q2, q3]
                  refine tks (i := 28) (d := some 60) rfl hS ?_; simp only [Act.put, q1, q2, q3]
                  refine tks (i := 29) (d := some 61) rfl hS ?_; simp only [Act.put, q1, q2, q3]
                  refine tks (i := 30) (d := some 62) rfl hS ?_; simp only [Act.put, q1, q2, q3]
                  refine tks (i := 31) (d := some 63) rfl hS ?_; simp only [Act.put, q1, q2, q3]
                  refine tks (i := 32) (d := some 64) rfl hS ?_; simp only [Act.put, q1, q2, q3]
                  refine tks (i := 33) (d := some 65) rfl hS ?_; simp only [Act.put, q1, q2, q3]
                  refine tks (i := 34) (d := some 66) rfl hS ?_; simp only [Act.put, q1, q2, q3]
                  refine tks (i := 35) (d := some 67) rfl hS ?_; simp only [Act.put, q1, q2, q3]
                  refine tk (i := 36) (d := some 68) (v := ?_) rfl (Or.inl ⟨by kernel_rfl, ?_⟩) hS ?_; rotate_left 1; (intro w' hS'; clear hS'; go_simp; try with_reducible rfl); simp only [Act.put, q1, q2, q3]
                  refine tk (i := 37) (d := some 69) (v := ?_) rfl (Or.inl ⟨by kernel_rfl, ?_⟩) hS ?_; rotate_left 1; (intro w' hS'; clear hS'; go_simp; try with_reducible rfl); simp only [Act.put, q1, q2, q3]
                  refine tks (i := 38) (d := some 70) rfl hS ?_; simp only [Act.put, q1, q2, q3]
                  refine tks (i := 39) (d := some 71) rfl hS ?_; simp only [Act.put, q1, q2, q3]
                  refine tks (i := 40) (d := some 72) rfl hS ?_; simp only [Act.put, q1, q2, q3]
                  refine tks (i := 41) (d := some 73) rfl hS ?_; simp only [Act.put, q1, q2, q3]
                  refine tks (i := 42) (d := some 74) rfl hS ?_; simp only [Act.put, q1, q2, q3]
                  refine tks (i := 43) (d := some 75) rfl hS ?_; simp only [Act.put, q1, q2, q3]
                  refine tks (i := 44) (d := some 76) rfl hS ?_; simp only [Act.put, q1, q2, q3]
                  refine tks (i := 45) (d := some 77) rfl hS ?_; simp only [Act.put, q1, q2, q3]
                  refine tk (i := 46) (d := some 78) (v := ?_) rfl (Or.inl ⟨by kernel_rfl, ?_⟩) hS ?_; rotate_left 1; (intro w' hS'; clear hS'; go_simp; try with_reducible rfl); simp only [Act.put, q1, q2, q3]
                  refine wpAnyH_done (by kernel_rfl) ?_ _
                  have FZ := hid hS
                  clear hS
                  go_wp2_with fail
                  go_ret2
                  exact ⟨(FW8.out.trans FZ.out (fun _ _ h => h)), .inl ⟨HB.out, rfl⟩⟩
                | true =>
                  rw [hat] at KA
                  by_cases hzp : zp = 0
                  · have HZP := hid hzp
                    cases hnm : zs2.toList.isEmpty with
                    | true =>
                      have HFK := hid (U.fok_step HN.out HZ.out HALL.out.2.1 (.inr ⟨q, y, rfl, HY.out, by show y.1.1 < zn; omega⟩) (by unfold T.gok; rw [hat, decide_eq_true (show 1 ≤ zn by omega)]; rfl) (by unfold U.tokn; rw [if_pos (show zn ≤ 2 by omega)]; exact decide_eq_true ⟨hzp, U.empty_of hnm⟩))
                      clear hzp
                      have KP := hid (fun (V : World) (hf : Fr (fun _ => False) V8 V) => uput_any (DH.out.kept (F8.out.trans hf (fun _ _ h => h)) (fun _ _ h => h)) (U.layd_up _ U.zup) HLL.out ((zn, ⟨zp, zs2, zat⟩), (za, zc)) ((HEL.out.kept (FW8.out.trans hf (fun _ _ h => h)) (fun _ _ h => h)).mono (fun i hi => HALL.out.2.2.1 i hi)))
                      dsimp only [T.aggN] at KP
                      rw [HAL.out] at KP
                      go_wp2_with fail
                      have hmx : Tryz.prog.follows .mixedOrders = true := by kernel_rfl
                      refine wp_region_held (S := fun V => Fr (fun _ => False) V8 V) hmx ?_
                      have hS := (Fr.drew (Fr.refl (fun _ => False) V8))
                      simp only [List.size_toArray, List.length_cons, List.length_nil, Nat.reduceAdd, Array.replicate_succ, Array.replicate_zero, List.push_toArray, List.nil_append, List.cons_append]
                      refine tk (i := 0) (d := some 32) (v := ?_) rfl (Or.inl ⟨by kernel_rfl, ?_⟩) hS ?_; rotate_left 1; (intro w' hS'; clear hS'; go_simp; try with_reducible rfl); simp only [Act.put, q1, q2, q3]
                      refine tk (i := 1) (d := some 33) (v := ?_) rfl (Or.inl ⟨by kernel_rfl, ?_⟩) hS ?_; rotate_left 1; (intro w' hS'; have h1 := (HS.out w' hS').1; clear hS'; go_simp; try with_reducible rfl); simp only [Act.put, q1, q2, q3]
                      refine tk (i := 2) (d := some 34) (v := ?_) rfl (Or.inl ⟨by kernel_rfl, ?_⟩) hS ?_; rotate_left 1; (intro w' hS'; clear hS'; go_simp; try with_reducible rfl); simp only [Act.put, q1, q2, q3]
                      refine tk (i := 3) (d := some 35) (v := ?_) rfl (Or.inl ⟨by kernel_rfl, ?_⟩) hS ?_; rotate_left 1; (intro w' hS'; clear hS'; go_simp; try with_reducible rfl); simp only [Act.put, q1, q2, q3]
                      refine tk (i := 4) (d := some 36) (v := ?_) rfl (Or.inl ⟨by kernel_rfl, ?_⟩) hS ?_; rotate_left 1; (intro w' hS'; clear hS'; go_simp; try with_reducible rfl); simp only [Act.put, q1, q2, q3]
                      refine tk (i := 5) (d := some 37) (v := ?_) rfl (Or.inl ⟨by kernel_rfl, ?_⟩) hS ?_; rotate_left 1; (intro w' hS'; clear hS'; go_simp; try with_reducible rfl); simp only [Act.put, q1, q2, q3]
                      refine tk (i := 6) (d := some 38) (v := ?_) rfl (Or.inl ⟨by kernel_rfl, ?_⟩) hS ?_; rotate_left 1; (intro w' hS'; clear hS'; go_simp; try with_reducible rfl); simp only [Act.put, q1, q2, q3]
                      refine tk (i := 7) (d := some 39) (v := ?_) rfl (Or.inl ⟨by kernel_rfl, ?_⟩) hS ?_; rotate_left 1; (intro w' hS'; clear hS'; go_simp; try with_reducible rfl); simp only [Act.put, q1, q2, q3]
                      refine tk (i := 8) (d := some 40) (v := ?_) rfl (Or.inl ⟨by kernel_rfl, ?_⟩) hS ?_; rotate_left 1; (intro w' hS'; have h1 := (HS.out w' hS').1; clear hS'; go_simp; try with_reducible rfl); simp only [Act.put, q1, q2, q3]
                      refine tk (i := 9) (d := some 41) (v := ?_) rfl (Or.inl ⟨by kernel_rfl, ?_⟩) hS ?_; rotate_left 1; (intro w' hS'; clear hS'; go_simp; try with_reducible rfl); simp only [Act.put, q1, q2, q3]
                      refine tk (i := 10) (d := some 42) (v := ?_) rfl (Or.inl ⟨by kernel_rfl, ?_⟩) hS ?_; rotate_left 1; (intro w' hS'; clear hS'; go_simp; try with_reducible rfl); simp only [Act.put, q1, q2, q3]
                      refine tk (i := 11) (d := some 43) (v := ?_) rfl (Or.inl ⟨by kernel_rfl, ?_⟩) hS ?_; rotate_left 1; (intro w' hS'; clear hS'; go_simp; try with_reducible rfl); simp only [Act.put, q1, q2, q3]
                      refine tk (i := 12) (d := some 44) (v := ?_) rfl (Or.inl ⟨by kernel_rfl, ?_⟩) hS ?_; rotate_left 1; (intro w' hS'; clear hS'; go_simp; try with_reducible rfl); simp only [Act.put, q1, q2, q3]
                      refine tk (i := 13) (d := some 45) (v := ?_) rfl (Or.inl ⟨by kernel_rfl, ?_⟩) hS ?_; rotate_left 1; (intro w' hS'; clear hS'; go_simp; try with_reducible rfl); simp only [Act.put, q1, q2, q3]
                      refine tk (i := 14) (d := some 46) (v := ?_) rfl (Or.inl ⟨by kernel_rfl, ?_⟩) hS ?_; rotate_left 1; (intro w' hS'; have h1 := (HS.out w' hS').2.2.2.2; clear hS'; go_simp; try with_reducible rfl); simp only [Act.put, q1, q2, q3]
                      refine tk (i := 15) (d := some 47) (v := ?_) rfl (Or.inl ⟨by kernel_rfl, ?_⟩) hS ?_; rotate_left 1; (intro w' hS'; clear hS'; go_simp; try with_reducible rfl); simp only [Act.put, q1, q2, q3]
                      refine tk (i := 16) (d := some 48) (v := ?_) rfl (Or.inl ⟨by kernel_rfl, ?_⟩) hS ?_; rotate_left 1; (intro w' hS'; clear hS'; go_simp; try with_reducible rfl); simp only [Act.put, q1, q2, q3]
                      refine tk (i := 17) (d := some 49) (v := ?_) rfl (Or.inl ⟨by kernel_rfl, ?_⟩) hS ?_; rotate_left 1; (intro w' hS'; clear hS'; go_simp; try with_reducible rfl); simp only [Act.put, q1, q2, q3]
                      refine tk (i := 18) (d := some 50) (v := ?_) rfl (Or.inl ⟨by kernel_rfl, ?_⟩) hS ?_; rotate_left 1; (intro w' hS'; clear hS'; go_simp; try with_reducible rfl); simp only [Act.put, q1, q2, q3]
                      refine tk (i := 19) (d := some 51) (v := ?_) rfl (Or.inl ⟨by kernel_rfl, ?_⟩) hS ?_; rotate_left 1; (intro w' hS'; clear hS'; go_simp; try with_reducible rfl); simp only [Act.put, q1, q2, q3]
                      refine tk (i := 20) (d := some 52) (v := ?_) rfl (Or.inl ⟨by kernel_rfl, ?_⟩) hS ?_; rotate_left 1; (intro w' hS'; have h1 := (HS.out w' hS').2.2.2.1; clear hS'; go_simp; try with_reducible rfl); simp only [Act.put, q1, q2, q3]
                      refine wpAnyH_ready (rs := [21]) (by kernel_rfl) (by simp) ?_
                      refine AllReadyH.cons rfl (fun K1 hK1 => ?_) (AllReadyH.nil)
                      go_simp
                      refine (KA.out _ hS).mono ?_
                      rintro e w3 ⟨rfl, fx⟩
                      refine hK1.out _ _ (hS.trans fx (fun _ _ h => h)) (fun hS => ?_)
                      clear fx
                      clear hK1 K1
                      simp only [List.getElem_toArray, List.getElem_cons_zero, List.getElem_cons_succ, Act.put, List.setIfInBounds_toArray, List.set_cons_zero, List.set_cons_succ]
                      refine tk (i := 22) (d := some 54) (v := ?_) rfl (Or.inl ⟨by kernel_rfl, ?_⟩) hS ?_; rotate_left 1; (intro w' hS'; clear hS'; go_simp; try with_reducible rfl); simp only [Act.put, q1, q2, q3]
                      refine tk (i := 23) (d := some 55) (v := ?_) rfl (Or.inl ⟨by kernel_rfl, ?_⟩) hS ?_; rotate_left 1; (intro w' hS'; clear hS'; go_simp; try with_reducible rfl); simp only [Act.put, q1, q2, q3]
                      refine tk (i := 24) (d := some 56) (v := ?_) rfl (Or.inl ⟨by kernel_rfl, ?_⟩) hS ?_; rotate_left 1; (intro w' hS'; clear hS'; go_simp; try with_reducible rfl); simp only [Act.put, q1, q2, q3]
                      refine tk (i := 25) (d := some 57) (v := ?_) rfl (Or.inl ⟨by kernel_rfl, ?_⟩) hS ?_; rotate_left 1; (intro w' hS'; clear hS'; go_simp; try with_reducible rfl); simp only [Act.put, q1, q2, q3]
                      refine tk (i := 26) (d := some 58) (v := ?_) rfl (Or.inl ⟨by kernel_rfl, ?_⟩) hS ?_; rotate_left 1; (intro w' hS'; clear hS'; go_simp; try with_reducible rfl); simp only [Act.put, q1, q2, q3]
                      refine tk (i := 27) (d := some 59) (v := ?_) rfl (Or.inl ⟨by kernel_rfl, ?_⟩) hS ?_; rotate_left 1; (intro w' hS'; clear hS'; go_simp; try with_reducible rfl); simp only [Act.put, q1, q2, q3]
                      refine tk (i := 28) (d := some 60) (v := ?_) rfl (Or.inl ⟨by kernel_rfl, ?_⟩) hS ?_; rotate_left 1; (intro w' hS'; have h1 := (HS.out w' hS').2.1; clear hS'; go_simp; try with_reducible rfl); simp only [Act.put, q1, q2, q3]
                      refine tk (i := 29) (d := some 61) (v := .bool false) rfl (Or.inl ⟨by kernel_rfl, fun w' hS' => by have hz0 := HZP.out; clear hS'; go_simp; try simp [hz0]⟩) hS ?_; simp only [Act.put, q1, q2, q3]
                      refine tk (i := 30) (d := some 62) (v := ?_) rfl (Or.inl ⟨by kernel_rfl, ?_⟩) hS ?_; rotate_left 1; (intro w' hS'; clear hS'; go_simp; try with_reducible rfl); simp only [Act.put, q1, q2, q3]
                      refine tk (i := 31) (d := some 63) (v := ?_) rfl (Or.inl ⟨by kernel_rfl, ?_⟩) hS ?_; rotate_left 1; (intro w' hS'; clear hS'; go_simp; try with_reducible rfl); simp only [Act.put, q1, q2, q3]
                      refine tk (i := 32) (d := some 64) (v := ?_) rfl (Or.inl ⟨by kernel_rfl, ?_⟩) hS ?_; rotate_left 1; (intro w' hS'; have h1 := (HS.out w' hS').2.2.1; clear hS'; go_simp; try with_reducible rfl); simp only [Act.put, q1, q2, q3]
                      refine tk (i := 33) (d := some 65) (v := ?_) rfl (Or.inl ⟨by kernel_rfl, ?_⟩) hS ?_; rotate_left 1; (intro w' hS'; clear hS'; go_simp; try with_reducible rfl); simp only [Act.put, q1, q2, q3]
                      refine tk (i := 34) (d := some 66) (v := ?_) rfl (Or.inl ⟨by kernel_rfl, ?_⟩) hS ?_; rotate_left 1; (intro w' hS'; clear hS'; go_simp; try with_reducible rfl); simp only [Act.put, q1, q2, q3]
                      refine tk (i := 35) (d := some 67) (v := ?_) rfl (Or.inl ⟨by kernel_rfl, ?_⟩) hS ?_; rotate_left 1; (intro w' hS'; clear hS'; go_simp; try with_reducible rfl); simp only [Act.put, q1, q2, q3]
                      refine tk (i := 36) (d := some 68) (v := ?_) rfl (Or.inl ⟨by kernel_rfl, ?_⟩) hS ?_; rotate_left 1; (intro w' hS'; clear hS'; go_simp; try with_reducible rfl); simp only [Act.put, q1, q2, q3]
                      refine tk (i := 37) (d := some 69) (v := ?_) rfl (Or.inl ⟨by kernel_rfl, ?_⟩) hS ?_; rotate_left 1; (intro w' hS'; clear hS'; go_simp; try with_reducible rfl); simp only [Act.put, q1, q2, q3]
                      refine tk (i := 38) (d := some 70) (v := ?_) rfl (Or.inl ⟨by kernel_rfl, ?_⟩) hS ?_; rotate_left 1; (intro w' hS'; clear hS'; go_simp; try with_reducible rfl); simp only [Act.put, q1, q2, q3]
                      refine tk (i := 39) (d := some 71) (v := ?_) rfl (Or.inl ⟨by kernel_rfl, ?_⟩) hS ?_; rotate_left 1; (intro w' hS'; clear hS'; go_simp; try with_reducible rfl); simp only [Act.put, q1, q2, q3]
                      refine tk (i := 40) (d := some 72) (v := ?_) rfl (Or.inl ⟨by kernel_rfl, ?_⟩) hS ?_; rotate_left 1; (intro w' hS'; clear hS'; go_simp; try with_reducible rfl); simp only [Act.put, q1, q2, q3]
                      refine tks (i := 41) (d := some 73) rfl hS ?_; simp only [Act.put, q1, q2, q3]
                      refine tks (i := 42) (d := some 74) rfl hS ?_; simp only [Act.put, q1, q2, q3]
                      refine tks (i := 43) (d := some 75) rfl hS ?_; simp only [Act.put, q1, q2, q3]
                      refine tks (i := 44) (d := some 76) rfl hS ?_; simp only [Act.put, q1, q2, q3]
                      refine tk (i := 45) (d := some 77) (v := ?_) rfl (Or.inl ⟨by kernel_rfl, ?_⟩) hS ?_; rotate_left 1; (intro w' hS'; clear hS'; go_simp; try with_reducible rfl); simp only [Act.put, q1, q2, q3]
                      refine tk (i := 46) (d := some 78) (v := ?_) rfl (Or.inl ⟨by kernel_rfl, ?_⟩) hS ?_; rotate_left 1; (intro w' hS'; clear hS'; go_simp; try with_reducible rfl); simp only [Act.put, q1, q2, q3]
                      refine wpAnyH_done (by kernel_rfl) ?_ _
                      have FZ := hid hS
                      clear hS
                      obtain ⟨k0, k1, k2, k3, _⟩ := HS.out _ FZ.out
                      go_wp2_with fail
                      refine (KP.out _ FZ.out).mono ?_
                      rintro e w5 ⟨rfl, c5, ra5, rc5, D5, hm5, hf5⟩
                      have HREL := hid (U.from_step HN.out HZ.out HALL.out.1 HFK.out HI.out HALL.out.2.2.1 HALL.out.2.2.2.1 (FW8.out.trans FZ.out (fun _ _ h => h)) D5 hm5 hf5)
                      clear KP D5 hm5 hf5
                      dsimp only
                      go_wp2_with fail
                      go_roundw
                      case rel => exact ⟨q + 1 + 1, by first | go_num | rfl | trivial, HREL⟩
                      case measure => simp [intOf]; omega
                    | false =>
                      have HB := hid (show T.fromOk zs = false from by
                        cases hq : T.fromOk zs with
                        | false => rfl
                        | true =>
                          have hfo := U.fok_of HWF.out hq
                          have hz := hfo.tok (q + 1) _ (by rw [HN.out]; omega) HZ.out
                          unfold U.tokn at hz
                          rw [if_pos (show zn ≤ 2 by omega)] at hz
                          have hz := of_decide_eq_true hz
                          rw [show zs2 = ⟨#[]⟩ from hz.2, ByteArray.toList_eq] at hnm
                          cases hnm)
                      clear hzp HALL HZ DH HEL
                      go_wp2_with fail
                      have hmx : Tryz.prog.follows .mixedOrders = true := by kernel_rfl
                      refine wp_region_held (S := fun V => Fr (fun _ => False) V8 V) hmx ?_
                      have hS := (Fr.drew (Fr.refl (fun _ => False) V8))
                      simp only [List.size_toArray, List.length_cons, List.length_nil, Nat.reduceAdd, Array.replicate_succ, Array.replicate_zero, List.push_toArray, List.nil_append, List.cons_append]
                      refine tk (i := 0) (d := some 32) (v := ?_) rfl (Or.inl ⟨by kernel_rfl, ?_⟩) hS ?_; rotate_left 1; (intro w' hS'; clear hS'; go_simp; try with_reducible rfl); simp only [Act.put, q1, q2, q3]
                      refine tk (i := 1) (d := some 33) (v := ?_) rfl (Or.inl ⟨by kernel_rfl, ?_⟩) hS ?_; rotate_left 1; (intro w' hS'; have h1 := (HS.out w' hS').1; clear hS'; go_simp; try with_reducible rfl); simp only [Act.put, q1, q2, q3]
                      refine tk (i := 2) (d := some 34) (v := ?_) rfl (Or.inl ⟨by kernel_rfl, ?_⟩) hS ?_; rotate_left 1; (intro w' hS'; clear hS'; go_simp; try with_reducible rfl); simp only [Act.put, q1, q2, q3]
                      refine tk (i := 3) (d := some 35) (v := ?_) rfl (Or.inl ⟨by kernel_rfl, ?_⟩) hS ?_; rotate_left 1; (intro w' hS'; clear hS'; go_simp; try with_reducible rfl); simp only [Act.put, q1, q2, q3]
                      refine tk (i := 4) (d := some 36) (v := ?_) rfl (Or.inl ⟨by kernel_rfl, ?_⟩) hS ?_; rotate_left 1; (intro w' hS'; clear hS'; go_simp; try with_reducible rfl); simp only [Act.put, q1, q2, q3]
                      refine tk (i := 5) (d := some 37) (v := ?_) rfl (Or.inl ⟨by kernel_rfl, ?_⟩) hS ?_; rotate_left 1; (intro w' hS'; clear hS'; go_simp; try with_reducible rfl); simp only [Act.put, q1, q2, q3]
                      refine tk (i := 6) (d := some 38) (v := ?_) rfl (Or.inl ⟨by kernel_rfl, ?_⟩) hS ?_; rotate_left 1; (intro w' hS'; clear hS'; go_simp; try with_reducible rfl); simp only [Act.put, q1, q2, q3]
                      refine tk (i := 7) (d := some 39) (v := ?_) rfl (Or.inl ⟨by kernel_rfl, ?_⟩) hS ?_; rotate_left 1; (intro w' hS'; clear hS'; go_simp; try with_reducible rfl); simp only [Act.put, q1, q2, q3]
                      refine tk (i := 8) (d := some 40) (v := ?_) rfl (Or.inl ⟨by kernel_rfl, ?_⟩) hS ?_; rotate_left 1; (intro w' hS'; have h1 := (HS.out w' hS').1; clear hS'; go_simp; try with_reducible rfl); simp only [Act.put, q1, q2, q3]
                      refine tk (i := 9) (d := some 41) (v := ?_) rfl (Or.inl ⟨by kernel_rfl, ?_⟩) hS ?_; rotate_left 1; (intro w' hS'; clear hS'; go_simp; try with_reducible rfl); simp only [Act.put, q1, q2, q3]
                      refine tk (i := 10) (d := some 42) (v := ?_) rfl (Or.inl ⟨by kernel_rfl, ?_⟩) hS ?_; rotate_left 1; (intro w' hS'; clear hS'; go_simp; try with_reducible rfl); simp only [Act.put, q1, q2, q3]
                      refine tk (i := 11) (d := some 43) (v := ?_) rfl (Or.inl ⟨by kernel_rfl, ?_⟩) hS ?_; rotate_left 1; (intro w' hS'; clear hS'; go_simp; try with_reducible rfl); simp only [Act.put, q1, q2, q3]
                      refine tk (i := 12) (d := some 44) (v := ?_) rfl (Or.inl ⟨by kernel_rfl, ?_⟩) hS ?_; rotate_left 1; (intro w' hS'; clear hS'; go_simp; try with_reducible rfl); simp only [Act.put, q1, q2, q3]
                      refine tk (i := 13) (d := some 45) (v := ?_) rfl (Or.inl ⟨by kernel_rfl, ?_⟩) hS ?_; rotate_left 1; (intro w' hS'; clear hS'; go_simp; try with_reducible rfl); simp only [Act.put, q1, q2, q3]
                      refine tk (i := 14) (d := some 46) (v := ?_) rfl (Or.inl ⟨by kernel_rfl, ?_⟩) hS ?_; rotate_left 1; (intro w' hS'; have h1 := (HS.out w' hS').2.2.2.2; clear hS'; go_simp; try with_reducible rfl); simp only [Act.put, q1, q2, q3]
                      refine tk (i := 15) (d := some 47) (v := ?_) rfl (Or.inl ⟨by kernel_rfl, ?_⟩) hS ?_; rotate_left 1; (intro w' hS'; clear hS'; go_simp; try with_reducible rfl); simp only [Act.put, q1, q2, q3]
                      refine tk (i := 16) (d := some 48) (v := ?_) rfl (Or.inl ⟨by kernel_rfl, ?_⟩) hS ?_; rotate_left 1; (intro w' hS'; clear hS'; go_simp; try with_reducible rfl); simp only [Act.put, q1, q2, q3]
                      refine tk (i := 17) (d := some 49) (v := ?_) rfl (Or.inl ⟨by kernel_rfl, ?_⟩) hS ?_; rotate_left 1; (intro w' hS'; clear hS'; go_simp; try with_reducible rfl); simp only [Act.put, q1, q2, q3]
                      refine tk (i := 18) (d := some 50) (v := ?_) rfl (Or.inl ⟨by kernel_rfl, ?_⟩) hS ?_; rotate_left 1; (intro w' hS'; clear hS'; go_simp; try with_reducible rfl); simp only [Act.put, q1, q2, q3]
                      refine tk (i := 19) (d := some 51) (v := ?_) rfl (Or.inl ⟨by kernel_rfl, ?_⟩) hS ?_; rotate_left 1; (intro w' hS'; clear hS'; go_simp; try with_reducible rfl); simp only [Act.put, q1, q2, q3]
                      refine tk (i := 20) (d := some 52) (v := ?_) rfl (Or.inl ⟨by kernel_rfl, ?_⟩) hS ?_; rotate_left 1; (intro w' hS'; have h1 := (HS.out w' hS').2.2.2.1; clear hS'; go_simp; try with_reducible rfl); simp only [Act.put, q1, q2, q3]
                      refine wpAnyH_ready (rs := [21]) (by kernel_rfl) (by simp) ?_
                      refine AllReadyH.cons rfl (fun K1 hK1 => ?_) (AllReadyH.nil)
                      go_simp
                      refine (KA.out _ hS).mono ?_
                      rintro e w3 ⟨rfl, fx⟩
                      refine hK1.out _ _ (hS.trans fx (fun _ _ h => h)) (fun hS => ?_)
                      clear fx
                      clear hK1 K1
                      simp only [List.getElem_toArray, List.getElem_cons_zero, List.getElem_cons_succ, Act.put, List.setIfInBounds_toArray, List.set_cons_zero, List.set_cons_succ]
                      refine tk (i := 22) (d := some 54) (v := ?_) rfl (Or.inl ⟨by kernel_rfl, ?_⟩) hS ?_; rotate_left 1; (intro w' hS'; clear hS'; go_simp; try with_reducible rfl); simp only [Act.put, q1, q2, q3]
                      refine tk (i := 23) (d := some 55) (v := ?_) rfl (Or.inl ⟨by kernel_rfl, ?_⟩) hS ?_; rotate_left 1; (intro w' hS'; clear hS'; go_simp; try with_reducible rfl); simp only [Act.put, q1, q2, q3]
                      refine tk (i := 24) (d := some 56) (v := ?_) rfl (Or.inl ⟨by kernel_rfl, ?_⟩) hS ?_; rotate_left 1; (intro w' hS'; clear hS'; go_simp; try with_reducible rfl); simp only [Act.put, q1, q2, q3]
                      refine tk (i := 25) (d := some 57) (v := ?_) rfl (Or.inl ⟨by kernel_rfl, ?_⟩) hS ?_; rotate_left 1; (intro w' hS'; clear hS'; go_simp; try with_reducible rfl); simp only [Act.put, q1, q2, q3]
                      refine tk (i := 26) (d := some 58) (v := ?_) rfl (Or.inl ⟨by kernel_rfl, ?_⟩) hS ?_; rotate_left 1; (intro w' hS'; clear hS'; go_simp; try with_reducible rfl); simp only [Act.put, q1, q2, q3]
                      refine tk (i := 27) (d := some 59) (v := ?_) rfl (Or.inl ⟨by kernel_rfl, ?_⟩) hS ?_; rotate_left 1; (intro w' hS'; clear hS'; go_simp; try with_reducible rfl); simp only [Act.put, q1, q2, q3]
                      refine tk (i := 28) (d := some 60) (v := ?_) rfl (Or.inl ⟨by kernel_rfl, ?_⟩) hS ?_; rotate_left 1; (intro w' hS'; have h1 := (HS.out w' hS').2.1; clear hS'; go_simp; try with_reducible rfl); simp only [Act.put, q1, q2, q3]
                      refine tk (i := 29) (d := some 61) (v := .bool false) rfl (Or.inl ⟨by kernel_rfl, fun w' hS' => by have hz0 := HZP.out; clear hS'; go_simp; try simp [hz0]⟩) hS ?_; simp only [Act.put, q1, q2, q3]
                      refine tk (i := 30) (d := some 62) (v := ?_) rfl (Or.inl ⟨by kernel_rfl, ?_⟩) hS ?_; rotate_left 1; (intro w' hS'; clear hS'; go_simp; try with_reducible rfl); simp only [Act.put, q1, q2, q3]
                      refine tk (i := 31) (d := some 63) (v := ?_) rfl (Or.inl ⟨by kernel_rfl, ?_⟩) hS ?_; rotate_left 1; (intro w' hS'; clear hS'; go_simp; try with_reducible rfl); simp only [Act.put, q1, q2, q3]
                      refine tk (i := 32) (d := some 64) (v := ?_) rfl (Or.inl ⟨by kernel_rfl, ?_⟩) hS ?_; rotate_left 1; (intro w' hS'; have h1 := (HS.out w' hS').2.2.1; clear hS'; go_simp; try with_reducible rfl); simp only [Act.put, q1, q2, q3]
                      refine tk (i := 33) (d := some 65) (v := ?_) rfl (Or.inl ⟨by kernel_rfl, ?_⟩) hS ?_; rotate_left 1; (intro w' hS'; clear hS'; go_simp; try with_reducible rfl); simp only [Act.put, q1, q2, q3]
                      refine tk (i := 34) (d := some 66) (v := ?_) rfl (Or.inl ⟨by kernel_rfl, ?_⟩) hS ?_; rotate_left 1; (intro w' hS'; clear hS'; go_simp; try with_reducible rfl); simp only [Act.put, q1, q2, q3]
                      refine tk (i := 35) (d := some 67) (v := ?_) rfl (Or.inl ⟨by kernel_rfl, ?_⟩) hS ?_; rotate_left 1; (intro w' hS'; clear hS'; go_simp; try with_reducible rfl); simp only [Act.put, q1, q2, q3]
                      refine tk (i := 36) (d := some 68) (v := ?_) rfl (Or.inl ⟨by kernel_rfl, ?_⟩) hS ?_; rotate_left 1; (intro w' hS'; clear hS'; go_simp; try with_reducible rfl); simp only [Act.put, q1, q2, q3]
                      refine tk (i := 37) (d := some 69) (v := ?_) rfl (Or.inl ⟨by kernel_rfl, ?_⟩) hS ?_; rotate_left 1; (intro w' hS'; clear hS'; go_simp; try with_reducible rfl); simp only [Act.put, q1, q2, q3]
                      refine tks (i := 38) (d := some 70) rfl hS ?_; simp only [Act.put, q1, q2, q3]
                      refine tks (i := 39) (d := some 71) rfl hS ?_; simp only [Act.put, q1, q2, q3]
                      refine tks (i := 40) (d := some 72) rfl hS ?_; simp only [Act.put, q1, q2, q3]
                      refine tks (i := 41) (d := some 73) rfl hS ?_; simp only [Act.put, q1, q2, q3]
                      refine tks (i := 42) (d := some 74) rfl hS ?_; simp only [Act.put, q1, q2, q3]
                      refine tks (i := 43) (d := some 75) rfl hS ?_; simp only [Act.put, q1, q2, q3]
                      refine tks (i := 44) (d := some 76) rfl hS ?_; simp only [Act.put, q1, q2, q3]
                      refine tks (i := 45) (d := some 77) rfl hS ?_; simp only [Act.put, q1, q2, q3]
                      refine tk (i := 46) (d := some 78) (v := ?_) rfl (Or.inl ⟨by kernel_rfl, ?_⟩) hS ?_; rotate_left 1; (intro w' hS'; clear hS'; go_simp; try with_reducible rfl); simp only [Act.put, q1, q2, q3]
                      refine wpAnyH_done (by kernel_rfl) ?_ _
                      have FZ := hid hS
                      clear hS
                      go_wp2_with fail
                      go_ret2
                      exact ⟨(FW8.out.trans FZ.out (fun _ _ h => h)), .inl ⟨HB.out, rfl⟩⟩
                  · have HZP := hid hzp
                    have HB := hid (show T.fromOk zs = false from by
                      cases hq : T.fromOk zs with
                      | false => rfl
                      | true =>
                        have hfo := U.fok_of HWF.out hq
                        have hz := hfo.tok (q + 1) _ (by rw [HN.out]; omega) HZ.out
                        unfold U.tokn at hz
                        rw [if_pos (show zn ≤ 2 by omega)] at hz
                        have hz := of_decide_eq_true hz
                        exact absurd hz.1 hzp)
                    clear hzp HALL HZ DH HEL
                    go_wp2_with fail
                    have hmx : Tryz.prog.follows .mixedOrders = true := by kernel_rfl
                    refine wp_region_held (S := fun V => Fr (fun _ => False) V8 V) hmx ?_
                    have hS := (Fr.drew (Fr.refl (fun _ => False) V8))
                    simp only [List.size_toArray, List.length_cons, List.length_nil, Nat.reduceAdd, Array.replicate_succ, Array.replicate_zero, List.push_toArray, List.nil_append, List.cons_append]
                    refine tk (i := 0) (d := some 32) (v := ?_) rfl (Or.inl ⟨by kernel_rfl, ?_⟩) hS ?_; rotate_left 1; (intro w' hS'; clear hS'; go_simp; try with_reducible rfl); simp only [Act.put, q1, q2, q3]
                    refine tk (i := 1) (d := some 33) (v := ?_) rfl (Or.inl ⟨by kernel_rfl, ?_⟩) hS ?_; rotate_left 1; (intro w' hS'; have h1 := (HS.out w' hS').1; clear hS'; go_simp; try with_reducible rfl); simp only [Act.put, q1, q2, q3]
                    refine tk (i := 2) (d := some 34) (v := ?_) rfl (Or.inl ⟨by kernel_rfl, ?_⟩) hS ?_; rotate_left 1; (intro w' hS'; clear hS'; go_simp; try with_reducible rfl); simp only [Act.put, q1, q2, q3]
                    refine tk (i := 3) (d := some 35) (v := ?_) rfl (Or.inl ⟨by kernel_rfl, ?_⟩) hS ?_; rotate_left 1; (intro w' hS'; clear hS'; go_simp; try with_reducible rfl); simp only [Act.put, q1, q2, q3]
                    refine tk (i := 4) (d := some 36) (v := ?_) rfl (Or.inl ⟨by kernel_rfl, ?_⟩) hS ?_; rotate_left 1; (intro w' hS'; clear hS'; go_simp; try with_reducible rfl); simp only [Act.put, q1, q2, q3]
                    refine tk (i := 5) (d := some 37) (v := ?_) rfl (Or.inl ⟨by kernel_rfl, ?_⟩) hS ?_; rotate_left 1; (intro w' hS'; clear hS'; go_simp; try with_reducible rfl); simp only [Act.put, q1, q2, q3]
                    refine tk (i := 6) (d := some 38) (v := ?_) rfl (Or.inl ⟨by kernel_rfl, ?_⟩) hS ?_; rotate_left 1; (intro w' hS'; clear hS'; go_simp; try with_reducible rfl); simp only [Act.put, q1, q2, q3]
                    refine tk (i := 7) (d := some 39) (v := ?_) rfl (Or.inl ⟨by kernel_rfl, ?_⟩) hS ?_; rotate_left 1; (intro w' hS'; clear hS'; go_simp; try with_reducible rfl); simp only [Act.put, q1, q2, q3]
                    refine tk (i := 8) (d := some 40) (v := ?_) rfl (Or.inl ⟨by kernel_rfl, ?_⟩) hS ?_; rotate_left 1; (intro w' hS'; have h1 := (HS.out w' hS').1; clear hS'; go_simp; try with_reducible rfl); simp only [Act.put, q1, q2, q3]
                    refine tk (i := 9) (d := some 41) (v := ?_) rfl (Or.inl ⟨by kernel_rfl, ?_⟩) hS ?_; rotate_left 1; (intro w' hS'; clear hS'; go_simp; try with_reducible rfl); simp only [Act.put, q1, q2, q3]
                    refine tk (i := 10) (d := some 42) (v := ?_) rfl (Or.inl ⟨by kernel_rfl, ?_⟩) hS ?_; rotate_left 1; (intro w' hS'; clear hS'; go_simp; try with_reducible rfl); simp only [Act.put, q1, q2, q3]
                    refine tk (i := 11) (d := some 43) (v := ?_) rfl (Or.inl ⟨by kernel_rfl, ?_⟩) hS ?_; rotate_left 1; (intro w' hS'; clear hS'; go_simp; try with_reducible rfl); simp only [Act.put, q1, q2, q3]
                    refine tk (i := 12) (d := some 44) (v := ?_) rfl (Or.inl ⟨by kernel_rfl, ?_⟩) hS ?_; rotate_left 1; (intro w' hS'; clear hS'; go_simp; try with_reducible rfl); simp only [Act.put, q1, q2, q3]
                    refine tk (i := 13) (d := some 45) (v := ?_) rfl (Or.inl ⟨by kernel_rfl, ?_⟩) hS ?_; rotate_left 1; (intro w' hS'; clear hS'; go_simp; try with_reducible rfl); simp only [Act.put, q1, q2, q3]
                    refine tk (i := 14) (d := some 46) (v := ?_) rfl (Or.inl ⟨by kernel_rfl, ?_⟩) hS ?_; rotate_left 1; (intro w' hS'; have h1 := (HS.out w' hS').2.2.2.2; clear hS'; go_simp; try with_reducible rfl); simp only [Act.put, q1, q2, q3]
                    refine tk (i := 15) (d := some 47) (v := ?_) rfl (Or.inl ⟨by kernel_rfl, ?_⟩) hS ?_; rotate_left 1; (intro w' hS'; clear hS'; go_simp; try with_reducible rfl); simp only [Act.put, q1, q2, q3]
                    refine tk (i := 16) (d := some 48) (v := ?_) rfl (Or.inl ⟨by kernel_rfl, ?_⟩) hS ?_; rotate_left 1; (intro w' hS'; clear hS'; go_simp; try with_reducible rfl); simp only [Act.put, q1, q2, q3]
                    refine tk (i := 17) (d := some 49) (v := ?_) rfl (Or.inl ⟨by kernel_rfl, ?_⟩) hS ?_; rotate_left 1; (intro w' hS'; clear hS'; go_simp; try with_reducible rfl); simp only [Act.put, q1, q2, q3]
                    refine tk (i := 18) (d := some 50) (v := ?_) rfl (Or.inl ⟨by kernel_rfl, ?_⟩) hS ?_; rotate_left 1; (intro w' hS'; clear hS'; go_simp; try with_reducible rfl); simp only [Act.put, q1, q2, q3]
                    refine tk (i := 19) (d := some 51) (v := ?_) rfl (Or.inl ⟨by kernel_rfl, ?_⟩) hS ?_; rotate_left 1; (intro w' hS'; clear hS'; go_simp; try with_reducible rfl); simp only [Act.put, q1, q2, q3]
                    refine tk (i := 20) (d := some 52) (v := ?_) rfl (Or.inl ⟨by kernel_rfl, ?_⟩) hS ?_; rotate_left 1; (intro w' hS'; have h1 := (HS.out w' hS').2.2.2.1; clear hS'; go_simp; try with_reducible rfl); simp only [Act.put, q1, q2, q3]
                    refine wpAnyH_ready (rs := [21]) (by kernel_rfl) (by simp) ?_
                    refine AllReadyH.cons rfl (fun K1 hK1 => ?_) (AllReadyH.nil)
                    go_simp
                    refine (KA.out _ hS).mono ?_
                    rintro e w3 ⟨rfl, fx⟩
                    refine hK1.out _ _ (hS.trans fx (fun _ _ h => h)) (fun hS => ?_)
                    clear fx
                    clear hK1 K1
                    simp only [List.getElem_toArray, List.getElem_cons_zero, List.getElem_cons_succ, Act.put, List.setIfInBounds_toArray, List.set_cons_zero, List.set_cons_succ]
                    refine tk (i := 22) (d := some 54) (v := ?_) rfl (Or.inl ⟨by kernel_rfl, ?_⟩) hS ?_; rotate_left 1; (intro w' hS'; clear hS'; go_simp; try with_reducible rfl); simp only [Act.put, q1, q2, q3]
                    refine tk (i := 23) (d := some 55) (v := ?_) rfl (Or.inl ⟨by kernel_rfl, ?_⟩) hS ?_; rotate_left 1; (intro w' hS'; clear hS'; go_simp; try with_reducible rfl); simp only [Act.put, q1, q2, q3]
                    refine tk (i := 24) (d := some 56) (v := ?_) rfl (Or.inl ⟨by kernel_rfl, ?_⟩) hS ?_; rotate_left 1; (intro w' hS'; clear hS'; go_simp; try with_reducible rfl); simp only [Act.put, q1, q2, q3]
                    refine tk (i := 25) (d := some 57) (v := ?_) rfl (Or.inl ⟨by kernel_rfl, ?_⟩) hS ?_; rotate_left 1; (intro w' hS'; clear hS'; go_simp; try with_reducible rfl); simp only [Act.put, q1, q2, q3]
                    refine tk (i := 26) (d := some 58) (v := ?_) rfl (Or.inl ⟨by kernel_rfl, ?_⟩) hS ?_; rotate_left 1; (intro w' hS'; clear hS'; go_simp; try with_reducible rfl); simp only [Act.put, q1, q2, q3]
                    refine tk (i := 27) (d := some 59) (v := ?_) rfl (Or.inl ⟨by kernel_rfl, ?_⟩) hS ?_; rotate_left 1; (intro w' hS'; clear hS'; go_simp; try with_reducible rfl); simp only [Act.put, q1, q2, q3]
                    refine tk (i := 28) (d := some 60) (v := ?_) rfl (Or.inl ⟨by kernel_rfl, ?_⟩) hS ?_; rotate_left 1; (intro w' hS'; have h1 := (HS.out w' hS').2.1; clear hS'; go_simp; try with_reducible rfl); simp only [Act.put, q1, q2, q3]
                    refine tk (i := 29) (d := some 61) (v := .bool true) rfl (Or.inl ⟨by kernel_rfl, fun w' hS' => by have hz0 := HZP.out; clear hS'; go_simp; try simp [hz0]⟩) hS ?_; simp only [Act.put, q1, q2, q3]
                    refine tk (i := 30) (d := some 62) (v := ?_) rfl (Or.inl ⟨by kernel_rfl, ?_⟩) hS ?_; rotate_left 1; (intro w' hS'; clear hS'; go_simp; try with_reducible rfl); simp only [Act.put, q1, q2, q3]
                    refine tks (i := 31) (d := some 63) rfl hS ?_; simp only [Act.put, q1, q2, q3]
                    refine tks (i := 32) (d := some 64) rfl hS ?_; simp only [Act.put, q1, q2, q3]
                    refine tks (i := 33) (d := some 65) rfl hS ?_; simp only [Act.put, q1, q2, q3]
                    refine tk (i := 34) (d := some 66) (v := ?_) rfl (Or.inl ⟨by kernel_rfl, ?_⟩) hS ?_; rotate_left 1; (intro w' hS'; clear hS'; go_simp; try with_reducible rfl); simp only [Act.put, q1, q2, q3]
                    refine tk (i := 35) (d := some 67) (v := ?_) rfl (Or.inl ⟨by kernel_rfl, ?_⟩) hS ?_; rotate_left 1; (intro w' hS'; clear hS'; go_simp; try with_reducible rfl); simp only [Act.put, q1, q2, q3]
                    refine tk (i := 36) (d := some 68) (v := ?_) rfl (Or.inl ⟨by kernel_rfl, ?_⟩) hS ?_; rotate_left 1; (intro w' hS'; clear hS'; go_simp; try with_reducible rfl); simp only [Act.put, q1, q2, q3]
                    refine tk (i := 37) (d := some 69) (v := ?_) rfl (Or.inl ⟨by kernel_rfl, ?_⟩) hS ?_; rotate_left 1; (intro w' hS'; clear hS'; go_simp; try with_reducible rfl); simp only [Act.put, q1, q2, q3]
                    refine tks (i := 38) (d := some 70) rfl hS ?_; simp only [Act.put, q1, q2, q3]
                    refine tks (i := 39) (d := some 71) rfl hS ?_; simp only [Act.put, q1, q2, q3]
                    refine tks (i := 40) (d := some 72) rfl hS ?_; simp only [Act.put, q1, q2, q3]
                    refine tks (i := 41) (d := some 73) rfl hS ?_; simp only [Act.put, q1, q2, q3]
                    refine tks (i := 42) (d := some 74) rfl hS ?_; simp only [Act.put, q1, q2, q3]
                    refine tks (i := 43) (d := some 75) rfl hS ?_; simp only [Act.put, q1, q2, q3]
                    refine tks (i := 44) (d := some 76) rfl hS ?_; simp only [Act.put, q1, q2, q3]
                    refine tks (i := 45) (d := some 77) rfl hS ?_; simp only [Act.put, q1, q2, q3]
                    refine tk (i := 46) (d := some 78) (v := ?_) rfl (Or.inl ⟨by kernel_rfl, ?_⟩) hS ?_; rotate_left 1; (intro w' hS'; clear hS'; go_simp; try with_reducible rfl); simp only [Act.put, q1, q2, q3]
                    refine wpAnyH_done (by kernel_rfl) ?_ _
                    have FZ := hid hS
                    clear hS
                    go_wp2_with fail
                    go_ret2
                    exact ⟨(FW8.out.trans FZ.out (fun _ _ h => h)), .inl ⟨HB.out, rfl⟩⟩
              | false =>
                have htop : ¬ (zn = 1 ∨ zn = 2) := of_decide_eq_false htp.symm
                clear htp
                cases hat : (T.txts zat && T.asc (fun a b => T.blt a.1 b.1) zat) with
                | false =>
                  rw [hat] at KA
                  have HB := hid (show T.fromOk zs = false from by
                    cases hq : T.fromOk zs with
                    | false => rfl
                    | true =>
                      have hfo := U.fok_of HWF.out hq
                      have hz := hfo.gok (q + 1) _ (by rw [HN.out]; omega) HZ.out
                      unfold T.gok at hz
                      rw [hat, Bool.and_false] at hz
                      cases hz)
                  clear HALL HZ DH HEL
                  go_wp2_with fail
                  have hmx : Tryz.prog.follows .mixedOrders = true := by kernel_rfl
                  refine wp_region_held (S := fun V => Fr (fun _ => False) V8 V) hmx ?_
                  have hS := (Fr.drew (Fr.refl (fun _ => False) V8))
                  simp only [List.size_toArray, List.length_cons, List.length_nil, Nat.reduceAdd, Array.replicate_succ, Array.replicate_zero, List.push_toArray, List.nil_append, List.cons_append]
                  refine tk (i := 0) (d := some 32) (v := ?_) rfl (Or.inl ⟨by kernel_rfl, ?_⟩) hS ?_; rotate_left 1; (intro w' hS'; clear hS'; go_simp; try with_reducible rfl); simp only [Act.put, q1, q2, q3]
                  refine tk (i := 1) (d := some 33) (v := ?_) rfl (Or.inl ⟨by kernel_rfl, ?_⟩) hS ?_; rotate_left 1; (intro w' hS'; have h1 := (HS.out w' hS').1; clear hS'; go_simp; try with_reducible rfl); simp only [Act.put, q1, q2, q3]
                  refine tk (i := 2) (d := some 34) (v := ?_) rfl (Or.inl ⟨by kernel_rfl, ?_⟩) hS ?_; rotate_left 1; (intro w' hS'; clear hS'; go_simp; try with_reducible rfl); simp only [Act.put, q1, q2, q3]
                  refine tk (i := 3) (d := some 35) (v := ?_) rfl (Or.inl ⟨by kernel_rfl, ?_⟩) hS ?_; rotate_left 1; (intro w' hS'; clear hS'; go_simp; try with_reducible rfl); simp only [Act.put, q1, q2, q3]
                  refine tk (i := 4) (d := some 36) (v := ?_) rfl (Or.inl ⟨by kernel_rfl, ?_⟩) hS ?_; rotate_left 1; (intro w' hS'; clear hS'; go_simp; try with_reducible rfl); simp only [Act.put, q1, q2, q3]
                  refine tk (i := 5) (d := some 37) (v := ?_) rfl (Or.inl ⟨by kernel_rfl, ?_⟩) hS ?_; rotate_left 1; (intro w' hS'; clear hS'; go_simp; try with_reducible rfl); simp only [Act.put, q1, q2, q3]
                  refine tk (i := 6) (d := some 38) (v := ?_) rfl (Or.inl ⟨by kernel_rfl, ?_⟩) hS ?_; rotate_left 1; (intro w' hS'; clear hS'; go_simp; try with_reducible rfl); simp only [Act.put, q1, q2, q3]
                  refine tk (i := 7) (d := some 39) (v := ?_) rfl (Or.inl ⟨by kernel_rfl, ?_⟩) hS ?_; rotate_left 1; (intro w' hS'; clear hS'; go_simp; try with_reducible rfl); simp only [Act.put, q1, q2, q3]
                  refine tk (i := 8) (d := some 40) (v := ?_) rfl (Or.inl ⟨by kernel_rfl, ?_⟩) hS ?_; rotate_left 1; (intro w' hS'; have h1 := (HS.out w' hS').1; clear hS'; go_simp; try with_reducible rfl); simp only [Act.put, q1, q2, q3]
                  refine tk (i := 9) (d := some 41) (v := ?_) rfl (Or.inl ⟨by kernel_rfl, ?_⟩) hS ?_; rotate_left 1; (intro w' hS'; clear hS'; go_simp; try with_reducible rfl); simp only [Act.put, q1, q2, q3]
                  refine tk (i := 10) (d := some 42) (v := ?_) rfl (Or.inl ⟨by kernel_rfl, ?_⟩) hS ?_; rotate_left 1; (intro w' hS'; clear hS'; go_simp; try with_reducible rfl); simp only [Act.put, q1, q2, q3]
                  refine tk (i := 11) (d := some 43) (v := ?_) rfl (Or.inl ⟨by kernel_rfl, ?_⟩) hS ?_; rotate_left 1; (intro w' hS'; clear hS'; go_simp; try with_reducible rfl); simp only [Act.put, q1, q2, q3]
                  refine tk (i := 12) (d := some 44) (v := ?_) rfl (Or.inl ⟨by kernel_rfl, ?_⟩) hS ?_; rotate_left 1; (intro w' hS'; clear hS'; go_simp; try with_reducible rfl); simp only [Act.put, q1, q2, q3]
                  refine tk (i := 13) (d := some 45) (v := ?_) rfl (Or.inl ⟨by kernel_rfl, ?_⟩) hS ?_; rotate_left 1; (intro w' hS'; clear hS'; go_simp; try with_reducible rfl); simp only [Act.put, q1, q2, q3]
                  refine tk (i := 14) (d := some 46) (v := ?_) rfl (Or.inl ⟨by kernel_rfl, ?_⟩) hS ?_; rotate_left 1; (intro w' hS'; have h1 := (HS.out w' hS').2.2.2.2; clear hS'; go_simp; try with_reducible rfl); simp only [Act.put, q1, q2, q3]
                  refine tk (i := 15) (d := some 47) (v := ?_) rfl (Or.inl ⟨by kernel_rfl, ?_⟩) hS ?_; rotate_left 1; (intro w' hS'; clear hS'; go_simp; try with_reducible rfl); simp only [Act.put, q1, q2, q3]
                  refine tk (i := 16) (d := some 48) (v := ?_) rfl (Or.inl ⟨by kernel_rfl, ?_⟩) hS ?_; rotate_left 1; (intro w' hS'; clear hS'; go_simp; try with_reducible rfl); simp only [Act.put, q1, q2, q3]
                  refine tk (i := 17) (d := some 49) (v := ?_) rfl (Or.inl ⟨by kernel_rfl, ?_⟩) hS ?_; rotate_left 1; (intro w' hS'; clear hS'; go_simp; try with_reducible rfl); simp only [Act.put, q1, q2, q3]
                  refine tk (i := 18) (d := some 50) (v := ?_) rfl (Or.inl ⟨by kernel_rfl, ?_⟩) hS ?_; rotate_left 1; (intro w' hS'; clear hS'; go_simp; try with_reducible rfl); simp only [Act.put, q1, q2, q3]
                  refine tk (i := 19) (d := some 51) (v := ?_) rfl (Or.inl ⟨by kernel_rfl, ?_⟩) hS ?_; rotate_left 1; (intro w' hS'; clear hS'; go_simp; try with_reducible rfl); simp only [Act.put, q1, q2, q3]
                  refine tk (i := 20) (d := some 52) (v := ?_) rfl (Or.inl ⟨by kernel_rfl, ?_⟩) hS ?_; rotate_left 1; (intro w' hS'; have h1 := (HS.out w' hS').2.2.2.1; clear hS'; go_simp; try with_reducible rfl); simp only [Act.put, q1, q2, q3]
                  refine wpAnyH_ready (rs := [21]) (by kernel_rfl) (by simp) ?_
                  refine AllReadyH.cons rfl (fun K1 hK1 => ?_) (AllReadyH.nil)
                  go_simp
                  refine (KA.out _ hS).mono ?_
                  rintro e w3 ⟨rfl, fx⟩
                  refine hK1.out _ _ (hS.trans fx (fun _ _ h => h)) (fun hS => ?_)
                  clear fx
                  clear hK1 K1
                  simp only [List.getElem_toArray, List.getElem_cons_zero, List.getElem_cons_succ, Act.put, List.setIfInBounds_toArray, List.set_cons_zero, List.set_cons_succ]
                  refine tk (i := 22) (d := some 54) (v := ?_) rfl (Or.inl ⟨by kernel_rfl, ?_⟩) hS ?_; rotate_left 1; (intro w' hS'; clear hS'; go_simp; try with_reducible rfl); simp only [Act.put, q1, q2, q3]
                  refine tk (i := 23) (d := some 55) (v := ?_) rfl (Or.inl ⟨by kernel_rfl, ?_⟩) hS ?_; rotate_left 1; (intro w' hS'; clear hS'; go_simp; try with_reducible rfl); simp only [Act.put, q1, q2, q3]
                  refine tk (i := 24) (d := some 56) (v := ?_) rfl (Or.inl ⟨by kernel_rfl, ?_⟩) hS ?_; rotate_left 1; (intro w' hS'; clear hS'; go_simp; try with_reducible rfl); simp only [Act.put, q1, q2, q3]
                  refine tks (i := 25) (d := some 57) rfl hS ?_; simp only [Act.put, q1, q2, q3]
                  refine tks (i := 26) (d := some 58) rfl hS ?_; simp only [Act.put, q1, q2, q3]
                  refine tks (i := 27) (d := some 59) rfl hS ?_; simp only [Act.put, q1, q2, q3]
                  refine tks (i := 28) (d := some 60) rfl hS ?_; simp only [Act.put, q1, q2, q3]
                  refine tks (i := 29) (d := some 61) rfl hS ?_; simp only [Act.put, q1, q2, q3]
                  refine tks (i := 30) (d := some 62) rfl hS ?_; simp only [Act.put, q1, q2, q3]
                  refine tks (i := 31) (d := some 63) rfl hS ?_; simp only [Act.put, q1, q2, q3]
                  refine tks (i := 32) (d := some 64) rfl hS ?_; simp only [Act.put, q1, q2, q3]
                  refine tks (i := 33) (d := some 65) rfl hS ?_; simp only [Act.put, q1, q2, q3]
                  refine tks (i := 34) (d := some 66) rfl hS ?_; simp only [Act.put, q1, q2, q3]
                  refine tks (i := 35) (d := some 67) rfl hS ?_; simp only [Act.put, q1, q2, q3]
                  refine tk (i := 36) (d := some 68) (v := ?_) rfl (Or.inl ⟨by kernel_rfl, ?_⟩) hS ?_; rotate_left 1; (intro w' hS'; clear hS'; go_simp; try with_reducible rfl); simp only [Act.put, q1, q2, q3]
                  refine tk (i := 37) (d := some 69) (v := ?_) rfl (Or.inl ⟨by kernel_rfl, ?_⟩) hS ?_; rotate_left 1; (intro w' hS'; clear hS'; go_simp; try with_reducible rfl); simp only [Act.put, q1, q2, q3]
                  refine tks (i := 38) (d := some 70) rfl hS ?_; simp only [Act.put, q1, q2, q3]
                  refine tks (i := 39) (d := some 71) rfl hS ?_; simp only [Act.put, q1, q2, q3]
                  refine tks (i := 40) (d := some 72) rfl hS ?_; simp only [Act.put, q1, q2, q3]
                  refine tks (i := 41) (d := some 73) rfl hS ?_; simp only [Act.put, q1, q2, q3]
                  refine tks (i := 42) (d := some 74) rfl hS ?_; simp only [Act.put, q1, q2, q3]
                  refine tks (i := 43) (d := some 75) rfl hS ?_; simp only [Act.put, q1, q2, q3]
                  refine tks (i := 44) (d := some 76) rfl hS ?_; simp only [Act.put, q1, q2, q3]
                  refine tks (i := 45) (d := some 77) rfl hS ?_; simp only [Act.put, q1, q2, q3]
                  refine tk (i := 46) (d := some 78) (v := ?_) rfl (Or.inl ⟨by kernel_rfl, ?_⟩) hS ?_; rotate_left 1; (intro w' hS'; clear hS'; go_simp; try with_reducible rfl); simp only [Act.put, q1, q2, q3]
                  refine wpAnyH_done (by kernel_rfl) ?_ _
                  have FZ := hid hS
                  clear hS
                  go_wp2_with fail
                  go_ret2
                  exact ⟨(FW8.out.trans FZ.out (fun _ _ h => h)), .inl ⟨HB.out, rfl⟩⟩
                | true =>
                  rw [hat] at KA
                  cases hnm : T.nam zs2 with
                  | true =>
                    rw [hnm] at KM
                    have HFK := hid (U.fok_step HN.out HZ.out HALL.out.2.1 (.inr ⟨q, y, rfl, HY.out, by show y.1.1 < zn; omega⟩) (by unfold T.gok; rw [hat, decide_eq_true (show 1 ≤ zn by omega)]; rfl) (by unfold U.tokn; rw [if_neg (show ¬ zn ≤ 2 by omega)]; exact hnm))
                    have KP := hid (fun (V : World) (hf : Fr (fun _ => False) V8 V) => uput_any (DH.out.kept (F8.out.trans hf (fun _ _ h => h)) (fun _ _ h => h)) (U.layd_up _ U.zup) HLL.out ((zn, ⟨zp, zs2, zat⟩), (za, zc)) ((HEL.out.kept (FW8.out.trans hf (fun _ _ h => h)) (fun _ _ h => h)).mono (fun i hi => HALL.out.2.2.1 i hi)))
                    dsimp only [T.aggN] at KP
                    rw [HAL.out] at KP
                    go_wp2_with fail
                    have hmx : Tryz.prog.follows .mixedOrders = true := by kernel_rfl
                    refine wp_region_held (S := fun V => Fr (fun _ => False) V8 V) hmx ?_
                    have hS := (Fr.drew (Fr.refl (fun _ => False) V8))
                    simp only [List.size_toArray, List.length_cons, List.length_nil, Nat.reduceAdd, Array.replicate_succ, Array.replicate_zero, List.push_toArray, List.nil_append, List.cons_append]
                    refine tk (i := 0) (d := some 32) (v := ?_) rfl (Or.inl ⟨by kernel_rfl, ?_⟩) hS ?_; rotate_left 1; (intro w' hS'; clear hS'; go_simp; try with_reducible rfl); simp only [Act.put, q1, q2, q3]
                    refine tk (i := 1) (d := some 33) (v := ?_) rfl (Or.inl ⟨by kernel_rfl, ?_⟩) hS ?_; rotate_left 1; (intro w' hS'; have h1 := (HS.out w' hS').1; clear hS'; go_simp; try with_reducible rfl); simp only [Act.put, q1, q2, q3]
                    refine tk (i := 2) (d := some 34) (v := ?_) rfl (Or.inl ⟨by kernel_rfl, ?_⟩) hS ?_; rotate_left 1; (intro w' hS'; clear hS'; go_simp; try with_reducible rfl); simp only [Act.put, q1, q2, q3]
                    refine tk (i := 3) (d := some 35) (v := ?_) rfl (Or.inl ⟨by kernel_rfl, ?_⟩) hS ?_; rotate_left 1; (intro w' hS'; clear hS'; go_simp; try with_reducible rfl); simp only [Act.put, q1, q2, q3]
                    refine tk (i := 4) (d := some 36) (v := ?_) rfl (Or.inl ⟨by kernel_rfl, ?_⟩) hS ?_; rotate_left 1; (intro w' hS'; clear hS'; go_simp; try with_reducible rfl); simp only [Act.put, q1, q2, q3]
                    refine tk (i := 5) (d := some 37) (v := ?_) rfl (Or.inl ⟨by kernel_rfl, ?_⟩) hS ?_; rotate_left 1; (intro w' hS'; clear hS'; go_simp; try with_reducible rfl); simp only [Act.put, q1, q2, q3]
                    refine tk (i := 6) (d := some 38) (v := ?_) rfl (Or.inl ⟨by kernel_rfl, ?_⟩) hS ?_; rotate_left 1; (intro w' hS'; clear hS'; go_simp; try with_reducible rfl); simp only [Act.put, q1, q2, q3]
                    refine tk (i := 7) (d := some 39) (v := ?_) rfl (Or.inl ⟨by kernel_rfl, ?_⟩) hS ?_; rotate_left 1; (intro w' hS'; clear hS'; go_simp; try with_reducible rfl); simp only [Act.put, q1, q2, q3]
                    refine tk (i := 8) (d := some 40) (v := ?_) rfl (Or.inl ⟨by kernel_rfl, ?_⟩) hS ?_; rotate_left 1; (intro w' hS'; have h1 := (HS.out w' hS').1; clear hS'; go_simp; try with_reducible rfl); simp only [Act.put, q1, q2, q3]
                    refine tk (i := 9) (d := some 41) (v := ?_) rfl (Or.inl ⟨by kernel_rfl, ?_⟩) hS ?_; rotate_left 1; (intro w' hS'; clear hS'; go_simp; try with_reducible rfl); simp only [Act.put, q1, q2, q3]
                    refine tk (i := 10) (d := some 42) (v := ?_) rfl (Or.inl ⟨by kernel_rfl, ?_⟩) hS ?_; rotate_left 1; (intro w' hS'; clear hS'; go_simp; try with_reducible rfl); simp only [Act.put, q1, q2, q3]
                    refine tk (i := 11) (d := some 43) (v := ?_) rfl (Or.inl ⟨by kernel_rfl, ?_⟩) hS ?_; rotate_left 1; (intro w' hS'; clear hS'; go_simp; try with_reducible rfl); simp only [Act.put, q1, q2, q3]
                    refine tk (i := 12) (d := some 44) (v := ?_) rfl (Or.inl ⟨by kernel_rfl, ?_⟩) hS ?_; rotate_left 1; (intro w' hS'; clear hS'; go_simp; try with_reducible rfl); simp only [Act.put, q1, q2, q3]
                    refine tk (i := 13) (d := some 45) (v := ?_) rfl (Or.inl ⟨by kernel_rfl, ?_⟩) hS ?_; rotate_left 1; (intro w' hS'; clear hS'; go_simp; try with_reducible rfl); simp only [Act.put, q1, q2, q3]
                    refine tk (i := 14) (d := some 46) (v := ?_) rfl (Or.inl ⟨by kernel_rfl, ?_⟩) hS ?_; rotate_left 1; (intro w' hS'; have h1 := (HS.out w' hS').2.2.2.2; clear hS'; go_simp; try with_reducible rfl); simp only [Act.put, q1, q2, q3]
                    refine tk (i := 15) (d := some 47) (v := ?_) rfl (Or.inl ⟨by kernel_rfl, ?_⟩) hS ?_; rotate_left 1; (intro w' hS'; clear hS'; go_simp; try with_reducible rfl); simp only [Act.put, q1, q2, q3]
                    refine tk (i := 16) (d := some 48) (v := ?_) rfl (Or.inl ⟨by kernel_rfl, ?_⟩) hS ?_; rotate_left 1; (intro w' hS'; clear hS'; go_simp; try with_reducible rfl); simp only [Act.put, q1, q2, q3]
                    refine tk (i := 17) (d := some 49) (v := ?_) rfl (Or.inl ⟨by kernel_rfl, ?_⟩) hS ?_; rotate_left 1; (intro w' hS'; clear hS'; go_simp; try with_reducible rfl); simp only [Act.put, q1, q2, q3]
                    refine tk (i := 18) (d := some 50) (v := ?_) rfl (Or.inl ⟨by kernel_rfl, ?_⟩) hS ?_; rotate_left 1; (intro w' hS'; clear hS'; go_simp; try with_reducible rfl); simp only [Act.put, q1, q2, q3]
                    refine tk (i := 19) (d := some 51) (v := ?_) rfl (Or.inl ⟨by kernel_rfl, ?_⟩) hS ?_; rotate_left 1; (intro w' hS'; clear hS'; go_simp; try with_reducible rfl); simp only [Act.put, q1, q2, q3]
                    refine tk (i := 20) (d := some 52) (v := ?_) rfl (Or.inl ⟨by kernel_rfl, ?_⟩) hS ?_; rotate_left 1; (intro w' hS'; have h1 := (HS.out w' hS').2.2.2.1; clear hS'; go_simp; try with_reducible rfl); simp only [Act.put, q1, q2, q3]
                    refine wpAnyH_ready (rs := [21]) (by kernel_rfl) (by simp) ?_
                    refine AllReadyH.cons rfl (fun K1 hK1 => ?_) (AllReadyH.nil)
                    go_simp
                    refine (KA.out _ hS).mono ?_
                    rintro e w3 ⟨rfl, fx⟩
                    refine hK1.out _ _ (hS.trans fx (fun _ _ h => h)) (fun hS => ?_)
                    clear fx
                    clear hK1 K1
                    simp only [List.getElem_toArray, List.getElem_cons_zero, List.getElem_cons_succ, Act.put, List.setIfInBounds_toArray, List.set_cons_zero, List.set_cons_succ]
                    refine tk (i := 22) (d := some 54) (v := ?_) rfl (Or.inl ⟨by kernel_rfl, ?_⟩) hS ?_; rotate_left 1; (intro w' hS'; clear hS'; go_simp; try with_reducible rfl); simp only [Act.put, q1, q2, q3]
                    refine tk (i := 23) (d := some 55) (v := ?_) rfl (Or.inl ⟨by kernel_rfl, ?_⟩) hS ?_; rotate_left 1; (intro w' hS'; clear hS'; go_simp; try with_reducible rfl); simp only [Act.put, q1, q2, q3]
                    refine tk (i := 24) (d := some 56) (v := ?_) rfl (Or.inl ⟨by kernel_rfl, ?_⟩) hS ?_; rotate_left 1; (intro w' hS'; clear hS'; go_simp; try with_reducible rfl); simp only [Act.put, q1, q2, q3]
                    refine tk (i := 25) (d := some 57) (v := ?_) rfl (Or.inl ⟨by kernel_rfl, ?_⟩) hS ?_; rotate_left 1; (intro w' hS'; clear hS'; go_simp; try with_reducible rfl); simp only [Act.put, q1, q2, q3]
                    refine tk (i := 26) (d := some 58) (v := ?_) rfl (Or.inl ⟨by kernel_rfl, ?_⟩) hS ?_; rotate_left 1; (intro w' hS'; clear hS'; go_simp; try with_reducible rfl); simp only [Act.put, q1, q2, q3]
                    refine tks (i := 27) (d := some 59) rfl hS ?_; simp only [Act.put, q1, q2, q3]
                    refine tks (i := 28) (d := some 60) rfl hS ?_; simp only [Act.put, q1, q2, q3]
                    refine tks (i := 29) (d := some 61) rfl hS ?_; simp only [Act.put, q1, q2, q3]
                    refine tks (i := 30) (d := some 62) rfl hS ?_; simp only [Act.put, q1, q2, q3]
                    refine tks (i := 31) (d := some 63) rfl hS ?_; simp only [Act.put, q1, q2, q3]
                    refine tks (i := 32) (d := some 64) rfl hS ?_; simp only [Act.put, q1, q2, q3]
                    refine tks (i := 33) (d := some 65) rfl hS ?_; simp only [Act.put, q1, q2, q3]
                    refine tks (i := 34) (d := some 66) rfl hS ?_; simp only [Act.put, q1, q2, q3]
                    refine tk (i := 35) (d := some 67) (v := ?_) rfl (Or.inl ⟨by kernel_rfl, ?_⟩) hS ?_; rotate_left 1; (intro w' hS'; clear hS'; go_simp; try with_reducible rfl); simp only [Act.put, q1, q2, q3]
                    refine tk (i := 36) (d := some 68) (v := ?_) rfl (Or.inl ⟨by kernel_rfl, ?_⟩) hS ?_; rotate_left 1; (intro w' hS'; clear hS'; go_simp; try with_reducible rfl); simp only [Act.put, q1, q2, q3]
                    refine tk (i := 37) (d := some 69) (v := ?_) rfl (Or.inl ⟨by kernel_rfl, ?_⟩) hS ?_; rotate_left 1; (intro w' hS'; clear hS'; go_simp; try with_reducible rfl); simp only [Act.put, q1, q2, q3]
                    refine tk (i := 38) (d := some 70) (v := ?_) rfl (Or.inl ⟨by kernel_rfl, ?_⟩) hS ?_; rotate_left 1; (intro w' hS'; clear hS'; go_simp; try with_reducible rfl); simp only [Act.put, q1, q2, q3]
                    refine tk (i := 39) (d := some 71) (v := ?_) rfl (Or.inl ⟨by kernel_rfl, ?_⟩) hS ?_; rotate_left 1; (intro w' hS'; clear hS'; go_simp; try with_reducible rfl); simp only [Act.put, q1, q2, q3]
                    refine tk (i := 40) (d := some 72) (v := ?_) rfl (Or.inl ⟨by kernel_rfl, ?_⟩) hS ?_; rotate_left 1; (intro w' hS'; clear hS'; go_simp; try with_reducible rfl); simp only [Act.put, q1, q2, q3]
                    refine tk (i := 41) (d := some 73) (v := ?_) rfl (Or.inl ⟨by kernel_rfl, ?_⟩) hS ?_; rotate_left 1; (intro w' hS'; clear hS'; go_simp; try with_reducible rfl); simp only [Act.put, q1, q2, q3]
                    refine tk (i := 42) (d := some 74) (v := ?_) rfl (Or.inl ⟨by kernel_rfl, ?_⟩) hS ?_; rotate_left 1; (intro w' hS'; have h1 := (HS.out w' hS').2.2.1; clear hS'; go_simp; try with_reducible rfl); simp only [Act.put, q1, q2, q3]
                    refine wpAnyH_ready (rs := [43]) (by kernel_rfl) (by simp) ?_
                    refine AllReadyH.cons rfl (fun K1 hK1 => ?_) (AllReadyH.nil)
                    go_simp
                    refine (KM.out _).mono ?_
                    rintro e w4 ⟨rfl, rfl⟩
                    refine hK1.out _ _ hS (fun hS => ?_)
                    clear hK1 K1
                    simp only [List.getElem_toArray, List.getElem_cons_zero, List.getElem_cons_succ, Act.put, List.setIfInBounds_toArray, List.set_cons_zero, List.set_cons_succ]
                    refine tk (i := 44) (d := some 76) (v := ?_) rfl (Or.inl ⟨by kernel_rfl, ?_⟩) hS ?_; rotate_left 1; (intro w' hS'; clear hS'; go_simp; try with_reducible rfl); simp only [Act.put, q1, q2, q3]
                    refine tk (i := 45) (d := some 77) (v := ?_) rfl (Or.inl ⟨by kernel_rfl, ?_⟩) hS ?_; rotate_left 1; (intro w' hS'; clear hS'; go_simp; try with_reducible rfl); simp only [Act.put, q1, q2, q3]
                    refine tk (i := 46) (d := some 78) (v := ?_) rfl (Or.inl ⟨by kernel_rfl, ?_⟩) hS ?_; rotate_left 1; (intro w' hS'; clear hS'; go_simp; try with_reducible rfl); simp only [Act.put, q1, q2, q3]
                    refine wpAnyH_done (by kernel_rfl) ?_ _
                    have FZ := hid hS
                    clear hS
                    obtain ⟨k0, k1, k2, k3, _⟩ := HS.out _ FZ.out
                    go_wp2_with fail
                    refine (KP.out _ FZ.out).mono ?_
                    rintro e w5 ⟨rfl, c5, ra5, rc5, D5, hm5, hf5⟩
                    have HREL := hid (U.from_step HN.out HZ.out HALL.out.1 HFK.out HI.out HALL.out.2.2.1 HALL.out.2.2.2.1 (FW8.out.trans FZ.out (fun _ _ h => h)) D5 hm5 hf5)
                    clear KP D5 hm5 hf5
                    dsimp only
                    go_wp2_with fail
                    go_roundw
                    case rel => exact ⟨q + 1 + 1, by first | go_num | rfl | trivial, HREL⟩
                    case measure => simp [intOf]; omega
                  | false =>
                    rw [hnm] at KM
                    have HB := hid (show T.fromOk zs = false from by
                      cases hq : T.fromOk zs with
                      | false => rfl
                      | true =>
                        have hfo := U.fok_of HWF.out hq
                        have hz := hfo.tok (q + 1) _ (by rw [HN.out]; omega) HZ.out
                        unfold U.tokn at hz
                        rw [if_neg (show ¬ zn ≤ 2 by omega), hnm] at hz
                        cases hz)
                    clear HALL HZ DH HEL
                    go_wp2_with fail
                    have hmx : Tryz.prog.follows .mixedOrders = true := by kernel_rfl
                    refine wp_region_held (S := fun V => Fr (fun _ => False) V8 V) hmx ?_
                    have hS := (Fr.drew (Fr.refl (fun _ => False) V8))
                    simp only [List.size_toArray, List.length_cons, List.length_nil, Nat.reduceAdd, Array.replicate_succ, Array.replicate_zero, List.push_toArray, List.nil_append, List.cons_append]
                    refine tk (i := 0) (d := some 32) (v := ?_) rfl (Or.inl ⟨by kernel_rfl, ?_⟩) hS ?_; rotate_left 1; (intro w' hS'; clear hS'; go_simp; try with_reducible rfl); simp only [Act.put, q1, q2, q3]
                    refine tk (i := 1) (d := some 33) (v := ?_) rfl (Or.inl ⟨by kernel_rfl, ?_⟩) hS ?_; rotate_left 1; (intro w' hS'; have h1 := (HS.out w' hS').1; clear hS'; go_simp; try with_reducible rfl); simp only [Act.put, q1, q2, q3]
                    refine tk (i := 2) (d := some 34) (v := ?_) rfl (Or.inl ⟨by kernel_rfl, ?_⟩) hS ?_; rotate_left 1; (intro w' hS'; clear hS'; go_simp; try with_reducible rfl); simp only [Act.put, q1, q2, q3]
                    refine tk (i := 3) (d := some 35) (v := ?_) rfl (Or.inl ⟨by kernel_rfl, ?_⟩) hS ?_; rotate_left 1; (intro w' hS'; clear hS'; go_simp; try with_reducible rfl); simp only [Act.put, q1, q2, q3]
                    refine tk (i := 4) (d := some 36) (v := ?_) rfl (Or.inl ⟨by kernel_rfl, ?_⟩) hS ?_; rotate_left 1; (intro w' hS'; clear hS'; go_simp; try with_reducible rfl); simp only [Act.put, q1, q2, q3]
                    refine tk (i := 5) (d := some 37) (v := ?_) rfl (Or.inl ⟨by kernel_rfl, ?_⟩) hS ?_; rotate_left 1; (intro w' hS'; clear hS'; go_simp; try with_reducible rfl); simp only [Act.put, q1, q2, q3]
                    refine tk (i := 6) (d := some 38) (v := ?_) rfl (Or.inl ⟨by kernel_rfl, ?_⟩) hS ?_; rotate_left 1; (intro w' hS'; clear hS'; go_simp; try with_reducible rfl); simp only [Act.put, q1, q2, q3]
                    refine tk (i := 7) (d := some 39) (v := ?_) rfl (Or.inl ⟨by kernel_rfl, ?_⟩) hS ?_; rotate_left 1; (intro w' hS'; clear hS'; go_simp; try with_reducible rfl); simp only [Act.put, q1, q2, q3]
                    refine tk (i := 8) (d := some 40) (v := ?_) rfl (Or.inl ⟨by kernel_rfl, ?_⟩) hS ?_; rotate_left 1; (intro w' hS'; have h1 := (HS.out w' hS').1; clear hS'; go_simp; try with_reducible rfl); simp only [Act.put, q1, q2, q3]
                    refine tk (i := 9) (d := some 41) (v := ?_) rfl (Or.inl ⟨by kernel_rfl, ?_⟩) hS ?_; rotate_left 1; (intro w' hS'; clear hS'; go_simp; try with_reducible rfl); simp only [Act.put, q1, q2, q3]
                    refine tk (i := 10) (d := some 42) (v := ?_) rfl (Or.inl ⟨by kernel_rfl, ?_⟩) hS ?_; rotate_left 1; (intro w' hS'; clear hS'; go_simp; try with_reducible rfl); simp only [Act.put, q1, q2, q3]
                    refine tk (i := 11) (d := some 43) (v := ?_) rfl (Or.inl ⟨by kernel_rfl, ?_⟩) hS ?_; rotate_left 1; (intro w' hS'; clear hS'; go_simp; try with_reducible rfl); simp only [Act.put, q1, q2, q3]
                    refine tk (i := 12) (d := some 44) (v := ?_) rfl (Or.inl ⟨by kernel_rfl, ?_⟩) hS ?_; rotate_left 1; (intro w' hS'; clear hS'; go_simp; try with_reducible rfl); simp only [Act.put, q1, q2, q3]
                    refine tk (i := 13) (d := some 45) (v := ?_) rfl (Or.inl ⟨by kernel_rfl, ?_⟩) hS ?_; rotate_left 1; (intro w' hS'; clear hS'; go_simp; try with_reducible rfl); simp only [Act.put, q1, q2, q3]
                    refine tk (i := 14) (d := some 46) (v := ?_) rfl (Or.inl ⟨by kernel_rfl, ?_⟩) hS ?_; rotate_left 1; (intro w' hS'; have h1 := (HS.out w' hS').2.2.2.2; clear hS'; go_simp; try with_reducible rfl); simp only [Act.put, q1, q2, q3]
                    refine tk (i := 15) (d := some 47) (v := ?_) rfl (Or.inl ⟨by kernel_rfl, ?_⟩) hS ?_; rotate_left 1; (intro w' hS'; clear hS'; go_simp; try with_reducible rfl); simp only [Act.put, q1, q2, q3]
                    refine tk (i := 16) (d := some 48) (v := ?_) rfl (Or.inl ⟨by kernel_rfl, ?_⟩) hS ?_; rotate_left 1; (intro w' hS'; clear hS'; go_simp; try with_reducible rfl); simp only [Act.put, q1, q2, q3]
                    refine tk (i := 17) (d := some 49) (v := ?_) rfl (Or.inl ⟨by kernel_rfl, ?_⟩) hS ?_; rotate_left 1; (intro w' hS'; clear hS'; go_simp; try with_reducible rfl); simp only [Act.put, q1, q2, q3]
                    refine tk (i := 18) (d := some 50) (v := ?_) rfl (Or.inl ⟨by kernel_rfl, ?_⟩) hS ?_; rotate_left 1; (intro w' hS'; clear hS'; go_simp; try with_reducible rfl); simp only [Act.put, q1, q2, q3]
                    refine tk (i := 19) (d := some 51) (v := ?_) rfl (Or.inl ⟨by kernel_rfl, ?_⟩) hS ?_; rotate_left 1; (intro w' hS'; clear hS'; go_simp; try with_reducible rfl); simp only [Act.put, q1, q2, q3]
                    refine tk (i := 20) (d := some 52) (v := ?_) rfl (Or.inl ⟨by kernel_rfl, ?_⟩) hS ?_; rotate_left 1; (intro w' hS'; have h1 := (HS.out w' hS').2.2.2.1; clear hS'; go_simp; try with_reducible rfl); simp only [Act.put, q1, q2, q3]
                    refine wpAnyH_ready (rs := [21]) (by kernel_rfl) (by simp) ?_
                    refine AllReadyH.cons rfl (fun K1 hK1 => ?_) (AllReadyH.nil)
                    go_simp
                    refine (KA.out _ hS).mono ?_
                    rintro e w3 ⟨rfl, fx⟩
                    refine hK1.out _ _ (hS.trans fx (fun _ _ h => h)) (fun hS => ?_)
                    clear fx
                    clear hK1 K1
                    simp only [List.getElem_toArray, List.getElem_cons_zero, List.getElem_cons_succ, Act.put, List.setIfInBounds_toArray, List.set_cons_zero, List.set_cons_succ]
                    refine tk (i := 22) (d := some 54) (v := ?_) rfl (Or.inl ⟨by kernel_rfl, ?_⟩) hS ?_; rotate_left 1; (intro w' hS'; clear hS'; go_simp; try with_reducible rfl); simp only [Act.put, q1, q2, q3]
                    refine tk (i := 23) (d := some 55) (v := ?_) rfl (Or.inl ⟨by kernel_rfl, ?_⟩) hS ?_; rotate_left 1; (intro w' hS'; clear hS'; go_simp; try with_reducible rfl); simp only [Act.put, q1, q2, q3]
                    refine tk (i := 24) (d := some 56) (v := ?_) rfl (Or.inl ⟨by kernel_rfl, ?_⟩) hS ?_; rotate_left 1; (intro w' hS'; clear hS'; go_simp; try with_reducible rfl); simp only [Act.put, q1, q2, q3]
                    refine tk (i := 25) (d := some 57) (v := ?_) rfl (Or.inl ⟨by kernel_rfl, ?_⟩) hS ?_; rotate_left 1; (intro w' hS'; clear hS'; go_simp; try with_reducible rfl); simp only [Act.put, q1, q2, q3]
                    refine tk (i := 26) (d := some 58) (v := ?_) rfl (Or.inl ⟨by kernel_rfl, ?_⟩) hS ?_; rotate_left 1; (intro w' hS'; clear hS'; go_simp; try with_reducible rfl); simp only [Act.put, q1, q2, q3]
                    refine tks (i := 27) (d := some 59) rfl hS ?_; simp only [Act.put, q1, q2, q3]
                    refine tks (i := 28) (d := some 60) rfl hS ?_; simp only [Act.put, q1, q2, q3]
                    refine tks (i := 29) (d := some 61) rfl hS ?_; simp only [Act.put, q1, q2, q3]
                    refine tks (i := 30) (d := some 62) rfl hS ?_; simp only [Act.put, q1, q2, q3]
                    refine tks (i := 31) (d := some 63) rfl hS ?_; simp only [Act.put, q1, q2, q3]
                    refine tks (i := 32) (d := some 64) rfl hS ?_; simp only [Act.put, q1, q2, q3]
                    refine tks (i := 33) (d := some 65) rfl hS ?_; simp only [Act.put, q1, q2, q3]
                    refine tks (i := 34) (d := some 66) rfl hS ?_; simp only [Act.put, q1, q2, q3]
                    refine tk (i := 35) (d := some 67) (v := ?_) rfl (Or.inl ⟨by kernel_rfl, ?_⟩) hS ?_; rotate_left 1; (intro w' hS'; clear hS'; go_simp; try with_reducible rfl); simp only [Act.put, q1, q2, q3]
                    refine tk (i := 36) (d := some 68) (v := ?_) rfl (Or.inl ⟨by kernel_rfl, ?_⟩) hS ?_; rotate_left 1; (intro w' hS'; clear hS'; go_simp; try with_reducible rfl); simp only [Act.put, q1, q2, q3]
                    refine tk (i := 37) (d := some 69) (v := ?_) rfl (Or.inl ⟨by kernel_rfl, ?_⟩) hS ?_; rotate_left 1; (intro w' hS'; clear hS'; go_simp; try with_reducible rfl); simp only [Act.put, q1, q2, q3]
                    refine tk (i := 38) (d := some 70) (v := ?_) rfl (Or.inl ⟨by kernel_rfl, ?_⟩) hS ?_; rotate_left 1; (intro w' hS'; clear hS'; go_simp; try with_reducible rfl); simp only [Act.put, q1, q2, q3]
                    refine tk (i := 39) (d := some 71) (v := ?_) rfl (Or.inl ⟨by kernel_rfl, ?_⟩) hS ?_; rotate_left 1; (intro w' hS'; clear hS'; go_simp; try with_reducible rfl); simp only [Act.put, q1, q2, q3]
                    refine tk (i := 40) (d := some 72) (v := ?_) rfl (Or.inl ⟨by kernel_rfl, ?_⟩) hS ?_; rotate_left 1; (intro w' hS'; clear hS'; go_simp; try with_reducible rfl); simp only [Act.put, q1, q2, q3]
                    refine tk (i := 41) (d := some 73) (v := ?_) rfl (Or.inl ⟨by kernel_rfl, ?_⟩) hS ?_; rotate_left 1; (intro w' hS'; clear hS'; go_simp; try with_reducible rfl); simp only [Act.put, q1, q2, q3]
                    refine tk (i := 42) (d := some 74) (v := ?_) rfl (Or.inl ⟨by kernel_rfl, ?_⟩) hS ?_; rotate_left 1; (intro w' hS'; have h1 := (HS.out w' hS').2.2.1; clear hS'; go_simp; try with_reducible rfl); simp only [Act.put, q1, q2, q3]
                    refine wpAnyH_ready (rs := [43]) (by kernel_rfl) (by simp) ?_
                    refine AllReadyH.cons rfl (fun K1 hK1 => ?_) (AllReadyH.nil)
                    go_simp
                    refine (KM.out _).mono ?_
                    rintro e w4 ⟨rfl, rfl⟩
                    refine hK1.out _ _ hS (fun hS => ?_)
                    clear hK1 K1
                    simp only [List.getElem_toArray, List.getElem_cons_zero, List.getElem_cons_succ, Act.put, List.setIfInBounds_toArray, List.set_cons_zero, List.set_cons_succ]
                    refine tk (i := 44) (d := some 76) (v := ?_) rfl (Or.inl ⟨by kernel_rfl, ?_⟩) hS ?_; rotate_left 1; (intro w' hS'; clear hS'; go_simp; try with_reducible rfl); simp only [Act.put, q1, q2, q3]
                    refine tk (i := 45) (d := some 77) (v := ?_) rfl (Or.inl ⟨by kernel_rfl, ?_⟩) hS ?_; rotate_left 1; (intro w' hS'; clear hS'; go_simp; try with_reducible rfl); simp only [Act.put, q1, q2, q3]
                    refine tk (i := 46) (d := some 78) (v := ?_) rfl (Or.inl ⟨by kernel_rfl, ?_⟩) hS ?_; rotate_left 1; (intro w' hS'; clear hS'; go_simp; try with_reducible rfl); simp only [Act.put, q1, q2, q3]
                    refine wpAnyH_done (by kernel_rfl) ?_ _
                    have FZ := hid hS
                    clear hS
                    go_wp2_with fail
                    go_ret2
                    exact ⟨(FW8.out.trans FZ.out (fun _ _ h => h)), .inl ⟨HB.out, rfl⟩⟩
      have REST2 := hid REST
      clear REST HK1
      by_cases h1 : zn = 1
      · subst h1
        clear HX8 KA KM HALL HZ DH HEL
        go_wp2_with fail
        exact REST2.out true _ _ _ _ _ _ _ _ rfl
      · by_cases h2 : zn = 2
        · subst h2
          clear HX8 KA KM HALL HZ DH HEL
          go_wp2_with fail
          exact REST2.out true _ _ _ _ _ _ _ _ rfl
        · have e1 : (zn == 1) = false := by simp [h1]
          have e2 : (zn == 2) = false := by simp [h2]
          have htp := hid (show false = decide (zn = 1 ∨ zn = 2) from (decide_eq_false (by omega)).symm)
          clear HX8 KA KM HALL HZ DH HEL
          go_wp2_with fail
          exact REST2.out false _ _ _ _ _ _ _ _ htp.out
    · obtain rfl : k = n := by omega
      have hjn : ¬ ((k : Int) < (k : Int)) := by omega
      rw [List.take_of_length_le (by rw [HN.out]; exact Nat.le_refl _)] at D
      have HFO := hid (show U.Fok zs zs.length from by rw [HN.out]; exact hfk)
      obtain ⟨ln, hln⟩ : ∃ l, (U.lay zs).length = l := ⟨_, rfl⟩
      have hll := U.layd_len zs U.zero
      have hz2 : U.zero.length = 2 := rfl
      have hln2 : ln ≤ 3800000000000 := by rw [← hln]; unfold U.lay; rw [HN.out] at hll; omega
      have KC := hid (uclone_any (rc := rc1) D.now.nr (by rw [hln]; exact hln2) (fun z hz => by
        rcases U.layd_mem zs U.zero hz with hzz | hzz
        · exact HATS.out _ hzz
        · unfold U.zero at hzz
          simp at hzz
          rcases hzz with rfl | rfl <;> exact Nat.zero_le _))
      rw [hln] at KC
      have d0 : wr.cell? ⟨r, 0, none⟩ = some (.slice ra1 ln rc1) := by rw [← hln]; exact cellA (j := 0) D.box rfl
      have DH := hid D
      have HLN := hid hln
      have HCN := hid hcn
      have HCI := hid hci
      have HFR := hid hfr
      clear hall hk hfk D hci hcn hfr hlt hln hll hz2
      go_wp2_with fail
      refine KC.out.mono ?_
      rintro e w3 ⟨a3, cp3, z3, rfl, hz3, hx3, hf3⟩
      have hl3 : z3.length = ln := by
        have := congrArg List.length hz3
        rw [List.length_map, List.length_map, HLN.out] at this
        exact this
      have bx3 := hf3.cells DH.out.box (fun h => h)
      have s3 := frozen_of_row (j := 0) bx3
      have s4 := cellA (j := 0) bx3 rfl
      have bx4 := setCell_row (j := 0) bx3 (.slice a3 ln cp3)
      have f4 : Fr (fun i => i = r) w3 (w3.setCell ⟨r, 0, none⟩ (.slice a3 ln cp3)) := Fr.setCell (p := ⟨r, 0, none⟩) (Fr.refl (fun i => i = r) _) (fun _ => rfl) _
      have hrw : w.heap.size ≤ r := by
        rcases HCN.out r (by rw [DH.out.cr]; simp) with h | h
        · have h2 := HCI.out r h; rw [DH.out.cr] at h2; cases h2
        · exact h
      obtain ⟨V4, hV4⟩ : ∃ V, w3.setCell ⟨r, 0, none⟩ (.slice a3 ln cp3) = V := ⟨_, rfl⟩
      rw [hV4] at bx4 f4
      have D4 := hid (DH.out.recolour hx3 hf3 f4 (by rw [hl3]; exact bx4))
      have C4 := hid (show ∀ i, (fun i => if i = r then some U.Col.tree else if blk a3 = some i then some .nodes else if wr.heap.size ≤ i ∧ i < w3.heap.size then some .attr else none) i ≠ none → w.heap.size ≤ i from fun i hi => by
        have hs := HFR.out.size
        by_cases e1 : i = r
        · omega
        · by_cases e2 : blk a3 = some i
          · have := hx3.new i e2; omega
          · by_cases e3 : wr.heap.size ≤ i ∧ i < w3.heap.size
            · omega
            · simp only [if_neg e1, if_neg e2, if_neg e3] at hi
              exact absurd rfl hi)
      have F4 := hid (show Fr (fun _ => False) w V4 from (HFR.out.trans hf3 (fun _ _ h => h)).trans f4 (fun i hi e => by omega))
      have HZ3 := hid (show U.pl z3 = U.pl (U.lay zs) from hz3)
      have HU3 := hid (show A.Up (U.pl z3) from by rw [HZ3.out]; exact U.layd_up zs U.zup)
      have HL3 := hid hl3
      have HV4 := hid hV4
      have KF := hid (fun (W : World) (hf : Fr (fun _ => False) V4 W) (m : Int) => (D4.out.kept hf (fun _ _ h => h)).find HU3.out (by rw [HL3.out]; omega) m)
      have C0 := hid (show ∀ W, Fr (fun _ => False) V4 W → W.cell? ⟨r, 0, none⟩ = some (.slice a3 ln cp3) from fun W hf => by have := cellA (j := 0) (hf.cells D4.out.box (fun h => h)) rfl; rw [HL3.out] at this; exact this)
      clear hz3 hx3 hf3 hl3 bx3 bx4 f4 hV4 KC d0 hjn
      dsimp only
      go_upto_region 12 with fail
      clear s3 s4
      rw [HV4.out]
      obtain ⟨wq, rfl⟩ : ∃ wq, wq = wr := ⟨_, rfl⟩
      go_loopw [8] (fun i wx => ∃ j : Nat, i = .int .i64 j ∧ Hid (j ≤ ln ∧ (∀ m p, m < j → (U.pl z3)[m]? = some p → U.reach (U.pl z3) (z3.length + 1) p.1 = true) ∧ Fr (fun _ => False) V4 wx))
        (fun i _ => (ln - intOf i).toNat)
      case atStart => exact ⟨0, rfl, hid ⟨Nat.zero_le _, fun m p hm => by omega, Fr.refl _ _⟩⟩
      case round =>
        obtain ⟨j, rfl, hall⟩ := hrel
        obtain ⟨hj, hre, hfx⟩ := hall.out
        have c0 := C0.out _ hfx
        by_cases hjl : j < ln
        · obtain ⟨p, hp⟩ : ∃ p, (U.pl z3)[j]? = some p := ⟨_, List.getElem?_eq_getElem (by rw [U.pl_len, HL3.out]; exact hjl)⟩
          obtain ⟨g3, o3, rfl, b0, _⟩ := (D4.out.now.kept hfx (fun _ _ h => h) (fun _ _ h => h)).np hp
          have i0 : (0 : Int) ≤ (j : Int) := by omega
          have i1 : (j : Int) < (ln : Int) := by omega
          have HP := hid hp
          have HRE := hid hre
          have HFX := hid hfx
          obtain ⟨wo, rfl⟩ : ∃ wo, wo = wr := ⟨_, rfl⟩
          clear hall hj hre hfx hp
          go_wp2_with fail
          go_loopw [9, 10] (fun nn kk wx => ∃ (m : Int) (x : Nat), nn = .int .i64 m ∧ kk = .int .i64 x ∧ Hid (x ≤ ln + 1 ∧ U.reach (U.pl z3) (ln + 1 - x) m = U.reach (U.pl z3) (ln + 1) p.1 ∧ Fr (fun _ => False) V4 wx))
            (fun _ kk _ => (ln + 2 - intOf kk).toNat)
          case atStart => exact ⟨p.1, 0, rfl, rfl, hid ⟨Nat.zero_le _, by rw [Nat.sub_zero], HFX.out⟩⟩
          case round =>
            obtain ⟨m, x, rfl, rfl, hall⟩ := hrel
            obtain ⟨hx, hr, hf⟩ := hall.out
            have HFI := hid hf
            by_cases h12 : m = 1 ∨ m = 2
            · have HREL := hid (show j + 1 ≤ ln ∧ (∀ m p, m < j + 1 → (U.pl z3)[m]? = some p → U.reach (U.pl z3) (z3.length + 1) p.1 = true) ∧ Fr (fun _ => False) V4 wr from ⟨by have := (List.getElem?_eq_some_iff.1 HP.out).1; rw [U.pl_len, HL3.out] at this; exact this, fun m2 p2 hm2 hp2 => by
                by_cases e : m2 = j
                · subst e
                  rw [HP.out] at hp2
                  cases hp2
                  rw [HL3.out, ← hr]
                  exact U.reach_top h12 _
                · exact HRE.out m2 p2 (by omega) hp2, hf⟩)
              clear hall hx hr hf
              rcases h12 with h1 | h2
              · subst h1
                go_wp2_with fail
                go_roundw
                case rel => exact ⟨j + 1, by first | go_num | rfl | trivial, HREL⟩
                case measure => simp [intOf]; omega
              · subst h2
                go_wp2_with fail
                go_roundw
                case rel => exact ⟨j + 1, by first | go_num | rfl | trivial, HREL⟩
                case measure => simp [intOf]; omega
            · have m1 : ¬ m = 1 := fun e => h12 (.inl e)
              have m2 : ¬ m = 2 := fun e => h12 (.inr e)
              have q1 : (m != 1) = true := by simp [m1]
              have q2 : (m != 2) = true := by simp [m2]
              have KF1 := hid (KF.out wr hf m)
              cases hg : A.get m (U.pl z3) with
              | none =>
                have HB := hid (U.not_ok HWF.out HZ3.out HP.out (by rw [HL3.out, ← hr]; exact U.reach_none h12 hg _))
                rw [hg] at KF1
                clear hall hx hr hf h12 hg
                go_wp2_with fail
                refine KF1.out.mono ?_
                rintro e w6 ⟨rfl, hf6⟩
                have F6 := hid (HFI.out.trans hf6 (fun _ _ h => h))
                clear hf6 KF1
                dsimp only [Option.isSome_none]
                go_wp2_with fail
                go_ret2
                exact ⟨F4.out.trans F6.out (fun _ _ h => h), .inl ⟨HB.out, rfl⟩⟩
              | some y =>
                rw [hg] at KF1
                have HG := hid hg
                have hlo := (List.getElem?_eq_some_iff.1 ((A.low_get HU3.out).1 hg)).1
                rw [U.pl_len, HL3.out] at hlo
                have HNP := hid (fun (W : World) (hW : Fr (fun _ => False) V4 W) => (D4.out.now.kept hW (fun _ _ h => h) (fun _ _ h => h)).np ((A.low_get HU3.out).1 hg))
                generalize A.low m (U.pl z3) = lo at *
                have j0 : (0 : Int) ≤ (lo : Int) := by omega
                have j1 : (lo : Int) < (ln : Int) := by omega
                by_cases hxl : ln < x
                · have HB := hid (U.not_ok HWF.out HZ3.out HP.out (by rw [HL3.out, ← hr, show ln + 1 - x = 0 by omega]; exact decide_eq_false h12))
                  have x1 : (ln : Int) < (x : Int) := by omega
                  clear hall hx hr hf h12 hg
                  go_wp2_with fail
                  refine KF1.out.mono ?_
                  rintro e w6 ⟨rfl, hf6⟩
                  have F6 := hid (HFI.out.trans hf6 (fun _ _ h => h))
                  have c6 := C0.out _ F6.out
                  clear hf6 KF1 HNP
                  dsimp only [Option.isSome_some]
                  go_wp2_with fail
                  go_ret2
                  exact ⟨F4.out.trans F6.out (fun _ _ h => h), .inl ⟨HB.out, rfl⟩⟩
                · have x1 : ¬ (ln : Int) < (x : Int) := by omega
                  have HQ := hid (show U.reach (U.pl z3) (ln + 1 - (x + 1)) y.par = U.reach (U.pl z3) (ln + 1) p.1 from by
                    rw [← hr, show ln + 1 - x = (ln + 1 - (x + 1)) + 1 by omega, U.reach_some h12 hg])
                  clear hall hx hr hf h12 hg
                  go_wp2_with fail
                  refine KF1.out.mono ?_
                  rintro e w6 ⟨rfl, hf6⟩
                  have F6 := hid (HFI.out.trans hf6 (fun _ _ h => h))
                  have c6 := C0.out _ F6.out
                  obtain ⟨g4, o4, e4, _, b4⟩ := HNP.out _ F6.out
                  cases e4
                  clear hf6 KF1 HNP
                  dsimp only [Option.isSome_some]
                  go_wp2_with fail
                  go_roundw
                  case rel => exact ⟨y.par, x + 1, by first | go_num | rfl | trivial, by first | go_num | rfl | trivial, hid ⟨by omega, HQ.out, F6.out⟩⟩
                  case measure => simp [intOf]; omega
        · have hjj : ¬ ((j : Int) < (ln : Int)) := by omega
          have HOK := hid (U.is_ok HWF.out HZ3.out HFO.out (fun m p hm hp => hre m p (by rw [HL3.out] at hm; omega) hp))
          have HFX := hid hfx
          clear hall hj hre hfx
          go_wp2_with fail
          go_ret2
          refine ⟨F4.out.trans HFX.out (fun _ _ h => h), .inr ⟨HOK.out, ?_⟩⟩
          exact ⟨r, rfl, _, a3, cp3, z3, D4.out.kept HFX.out (fun _ _ h => h), by rw [HZ3.out]; exact U.lay_eq HFO.out.all.1 HFO.out.all.2.2, C4.out⟩
end Go.Proofs.YtilbdpnioajkoaaGreat

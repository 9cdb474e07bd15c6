/-
  slices.SortedFunc over maps.Values: a node's attributes by their keys.
  slices.Sorted(maps.Keys(m)), at maps of numbers: the numbers, rising.
  A pointer against itself.
-/
import Derived.Test.YtilbdpnioajkoaaGreatMg5
import Derived.Test.YtilbdpnioajkoaaGreatMg6
import Derived.Test.YtilbdpnioajkoaaGreatMg20
import Derived.Test.YtilbdpnioajkoaaGreatMg1
import Derived.Test.YtilbdpnioajkoaaGreatMg4
namespace Go.Proofs.YtilbdpnioajkoaaGreat
open Go.RowKit Go.Maps Go.Sort Go.Shelf
set_option linter.unusedVariables false
set_option linter.unusedSimpArgs false
set_option maxRecDepth 100000

theorem T.cmp_lt : ∀ (a b : List UInt8), Lib.compareBytes a b < 0 ↔ a < b
  | [], [] => by simp [Lib.compareBytes]
  | [], b :: t => by simp [Lib.compareBytes]
  | a :: r, [] => by simp [Lib.compareBytes]
  | a :: r, b :: t => by
    rw [List.cons_lt_cons_iff]
    unfold Lib.compareBytes
    by_cases h1 : a < b
    · simp [h1]
    · by_cases h2 : b < a
      · rw [if_neg h1, if_pos h2]
        constructor
        · intro h; omega
        · rintro (h | ⟨rfl, h⟩)
          · exact absurd h h1
          · exact absurd h2 (UInt8.lt_irrefl _)
      · rw [if_neg h1, if_neg h2, T.cmp_lt r t]
        have e : a = b := UInt8.le_antisymm (UInt8.not_lt.1 h2) (UInt8.not_lt.1 h1)
        constructor
        · exact fun h => .inr ⟨e, h⟩
        · rintro (h | ⟨_, h⟩)
          · exact absurd h h1
          · exact h
def T.cfA {l : T.At} (x y : { q : T.Pr // q ∈ l }) : Int := Lib.compareBytes x.1.1.data.toList y.1.1.data.toList
theorem T.ltA {l : T.At} (x y : { q : T.Pr // q ∈ l }) : ltOf T.cfA x y = T.blt x.1.1 y.1.1 := by
  unfold ltOf T.cfA T.blt
  exact decide_eq_decide.2 (T.cmp_lt _ _)
theorem T.blt_ntrans {a b c : ByteArray} (h : T.blt a b = false) (k : T.blt b c = false) : T.blt a c = false := by
  by_cases e : T.blt a c = true
  · by_cases e1 : a = b
    · subst e1; exact k
    · have h1 := T.blt_total e1 (by rw [h]; simp)
      have h2 := T.blt_trans h1 e
      rw [k] at h2; cases h2
  · simpa using e
theorem T.swoA {l : T.At} [Inhabited { q : T.Pr // q ∈ l }] : SWO (ltOf (T.cfA (l := l))) where
  irrefl x := by rw [T.ltA]; exact T.blt_irrefl _
  trans x y z h1 h2 := by rw [T.ltA] at *; exact T.blt_trans h1 h2
  ntrans x y z h1 h2 := by rw [T.ltA] at *; exact T.blt_ntrans h1 h2
theorem T.ak_mem_ext {l m : T.At} (hl : T.Ak l) (hm : T.Ak m) (h : ∀ p, p ∈ l ↔ p ∈ m) : l = m := T.ak_ext hl hm (fun s => by
  cases h1 : T.aget s l with
  | some v => rw [← T.aget_of_mem hm ((h _).1 (T.aget_mem h1))]
  | none =>
    cases h2 : T.aget s m with
    | none => rfl
    | some v =>
      have := T.aget_of_mem hl ((h _).2 (T.aget_mem h2))
      simp only at this
      rw [h1] at this; cases this)
theorem T.totA {l : T.At} (hA : T.Ak l) (x y : { q : T.Pr // q ∈ l }) (h1 : ltOf T.cfA x y = false) (h2 : ltOf T.cfA y x = false) : x = y := by
  rw [T.ltA] at *
  have e : x.1.1 = y.1.1 := Classical.byContradiction fun ne => by
    have := T.blt_total ne (by rw [h1]; simp)
    rw [h2] at this; cases this
  have e1 := T.aget_of_mem hA x.2
  have e2 := T.aget_of_mem hA y.2
  rw [e, e2] at e1
  exact Subtype.ext (Prod.ext e (Option.some.inj e1).symm)
/-- sorted, a list of the attributes is the attributes -/
theorem T.sorted_ats {l : T.At} (hA : T.Ak l) {got : List { q : T.Pr // q ∈ l }} (hp : (got.map Subtype.val).Perm l) : (got.mergeSort (fun x y => !(ltOf T.cfA) y x)).map Subtype.val = l := by
  have h1 : ((got.mergeSort (fun x y => !(ltOf T.cfA) y x)).map Subtype.val).Perm l := ((List.mergeSort_perm _ _).map _).trans hp
  refine T.ak_mem_ext ?_ hA (fun p => h1.mem_iff)
  have h2 : (got.mergeSort (fun x y => !(ltOf T.cfA) y x)).Pairwise (fun x y => (!(ltOf T.cfA) y x) = true) := List.pairwise_mergeSort (fun a b c h k => by
    rw [T.ltA] at *
    simp only [Bool.not_eq_true'] at *
    exact T.blt_ntrans k h) (fun a b => by
    rw [T.ltA, T.ltA]
    cases e : T.blt b.1.1 a.1.1 with
    | false => rfl
    | true =>
      cases e2 : T.blt a.1.1 b.1.1 with
      | false => rfl
      | true => have := T.blt_trans e e2; rw [T.blt_irrefl] at this; cases this) _
  have h3 : (got.mergeSort (fun x y => !(ltOf T.cfA) y x)).Pairwise (fun x y => x.1.1 ≠ y.1.1) := by
    have h4 : l.Pairwise (fun x y => x.1 ≠ y.1) := List.Pairwise.imp (fun {a b} h e => by rw [e, T.blt_irrefl] at h; cases h) hA
    have h5 := (h1.pairwise_iff (R := fun x y : T.Pr => x.1 ≠ y.1) (fun h e => h e.symm)).2 h4
    rw [List.pairwise_map] at h5
    exact h5
  unfold T.Ak
  rw [List.pairwise_map]
  exact List.Pairwise.imp (fun {x y} h => by
    have h6 := h.1
    rw [T.ltA] at h6
    simp only [Bool.not_eq_true'] at h6
    exact T.blt_total (fun e => h.2 e.symm) (by rw [h6]; simp)) (h2.and h3)
theorem T.flatA_get : ∀ (xs : List T.Pr) (j : Nat), (T.flatA xs)[j]? = (xs[j / 2]?).bind (fun x => [Value.string x.1, .string x.2][j % 2]?)
  | [], j => by simp [T.flatA]
  | x :: r, 0 => rfl
  | x :: r, 1 => rfl
  | x :: r, j + 2 => by
    have e : T.flatA (x :: r) = Value.string x.1 :: Value.string x.2 :: T.flatA r := rfl
    rw [e, List.getElem?_cons_succ, List.getElem?_cons_succ, T.flatA_get r j, show (j + 2) / 2 = j / 2 + 1 by omega, show (j + 2) % 2 = j % 2 by omega, List.getElem?_cons_succ]
abbrev T.encL {l : T.At} (q : { q : T.Pr // q ∈ l }) : List Value := [.string q.1.1, .string q.1.2]
theorem T.flatK_get {l : T.At} [Inhabited { q : T.Pr // q ∈ l }] (d : Array { q : T.Pr // q ∈ l }) {j : Nat} (hj : j < d.size * 2) : (T.flatA (d.toList.map Subtype.val))[j]? = some ((flatK T.encL 2 d)[j]!) := by
  rw [get_flatK _ _ _ _ hj, T.flatA_get, List.getElem?_map]
  have h1 : j / 2 < d.size := by omega
  rw [show d.toList[j / 2]? = some d[j / 2] from by rw [Array.getElem?_toList]; exact Array.getElem?_eq_getElem h1]
  rw [getElem!_pos d (j / 2) h1]
  simp only [Option.map_some, Option.bind_some]
  have h2 : j % 2 = 0 ∨ j % 2 = 1 := by omega
  rcases h2 with h2 | h2 <;> rw [h2] <;> rfl
theorem sortWorldK_fr {α : Type} [Inhabited α] (enc : α → List Value) (k : Nat) (w : World) (blk off m : Nat) (dk : Array α) (os : Array Obj) : Fr (fun i => i = blk) w (sortWorldK enc k w blk off m dk os) := by
  refine ⟨rfl, rfl, rfl, ?_, fun i hi hn => ?_⟩
  · simp [sortWorldK, grow, putRowK, putRow, mapBlock, Sort.ahead]
  · have hk2 : i < (putRowK enc k (Sort.ahead w m) blk off dk).heap.size := by simpa [putRowK, putRow, mapBlock, Sort.ahead] using hi
    show ((putRowK enc k (Sort.ahead w m) blk off dk).heap ++ os)[i]? = w.heap[i]?
    rw [Array.getElem?_append_left hk2]
    simp only [putRowK, putRow, mapBlock, Sort.ahead]
    rw [Array.getElem?_modify, if_neg (fun e => hn e.symm)]
set_option maxHeartbeats 1600000 in
theorem tellCmp (a1 a2 b1 b2 : ByteArray) (W : World) : Calls Tryz.prog 75 #[.agg #[.string a1, .string a2], .agg #[.string b1, .string b2]] W fun e w' => e = .returned (.int .i64 (Lib.compareBytes a1.data.toList b1.data.toList)) ∧ ∃ q os', w' = grow (W.drewN q) os' := by
  have hcon := fun V => Any.strings_Compare Lcmps a1 b1 V
  change ∀ V, Calls Tryz.prog 76 _ _ _ at hcon
  generalize Lib.compareBytes a1.data.toList b1.data.toList = r at hcon ⊢
  have HC := hid hcon
  clear hcon
  go_enter Tryz.func75, Tryz.ntmps75
  go_wp2_with (go_at_call 76; refine (HC.out _).mono ?_; rintro e w' ⟨rfl, rfl⟩)
  go_ret
  exact ⟨rfl, 0, _, by rw [alloc_eq_grow, alloc_eq_grow, grow_grow]; rfl⟩
/-- a row of attributes may be written -/
def T.Wn (w : World) (a : Option Addr) (n : Nat) : Prop := ∀ g o, a = some ⟨g, o, none⟩ → ∀ j, j < n * 2 → w.frozen? ⟨g, o + j, none⟩ = false
theorem T.Wn.kept {S : Nat → Prop} {w w' : World} {a : Option Addr} {n : Nat} (h : T.Wn w a n) (hf : Fr S w w') (hS : 0 < n → ∀ g, blk a = some g → g < w.heap.size ∧ ¬ S g) : T.Wn w' a n := fun g o e j hj => by
  have h1 := h g o e j hj
  obtain ⟨h2, h3⟩ := hS (by omega) g (by rw [e]; rfl)
  unfold World.frozen? at h1 ⊢
  simp only at h1 ⊢
  rw [hf.block g h2 h3]
  exact h1
theorem T.Wn.of_ro {w : World} {e : TypeId} {k : Nat} {a : Option Addr} {n c m : Nat} {xs : List Value} (h : Ro w e k a n c xs) : T.Wn w a m := fun g o ea j hj => by
  subst ea
  exact h.frozen _
/-- where a row that is not empty lies -/
theorem T.rw_at {I : Nat → Prop} {w : World} {k : Nat} {a : Option Addr} {n : Nat} {xs : List Value} (h : Rw I w k a n xs) (hn : 0 < n) {g : Nat} (hg : blk a = some g) : I g := by
  rcases h.2 with h0 | ⟨g', o', ea, hI, _⟩
  · omega
  · rw [ea] at hg
    have hg : some g' = some g := hg
    rw [← Option.some.inj hg]
    exact hI
/-- sorting them -/
theorem sortA_any {w : World} {ats : T.At} (hA : T.Ak ats) {got : List T.Pr} (hp : got.Perm ats) (ra : Option Addr) (rc : Nat) (hrow : Ro w 65 2 ra got.length rc (T.flatA got)) (hln : got.length ≤ 5000000000000) :
    Calls Tryz.prog 101 #[.slice ra got.length rc, .func (.func 75) #[] #[]] w fun e w' => e = .returned (.tuple #[]) ∧ Rw (fun g => blk ra = some g) w' 2 ra ats.length (T.flatA ats) ∧ T.Wn w' ra ats.length ∧ Fr (fun k => blk ra = some k) w w' := by
  by_cases h0 : got = []
  · subst h0
    have hm : ats = [] := List.Perm.eq_nil hp.symm
    subst hm
    have hS := AnyF.slices_SortFunc_none (P := Tryz.prog) (ρ := Lsorta_ren) { Lsorta with } ra rc (.func (.func 75) #[] #[]) w
    change Calls Tryz.prog 101 _ _ _ at hS
    refine hS.mono ?_
    rintro e w' ⟨rfl, rfl⟩
    exact ⟨rfl, Rw.nil _ _ _ _, fun g o e j hj => by simp at hj, Fr.refl _ _⟩
  · obtain ⟨q0, hq0⟩ := List.exists_mem_of_ne_nil _ h0
    have hmem : ∀ q ∈ got, q ∈ ats := fun q hq => hp.mem_iff.1 hq
    haveI : Inhabited { q : T.Pr // q ∈ ats } := ⟨⟨q0, hmem q0 hq0⟩⟩
    obtain ⟨g, fo, rfl⟩ := hrow.some_of (List.length_pos_iff.2 h0)
    have eg : ∀ args w, (callFunc 75 args).run Tryz.prog w = .ok (.enter 75 args) w := enters_of Tryz.func75 (by kernel_rfl) rfl
    obtain ⟨d, hd⟩ : ∃ d, (got.attachWith (· ∈ ats) hmem).toArray = d := ⟨_, rfl⟩
    have hdv : d.toList.map Subtype.val = got := by
      rw [← hd]
      simp
      first | exact List.attach_map_val got | exact List.attach_map_subtype_val got | simp
    have hds : d.size = got.length := by rw [← hd]; simp
    have hH : HoldsK T.encL 2 w g fo d := fun j hj => by
      have hj : j < d.size * 2 := by simpa using hj
      have h1 := T.flatK_get d hj
      rw [hdv] at h1
      exact ⟨hrow.cell h1, hrow.frozen _⟩
    have hcmp : CmpLays Tryz.prog 75 #[] (T.encL (l := ats)) 2 T.cfA g fo d.size w := fun mm os dk hdk x y => tellCmp _ _ _ _ _
    have hS := AnyQ.slices_SortFunc_total Lsorta 2 Tryz.isAgg65 Tryz.sizeOf65 (T.encL (l := ats)) (fun _ => rfl) (fun x v hv => by simp at hv; rcases hv with rfl | rfl <;> rfl) T.cfA T.swoA 75 #[] g fo rc d w eg hcmp hH (hrow.lt g rfl) (by rw [hds]; omega) (T.totA hA)
    change Calls Tryz.prog 101 _ _ _ at hS
    rw [hds] at hS
    refine hS.mono ?_
    rintro e w' ⟨rfl, n, os, rfl⟩
    obtain ⟨D, hD⟩ : ∃ D, (d.toList.mergeSort fun x y => !(ltOf T.cfA) y x).toArray = D := ⟨_, rfl⟩
    have hDs : D.size = d.size := by rw [← hD]; simp
    have hval : D.toList.map Subtype.val = ats := by
      rw [← hD]
      exact T.sorted_ats hA (by rw [hdv]; exact hp)
    rw [hD]
    have hh := holdsK_sortWorldK_c T.encL 2 w g fo d D n os hH (hrow.lt g rfl) hDs
    refine ⟨rfl, ⟨T.flatA_len _, .inr ⟨g, fo, rfl, rfl, fun j u hu => ?_⟩⟩, fun g' o' e' j hj => ?_, (sortWorldK_fr _ _ _ _ _ _ _ _).mono (fun i _ e => by rw [e]; rfl)⟩
    rotate_left 1
    · cases e'
      have hj2 : j < D.size * 2 := by
        have := hp.length_eq
        omega
      exact (hh j (by simpa using hj2)).2
    have hj : j < D.size * 2 := by
      have h1 := (List.getElem?_eq_some_iff.1 hu).1
      rw [T.flatA_len, ← hp.length_eq] at h1
      omega
    have h1 := T.flatK_get D hj
    rw [hval, hu] at h1
    have h2 := (hh j (by simpa using hj)).1
    rw [h2]
    exact h1.symm
/-- a node's attributes, told -/
theorem sortedF_any {w : World} {B m : Nat} {mv : Option Nat} {ats : T.At} (hB : w.cell? ⟨B, 0, none⟩ = some (.map mv)) (hm : Mo 9 litS w mv (T.atG ats) m) (hA : T.Ak ats) (hb : m ≤ 5000000000000) (hbl : ats.length ≤ 5000000000000) :
    Calls Tryz.prog 73 #[.func (.func 102) #[] #[ptr B], .func (.func 75) #[] #[]] w fun e w' => ∃ a c, e = .returned (.slice a ats.length c) ∧ Rw (fun g => w.heap.size ≤ g ∧ g < w'.heap.size) w' 2 a ats.length (T.flatA ats) ∧ T.Wn w' a ats.length ∧ Fr (fun _ => False) w w' := by
  have KA := hid (attrColl_any hB hm hA hb)
  have KS := hid (fun (W : World) (got : List T.Pr) (hp : got.Perm ats) (ra : Option Addr) (rc : Nat) (hrow : Ro W 65 2 ra got.length rc (T.flatA got)) => sortA_any hA hp ra rc hrow (by rw [hp.length_eq]; exact hbl))
  clear hB hm hA hb hbl
  go_enter Tryz.func73, Tryz.ntmps73
  go_wp2_with fail
  refine KA.out.mono ?_
  rintro e w1 ⟨a, c, xs, rfl, h1, h2, h3, h4⟩
  have KS1 := hid (KS.out w1 xs h1 a c h2)
  have H1 := hid h1.length_eq
  have H2 := hid h2
  have H3 := hid h3
  have H4 := hid h4
  obtain ⟨n, hn⟩ : ∃ n, xs.length = n := ⟨_, rfl⟩
  rw [hn] at KS1 ⊢
  have HN := hid hn
  clear h1 h2 h3 h4 hn
  go_wp2_with (first | (go_at_call 101; refine KS1.out.mono ?_; rintro e w2 ⟨rfl, hrw, hwn, hf⟩; have RW := hid hrw; have WN := hid hwn; have F2 := hid hf; clear hrw hwn hf))
  go_ret
  have e : n = ats.length := by rw [← HN.out, H1.out]
  refine ⟨a, c, by rw [e]; rfl, RW.out.mono (fun g hg => ⟨Nat.le_of_lt (H3.out g hg), ?_⟩), WN.out, H4.out.trans F2.out (fun i hi e => by have := H3.out i e; omega)⟩
  have h5 := H2.out.lt g hg
  have h6 := F2.out.size
  omega
/-- a node in plain words, as TreeNode -/
abbrev T.tn (n : Int) (x : T.Nd) (a : Option Addr) (c : Nat) : Value := .agg #[.int .i64 n, .int .i64 x.par, .string x.nm, .slice a x.ats.length c]
set_option maxHeartbeats 1600000 in
theorem tell_any {c : Nat → Option T.Col} {w : World} {bud b : Nat} {n : Int} {x : T.Nd} {ks : ByteArray → List Int} (h : Nm c w bud b n x ks) (hA : T.Ak x.ats) (hb : x.ats.length ≤ 5000000000000) :
    Calls Tryz.prog 45 #[ptr b, .int .i64 n] w fun e w' => ∃ a cp, e = .returned (T.tn n x a cp) ∧ Rw (fun g => w.heap.size ≤ g ∧ g < w'.heap.size) w' 2 a x.ats.length (T.flatA x.ats) ∧ T.Wn w' a x.ats.length ∧ Fr (fun _ => False) w w' := by
  obtain ⟨av, uv, g, m, hN⟩ := h
  obtain ⟨W, hW⟩ : ∃ W, w.alloc (.cells #[.int .i64 0, .int .i64 0, .string ⟨#[]⟩, .slice none 0 0] 63) = W := ⟨_, rfl⟩
  have fW : Fr (fun _ => False) w W := by rw [← hW]; exact Fr.alloc (Fr.refl _ _) _
  have hz : W.heap.size = w.heap.size + 1 := by rw [← hW, alloc_size]
  have hbx : W.heap[w.heap.size]? = some (.cells #[.int .i64 0, .int .i64 0, .string ⟨#[]⟩, .slice none 0 0] 63 (0, 0)) := by rw [← hW]; exact Go.heap_alloc_new w _
  have fV : Fr (fun _ => False) W (W.alloc (.cells #[.map av] 77)) := Fr.alloc (Fr.refl _ _) _
  have hatt := hN.att.kept (fW.trans fV (fun _ _ h => h)) (fun _ _ h => h)
  have KV := hid (vals_fn av W)
  have KS := hid (sortedF_any (w := W.alloc (.cells #[.map av] 77)) (B := W.heap.size) (cellA (j := 0) (Go.heap_alloc_new W _) rfl) hatt hA hb hb)
  have c2 : W.cell? ⟨b, 2, none⟩ = some (.map av) := cellA (j := 2) (fW.cells hN.cells (fun h => h)) rfl
  have HR := hid (fW.cells hN.cells (fun h => h))
  have FW := hid fW
  have FV := hid fV
  have HZ := hid hz
  have HBX := hid hbx
  have HW := hid hW
  have HBN := hid (show b ≠ w.heap.size from fun e => by have := lt_of_row hN.cells; omega)
  clear hN fW fV hatt hA hb hW hz hbx
  go_enter Tryz.func45, Tryz.ntmps45
  go_upto_region 1 with fail
  rw [HW.out]
  go_wp2_with (first
    | (go_at_call 74; refine KV.out.mono ?_; rintro e w1 ⟨rfl, rfl⟩)
    | (go_at_call 73; refine KS.out.mono ?_; rintro e w2 ⟨a, cp, rfl, hrw, hwn, hf⟩; have WN := hid hwn; have F2 := hid (FV.out.trans hf (fun _ _ h => h)); have h2 := F2.out.cells HR.out (fun h => h); have d0 : w2.cell? ⟨b, 0, none⟩ = some (.int .i64 x.par) := cellA (j := 0) h2 rfl; have d1 : w2.cell? ⟨b, 1, none⟩ = some (.string x.nm) := cellA (j := 1) h2 rfl; have RW := hid (hrw.mono (J := fun g => w.heap.size + 2 ≤ g ∧ g < w2.heap.size) (fun g hg => ⟨by have := hg.1; rw [alloc_size] at this; have := HZ.out; omega, hg.2⟩)); clear hrw hwn hf h2; have HB2 := hid (F2.out.cells HBX.out (fun h => h)); have z0 := frozen_of_row (j := 0) HB2.out; have z1 := frozen_of_row (j := 1) HB2.out; have z2 := frozen_of_row (j := 2) HB2.out; have z3 := frozen_of_row (j := 3) HB2.out; have e0 : w2.cell? ⟨w.heap.size, 0, none⟩ = some (.int .i64 0) := cellA (j := 0) HB2.out rfl; have e1 : w2.cell? ⟨w.heap.size, 1, none⟩ = some (.int .i64 0) := cellA (j := 1) HB2.out rfl; have e2 : w2.cell? ⟨w.heap.size, 2, none⟩ = some (.string ⟨#[]⟩) := cellA (j := 2) HB2.out rfl; have e3 : w2.cell? ⟨w.heap.size, 3, none⟩ = some (.slice none 0 0) := cellA (j := 3) HB2.out rfl))
  have C0 := hid (show ∀ V, Fr (fun i => i = w.heap.size) w2 V → V.cell? ⟨b, 0, none⟩ = some (.int .i64 x.par) ∧ V.cell? ⟨b, 1, none⟩ = some (.string x.nm) from fun V hf => ⟨cellFr hf (fun e => HBN.out e) d0, cellFr hf (fun e => HBN.out e) d1⟩)
  clear d0 d1 z0 z1 z2 z3 e0 e1 e2 e3
  have hmx : Tryz.prog.follows .mixedOrders = true := by kernel_rfl
  refine wp_region_held (S := fun V => Fr (fun i => i = w.heap.size) w2 V) hmx ?_
  have hS := (Fr.drew (Fr.refl (fun i => i = w.heap.size) w2))
  simp only [List.size_toArray, List.length_cons, List.length_nil, Nat.reduceAdd, Array.replicate_succ, Array.replicate_zero, List.push_toArray, List.nil_append, List.cons_append]
  refine wpAnyH_take (i := 0) (v := ?_) rfl (by kernel_rfl) (by kernel_rfl) (by kernel_rfl) (fun _ _ _ h => h) (Or.inl ⟨by kernel_rfl, ?_⟩) hS ?_
  rotate_left 1
  · (intro w' hS'; clear hS'; go_simp; try with_reducible rfl)
  simp only [List.getElem_toArray, List.getElem_cons_zero, List.getElem_cons_succ, Act.put, List.setIfInBounds_toArray, List.set_cons_zero, List.set_cons_succ]
  refine wpAnyH_take (i := 1) (v := ?_) rfl (by kernel_rfl) (by kernel_rfl) (by kernel_rfl) (fun _ _ _ h => h) (Or.inl ⟨by kernel_rfl, ?_⟩) hS ?_
  rotate_left 1
  · (intro w' hS'; clear hS'; go_simp; try with_reducible rfl)
  simp only [List.getElem_toArray, List.getElem_cons_zero, List.getElem_cons_succ, Act.put, List.setIfInBounds_toArray, List.set_cons_zero, List.set_cons_succ]
  refine wpAnyH_take (i := 2) (v := ?_) rfl (by kernel_rfl) (by kernel_rfl) (by kernel_rfl) (fun _ _ _ h => h) (Or.inl ⟨by kernel_rfl, ?_⟩) hS ?_
  rotate_left 1
  · (intro w' hS'; clear hS'; go_simp; try with_reducible rfl)
  simp only [List.getElem_toArray, List.getElem_cons_zero, List.getElem_cons_succ, Act.put, List.setIfInBounds_toArray, List.set_cons_zero, List.set_cons_succ]
  refine wpAnyH_take (i := 3) (v := ?_) rfl (by kernel_rfl) (by kernel_rfl) (by kernel_rfl) (fun _ _ _ h => h) (Or.inl ⟨by kernel_rfl, ?_⟩) hS ?_
  rotate_left 1
  · (intro w' hS'; clear hS'; go_simp; try with_reducible rfl)
  simp only [List.getElem_toArray, List.getElem_cons_zero, List.getElem_cons_succ, Act.put, List.setIfInBounds_toArray, List.set_cons_zero, List.set_cons_succ]
  refine wpAnyH_take (i := 4) (v := ?_) rfl (by kernel_rfl) (by kernel_rfl) (by kernel_rfl) (fun _ _ _ h => h) (Or.inl ⟨by kernel_rfl, ?_⟩) hS ?_
  rotate_left 1
  · (intro w' hS'; clear hS'; go_simp; try with_reducible rfl)
  simp only [List.getElem_toArray, List.getElem_cons_zero, List.getElem_cons_succ, Act.put, List.setIfInBounds_toArray, List.set_cons_zero, List.set_cons_succ]
  refine wpAnyH_take (i := 5) (v := ?_) rfl (by kernel_rfl) (by kernel_rfl) (by kernel_rfl) (fun _ _ _ h => h) (Or.inl ⟨by kernel_rfl, ?_⟩) hS ?_
  rotate_left 1
  · (intro w' hS'; have h1 := (C0.out w' hS').1; clear hS'; go_simp; try with_reducible rfl)
  simp only [List.getElem_toArray, List.getElem_cons_zero, List.getElem_cons_succ, Act.put, List.setIfInBounds_toArray, List.set_cons_zero, List.set_cons_succ]
  refine wpAnyH_take (i := 6) (v := ?_) rfl (by kernel_rfl) (by kernel_rfl) (by kernel_rfl) (fun _ _ _ h => h) (Or.inl ⟨by kernel_rfl, ?_⟩) hS ?_
  rotate_left 1
  · (intro w' hS'; clear hS'; go_simp; try with_reducible rfl)
  simp only [List.getElem_toArray, List.getElem_cons_zero, List.getElem_cons_succ, Act.put, List.setIfInBounds_toArray, List.set_cons_zero, List.set_cons_succ]
  refine wpAnyH_take (i := 7) (v := ?_) rfl (by kernel_rfl) (by kernel_rfl) (by kernel_rfl) (fun _ _ _ h => h) (Or.inl ⟨by kernel_rfl, ?_⟩) hS ?_
  rotate_left 1
  · (intro w' hS'; clear hS'; go_simp; try with_reducible rfl)
  simp only [List.getElem_toArray, List.getElem_cons_zero, List.getElem_cons_succ, Act.put, List.setIfInBounds_toArray, List.set_cons_zero, List.set_cons_succ]
  refine wpAnyH_take (i := 8) (v := ?_) rfl (by kernel_rfl) (by kernel_rfl) (by kernel_rfl) (fun _ _ _ h => h) (Or.inl ⟨by kernel_rfl, ?_⟩) hS ?_
  rotate_left 1
  · (intro w' hS'; clear hS'; go_simp; try with_reducible rfl)
  simp only [List.getElem_toArray, List.getElem_cons_zero, List.getElem_cons_succ, Act.put, List.setIfInBounds_toArray, List.set_cons_zero, List.set_cons_succ]
  refine wpAnyH_take (i := 9) (v := ?_) rfl (by kernel_rfl) (by kernel_rfl) (by kernel_rfl) (fun _ _ _ h => h) (Or.inl ⟨by kernel_rfl, ?_⟩) hS ?_
  rotate_left 1
  · (intro w' hS'; clear hS'; go_simp; try with_reducible rfl)
  simp only [List.getElem_toArray, List.getElem_cons_zero, List.getElem_cons_succ, Act.put, List.setIfInBounds_toArray, List.set_cons_zero, List.set_cons_succ]
  refine wpAnyH_take (i := 10) (v := ?_) rfl (by kernel_rfl) (by kernel_rfl) (by kernel_rfl) (fun _ _ _ h => h) (Or.inl ⟨by kernel_rfl, ?_⟩) hS ?_
  rotate_left 1
  · (intro w' hS'; have h1 := (C0.out w' hS').2; clear hS'; go_simp; try with_reducible rfl)
  simp only [List.getElem_toArray, List.getElem_cons_zero, List.getElem_cons_succ, Act.put, List.setIfInBounds_toArray, List.set_cons_zero, List.set_cons_succ]
  refine wpAnyH_take (i := 11) (v := ?_) rfl (by kernel_rfl) (by kernel_rfl) (by kernel_rfl) (fun _ _ _ h => h) (Or.inl ⟨by kernel_rfl, ?_⟩) hS ?_
  rotate_left 1
  · (intro w' hS'; clear hS'; go_simp; try with_reducible rfl)
  simp only [List.getElem_toArray, List.getElem_cons_zero, List.getElem_cons_succ, Act.put, List.setIfInBounds_toArray, List.set_cons_zero, List.set_cons_succ]
  refine wpAnyH_take (i := 12) (v := ?_) rfl (by kernel_rfl) (by kernel_rfl) (by kernel_rfl) (fun _ _ _ h => h) (Or.inl ⟨by kernel_rfl, ?_⟩) hS ?_
  rotate_left 1
  · (intro w' hS'; clear hS'; go_simp; try with_reducible rfl)
  simp only [List.getElem_toArray, List.getElem_cons_zero, List.getElem_cons_succ, Act.put, List.setIfInBounds_toArray, List.set_cons_zero, List.set_cons_succ]
  refine wpAnyH_ready (rs := [13]) (by kernel_rfl) (by simp) ?_
  refine AllReadyH.cons rfl (fun K1 hK1 => ?_) (AllReadyH.nil)
  obtain ⟨w6, st, hb6, f6⟩ := box_whole (V := w2.drew) (b := w.heap.size) (ty := 63) (c := #[.int .i64 n, .int .i64 x.par, .string x.nm, .slice a x.ats.length cp]) HB2.out rfl (by kernel_rfl) (by simp [Value.oneCell'])
  refine tstep_store (by kernel_rfl) st (by exact ⟨_, _, rfl, rfl, rfl⟩) ?_
  have HB6 := hid hb6
  refine hK1.out _ _ (hS.trans f6 (fun _ _ h => h)) (fun hS => ?_)
  clear st hb6 f6
  clear hK1 K1
  simp only [List.getElem_toArray, List.getElem_cons_zero, List.getElem_cons_succ, Act.put, List.setIfInBounds_toArray, List.set_cons_zero, List.set_cons_succ]
  refine wpAnyH_done (by kernel_rfl) ?_ _
  have FS := hid hS
  clear hS
  have LR := hid (loadVar_whole HB6.out (ty := 63) Tryz.underlying63 rfl (by kernel_rfl))
  go_wp2_with fail
  refine bodyPost_ret (v := T.tn n x a cp) (results_cell1 Tryz.results45 _ _ _ _ _ (by rfl) LR.out) rfl ⟨a, cp, rfl, ?_, WN.out.kept FS.out (fun hn g hg => ?_), ?_⟩
  · exact (RW.out.kept FS.out (fun i hi e => by have := hi.1; omega)).mono (fun i hi => ⟨by have := hi.1; omega, Nat.lt_of_lt_of_le hi.2 FS.out.size⟩)
  · rcases RW.out.2 with h0 | ⟨g', o', ea, hI, _⟩
    · omega
    · rw [ea] at hg
      have hg : some g' = some g := hg
      obtain rfl := Option.some.inj hg
      have := hI.1
      exact ⟨hI.2, by omega⟩
  · exact (FW.out.trans F2.out (fun _ _ h => h)).trans FS.out (fun i hi e => by omega)
end Go.Proofs.YtilbdpnioajkoaaGreat

namespace Go.Proofs.YtilbdpnioajkoaaGreat
open Go.RowKit Go.Maps Go.Sort Go.Shelf
set_option linter.unusedVariables false
set_option linter.unusedSimpArgs false
set_option maxRecDepth 100000
theorem sortsI (m : Nat) : AnyZI.SortsIn Tryz.prog Lsortedi_ren Fence.wide m :=
  ⟨fun blk off cap ss W h1 h2 h3 => callsIn_wide.2 (AnyM.slices_Sort_int Lsorti blk off cap ss W h1 h2 h3), fun p cap W => callsIn_wide.2 (AnyM.slices_Sort_int_none Lsorti p cap W)⟩
theorem keysI_fn (mb : Option Nat) (W : World) : Calls Tryz.prog 44 #[.map mb] W fun e w' => e = .returned (.func (.func 72) #[] #[ptr W.heap.size]) ∧ w' = W.alloc (.cells #[.map mb] 81) :=
  callsIn_wide.1 (AnyZI.keys_in Lkeysi Fence.wide 5 trivial rfl mb W)
theorem T.sortI_eq {l ss : List Int} (hl : T.Rise l) (hp : ss.Perm l) : ss.mergeSort (fun x y => decide (x ≤ y)) = l := by
  have h1 : (ss.mergeSort (fun x y => decide (x ≤ y))).Perm l := (List.mergeSort_perm _ _).trans hp
  have h2 : (ss.mergeSort (fun x y => decide (x ≤ y))).Pairwise (fun x y => decide (x ≤ y) = true) := List.pairwise_mergeSort (fun a b c h k => by simp at *; omega) (fun a b => by simp; omega) _
  have h3 : l.Pairwise (fun x y : Int => x ≠ y) := List.Pairwise.imp (fun h => by omega) hl
  have h4 := (h1.pairwise_iff (R := fun x y : Int => x ≠ y) (fun h e => h e.symm)).2 h3
  refine T.rise_ext ?_ hl (fun p => h1.mem_iff)
  exact List.Pairwise.imp (fun {x y} h => by have h5 := h.1; simp at h5; have := h.2; omega) (h2.and h4)
set_option maxHeartbeats 1000000 in
theorem sortedI_fn {w : World} {b m : Nat} {g : Int → Option Value} (hm : Mp 2 litI w b g m) (hb : m ≤ 10000000000000) {l : List Int} (hl : T.Rise l) (hg : ∀ x, x ∈ l ↔ (g x).isSome = true) :
    Calls Tryz.prog 43 #[.func (.func 72) #[] #[ptr w.heap.size]] (w.alloc (.cells #[.map (some b)] 81)) fun e w' => ∃ a c, e = .returned (.slice a l.length c) ∧ Rw (fun i => w.heap.size ≤ i ∧ i < w'.heap.size) w' 1 a l.length (l.map (Value.int .i64)) ∧ Fr (fun _ => False) (w.alloc (.cells #[.map (some b)] 81)) w' := by
  obtain ⟨D, hown, hD1, hD2⟩ := hm
  have hbl := hown.lt
  have hnd : l.Nodup := List.Pairwise.imp (fun h => by omega) hl
  have hperm : l.Perm (intKeys D) := CollectedI.perm (left := fun _ => false) ⟨hnd, fun x => by
    have := has_orZ (hD2 x)
    have e : (litI x) = Lit.int .i64 x := rfl
    rw [← e, this, hg x]; simp⟩ hown keyI Tryz.underlying2 (fun _ => rfl)
  refine (callsIn_wide (n := 5)).1 ?_
  have hmx : Maps.size D ≤ maxLen := by unfold maxLen; omega
  have hseq : SeqGives Fence.wide 2 Tryz.prog 72 #[ptr w.heap.size] encZ (fun ss => ss.Perm (intKeys D)) (Maps.size D) (w.alloc (.cells #[.map (some b)] 81)) := by
    refine AnyZI.keys_gives (ρ := Lkeysi_ren) (R := asIs) { Lkeysi with } Fence.wide _ trivial rfl (by omega) w.heap.size b m D _ (by simp) (by simp) ?_
    obtain ⟨es, clock, hb, r⟩ := hown
    exact ⟨es, clock, (Below.heap_alloc _ _ b hbl).trans hb, r⟩
  have cS := AnyZI.sorted_in Lsortedi Fence.wide 5 trivial trivial trivial trivial rfl (by omega) (sortsI _) (enters_of Tryz.func71 (by kernel_rfl) rfl) 72 #[ptr w.heap.size] trivial (enters_of Tryz.func72 (by kernel_rfl) rfl) _ _ hmx (by omega) _ hseq
  change CallsIn _ _ Tryz.prog 43 _ _ _ at cS
  refine cS.mono ?_
  rintro e w' ⟨v, ss, rfl, hS, hrow, hnil, hB⟩
  have hsort := T.sortI_eq hl (hS.trans hperm.symm)
  have hlen : ss.length = l.length := by rw [← hsort, List.length_mergeSort]
  rw [hsort, hlen] at hrow
  have hf := Fr.of_below hB
  rcases hrow.2 with ⟨rfl, h0⟩ | ⟨g', cap, cur, rfl, hg', hcur, _, _, _, htk⟩
  · have h0' : l = [] := List.eq_nil_of_length_eq_zero h0
    subst h0'
    exact ⟨none, 0, rfl, Rw.nil _ _ _ _, hf⟩
  · refine ⟨_, cap, rfl, ⟨by simp, .inr ⟨g', 0, rfl, ⟨by rw [alloc_size] at hg'; omega, lt_of_row hcur⟩, fun j u hu => ?_⟩⟩, hf⟩
    rw [Nat.zero_add, cell_of_row w' g' j _ _ _ hcur]
    have h1 : (cur.toList.take (l.length * 1))[j]? = some u := by
      rw [htk]
      exact hu
    rw [List.getElem?_take] at h1
    split at h1
    · simpa using h1
    · cases h1
end Go.Proofs.YtilbdpnioajkoaaGreat

namespace Go.Proofs.YtilbdpnioajkoaaGreat
set_option linter.unusedVariables false
set_option linter.unusedSimpArgs false
open Go.RowKit
theorem equalIn_self {P : Program} {t e : TypeId} {k : Nat} (ht : P.underlying t = some (.pointer e)) (hs : ∀ w, (Go.sizeOf e).run P w = .ok k w) (hk : k ≠ 0) (d : Nat) (w : World) (a : Addr) : (Op.equalIn (d + 1) t (.pointer (some a)) (.pointer (some a))).run P w = .ok true w := by
  simp [Op.equalIn, run_underlying ht, hs, hk, sameAddr]
theorem neq_self {P : Program} {t e : TypeId} {k : Nat} (ht : P.underlying t = some (.pointer e)) (hs : ∀ w, (Go.sizeOf e).run P w = .ok k w) (hk : k ≠ 0) (w : World) (a : Addr) : (binOp .neq t (.pointer (some a)) (.pointer (some a))).run P w = .ok (.bool false) w := by
  have h2 : (Op.equal t (.pointer (some a)) (.pointer (some a))).run P w = .ok true w := equalIn_self ht hs hk 9999 w a
  simp only [binOp]
  simp [h2]
theorem ptr_self (w : World) (p : Nat) : (binOp .neq 24 (ptr p) (ptr p)).run Tryz.prog w = .ok (.bool false) w :=
  neq_self Tryz.underlying24 (k := 3) (fun w => by kernel_rfl) (by decide) w ⟨p, 0, none⟩
end Go.Proofs.YtilbdpnioajkoaaGreat

/-
  AcceptorOwn, of any ballot, slot and entry.
-/
import Derived.Test.YtedhmhlhjonloaaAScrib
import Derived.Test.YtedhmhlhjonloaaAUf3
import Derived.Test.YtedhmhlhjonloaaALaw
namespace Go.Proofs.Ytedhmhlhjonloaa
open Go.RowKit Go.Maps Go.Shelf
set_option linter.unusedVariables false
set_option linter.unusedSimpArgs false
attribute [local go_sem] Oper.semAt_some

/-- what both tell, from a slot on, where they have accepted the same -/
theorem told_two {I J : Nat → Prop} {w : World} {p mb q : Nat} {a a' : A.Ac} (h : At_ I w p mb a) (h' : Rg J w q a') (he : a.l = a'.l) (hl : a.l.length < 300000000000) (k : Int) :
    (Calls Try.prog 16 #[ptrV p, .int .i64 k] w fun e w1 => ∃ B, e = .returned (.func (.func 46) #[] #[ptrV B]) ∧ Fr (fun _ => False) w w1 ∧
      (Calls Try.prog 17 #[ptrV q, .int .i64 k] w1 fun e w2 => ∃ oa n oc, e = .returned (.slice oa n oc) ∧ Fr (fun _ => False) w1 w2 ∧
        ∀ stop w3, Fr (fun _ => False) w2 w3 → (Calls Try.prog 15 #[.func (.func 46) #[] #[ptrV B], .slice oa n oc, .int .i64 stop] w3 fun e w4 => e = .returned (.bool true) ∧ Fr (fun _ => False) w3 w4))) := by
  obtain ⟨hI, hp, hm, l, ham⟩ := h
  have hln : l.length = a.l.length := by rw [← ham.ls, A.length_mp]
  refine (acAll_any ham k (by omega) hm hI).mono ?_
  rintro e w1 ⟨B, ra, rc, rfl, hit, f1⟩
  refine ⟨B, rfl, f1, ?_⟩
  obtain ⟨hJ, hq, qa, qc, xs, hrf⟩ := h'.fr f1
  have hxl := hrf.len
  refine (rall_any hrf (by rw [hxl, ← he]; omega) k).mono ?_
  rintro e w2 ⟨oa, oc, ys, hys, rfl, hls, hcap, f2⟩
  refine ⟨oa, _, oc, rfl, f2, fun stop w3 f3 => ?_⟩
  have s1 := f1.size
  have s2 := f2.size
  have s3 := f3.size
  have f13 := f2.trans f3 (fun _ _ h => h)
  refine (told_any (hit.kc (Kc.of_fr (M := fun _ => False) f13) (fun _ _ h => h)) (fun i hi => ?_) ?_ (hls.fr f3) hcap stop).mono ?_
  · rcases hi with hi | hi
    · have := hI i hi; omega
    · omega
  · rw [List.length_map]
    have : (A.from_ k l).length ≤ l.length := List.length_filter_le _ _
    omega
  · rintro e w4 ⟨b, rfl, hb, f4⟩
    have : b = true := hb (by rw [ham.from_ls k, hys, hrf.from_sd k, he])
    rw [this]
    exact ⟨rfl, f4⟩
/-- what one acceptance leaves -/
theorem A.accept_new (b : A.Bl) (slot : Int) (en : A.En) : (A.accept A.new b slot en).2.l = [] ∨ ∃ s, (A.accept A.new b slot en).2.l = [(slot, s)] := by
  unfold A.accept
  split
  · exact .inl rfl
  · split
    · exact .inl rfl
    · exact .inr ⟨_, rfl⟩

/-- a block of cells -/
def IsC (w : World) (g : Nat) : Prop := ∃ cs e m, w.heap[g]? = some (.cells cs e m)
theorem RwU.cells {I : Nat → Prop} {w : World} {e : TypeId} {k : Nat} {a : Option Addr} {n : Nat} {xs : List Value} (h : RwU I w e k a n xs) : RwU (fun g => I g ∧ IsC w g) w e k a n xs :=
  Rw.mono h (fun i hi => ⟨⟨hi.1, by obtain ⟨cs, hc⟩ := hi.2; exact ⟨cs, e, _, hc⟩⟩, hi.2⟩)
theorem ReU.cells {I : Nat → Prop} {w : World} {cs : List Value} {e : A.En} (h : ReU I w cs e) : ReU (fun g => I g ∧ IsC w g) w cs e := by
  obtain ⟨h0, a1, c1, a2, c2, h1, h2, h3⟩ := h
  exact ⟨h0, a1, c1, a2, c2, h1, h2.cells, h3.cells⟩
/-- scribble turns cells alone -/
theorem scrib {I : Nat → Prop} {w : World} {ec : List Value} {e : A.En} (h : ReU I w ec e) (hI : ∀ g, I g → g < w.heap.size) : Calls Try.prog 30 #[.agg ec.toArray] w fun r w' => r = .returned (.tuple #[]) ∧ Fr (fun g => I g ∧ IsC w g) w w' :=
  scribble_any h.cells (fun g hg => hI g hg.1)
/-- BOTH ACCEPTORS, with the same accepted, below B, and the ballot's box. -/
structure St (w : World) (Bb p mb q : Nat) (b : A.Bl) (l : List (Int × A.Sd)) (B : Nat) (I J : Nat → Prop) (a a' : A.Ac) (W : World) : Prop where
  at_ : At_ I W p mb a
  rg : Rg J W q a'
  hl : a.l = l
  hl' : a'.l = l
  hi : ∀ k, I k → k < B
  hj : ∀ k, J k → k < B
  hp : p < B
  hmb : mb < B
  hq : q < B
  bb : W.heap[Bb]? = some (.cells #[.int .i64 b.1, .int .i64 b.2] 27 (0, 0))
  hb : Bb < B
  sz : B ≤ W.heap.size
  hw : w.heap.size ≤ B
  fr : Fr (fun _ => False) w W
  pq : p ≠ q
  pb : p ≠ Bb
  jp : ¬ J p
  wp : w.heap.size ≤ p
theorem St.kept {w : World} {Bb p mb q : Nat} {b : A.Bl} {l : List (Int × A.Sd)} {B : Nat} {I J : Nat → Prop} {a a' : A.Ac} {W W' : World} (h : St w Bb p mb q b l B I J a a' W) {S : Nat → Prop} (hf : Fr S W W') (hS : ∀ k, S k → B ≤ k) : St w Bb p mb q b l B I J a a' W' := by
  have hn : ∀ k, k < B → ¬ S k := fun k hk hs => by have := hS k hs; omega
  exact ⟨h.at_.kept hf (hn _ h.hp) (hn _ h.hmb) (fun k hk => hn k (h.hi k hk)), h.rg.kept hf (hn _ h.hq) (fun k hk => hn k (h.hj k hk)), h.hl, h.hl', h.hi, h.hj, h.hp, h.hmb, h.hq, hf.cells h.bb (hn _ h.hb), h.hb, Nat.le_trans h.sz hf.size, h.hw, h.fr.trans hf (fun i hi hs => by have := hS i hs; have := h.hw; omega), h.pq, h.pb, h.jp, h.wp⟩
/-- behind Prepare -/
theorem St.prepared {w : World} {Bb p mb q : Nat} {b : A.Bl} {l : List (Int × A.Sd)} {B : Nat} {I J : Nat → Prop} {a a' : A.Ac} {W W' : World} (h : St w Bb p mb q b l B I J a a' W) {a2 : A.Ac} (hat : At_ I W' p mb a2) (hl2 : a2.l = a.l) (hf : Fr (fun k => k = p) W W') : St w Bb p mb q b l B I J a2 a' W' :=
  ⟨hat, h.rg.kept hf (fun e => h.pq e.symm) (fun k hk e => h.jp (e ▸ hk)), hl2.trans h.hl, h.hl', h.hi, h.hj, h.hp, h.hmb, h.hq, hf.cells h.bb (fun e => h.pb e.symm), h.hb, Nat.le_trans h.sz hf.size, h.hw, h.fr.trans hf (fun i hi e => by have e : i = p := e; have := h.wp; omega), h.pq, h.pb, h.jp, h.wp⟩
theorem St.fr0 {w : World} {Bb p mb q : Nat} {b : A.Bl} {l : List (Int × A.Sd)} {B : Nat} {I J : Nat → Prop} {a a' : A.Ac} {W W' : World} (h : St w Bb p mb q b l B I J a a' W) (hf : Fr (fun _ => False) W W') : St w Bb p mb q b l B I J a a' W' := h.kept hf (fun _ h => h.elim)
/-- the range's invariant, and what is at hand in a round -/
def Io (N2 : Nat) (S : World → Prop) (pre : List El) (W : World) : Prop := S W ∧ N2 ≤ W.heap.size
def Iv (N2 : Nat) (S : World → Prop) (t : Array Value) (pre : List El) (x : El) (a1 : Act) (W : World) : Prop :=
  ∃ (v : Nat) (W0 : World), a1 = { tmps := (t.setIfInBounds 75 (.agg x.1)).setIfInBounds 16 (ptrV v), defers := [] } ∧ W.heap[v]? = some (.cells x.1 79 (0, 0)) ∧ S W ∧ RsU (fun g => W0.heap.size ≤ g ∧ g < W.heap.size) W x.1 x.2 ∧ N2 ≤ W0.heap.size ∧ W0.heap.size ≤ W.heap.size
set_option maxRecDepth 100000 in
set_option maxHeartbeats 16000000 in
theorem acceptorOwn_walk {w : World} (b1 b2 slot : Int) (hs0 : -9223372036854775808 ≤ slot) (hs1 : slot ≤ 9223372036854775807) {ec : List Value} {en : A.En} (he : Re (fun g => g < w.heap.size) w ec en) :
    Calls Try.prog 7 #[.agg #[.int .i64 b1, .int .i64 b2], .int .i64 slot, .agg ec.toArray] w fun e w' => e = .returned (.bool true) ∧ Below w.heap.size w w' := by
  refine (callsIn_wide (n := 9)).1 ?_
  refine callsIn_of_wp_marks Try.func7 rfl trivial ?_ rfl
  simp only [Try.ntmps7, List.size_toArray, List.length_cons, List.length_nil, Nat.reduceAdd, Nat.reduceSub, Array.replicate_succ, Array.replicate_zero, List.push_toArray, List.append_toArray, List.nil_append, List.cons_append]
  refine wpIn_wide.2 ?_
  obtain ⟨ea, hea⟩ : ∃ x, ec.toArray = x := ⟨_, rfl⟩
  have hl56 : ea.size = 56 := by rw [← hea, List.size_toArray]; exact he.len
  rw [hea]
  obtain ⟨W0, hW0⟩ : ∃ W, (w.alloc (.cells #[.int .i64 b1, .int .i64 b2] 27)).alloc (.cells ea 46) = W := ⟨_, rfl⟩
  have f0 : Fr (fun _ => False) w W0 := by rw [← hW0]; exact Fr.alloc (Fr.alloc (Fr.refl _ _) _) _
  have bb0 : W0.heap[w.heap.size]? = some (.cells #[.int .i64 b1, .int .i64 b2] 27 (0, 0)) := by rw [← hW0]; exact (Below.heap_alloc _ _ _ (by simp)).trans (Go.heap_alloc_new w _)
  have be0 : W0.heap[w.heap.size + 1]? = some (.cells ea 46 (0, 0)) := by
    have h1 := Go.heap_alloc_new (w.alloc (.cells #[.int .i64 b1, .int .i64 b2] 27)) (.cells ea 46)
    rw [World.size_alloc] at h1
    rw [← hW0]; exact h1
  have HW0 := hid hW0
  have F0 := hid f0
  have BB0 := hid bb0
  have BE0 := hid be0
  have HEA := hid hea
  have HE := hid he
  have H56 := hid hl56
  clear hea hl56 hW0 f0 bb0 be0 he
  go_wp2_with fail
  rw [HW0.out]
  obtain ⟨Bb, hBb⟩ : ∃ B, w.heap.size = B := ⟨_, rfl⟩
  rw [hBb] at BB0 BE0 ⊢
  have HBb := hid hBb
  clear hBb
  refine (acNew_any _).mono ?_
  rintro e w1 ⟨p, mb, rfl, hp, hm, hat, f1⟩
  have AT1 := hid hat
  have F1 := hid f1
  have HPM := hid (And.intro hp hm)
  clear hat f1 hp hm
  go_upto_region 4 with (first
    | (go_at_call 10; refine (live_any _).mono ?_; rintro e w2 ⟨rfl, f2⟩; have F2 := hid f2; clear f2))
  have f02 := (F0.out.trans F1.out (fun _ _ h => h)).trans F2.out (fun _ _ h => h)
  have f12 := F1.out.trans F2.out (fun _ _ h => h)
  have be2 := f12.cells BE0.out (fun h => h)
  have bb2 := f12.cells BB0.out (fun h => h)
  have re2 := HE.out.kept f02 (fun _ _ h => h)
  have at2 := AT1.out.fr F2.out
  have KC := rcloneU_any re2
  rw [HEA.out] at KC
  have HKC := hid KC
  have LD2 := hid (load_whole (ty := 46) be2 Try.underlying46 rfl (by rw [H56.out]; kernel_rfl))
  have BE2 := hid be2
  have BB2 := hid bb2
  have RE2 := hid re2
  have AT2 := hid at2
  have F02 := hid f02
  have HN2 := hid (show Bb + 1 < W0.heap.size ∧ W0.heap.size ≤ w2.heap.size from ⟨lt_of_row BE0.out, f12.size⟩)
  clear be2 bb2 re2 at2 f02 f12 KC
  go_wp2_with (first
    | (refine wpList_load_v LD2.out (by exact ⟨_, rfl, rfl⟩) (by kernel_rfl) ?_))
  refine HKC.out.mono ?_
  rintro e w3 ⟨ec', rfl, hu3, f3⟩
  obtain ⟨ma, hma⟩ : ∃ x, ec'.toArray = x := ⟨_, rfl⟩
  rw [hma]
  have hm56 : ma.size = 56 := by rw [← hma, List.size_toArray]; exact hu3.re.len
  have hmo : ma.all (·.oneCell') = true := by rw [← hma]; exact hu3.parts.2.2.1
  obtain ⟨V3, st3, bm3, fv3⟩ := box_whole (V := w3.alloc (.cells zE56 46)) (c := ma) (Go.heap_alloc_new w3 _) (by rw [hm56]; rfl) (by rw [hm56]; kernel_rfl) hmo
  have f3V : Fr (fun _ => False) w3 V3 := (Fr.alloc (Fr.refl (fun _ => False) w3) _).trans fv3 (fun i hi e => by omega)
  obtain ⟨W4, hW4⟩ : ∃ W, V3.alloc (.cells #[.int .i64 0, .int .i64 0, .int .i64 0, .slice none 0 0] 30) = W := ⟨_, rfl⟩
  have f4 : Fr (fun _ => False) V3 W4 := by rw [← hW4]; exact Fr.alloc (Fr.refl _ _) _
  have rg4 : Rg (fun _ => False) W4 V3.heap.size A.new := by rw [← hW4]; exact rg_new V3
  have f24 := (f3.trans f3V (fun _ _ h => h)).trans f4 (fun _ _ h => h)
  have bb4 := f24.cells BB2.out (fun h => h)
  have be4 := f24.cells BE2.out (fun h => h)
  have bm4 := f4.cells bm3 (fun h => h)
  have hs3 := f3.size
  have hl3 : w3.heap.size < V3.heap.size := lt_of_row bm3
  have hs4 : V3.heap.size < W4.heap.size := by rw [← hW4]; simp
  have hu4 := hu3.kept (f3V.trans f4 (fun _ _ h => h)) (fun _ _ h => h)
  have re4 := RE2.out.kept f24 (fun _ _ h => h)
  have at4 := AT2.out.fr f24
  have hpm := HPM.out
  have hs12 := HN2.out
  have hp2 := AT2.out.2.1
  have hm2 := AT2.out.2.2.1
  have KA := acAccept_any at4 b1 b2 slot (hu4.re.mono (fun i hi => hi)) (by simp [A.new]) (fun h => by have h : w2.heap.size ≤ p ∧ p < w3.heap.size := h; omega)
  rw [hma] at KA
  obtain ⟨R, hR⟩ : ∃ x, A.accept A.new (b1, b2) slot en = x := ⟨_, rfl⟩
  rw [hR] at KA
  have hRl := A.accept_new (b1, b2) slot en
  rw [hR] at hRl
  have HKA := hid KA
  have HR := hid hR
  have HRL := hid hRl
  have ST3 := hid st3
  have HW4 := hid hW4
  have LM4 := hid (load_whole (ty := 46) bm4 Try.underlying46 rfl (by rw [hm56]; kernel_rfl))
  have cb0 : W4.cell? ⟨Bb, 0, none⟩ = some (.int .i64 b1) := cellA bb4 rfl
  have cb1 : W4.cell? ⟨Bb, 1, none⟩ = some (.int .i64 b2) := cellA bb4 rfl
  have HX4 := hid (show True ∧ Fr (fun _ => False) w2 W4 from ⟨trivial, f24⟩)
  have BE4 := hid be4
  have BB4 := hid bb4
  have BM4 := hid bm4
  have HU4 := hid hu4
  have RE4 := hid re4
  have AT4 := hid at4
  have RG4 := hid rg4
  have HSZ := hid (show w2.heap.size ≤ w3.heap.size ∧ w3.heap.size < V3.heap.size ∧ V3.heap.size < W4.heap.size from ⟨hs3, hl3, hs4⟩)
  have HP2 := hid (And.intro hp2 hm2)
  have HM56 := hid hm56
  have HMA := hid hma
  clear hm56 hmo st3 bm3 fv3 f3V hW4 f4 rg4 f24 bb4 be4 bm4 hs3 hl3 hs4 hu4 re4 at4 hpm hs12 hp2 hm2 KA hR hRl hu3 f3 hma HKC
  obtain ⟨Mb, hMb⟩ : ∃ M, w3.heap.size = M := ⟨_, rfl⟩
  rw [hMb] at HSZ BM4 LM4 ST3
  go_upto_region 6 with (first
    | (refine wpList_store_v (by exact ST3.out) (by exact ⟨_, _, rfl, rfl, rfl⟩) (by kernel_rfl) ?_))
  rw [HW4.out]
  obtain ⟨q, hq⟩ : ∃ q, V3.heap.size = q := ⟨_, rfl⟩
  rw [hq] at HSZ RG4 ⊢
  have HMB := hid (And.intro hMb hq)
  clear hMb hq ST3 HW4
  go_wp2_with (first
    | (refine wpList_load_v LM4.out (by exact ⟨_, rfl, rfl⟩) (by kernel_rfl) ?_))
  refine HKA.out.mono ?_
  rintro r w5 ⟨rfl, hat5, f5⟩
  have hsz := HSZ.out
  have hpm := HPM.out
  have hp2 := HP2.out
  have hn2 := HN2.out
  have hne : ∀ k, k ≠ p → k ≠ mb → ¬ (k = p ∨ k = mb) := fun k h1 h2 h => h.elim h1 h2
  have bb5 := f5.cells BB4.out (hne _ (by omega) (by omega))
  have be5 := f5.cells BE4.out (hne _ (by omega) (by omega))
  have bm5 := f5.cells BM4.out (hne _ (by omega) (by omega))
  have hu5 := HU4.out.kept f5 (fun i hi => hne _ (by omega) (by omega))
  have re5 := RE4.out.kept f5 (fun i hi => by have hi : i < w.heap.size := hi; have h2 := HBb.out; exact hne _ (by omega) (by omega))
  have rg5 := RG4.out.kept f5 (hne _ (by omega) (by omega)) (fun k h => h.elim)
  have KR := raccept_any rg5 b1 b2 slot re5 (by simp [A.new]) (by have h2 := HBb.out; omega)
  rw [HEA.out, HR.out] at KR
  have HKR := hid KR
  have LE5 := hid (load_whole (ty := 46) be5 Try.underlying46 rfl (by rw [H56.out]; kernel_rfl))
  have cb0 : w5.cell? ⟨Bb, 0, none⟩ = some (.int .i64 b1) := cellA bb5 rfl
  have cb1 : w5.cell? ⟨Bb, 1, none⟩ = some (.int .i64 b2) := cellA bb5 rfl
  have BB5 := hid bb5
  have BM5 := hid bm5
  have HU5 := hid hu5
  have AT5 := hid hat5
  have F5 := hid f5
  have HS5 := hid f5.size
  clear hsz hpm hp2 hn2 hne bb5 be5 bm5 hu5 re5 rg5 KR hat5 f5 HKA
  obtain ⟨r1, hr1⟩ : ∃ x, R.1 = x := ⟨_, rfl⟩
  rw [hr1] at HKR ⊢
  have hrr : (r1 != r1) = false := by simp
  go_upto_region 9 with (first
    | (refine wpList_load_v LE5.out (by exact ⟨_, rfl, rfl⟩) (by kernel_rfl) ?_)
    | (go_at_call 29; refine HKR.out.mono ?_; rintro r w6 ⟨rfl, hrg6, f6⟩; have RG6 := hid hrg6; have F6 := hid f6; clear hrg6 f6))
  have hsz := HSZ.out
  have hpm := HPM.out
  have hp2 := HP2.out
  have hn2 := HN2.out
  have hmb := HMB.out
  have hw := HBb.out
  have hs5 := HS5.out
  have bm6 := F6.out.cells BM5.out (by omega)
  have hu6 := HU5.out.kept F6.out (fun i hi e => by have e : i = q := e; omega)
  have at6 := AT5.out.kept F6.out (by omega) (by omega) (fun k hk e => by
    have e : k = q := e
    rcases hk with hk | hk
    · exact hk
    · omega)
  have bb6 := F6.out.cells BB5.out (by omega)
  have hs6 := F6.out.size
  have KS := scrib hu6 (fun g hg => by omega)
  rw [HMA.out] at KS
  have HKS := hid KS
  have LM6 := hid (load_whole (ty := 46) bm6 Try.underlying46 rfl (by rw [HM56.out]; kernel_rfl))
  have fr6 : Fr (fun _ => False) w w6 := by
    refine ((F02.out.trans HX4.out.2 (fun _ _ h => h)).trans F5.out (fun i hi e => ?_)).trans F6.out (fun i hi e => ?_)
    · rcases e with e | e <;> omega
    · have e : i = q := e; omega
  have AT6 := hid at6
  have BB6 := hid bb6
  have FR6 := hid fr6
  have HS6 := hid hs6
  clear hsz hpm hp2 hn2 hmb hw hs5 bm6 hu6 at6 bb6 hs6 KS fr6
  go_wp2_with (first
    | (refine wpList_load_v LM6.out (by exact ⟨_, rfl, rfl⟩) (by kernel_rfl) ?_))
  refine HKS.out.mono ?_
  rintro r w7 ⟨rfl, f7⟩
  have st7 : St w Bb p mb q (b1, b2) R.2.l w7.heap.size (Nw (fun _ => False) W4 w5) (Nw (fun _ => False) w5 w6) R.2 R.2 w7 := by
    have hsz := HSZ.out
    have hpm := HPM.out
    have hp2 := HP2.out
    have hn2 := HN2.out
    have hmb := HMB.out
    have hw := HBb.out
    have hs5 := HS5.out
    have hs6 := HS6.out
    have hs7 := f7.size
    have hS : ∀ k, ¬ (w2.heap.size ≤ k ∧ k < w3.heap.size) → ¬ ((w2.heap.size ≤ k ∧ k < w3.heap.size) ∧ IsC w6 k) := fun k h h' => h h'.1
    refine ⟨AT6.out.kept f7 (hS _ (by omega)) (hS _ (by omega)) (fun k hk => hS _ (by
      rcases hk with hk | hk
      · exact hk.elim
      · omega)), RG6.out.kept f7 (hS _ (by omega)) (fun k hk => hS _ (by
      rcases hk with hk | hk
      · exact hk.elim
      · omega)), rfl, rfl, fun k hk => ?_, fun k hk => ?_, by omega, by omega, by omega, f7.cells BB6.out (hS _ (by omega)), by omega, Nat.le_refl _, by omega, FR6.out.trans f7 (fun i hi e => by have := e.1; omega), by omega, by omega, fun hk => ?_, by omega⟩
    · rcases hk with hk | hk
      · exact hk.elim
      · omega
    · rcases hk with hk | hk
      · exact hk.elim
      · omega
    · rcases hk with hk | hk
      · exact hk
      · omega
  have HST := hid st7
  have hll : R.2.l.length ≤ 1 := by rcases HRL.out with h | ⟨s, h⟩ <;> simp [h]
  obtain ⟨N, hN⟩ : ∃ N, w7.heap.size = N := ⟨_, rfl⟩
  have KP := acPrepareU_any st7.at_ b1 b2 0 (by omega)
  have hpl := A.prepare_l R.2 (b1, b2) 0
  have hpn := A.prepare_len R.2 (b1, b2) 0
  obtain ⟨P, hP⟩ : ∃ x, A.prepare R.2 (b1, b2) 0 = x := ⟨_, rfl⟩
  rw [hP] at KP hpl hpn
  have cb0 : w7.cell? ⟨Bb, 0, none⟩ = some (.int .i64 b1) := cellA st7.bb rfl
  have cb1 : w7.cell? ⟨Bb, 1, none⟩ = some (.int .i64 b2) := cellA st7.bb rfl
  rw [hN] at HST
  have HKP := hid KP
  have HPL := hid (And.intro hpl (show P.2.1.length ≤ 1 by omega))
  have HNE := hid hN
  obtain ⟨p1, hp1⟩ : ∃ x, P.1 = x := ⟨_, rfl⟩
  rw [hp1] at HKP
  have HLL := hid hll
  clear st7 f7 KP hpl hpn hP hN hp1 hll HKS LM6 HU4 HU5 BM4 BM5 LM4 HKR RE4 RE2 RG4 AT4 AT5 BE4 BE2 BB4 BB2 BB5 BB6 AT6 RG6 F5 F6 AT2 AT1 F1 F2 F02 HX4 HE H56 BB0 BE0 F0 HW0 LE5 LD2 HEA HM56 HMA HS5 HS6 HP2 HPM HN2 HMB HSZ FR6 HR
  go_wp2_with (first | (go_at_call 25; refine HKP.out.mono ?_; rintro r w8 ⟨ga, gc, ys, rfl, hys, hsx, hat, f8⟩; have HYS := hid hys; have HSX := hid hsx; have HST8 := hid (HST.out.prepared hat HPL.out.1 f8); have HYL := hid (show ys.length ≤ 1 by have h1 := congrArg List.length hys; rw [List.length_map] at h1; have h2 := HPL.out.2; omega); have HF8 := hid f8.size; clear hat f8 hsx hys))
  obtain ⟨n8, hn8⟩ : ∃ n, ys.length = n := ⟨_, rfl⟩
  rw [hn8] at HYL ⊢
  have HN8 := hid hn8
  have hn1 : n8 ≤ 1 := HYL.out
  rw [HNE.out] at HSX
  clear hn8
  go_loopw [50] (fun i wr => ∃ (k : Nat), k ≤ n8 ∧ i = .int .i64 k ∧ Hid ((k = 0 → wr = w8) ∧ St w Bb p mb q (b1, b2) R.2.l N (Nw (fun _ => False) W4 w5) (Nw (fun _ => False) w5 w6) P.2.2 R.2 wr)) (fun i _ => n8 - (intOf i).toNat)
  case atStart => exact ⟨0, Nat.zero_le _, rfl, hid ⟨fun _ => rfl, HST8.out⟩⟩
  case round =>
    obtain ⟨k, hk, rfl, hall⟩ := hrel
    by_cases hlt : k < n8
    · obtain rfl : k = 0 := by omega
      obtain rfl : n8 = 1 := by omega
      have hw8 := hall.out.1 rfl
      subst hw8
      obtain ⟨y, hy⟩ : ∃ y, ys = [y] := by
        have h := HN8.out
        match ys, h with
        | [y], _ => exact ⟨y, rfl⟩
      subst hy
      have hro := HSX.out.row
      obtain ⟨g, o, hga⟩ := hro.some_of (by simp)
      subst hga
      obtain ⟨ecy, hy1, hey⟩ := HSX.out.el y (by simp)
      have hcell : ∀ j u, (Value.int .i64 y.2.slot :: Value.int .i64 y.2.bl.1 :: Value.int .i64 y.2.bl.2 :: ecy)[j]? = some u → wr.cell? ⟨g, o + j, none⟩ = some u := fun j u hu => hro.cell (by rw [flatE_one, hy1]; simpa using hu)
      have hl56 := hey.re.len
      have ldy : (Instr.loadAt 46 (.pointer (some ⟨g, o + 3, none⟩))).run Try.prog wr = .ok (.agg ecy.toArray) wr := by
        have := run_loadAt_mid (P := Try.prog) wr g (o + 3) 46 ecy _ (fun j v hv => by
          rw [Nat.add_assoc, Nat.add_comm 3 j]
          exact hcell (j + 3) v (by simpa using hv)) Try.underlying46 rfl (by rw [hl56]; kernel_rfl)
        simpa using this
      have KS := scrib hey (fun g' hg' => hg'.2.1)
      obtain ⟨ya, hya⟩ : ∃ x, ecy.toArray = x := ⟨_, rfl⟩
      rw [hya] at ldy KS
      have LDY := hid ldy
      have HKS := hid KS
      have HRO := hid hro
      have HGN := hid (HSX.out.new g rfl)
      clear hro hy1 hey hcell hl56 ldy KS hya hk hlt
      go_upto_region 15 with (first
        | (refine wpList_load_v LDY.out (by exact ⟨_, rfl, rfl⟩) (by kernel_rfl) ?_)
        | (go_at_call 30; refine HKS.out.mono ?_; rintro r w9 ⟨rfl, f9⟩; have F9 := hid f9; clear f9))
      have ro9 := HRO.out.kept F9.out (fun j hj h => h.1.2.2 hj)
      have z9 := ro9.frozen o
      have c9 : ∃ u, w9.cell? ⟨g, o, none⟩ = some u := by
        have h1 := HSX.out.el y (by simp)
        have h2 := h1.size
        have := ro9.cell (j := 0) (u := y.1[0]'(by omega)) (by rw [flatE_one]; simp)
        exact ⟨_, by simpa using this⟩
      obtain ⟨u9, c9⟩ := c9
      have fin : St w Bb p mb q (b1, b2) R.2.l N (Nw (fun _ => False) W4 w5) (Nw (fun _ => False) w5 w6) P.2.2 R.2 (w9.setCell ⟨g, o, none⟩ (.int .i64 (-9))) := by
        refine (hall.out.2.kept F9.out (fun k hk => hk.1.1)).kept (S := fun k => k = g) (Fr.setCell (p := ⟨g, o, none⟩) (S := fun k => k = g) (Fr.refl _ _) (fun _ => rfl) _) (fun k hk => ?_)
        have hk : k = g := hk
        rw [hk]
        exact HGN.out
      have FIN := hid fin
      clear ro9 fin LDY HKS
      go_wp2_with fail
      go_roundw
      case rel => exact ⟨1, by omega, by go_num, hid ⟨fun h => by omega, FIN.out⟩⟩
      case measure => simp [intOf]
    · obtain rfl : n8 = k := by omega
      have HST9 := hid hall.out.2
      clear hall hlt hk
      have KT := acAtU_any HST9.out.at_ slot hs0 hs1
      obtain ⟨S9, hS9⟩ : ∃ x, (A.get slot P.2.2.l).getD A.zsd = x := ⟨_, rfl⟩
      obtain ⟨o9, ho9⟩ : ∃ x, (A.get slot P.2.2.l).isSome = x := ⟨_, rfl⟩
      rw [hS9, ho9] at KT
      have HKT := hid KT
      clear KT hS9 ho9
      go_upto_region 18 with (first
        | (go_at_call 31; refine HKT.out.mono ?_; rintro r w10 ⟨c10, rfl, hr10, f10⟩; obtain ⟨V10, st10, hb10, fv10⟩ := box_whole (V := w10.alloc (.cells zS59 79)) (c := c10) (Go.heap_alloc_new w10 _) (by rw [hr10.size]; rfl) (by rw [hr10.size]; kernel_rfl) hr10.one; have ST10 := hid st10; have HB10 := hid (And.intro hb10 fv10); have HR10 := hid hr10; have F10 := hid f10; clear st10 hb10 fv10 hr10 f10)
        | (refine wpList_store_v (by exact ST10.out) (by exact ⟨_, _, rfl, rfl, rfl⟩) (by kernel_rfl) ?_))
      have hb10 := HB10.out.1
      have f1010 : Fr (fun _ => False) w10 V10 := (Fr.alloc (Fr.refl (fun _ => False) w10) _).trans HB10.out.2 (fun i hi e => by omega)
      have hr10 := HR10.out.kept f1010 (fun _ _ h => h)
      have st10 := HST9.out.fr0 (F10.out.trans f1010 (fun _ _ h => h))
      obtain ⟨e10, hc10, hue⟩ := hr10
      have hl56 := hue.re.len
      have ld10 : (Instr.loadAt 46 (.pointer (some ⟨w10.heap.size, 3, none⟩))).run Try.prog V10 = .ok (.agg e10.toArray) V10 := by
        have := run_loadAt_mid (P := Try.prog) V10 w10.heap.size 3 46 e10 _ (rangeAt_of hb10 3 e10 (by rw [hc10]; simp)) Try.underlying46 rfl (by rw [hl56]; kernel_rfl)
        simpa using this
      have KS := scrib hue (fun g hg => by have := f1010.size; omega)
      obtain ⟨xa, hxa⟩ : ∃ x, e10.toArray = x := ⟨_, rfl⟩
      rw [hxa] at ld10 KS
      have LD10 := hid ld10
      have HKS := hid KS
      have HST10 := hid st10
      have HSZ9 := hid (show N ≤ wr.heap.size from HST9.out.sz)
      clear hb10 f1010 st10 hc10 hue hl56 ld10 KS hxa ST10 HB10 HR10 F10 HKT
      go_upto_region 19 with (first
        | (refine wpList_load_v LD10.out (by exact ⟨_, rfl, rfl⟩) (by kernel_rfl) ?_)
        | (go_at_call 30; refine HKS.out.mono ?_; rintro r w11 ⟨rfl, f11⟩; have HST11 := hid (HST10.out.kept f11 (fun k hk => by have h1 := hk.1.1; have h2 := HSZ9.out; omega)); clear f11))
      obtain ⟨hI11, hp11, hm11, l11, ham11⟩ := HST11.out.at_
      have hln : l11.length ≤ 1 := by
        have h1 : l11.length = P.2.2.l.length := by rw [← ham11.ls, A.length_mp]
        have h2 := HPL.out.1
        have h3 := HLL.out
        rw [h2] at h1
        omega
      have KALL := acAll_any ham11 0 (by omega) hm11 hI11
      have HLN := hid hln
      have HKALL := hid KALL
      have HI11 := hid hI11
      clear KALL hI11 hp11 hm11 ham11 hln LD10 HKS HST10 HSZ9 HST9
      go_wp2_with (first
        | (go_at_call 16; refine HKALL.out.mono ?_; rintro r w12 ⟨B, ra, rc, rfl, hit, f12⟩; have HIT := hid hit; have HST12 := hid (HST11.out.fr0 f12); have F12 := hid f12; clear hit f12))
      obtain ⟨gs, hgs⟩ : ∃ x, (A.from_ 0 l11).map (·.2) = x := ⟨_, rfl⟩
      have hgl : gs.length ≤ 1 := by
        rw [← hgs, List.length_map]
        have h1 : (A.from_ 0 l11).length ≤ l11.length := List.length_filter_le _ _
        have h2 := HLN.out
        omega
      rw [hgs] at HIT
      have hKlt : ∀ k, Nw (Nw (fun _ => False) W4 w5) w11 w12 k → k < w12.heap.size := fun k hk => by
        rcases hk with hk | hk
        · have h1 := HI11.out k hk; have h2 := F12.out.size; omega
        · exact hk.2
      have HSQ := hid (all1U_seq 8 (by omega) B rc ra gs _ (fun k => ¬ Nw (Nw (fun _ => False) W4 w5) w11 w12 k) w12 HIT.out (fun k h n => n h) (by omega))
      have HKL := hid hKlt
      clear hKlt hgs hgl
      refine (wpIn_wide (n := 9)).1 ?_
      refine wp_of_actC (fun a0 ha0 => ?_)
      refine wpIn_rangeV (w := w12) rfl (by omega) (gf := 46) (lb := #[ptrV B]) (by rw [ha0]; rfl) trivial (enters_of Try.func46 (by kernel_rfl) rfl)
        HSQ.out (Below.refl _ _) (fun _ => rfl) (fun h k => h.trans k) (fun W l o o' hl hW hc _ => Kz.putObj o' hW hc)
        (Io w12.heap.size (St w Bb p mb q (b1, b2) R.2.l N (Nw (fun _ => False) W4 w5) (Nw (fun _ => False) w5 w6) P.2.2 R.2)) (fun _ _ _ => False) (Iv w12.heap.size (St w Bb p mb q (b1, b2) R.2.l N (Nw (fun _ => False) W4 w5) (Nw (fun _ => False) w5 w6) P.2.2 R.2) a0.tmps)
        (fun pre W W' row h hg hr => ⟨h.1.kept (Fr.of_grown hg) (fun k hk => by have h1 := (hr k hk).1; have h2 := HST12.out.sz; omega), Nat.le_trans h.2 hg.size⟩) (fun c s W W' row h _ _ => h.elim) ⟨HST12.out, Nat.le_refl _⟩
        (fun pre x a1 W l o o' hl hW hc _ h => ?hib) ?assign ?body ?done ?stop
      case hib =>
        obtain ⟨v, W0', h1, h2, h3, h4, h5, h7⟩ := h
        have hk : Kz (fun _ => False) W (W.putObj l o') := Kz.putObj o' hW hc
        exact ⟨v, W0', h1, (hk.1 _ _ _ _ h2 (fun h => h)).trans h2, h3.kept (Fr.of_grown (grownBy_putObj' W l o')) (fun k hk' => by simp at hk'; have h6 := HST12.out.sz; omega), (h4.kc hk.1 (fun _ _ h => h)).mono (fun i hi => ⟨hi.1, Nat.lt_of_lt_of_le hi.2 hk.2⟩), h5, Nat.le_trans h7 hk.2⟩
      case assign =>
        subst ha0
        rintro l pre x W0' W Kn ⟨hst, hn2⟩ hfW ⟨hv1, hv2⟩ hK
        have hz := hv2.size
        obtain ⟨V, st, hbV, fV⟩ := box_whole (V := W.alloc (.cells zS59 79)) (Go.heap_alloc_new W _) (by rw [hz]; rfl) (by rw [hz]; kernel_rfl) hv2.one
        have fW : Fr (fun _ => False) W V := (Fr.alloc (Fr.refl (fun _ => False) W) _).trans fV (fun i hi e => by omega)
        have hsV := fW.size
        have fin : KeepsFrom w12.heap.size W V ∧ Kz (fun k => ¬ Nw (Nw (fun _ => False) W4 w5) w11 w12 k) W V ∧ ∀ t, Iv w12.heap.size (St w Bb p mb q (b1, b2) R.2.l N (Nw (fun _ => False) W4 w5) (Nw (fun _ => False) w5 w6) P.2.2 R.2) t pre x { tmps := (t.setIfInBounds 75 (.agg x.1)).setIfInBounds 16 (ptrV W.heap.size), defers := [] } V :=
          ⟨⟨hsV, fun k o _ hk _ => fW.cells hk (fun h => h)⟩, Kz.of_fr fW, fun t => ⟨W.heap.size, W0', rfl, hbV, (hst.fr0 hfW).fr0 fW, (hv2.kept fW (fun _ _ h => h)).mono (fun i hi => ⟨hi.1, by omega⟩), hn2, Nat.le_trans hfW.size hsV⟩⟩
        have ST := hid st
        have FIN := hid fin
        have HK2 := hid hK
        clear hst hn2 hfW hv1 hv2 hz st hbV fV fW hsV fin hK
        gi_wp2_with (first
          | (refine wpListIn_store_v (by exact ST.out) rfl (by exact ⟨_, _, rfl, rfl, rfl⟩) ?_))
        exact HK2.out _ _ FIN.out.1 FIN.out.2.1 (FIN.out.2.2 _)
      case body =>
        subst ha0
        rintro l pre x a1 W ⟨v, W0', rfl, hv, hst, hrs, hn2, hww⟩
        obtain ⟨ex, hcx, hue⟩ := hrs
        have hl56 := hue.re.len
        have ldx : (Instr.loadAt 46 (.pointer (some ⟨v, 3, none⟩))).run Try.prog W = .ok (.agg ex.toArray) W := by
          have := run_loadAt_mid (P := Try.prog) W v 3 46 ex _ (rangeAt_of hv 3 ex (by rw [hcx]; simp)) Try.underlying46 rfl (by rw [hl56]; kernel_rfl)
          simpa using this
        have KS := scrib hue (fun g hg => hg.2)
        obtain ⟨xa, hxa⟩ : ∃ x, ex.toArray = x := ⟨_, rfl⟩
        rw [hxa] at ldx KS
        have LDX := hid ldx
        have HKS := hid KS
        have HSTW := hid hst
        have HN2 := hid hn2
        have HWW := hid hww
        clear hv hst hcx hue hl56 ldx KS hxa hn2 hww
        gi_wp2_with (first
          | (refine wpListIn_load_v LDX.out rfl (by exact ⟨_, rfl, rfl⟩) ?_))
        refine ⟨trivial, (CallsIn.inRound l (callsIn_wide.2 HKS.out)).mono ?_⟩
        rintro r W' ⟨rfl, f'⟩
        have fin : KeepsFrom w12.heap.size W W' ∧ Kz (fun k => ¬ Nw (Nw (fun _ => False) W4 w5) w11 w12 k) W W' ∧ Io w12.heap.size (St w Bb p mb q (b1, b2) R.2.l N (Nw (fun _ => False) W4 w5) (Nw (fun _ => False) w5 w6) P.2.2 R.2) (pre ++ [x]) W' := by
          have hn2 := HN2.out
          have hsz := HST12.out.sz
          refine ⟨⟨f'.size, fun k o hk h1 hc => f'.cells h1 (fun hs => ?_)⟩, (Kz.of_fr' f').mono (fun k hk h => ?_), HSTW.out.kept f' (fun k hk => ?_), ?_⟩
          · obtain ⟨cs, e, m, hcs⟩ := hs.2
            rw [h1] at hcs
            cases hcs
            cases hc
          · have h1 := hk.1.1
            have h2 := HKL.out k h
            omega
          · have h1 := hk.1.1
            omega
          · have h1 := f'.size
            have h2 := HSTW.out.at_.2.1
            have h3 : w12.heap.size ≤ W.heap.size := by
              have h4 := HN2.out
              have h5 := HWW.out
              omega
            omega
        have FIN := hid fin
        clear fin f' HKS LDX
        gi_wp2
        exact FIN.out
      case done =>
        subst ha0
        rintro D xs W hD hxs ⟨hst, hn2⟩ hK0
        have KT := told_two hst.at_ hst.rg (hst.hl.trans hst.hl'.symm) (by rw [hst.hl]; have := HLL.out; omega) 0
        have HKT := hid KT
        have HK0 := hid hK0
        have HFR := hid hst.fr
        have HD := hid (show w12.heap.size ≤ D ∧ w.heap.size ≤ w12.heap.size from ⟨hD, by have := HST12.out.sz; have := HST12.out.hw; omega⟩)
        clear KT hst hn2 hK0 hD hxs
        go_wp2_with (first
          | (go_at_call 16; refine HKT.out.mono ?_; rintro e w13 ⟨B2, rfl, f13, KT2'⟩; have KT2 := hid KT2'; have F13 := hid f13; clear KT2' f13)
          | (go_at_call 17; refine KT2.out.mono ?_; rintro e w14 ⟨oa, on, oc, rfl, f14, KT3'⟩; have KT3 := hid (KT3' 0 w14 (Fr.refl _ _)); have F14 := hid f14; clear KT3' f14)
          | (go_at_call 15; refine KT3.out.mono ?_; rintro e w15 ⟨rfl, f15⟩; have F15 := hid f15; clear f15))
        have f1315 := (F13.out.trans F14.out (fun _ _ h => h)).trans F15.out (fun _ _ h => h)
        have q1 := f1315.cells HK0.out (fun h => h)
        refine ⟨by simp, .inl ⟨_, _, rfl, run_takeDeferred q1, ?_⟩⟩
        refine ⟨.bool true, by simp [results, Try.f7, go_sem], rfl, ?_⟩
        have hd := HD.out
        exact ((HFR.out.trans f1315 (fun _ _ h => h)).trans (Fr.of_grown (grownBy_putObj' _ D _)) (fun i hi e => by simp at e; omega)).below (Nat.le_refl _) (fun _ _ h => h)
      case stop =>
        intro D c pre W _ _ h _
        exact h.elim
end Go.Proofs.Ytedhmhlhjonloaa

/-
  TreeSound: whatever is done, the nodes are a tree.
-/
import Derived.Test.YtmgnldangjfohaaGreatMg38
import Derived.Test.YtmgnldangjfohaaGreatMg39
import Derived.Test.YtmgnldangjfohaaGreatMg42
import Derived.Test.YtmgnldangjfohaaGreatTNodesQ
import Derived.Test.YtmgnldangjfohaaGreatMg43
import Derived.Test.YtmgnldangjfohaaGreatTFrom1Q
namespace Go.Proofs.YtmgnldangjfohaaGreat
open Go.RowKit Go.Maps
set_option linter.unusedVariables false
set_option linter.unusedSimpArgs false
set_option maxRecDepth 100000
attribute [local go_sem] Oper.semAt_some
theorem T.inRound {F : Fence} {n : Nat} {P : Program} {f : FuncId} {args : Array Value} {w : World} {R : Ending → World → Prop} (l : Nat) (h : CallsIn F n P f args w R) : CallsIn (F.inRound l) n P f args w R := h
theorem T.wpListIn_store {F : Fence} {nF : Nat} {ops : Array Oper} {rest : List Oper} {o : Oper} {a : Act} {w w' : World} {Q : Exit → Act → World → Prop} {ty : TypeId} {u v : Value} (hl : (Instr.storeAt ty u v).run Tryz.prog w = .ok () w') (hg : o.guard = none) (h0 : ∃ x y, o.op = .store ty x y ∧ a.eval x = u ∧ a.eval y = v)
    (h : wpListIn F nF Tryz.prog ops Q rest (a.put o.dst undef) w') : wpListIn F nF Tryz.prog ops Q (o :: rest) a w := by
  obtain ⟨x, y, ho, hx, hy⟩ := h0
  refine wpListIn_plain hg fun K' hK' => ?_
  unfold Oper.wpIn
  refine ⟨by simp [Oper.about, ho], ?_⟩
  rw [Oper.semAt_plain F _ _ (by rw [ho]; intro c hc'; cases hc')]
  simp [execOp, ho, hx, hy, hl, Result.andThen]
  exact hK' _ _ h
/-- what has been seen -/
def T.sg (P : List Int) (m : Int) : Option Value := if m ∈ P then some (.int .i64 1) else none
theorem T.sg_snoc {P : List Int} {n : Int} : at_ (T.sg P) n (some (.int .i64 1)) = T.sg (P ++ [n]) := by
  funext m
  unfold at_ T.sg
  by_cases h : m = n
  · subst h; simp
  · simp [h]
structure T.So (B W : World) (mb : Nat) (P : List Int) : Prop where
  map : Mp 2 litI W mb (T.sg P) P.length
  fr : Fr (fun i => i = mb) B W
theorem T.So.idle {B W W' : World} {mb : Nat} {P : List Int} (h : T.So B W mb P) (hf : Fr (fun _ => False) W W') : T.So B W' mb P := ⟨h.map.kept hf (fun h => h), h.fr.trans hf (fun _ _ h => h.elim)⟩
theorem T.So.base {B W : World} {mb : Nat} {P : List Int} (h : T.So B W mb P) : T.So W W mb P := ⟨h.map, Fr.refl _ _⟩
theorem T.So.trans {B W W' : World} {mb : Nat} {P Q : List Int} (h : T.So B W mb P) (k : T.So W W' mb Q) : T.So B W' mb Q := ⟨k.map, h.fr.trans k.fr (fun _ _ h => h)⟩
theorem T.So.put {B W : World} {mb : Nat} {P : List Int} (h : T.So B W mb P) {l : Nat} (o' : Obj) (hl : B.heap.size ≤ l) (hmb : mb < B.heap.size) : T.So B (W.putObj l o') mb P :=
  have hf : Fr (fun i => i = l) W (W.putObj l o') := (Fr.of_grown (grownBy_putObj' W l o')).mono (fun i _ e => by simp at e; exact e.symm)
  ⟨h.map.kept hf (by omega), h.fr.trans hf (fun i hi e => by omega)⟩
theorem T.So.own {B : World} {mb : Nat} {P : List T.Sp → List Int} (hmb : mb < B.heap.size) : OwnFrom B.heap.size (fun pre W => T.So B W mb (P pre)) := fun pre W W' row h hg hr => by
  have hf : Fr (fun i => row = some i) W W' := (Fr.of_grown hg).mono (fun i _ e => by simpa using e)
  exact ⟨h.map.kept hf (fun e => by have := (hr mb e).1; omega), h.fr.trans hf (fun i hi e => by have := (hr i e).1; omega)⟩
/-- a round is at hand -/
def T.Sb (B : World) (mb : Nat) (P : List Int) (S : List T.Sp) (tmps : Array Value) (pre : List T.Sp) (x : T.Sp) (a1 : Act) (W : World) : Prop :=
  a1 = { tmps := (((tmps.setIfInBounds 38 (.int .i64 x.1)).setIfInBounds 39 (.int .i64 x.2)).setIfInBounds 8 (.int .i64 x.1)).setIfInBounds 9 (.int .i64 x.2), defers := [] } ∧ T.So B W mb (P ++ T.ns pre) ∧ pre ++ [x] <+: S
theorem T.Sb.put {B W : World} {mb : Nat} {P : List Int} {S : List T.Sp} {tmps : Array Value} {pre : List T.Sp} {x : T.Sp} {a1 : Act} (h : T.Sb B mb P S tmps pre x a1 W) {l : Nat} {o : Obj} (o' : Obj) (hl : B.heap.size ≤ l) (ho : W.heap[l]? = some o) (hc : o.isCells = false) (hmb : mb < B.heap.size) : T.Sb B mb P S tmps pre x a1 (W.putObj l o') :=
  ⟨h.1, h.2.1.put o' hl hmb, h.2.2⟩
theorem T.zeroInt (w : World) : (zeroValue 3).run Tryz.prog w = .ok (.int .i64 0) w := by kernel_rfl
/-- the nodes of the first k tops' walks -/
def T.ups (t : T.Tr) (K : Nat) (k : Nat) : List Int := (if 1 ≤ k then T.ns (T.sub t K 0 1) else []) ++ (if 2 ≤ k then T.ns (T.sub t K 0 2) else [])
theorem T.ups_succ {t : T.Tr} {K k : Nat} (hk : k < 2) : T.ups t K k ++ T.ns (T.sub t K 0 ((k : Int) + 1)) = T.ups t K (k + 1) := by
  rcases Nat.lt_succ_iff_lt_or_eq.1 hk with e | e
  · have : k = 0 := by omega
    subst this
    simp [T.ups]
  · subst e
    simp [T.ups]
theorem T.ups_two (t : T.Tr) (K : Nat) : T.ups t K 2 = T.both t K := by simp [T.ups, T.both]
theorem T.both_nodup {t : T.Tr} (h : T.Wf t) {K : Nat} (hK : ∀ n, T.ends t K n) : (T.both t K).Nodup :=
  (T.both_perm h hK).symm.nodup (List.pairwise_map.2 (h.up.imp (fun h e => by rw [e] at h; exact Int.lt_irrefl _ h)))
theorem T.told_len' {t : T.Tr} {xs : List T.Tn} (hx : xs.map Prod.fst = T.told t) : xs.length ≤ t.length := by
  have h1 := congrArg List.length hx
  rw [List.length_map] at h1
  rw [h1]
  exact List.length_filter_le _ _
theorem T.ups_len {t : T.Tr} (h : T.Wf t) {K : Nat} (hK : ∀ n, T.ends t K n) {k : Nat} (hk : k < 2) : (T.ups t K k).length ≤ 2 * t.length := by
  have h1 := T.both_len h hK
  unfold T.ups
  rw [if_neg (by omega : ¬ 2 ≤ k), List.append_nil]
  split
  · rw [T.ns, List.length_map]; omega
  · exact Nat.zero_le _
theorem T.ups_new {t : T.Tr} (h : T.Wf t) {K : Nat} (hK : ∀ n, T.ends t K n) {k : Nat} (hk : k < 2) {S pre : List T.Sp} {x : T.Sp} (hS : S = T.sub t K 0 ((k : Int) + 1)) (hp : pre ++ [x] <+: S) : x.2 ∉ T.ups t K k ++ T.ns pre := by
  have h1 : (T.ups t K k ++ T.ns (pre ++ [x])) <+: T.both t K := by
    obtain ⟨r, hr⟩ := hp
    have h2 : T.ups t K (k + 1) <+: T.both t K := by
      rcases Nat.lt_succ_iff_lt_or_eq.1 hk with e | e
      · have : k = 0 := by omega
        subst this
        exact ⟨T.ns (T.sub t K 0 2), by simp [T.ups, T.both]⟩
      · subst e
        rw [T.ups_two]
        exact List.prefix_refl _
    rw [← T.ups_succ hk, ← hS, ← hr, T.ns, List.map_append (l₁ := pre ++ [x]), ← List.append_assoc] at h2
    exact (List.prefix_append _ _).trans h2
  have h2 : (T.ups t K k ++ T.ns (pre ++ [x])).Nodup := h1.sublist.nodup (T.both_nodup h hK)
  rw [show T.ups t K k ++ T.ns (pre ++ [x]) = (T.ups t K k ++ T.ns pre) ++ [x.2] by simp [T.ns]] at h2
  intro hm
  rw [List.nodup_append] at h2
  exact h2.2.2 _ hm _ (List.mem_singleton.2 rfl) rfl
set_option maxHeartbeats 16000000 in
theorem treeSound_walk {I : Nat → Prop} {w : World} {a : Option Addr} {ca : Nat} {ops : List S.Op} (h1 : T.Ops I w a ops) (i1 : ∀ o ∈ ops, o.in64) (l1 : ops.length ≤ 1599289640401) (I1 : ∀ g, I g → g < w.heap.size) :
    Calls Tryz.prog 5 #[.slice a ops.length ca] w fun e w' => e = .returned (.bool true) ∧ Fr (fun _ => False) w w' := by
  obtain ⟨W0, hW0⟩ : ∃ W, w.alloc (.cells #[.bool false] 4) = W := ⟨_, rfl⟩
  have f0 : Fr (fun _ => False) w W0 := by rw [← hW0]; exact Fr.alloc (Fr.refl _ _) _
  have RB := hid (show W0.heap[w.heap.size]? = some (.cells #[.bool false] 4 (0, 0)) by rw [← hW0]; exact Go.heap_alloc_new w _)
  have F0 := hid f0
  have HW0 := hid hW0
  have KM := hid (made_any (cap := ca) (h1.kept f0 (fun _ _ h => h)) i1 l1 (fun g hg => Nat.lt_of_lt_of_le (I1 g hg) f0.size))
  have KB := hid tbegun_any
  obtain ⟨n1, hn1⟩ : ∃ n, ops.length = n := ⟨_, rfl⟩
  rw [hn1] at KM l1 ⊢
  have HL1 := hid l1
  obtain ⟨t, ht0⟩ : ∃ t, T.play T.zero ops = t := ⟨_, rfl⟩
  rw [ht0] at KM
  clear h1 i1 l1 I1 hn1 ht0 f0 hW0
  refine (callsIn_wide (n := 14)).1 ?_
  refine callsIn_of_wp_marks Tryz.func5 rfl trivial ?_ rfl
  simp only [Tryz.ntmps5, List.size_toArray, List.length_cons, List.length_nil, Nat.reduceAdd, Nat.reduceSub, Array.replicate_succ, Array.replicate_zero, List.push_toArray, List.append_toArray, List.nil_append, List.cons_append]
  have hfm : Fence.wide.fn 22 := trivial
  have hfb : Fence.wide.fn 9 := trivial
  gi_wp2_with fail
  rw [HW0.out]
  refine (callsIn_wide.2 KM.out).mono ?_
  rintro e w1 ⟨p, la, ln, lc, c, bud, dos, mb, f, rfl, hG, hdos, hbud, hfew, htl, hf1, hcw⟩
  have HG := hid hG
  have HDOS := hid hdos
  have HBUD := hid hbud
  have HFEW := hid hfew
  have HTL := hid htl
  have F1 := hid hf1
  have HCW := hid hcw
  clear hG hdos hbud hfew htl hf1 hcw
  obtain ⟨K, hK⟩ := HG.out.wf.fin
  have HK := hid hK
  clear hK
  dsimp only
  obtain ⟨V1, hV1⟩ : ∃ V, w1.alloc (.cells #[ptr p] 24) = V := ⟨_, rfl⟩
  have fV1 : Fr (fun _ => False) w1 V1 := by rw [← hV1]; exact Fr.alloc (Fr.refl _ _) _
  have TB := hid (show V1.heap[w1.heap.size]? = some (.cells #[ptr p] 24 (0, 0)) by rw [← hV1]; exact Go.heap_alloc_new w1 _)
  have FV1 := hid fV1
  have HV1 := hid hV1
  clear hV1 fV1
  gi_wp2_with fail
  rw [HV1.out]
  refine (callsIn_wide.2 (KB.out V1)).mono ?_
  rintro e w2 ⟨rfl, hf2⟩
  have TB2 := hid (hf2.cells TB.out (fun h => h))
  have G2 := hid (HG.out.kept (FV1.out.trans hf2 (fun _ _ h => h)) (fun _ _ h => h))
  have F2 := hid ((F1.out.trans FV1.out (fun _ _ h => h)).trans hf2 (fun _ _ h => h))
  clear hf2
  have ct2 : w2.cell? ⟨w1.heap.size, 0, none⟩ = some (ptr p) := cellA (j := 0) TB2.out rfl
  dsimp only
  have hmm := @run_makeMap Tryz.prog
  gi_wp2_with fail
  obtain ⟨WL, hWL⟩ : ∃ V, ((w2.alloc (.map #[] 0)).alloc (.cells #[.map (some w2.heap.size)] 61)).alloc (.cells #[.int .i64 1, .int .i64 2] 2) = V := ⟨_, rfl⟩
  rw [hWL]
  have fL : Fr (fun _ => False) w2 WL := by rw [← hWL]; exact Fr.alloc (Fr.alloc (Fr.alloc (Fr.refl _ _) _) _) _
  have fL1 : Fr (fun _ => False) ((w2.alloc (.map #[] 0)).alloc (.cells #[.map (some w2.heap.size)] 61)) WL := by rw [← hWL]; exact Fr.alloc (Fr.refl _ _) _
  have fL2 : Fr (fun _ => False) (w2.alloc (.map #[] 0)) WL := (Fr.alloc (Fr.refl (fun _ => False) _) _).trans fL1 (fun _ _ h => h)
  have zL : WL.heap.size = w2.heap.size + 3 := by rw [← hWL, alloc_size, alloc_size, alloc_size]
  have TBL := hid (fL.cells TB2.out (fun h => h))
  have SBL := hid (show WL.heap[w2.heap.size + 1]? = some (.cells #[.map (some w2.heap.size)] 61 (0, 0)) from fL1.cells (by have := Go.heap_alloc_new (w2.alloc (.map #[] 0)) (.cells #[.map (some w2.heap.size)] 61); rw [alloc_size] at this; exact this) (fun h => h))
  have TOL := hid (show WL.heap[w2.heap.size + 1 + 1]? = some (.cells #[.int .i64 1, .int .i64 2] 2 (0, 0)) by
    rw [← hWL]
    have := Go.heap_alloc_new ((w2.alloc (.map #[] 0)).alloc (.cells #[.map (some w2.heap.size)] 61)) (.cells #[.int .i64 1, .int .i64 2] 2)
    rw [alloc_size, alloc_size] at this
    exact this)
  have HSO := hid (show T.So WL WL w2.heap.size (T.ups t K 0) from ⟨(Mp.made 2 litI w2).kept fL2 (fun h => h), Fr.refl _ _⟩)
  have GL := hid (G2.out.kept fL (fun _ _ h => h))
  have CM := hid (show c w2.heap.size = none from by
    cases hq : c w2.heap.size with
    | none => rfl
    | some col => have := G2.out.lo _ (by rw [hq]; simp : c w2.heap.size ≠ none); omega)
  have FL := hid fL
  have ZL := hid zL
  clear hWL fL fL1 fL2 zL ct2
  refine wp_of_actC (fun a0 ha0 => ?_)
  refine wpIn_loop (fun (a' : Act) (wr : World) => ∃ (k : Nat) (ds : List Nat) (u : Nat → Value), a' = { tmps := #[.slice a n1 ca, undef, ptr w.heap.size, ptr w1.heap.size, .slice la ln lc, ptr (w2.heap.size + 1), undef, u 7, u 8, u 9, u 10, u 11, u 12, u 13, u 14, undef, undef, .tuple #[ptr p, .slice la ln lc], .slice a n1 ca, .tuple #[ptr p, .slice la ln lc], ptr p, .slice la ln lc, .bool true, .bool false, .bool false, ptr p, .bool false, .bool false, .map (some w2.heap.size), .slice (some ⟨w2.heap.size + 1 + 1, 0, none⟩) 2 2, .int .i64 2, .int .i64 k, u 32, u 33, u 34, u 35, u 36, u 37, u 38, u 39, u 40, u 41, u 42, u 43, u 44, u 45, u 46, u 47, u 48, u 49, u 50, u 51, u 52, u 53, u 54, u 55, u 56, u 57, u 58, u 59, u 60, u 61, u 62, u 63, u 64, u 65, u 66, u 67, u 68, u 69, u 70, u 71, u 72, u 73, u 74, u 75, u 76, u 77, u 78, u 79, u 80, u 81, u 82, u 83, u 84, u 85, u 86, u 87, u 88, u 89, u 90, u 91, u 92, u 93, u 94, u 95, u 96, u 97, u 98, u 99, u 100, u 101, u 102, u 103, u 104, u 105, u 106, u 107, u 108, u 109, u 110, u 111, u 112, u 113, u 114, u 115, undef, undef, undef, undef, undef, undef, undef, undef, undef, undef, undef, undef, undef, undef, undef, undef, undef, undef], defers := ds.map T.mark } ∧ Hid (k ≤ 2 ∧ T.So WL wr w2.heap.size (T.ups t K k) ∧ T.Marks wr ds ∧ ∀ D ∈ ds, WL.heap.size ≤ D))
    (fun a' _ => 2 - (intOf (a'.tmps.getD 31 undef)).toNat) ?start ?round
  case start => exact ⟨0, [], fun i => a0.tmps.getD i undef, by rw [ha0]; rfl, hid ⟨by omega, HSO.out, ⟨List.nodup_nil, fun D hD => by cases hD⟩, fun D hD => by cases hD⟩⟩
  case round =>
    rintro a' wr ⟨k, ds, u, rfl, hS⟩
    clear ha0 a0
    obtain ⟨hk, hSo, hMk, hMd⟩ := hS.out
    by_cases hlt : k < 2
    · obtain ⟨top, htop⟩ : ∃ z : Int, z = (k : Int) + 1 := ⟨_, rfl⟩
      have HTOP := hid htop
      have HSo := hid hSo
      have HMk := hid hMk
      have HMd := hid hMd
      have cT : wr.cell? ⟨w2.heap.size + 1 + 1, k, none⟩ = some (.int .i64 top) := by
        refine cellA (j := k) (hSo.fr.cells TOL.out (by omega)) ?_
        rcases Nat.lt_succ_iff_lt_or_eq.1 hlt with e | e
        · have : k = 0 := by omega
          subst this; rw [htop]; rfl
        · subst e; rw [htop]; rfl
      have i0 : (0 : Int) ≤ (k : Int) := by omega
      have i1 : (k : Int) < 2 := by omega
      have hk1 : 1 ≤ top := by omega
      have hk2 : top ≤ 2 := by omega
      clear hS hk hSo hMk hMd htop
      gi_upto_region 8 with fail
      obtain ⟨V, hV⟩ : ∃ V, wr.alloc (.cells #[.int .i64 top] 2) = V := ⟨_, rfl⟩
      have fV : Fr (fun _ => False) wr V := by rw [← hV]; exact Fr.alloc (Fr.refl _ _) _
      have zV : V.heap.size = wr.heap.size + 1 := by rw [← hV, alloc_size]
      have bV : V.heap[wr.heap.size]? = some (.cells #[.int .i64 top] 2 (0, 0)) := by rw [← hV]; exact Go.heap_alloc_new wr _
      have SV := hid (HSo.out.idle fV)
      have hlo : WL.heap.size ≤ wr.heap.size := HSo.out.fr.size
      rw [hV]
      have ct : V.cell? ⟨w1.heap.size, 0, none⟩ = some (ptr p) := cellA (j := 0) (SV.out.fr.cells TBL.out (by have := lt_of_row TB2.out; omega)) rfl
      have cU : V.cell? ⟨wr.heap.size, 0, none⟩ = some (.int .i64 top) := cellA (j := 0) bV rfl
      have FV := hid (And.intro fV (And.intro zV (And.intro bV hlo)))
      obtain ⟨S, hS⟩ : ∃ l, T.sub t K 0 top = l := ⟨_, rfl⟩
      have GV := hid (GL.out.kept SV.out.fr (fun i hi e => by subst e; exact hi CM.out))
      have htp : top = 1 ∨ top = 2 := by omega
      obtain ⟨xt, hxt⟩ : ∃ x, A.get top t = some x := Option.isSome_iff_exists.1 (by
        rcases htp with e | e
        · rw [e]; exact GV.out.wf.one
        · rw [e]; exact GV.out.wf.two)
      have hlen : S.length ≤ t.length := by
        have := T.both_len GV.out.wf HK.out
        rw [← hS]
        rcases htp with e | e
        · rw [e]; omega
        · rw [e]; omega
      have KW := hid (walkit_any GV.out.tf GV.out.wf.up (by have := HBUD.out; have := HL1.out; omega) (by have := HTL.out; have := HL1.out; omega) GV.out.wf.nmlen GV.out.wf.numwf hxt (GV.out.wf.deep HK.out (by rw [hxt]; rfl)) (by rw [hS]; have := HTL.out; have := HL1.out; omega))
      rw [hS] at KW
      have HS := hid hS
      have HLEN := hid hlen
      clear fV zV bV hlo hV cT hS hlen htp hxt xt
      have hfw : Fence.wide.fn 23 := trivial
      gi_wp2_with fail
      refine (callsIn_wide.2 KW.out).mono ?_
      rintro e V4 ⟨B, ra, rc, rfl, hB, hRo, hBn, hrn, hf4⟩
      obtain ⟨KK, hKK⟩ : ∃ K' : Nat → Prop, K' = fun i => i = B ∨ blk ra = some i := ⟨_, rfl⟩
      obtain ⟨fV, zV, bV, hlo⟩ := FV.out
      have hKlo : ∀ i, KK i → wr.heap.size < i := fun i hi => by
        rw [hKK] at hi
        rcases hi with rfl | hi
        · omega
        · have := hrn i hi; omega
      have hSQ := wk1_seq 13 (by omega) B rc ra S KK V4 hB (by rw [hKK]; exact .inl rfl) hRo (fun i hi => by rw [hKK]; exact .inr hi) (by have := HLEN.out; have := HTL.out; have := HL1.out; omega)
      have HSQ := hid hSQ
      have S4 := hid (SV.out.idle hf4)
      have HF4 := hid (And.intro hf4 (And.intro hKlo (show wr.heap.size < V4.heap.size from by have := hf4.size; omega)))
      have B4 := hid (hf4.cells bV (fun h => h))
      clear hB hRo hBn hrn hf4 hKK fV zV bV hlo hKlo hSQ ct cU KW
      dsimp only
      gi_wp2_with fail
      refine wp_of_actC (fun a0 ha0 => ?_)
      refine wpIn_rangeV (w := V4) rfl (by omega) (gf := 61) (lb := #[ptr B]) (by rw [ha0]; rfl) trivial (enters_of Tryz.func61 (by kernel_rfl) rfl)
        HSQ.out (Below.refl _ _) (fun _ => rfl) (fun h k => h.trans k) (fun W l o o' hl hW hc _ => Kz.putObj o' hW hc)
        (fun pre W => T.So V4 W w2.heap.size (T.ups t K k ++ T.ns pre)) (fun _ _ _ => False) (T.Sb V4 w2.heap.size (T.ups t K k) S a0.tmps) (T.So.own (by have := HSo.out.fr.size; have := HF4.out.2.2; have := ZL.out; omega)) (fun c s W W' row h _ _ => h.elim) (by rw [show T.ns ([] : List T.Sp) = [] from rfl, List.append_nil]; exact S4.out.base)
        (fun pre x a1 W l o o' hl hW hc _ h => h.put o' hl hW hc (by have := HSo.out.fr.size; have := HF4.out.2.2; have := ZL.out; omega)) ?assign ?body ?done ?stop
      case assign =>
        subst ha0
        rintro l pre x W0' W Kn hI hfW hpf hK
        have HK2 := hid hK
        have HI := hid (hI.idle hfW)
        have HPF := hid hpf
        clear hI hfW hpf hK
        gi_wp2
        exact HK2.out _ _ (KeepsFrom.refl _ _) ⟨Kc.refl _ _, Nat.le_refl _⟩ ⟨rfl, HI.out, HPF.out⟩
      case body =>
        subst ha0
        rintro l pre ⟨d, n⟩ a1 W ⟨rfl, hI, hpf⟩
        have hmem : (d, n) ∈ S := hpf.subset (by simp)
        have htop2 : top = 1 ∨ top = 2 := by omega
        have hT := T.told_of GV.out.wf HK.out htop2 (by rw [HS.out]; exact hmem)
        have hnew : n ∉ T.ups t K k ++ T.ns pre := T.ups_new GV.out.wf HK.out (k := k) (by have := HTOP.out; omega) (S := S) (by rw [← HS.out, HTOP.out]) hpf
        obtain ⟨x, hx, hx2, hx3⟩ := hT.x
        have hnw := GV.out.wf.numwf n x hx
        have hnb := GV.out.wf.num n x hx
        have hmb : w2.heap.size < V4.heap.size := by have := HSo.out.fr.size; have := HF4.out.2.2; have := ZL.out; omega
        have hlk : (Instr.lookup 61 (.map (some w2.heap.size)) (.int .i64 n) false).run Tryz.prog W = .ok (.int .i64 0) W := by
          rw [hI.map.look keyI Tryz.underlying61 (T.zeroInt W) (keyOfI hnw)]
          unfold T.sg
          rw [if_neg hnew]
          rfl
        have hPl : (T.ups t K k ++ T.ns pre).length < maxLen := by
          have h1 := hpf.length_le
          rw [List.length_append] at h1
          have h2 : (T.ups t K k).length ≤ 2 * t.length := T.ups_len GV.out.wf HK.out (by have := HTOP.out; omega)
          have h3 := HLEN.out
          have h4 := HTL.out
          have h5 := HL1.out
          rw [List.length_append, T.ns, List.length_map]
          unfold maxLen
          omega
        obtain ⟨W2, hup, hmp, hf2⟩ := Mp.store hI.map litI_inj keyI Tryz.underlying61 hPl (keyOfI hnw) (.int .i64 1)
        have hS2 : T.So V4 W2 w2.heap.size (T.ups t K k ++ T.ns (pre ++ [(d, n)])) := by
          refine ⟨?_, hI.fr.trans hf2 (fun _ _ h => h)⟩
          have h1 := hmp
          rw [T.sg_snoc, show (T.sg (T.ups t K k ++ T.ns pre) n).isSome = false from by unfold T.sg; rw [if_neg hnew]; rfl] at h1
          have e : T.ups t K k ++ T.ns (pre ++ [(d, n)]) = (T.ups t K k ++ T.ns pre) ++ [n] := by simp [T.ns]
          rw [e, List.length_append]
          exact h1
        have ctV : V4.heap[w1.heap.size]? = some (.cells #[ptr p] 24 (0, 0)) := S4.out.fr.cells TBL.out (by have := lt_of_row TB2.out; omega)
        have csV : V4.heap[w2.heap.size + 1]? = some (.cells #[.map (some w2.heap.size)] 61 (0, 0)) := S4.out.fr.cells SBL.out (by omega)
        have cs : W.cell? ⟨w2.heap.size + 1, 0, none⟩ = some (.map (some w2.heap.size)) := cellA (j := 0) (hI.fr.cells csV (by omega)) rfl
        have HS2 := hid hS2
        have ct : W2.cell? ⟨w1.heap.size, 0, none⟩ = some (ptr p) := cellA (j := 0) (hS2.fr.cells ctV (by have := lt_of_row TB2.out; omega)) rfl
        have G4 := hid (GV.out.kept HF4.out.1 (fun _ _ h => h))
        have GW := hid (G4.out.kept hS2.fr (fun i hi e => by subst e; exact hi CM.out))
        have KN := hid (node_any GW.out.tf hnw hx (GV.out.wf.ats n x hx).1 (by have := HFEW.out n x hx; have := HL1.out; omega))
        have HTD := hid hT
        have HX := hid (And.intro hx (And.intro hx2 hx3))
        have HNW := hid (And.intro hnw hnb)
        have HMB := hid hmb
        have FB := hid (show Fr (fun i => i = w2.heap.size) W W2 from hf2)
        have CT := hid ctV
        clear hmem htop2 hT hx hx2 hx3 hnw hnb hPl hmp hf2 hS2 ctV csV hI hpf hnew hmb
        have hfn : Fence.wide.fn 24 := trivial
        have hfb : Fence.wide.fn 25 := trivial
        have hfc : Fence.wide.fn 26 := trivial
        gi_wp2_with fail
        refine (T.inRound l (callsIn_wide.2 KN.out)).mono ?_
        rintro e W3 ⟨xa, xc, rfl, _, hf3⟩
        obtain ⟨W4, hW4⟩ : ∃ V, W3.alloc (.cells #[.int .i64 0, .int .i64 0, .string ⟨#[]⟩, .slice none 0 0] 68) = V := ⟨_, rfl⟩
        obtain ⟨W5, st, hb5, f5⟩ := box_whole (V := W4) (b := W3.heap.size) (ty := 68) (c := #[.int .i64 n, .int .i64 x.par, .string x.nm, .slice xa x.ats.length xc]) (show W4.heap[W3.heap.size]? = some (.cells #[.int .i64 0, .int .i64 0, .string ⟨#[]⟩, .slice none 0 0] 68 (0, 0)) by rw [← hW4]; exact Go.heap_alloc_new W3 _) rfl (by kernel_rfl) (by simp [Value.oneCell'])
        have F25 := hid (show Fr (fun _ => False) W2 W5 from (hf3.trans (show Fr (fun _ => False) W3 W4 by rw [← hW4]; exact Fr.alloc (Fr.refl _ _) _) (fun _ _ h => h)).trans f5 (fun i hi e => by have := hf3.size; omega))
        have S5 := hid (HS2.out.idle F25.out)
        have ST := hid st
        have HW4 := hid hW4
        have B5 := hid hb5
        have Z5 := hid (show W3.heap.size < W5.heap.size from lt_of_row hb5)
        have x0 : W5.cell? ⟨W3.heap.size, 0, none⟩ = some (.int .i64 n) := cellA (j := 0) hb5 rfl
        have x1 : W5.cell? ⟨W3.heap.size, 1, none⟩ = some (.int .i64 x.par) := cellA (j := 1) hb5 rfl
        have x2 : W5.cell? ⟨W3.heap.size, 2, none⟩ = some (.string x.nm) := cellA (j := 2) hb5 rfl
        have G5 := hid (GW.out.kept F25.out (fun _ _ h => h))
        clear ct
        have ct : W5.cell? ⟨w1.heap.size, 0, none⟩ = some (ptr p) := cellA (j := 0) (S5.out.fr.cells CT.out (by have := lt_of_row TB2.out; omega)) rfl
        have cT : W5.cell? ⟨wr.heap.size, 0, none⟩ = some (.int .i64 top) := cellA (j := 0) (S5.out.fr.cells B4.out (by have := HSo.out.fr.size; have := ZL.out; omega)) rfl
        have KBL := hid (fun (m a : Int) (hm : (Lit.int .i64 m).wf = true) => below_any G5.out.tf GV.out.wf.parwf HK.out hm a)
        have KB1 := hid (KBL.out n top HNW.out.1)
        have KB2 := hid (KBL.out n (3 - top) HNW.out.1)
        rw [HTD.out.low] at KB1
        rw [HTD.out.off] at KB2
        have KB3 := hid (KBL.out x.par n (GV.out.wf.parwf n x HX.out.1))
        rw [HX.out.2.2 K] at KB3
        have FIN := hid (show ∀ W', Fr (fun _ => False) W5 W' → KeepsFrom V4.heap.size W W' ∧ Kz (fun i => ¬ KK i) W W' ∧ T.So V4 W' w2.heap.size (T.ups t K k ++ T.ns (pre ++ [(d, n)])) from fun W' hf => by
          have fall : Fr (fun i => i = w2.heap.size) W W' := (FB.out.trans F25.out (fun _ _ h => h.elim)).trans hf (fun _ _ h => h.elim)
          refine ⟨⟨fall.size, fun k o hk h1 hc => (fall.block k (lt_of_row h1) (fun e => by have := HMB.out; omega)).trans h1⟩, (Kz.of_fr' fall).mono (fun i hi hk => ?_), S5.out.idle hf⟩
          have h1 := HF4.out.2.1 i hk
          have h2 := HSo.out.fr.size
          have h3 := ZL.out
          omega)
        have n0 := HTOP.out
        clear hf3 st hW4 hb5 f5 hlk hup cs n0
        by_cases hnt : n = top
        · subst hnt
          obtain rfl : d = 0 := HTD.out.zero.2 rfl
          have e3 : (2 : Int) < 4 := by omega
          dsimp only
          gi_wp2_with (refine T.wpListIn_store (by first | exact ST.out | (rw [HW4.out]; exact ST.out)) rfl (by exact ⟨_, _, rfl, rfl, rfl⟩) ?_)
          refine (T.inRound l (callsIn_wide.2 KB1.out)).mono ?_
          rintro e wx ⟨rfl, rfl⟩
          dsimp only
          gi_wp2_with fail
          refine (T.inRound l (callsIn_wide.2 KB2.out)).mono ?_
          rintro e wx ⟨rfl, rfl⟩
          dsimp only
          gi_wp2_with fail
          exact FIN.out _ (Fr.refl _ _)
        · have hd0 : ¬ ((d : Int) = 0) := fun e => hnt (HTD.out.zero.1 (by have e' : (d : Int) = 0 := e; show d = 0; omega))
          have hnt2 : (n == top) = false := by simp [hnt]
          have hd2 : ((d : Int) == 0) = false := by
            cases hq : ((d : Int) == 0) with
            | false => rfl
            | true => exact absurd (eq_of_beq hq) hd0
          have hd3 : ¬ (d = 0) := fun e => hd0 (by omega)
          dsimp only
          gi_wp2_with (refine T.wpListIn_store (by first | exact ST.out | (rw [HW4.out]; exact ST.out)) rfl (by exact ⟨_, _, rfl, rfl, rfl⟩) ?_)
          refine (T.inRound l (callsIn_wide.2 KB1.out)).mono ?_
          rintro e wx ⟨rfl, rfl⟩
          dsimp only
          gi_wp2_with fail
          refine (T.inRound l (callsIn_wide.2 KB2.out)).mono ?_
          rintro e wx ⟨rfl, rfl⟩
          dsimp only
          gi_wp2_with fail
          obtain ⟨hx2', hxs, htm⟩ := HX.out.2.1 hnt
          obtain ⟨y, hy⟩ := Option.isSome_iff_exists.1 hxs
          have KC := hid (children_any G5.out.tf GV.out.wf.up (by have := HBUD.out; have := HL1.out; omega) (by have := HTL.out; have := HL1.out; omega) GV.out.wf.nmlen (GV.out.wf.parwf n x HX.out.1) hy)
          have HTM := hid htm
          obtain ⟨CL, hCL⟩ : ∃ l, T.chs t x.par = l := ⟨_, rfl⟩
          have HCL := hid hCL
          have hcl2 : CL.length ≤ 5000000000000 := by
            have := T.chs_len t x.par
            have := HTL.out
            have := HL1.out
            rw [← hCL]
            omega
          rw [hCL] at KC
          obtain ⟨cn, hcn⟩ : ∃ z : Nat, CL.length = z := ⟨_, rfl⟩
          rw [hcn] at KC hcl2
          have HCN := hid hcn
          clear hx2' hxs htm y hy hCL hcn
          refine (T.inRound l (callsIn_wide.2 KC.out)).mono ?_
          rintro e W6 ⟨a9, c9, rfl, hr9, _, hf9⟩
          have R9 := hid hr9
          have F9 := hid hf9
          clear hr9 hf9 x0 x1 ct cT KC
          dsimp only
          gi_wp2_with fail
          obtain ⟨wo, rfl⟩ : ∃ z, z = wr := ⟨_, rfl⟩
          gi_loopw [88, 12] (fun i tv wq => ∃ j : Nat, i = .int .i64 j ∧ tv = .int .i64 (T.times x.nm n (CL.take j) : Nat) ∧ Hid (j ≤ cn ∧ Fr (fun _ => False) W6 wq))
            (fun i _ _ => (cn - intOf i).toNat)
          case atStart => exact ⟨0, rfl, rfl, hid ⟨Nat.zero_le _, Fr.refl _ _⟩⟩
          case round =>
            obtain ⟨j, rfl, rfl, hall⟩ := hrel
            have hfq : Fr (fun _ => False) W6 wr := hall.out.2
            have hf5q : Fr (fun _ => False) W5 wr := F9.out.trans hfq (fun _ _ h => h)
            by_cases hj : j < cn
            · obtain ⟨ch, hch⟩ : ∃ z, CL[j]? = some z := ⟨_, List.getElem?_eq_getElem (by rw [HCN.out]; exact hj)⟩
              obtain ⟨g9, o9, rfl, q0, q1⟩ := T.flatC_cells (by rw [HCN.out]; exact R9.out.kept hfq (fun _ _ h => h)) hch
              have y2 : wr.cell? ⟨W3.heap.size, 2, none⟩ = some (.string x.nm) := cellA (j := 2) (hf5q.cells B5.out (fun h => h)) rfl
              obtain ⟨VQ, hVQ⟩ : ∃ V, wr.alloc (.cells #[.string ch.1, .int .i64 ch.2] 75) = V := ⟨_, rfl⟩
              have fq : Fr (fun _ => False) wr VQ := by rw [← hVQ]; exact Fr.alloc (Fr.refl _ _) _
              have bq : VQ.heap[wr.heap.size]? = some (.cells #[.string ch.1, .int .i64 ch.2] 75 (0, 0)) := by rw [← hVQ]; exact Go.heap_alloc_new wr _
              have r0 : VQ.cell? ⟨wr.heap.size, 0, none⟩ = some (.string ch.1) := cellA (j := 0) bq rfl
              have r1 : VQ.cell? ⟨wr.heap.size, 1, none⟩ = some (.int .i64 ch.2) := cellA (j := 1) bq rfl
              have r2 : VQ.cell? ⟨W3.heap.size, 2, none⟩ = some (.string x.nm) := cellA (j := 2) (fq.cells (hf5q.cells B5.out (fun h => h)) (fun h => h)) rfl
              have i2 : (0 : Int) ≤ (j : Int) := by omega
              have i3 : (j : Int) < (cn : Int) := by omega
              have hmc : ch ∈ T.chs t x.par := by rw [HCL.out]; exact List.mem_of_getElem? hch
              obtain ⟨_, yc, hyc, _, hycn⟩ := (T.mem_chs GV.out.wf.up).1 hmc
              have HVQ := hid hVQ
              have FQ := hid (hfq.trans fq (fun _ _ h => h))
              have HCH := hid hch
              have hxy := HX.out.1
              obtain ⟨c1, c2⟩ := ch
              have htk : T.times x.nm n (CL.take (j + 1)) = T.times x.nm n (CL.take j) + (if c2 = n ∧ c1 = x.nm then 1 else 0) := by
                rw [List.take_add_one, HCH.out]
                exact T.times_snoc x.nm n _ (c1, c2)
              have htj : T.times x.nm n (CL.take j) ≤ j := by
                refine Nat.le_trans List.countP_le_length ?_
                rw [List.length_take]
                exact Nat.min_le_left _ _
              obtain ⟨tm, htm⟩ : ∃ z, T.times x.nm n (CL.take j) = z := ⟨_, rfl⟩
              rw [htm] at htk htj ⊢
              dsimp only at hyc hycn
              by_cases hc2 : c2 = n
              · subst hc2
                obtain rfl : yc = x := by rw [hxy] at hyc; exact (Option.some.inj hyc).symm
                subst hycn
                rw [if_pos ⟨rfl, rfl⟩] at htk
                have HTK := hid htk
                have htb : (tm : Int) ≤ 5000000000000 := by omega
                have htb0 : (0 : Int) ≤ (tm : Int) := by omega
                clear hall hfq hf5q hch hmc hyc hxy hVQ fq bq htk htj htm y2
                gi_upto_region 20 with fail
                rw [HVQ.out]
                gi_wp2_with fail
                go_roundw
                case rel => exact ⟨j + 1, by first | rfl | go_num | trivial, by rw [HTK.out]; first | rfl | go_num | trivial, hid ⟨hj, FQ.out⟩⟩
                case measure => simp [intOf]; omega
              · rw [if_neg (fun e => hc2 e.1), Nat.add_zero] at htk
                have hc3 : (c2 == n) = false := by simp [hc2]
                have HTK := hid htk
                clear hall hfq hf5q hch hmc hyc hycn hxy hVQ fq bq htk htj htm y2
                gi_upto_region 20 with fail
                rw [HVQ.out]
                gi_wp2_with fail
                go_roundw
                case rel => exact ⟨j + 1, by first | rfl | go_num | trivial, by rw [HTK.out]; rfl, hid ⟨hj, FQ.out⟩⟩
                case measure => simp [intOf]; omega
            · have hjc : j = cn := by have := hall.out.1; omega
              subst hjc
              have ht1 : T.times x.nm n (CL.take j) = 1 := by
                rw [← HTM.out, HCL.out, List.take_of_length_le (by rw [HCN.out]; exact Nat.le_refl _)]
              rw [ht1]
              have x1 : wr.cell? ⟨W3.heap.size, 1, none⟩ = some (.int .i64 x.par) := cellA (j := 1) (hf5q.cells B5.out (fun h => h)) rfl
              have ct : wr.cell? ⟨w1.heap.size, 0, none⟩ = some (ptr p) := cellA (j := 0) (hf5q.cells (S5.out.fr.cells CT.out (by have := lt_of_row TB2.out; omega)) (fun h => h)) rfl
              have KB4 := hid (below_any (G5.out.tf.kept hf5q (fun _ _ h => h)) GV.out.wf.parwf HK.out (GV.out.wf.parwf n x HX.out.1) n)
              rw [HX.out.2.2 K] at KB4
              have H5 := hid hf5q
              have hjn : ¬ ((j : Int) < (j : Int)) := by omega
              clear hall hfq hf5q hj ht1
              gi_wp2_with fail
              refine (T.inRound l (callsIn_wide.2 KB4.out)).mono ?_
              rintro e wx ⟨rfl, rfl⟩
              dsimp only
              gi_wp2_with fail
              exact FIN.out _ H5.out
      case done =>
        subst ha0
        rintro D xs W hD hxs hI hK0
        subst hxs
        have hups : T.ups t K k ++ T.ns xs = T.ups t K (k + 1) := by
          rw [← HS.out, HTOP.out]
          exact T.ups_succ (by have := HTOP.out; omega)
        rw [hups] at hI
        have hfr : Fr (fun i => i = w2.heap.size) wr W := (((FV.out.1.trans HF4.out.1 (fun _ _ h => h)).mono (fun _ _ h => h.elim)).trans hI.fr (fun _ _ h => h))
        have hml : w2.heap.size < WL.heap.size := by have := ZL.out; omega
        have hst : k + 1 ≤ 2 ∧ T.So WL W w2.heap.size (T.ups t K (k + 1)) ∧ T.Marks W (D :: ds) ∧ ∀ D' ∈ D :: ds, WL.heap.size ≤ D' := by
          have h4 := HF4.out.2.2
          have h5 := HSo.out.fr.size
          refine ⟨by have := HTOP.out; omega, (S4.out.trans hI), ⟨List.nodup_cons.2 ⟨fun h => ?_, HMk.out.1⟩, fun D' hD' => ?_⟩, fun D' hD' => ?_⟩
          · have := lt_of_row (HMk.out.2 D h)
            omega
          · rcases List.mem_cons.1 hD' with rfl | h
            · exact hK0
            · exact (hfr.block D' (lt_of_row (HMk.out.2 D' h)) (fun e => by have := HMd.out D' h; omega)).trans (HMk.out.2 D' h)
          · rcases List.mem_cons.1 hD' with rfl | h
            · omega
            · exact HMd.out D' h
        have HST := hid hst
        clear hups hD hI hK0 hfr hml hst
        gi_wp2_with fail
        refine And.intro ⟨k + 1, D :: ds, fun i => match i with | 7 => ptr wr.heap.size | 32 => .bool true | 33 => .pointer (some ⟨w2.heap.size + 1 + 1, k, none⟩) | 34 => .int .i64 top | 35 => ptr p | 36 => .int .i64 top | 37 => .func (.func 61) #[] #[ptr B] | 115 => .int .i64 ((k : Int) + 1) | i => u i, rfl, HST⟩ ?_
        show 2 - (intOf (.int .i64 ((k : Int) + 1))).toNat < 2 - (intOf (.int .i64 (k : Int))).toNat
        simp [intOf]
        omega
      case stop =>
        intro D c pre W _ _ h _
        exact h.elim
    · have hk2 : k = 2 := by have := hS.out.1; omega
      subst hk2
      have HSo := hid hS.out.2.1
      have HMk := hid hS.out.2.2
      have GR := hid (GL.out.kept HSo.out.fr (fun i hi e => by subst e; exact hi CM.out))
      have ct : wr.cell? ⟨w1.heap.size, 0, none⟩ = some (ptr p) := cellA (j := 0) (HSo.out.fr.cells TBL.out (by have := lt_of_row TB2.out; omega)) rfl
      have KNN := hid (nodes_any GR.out (fun n x hx => by have := HFEW.out n x hx; have := HL1.out; omega) (by have := HTL.out; have := HL1.out; omega))
      have hfn : Fence.wide.fn 14 := trivial
      have hfl : Fence.wide.fn 11 := trivial
      clear hS hlt
      gi_wp2_with fail
      refine (callsIn_wide.2 KNN.out).mono ?_
      rintro e w5 ⟨za, zc, zs, rfl, hz, hlx, hf5⟩
      have HZ := hid hz
      have NR := hid hlx.nr
      have F5 := hid hf5
      obtain ⟨zn, hzn⟩ : ∃ n, List.length zs = n := ⟨_, rfl⟩
      have HZN := hid hzn
      have hzl : zn ≤ 5000000000000 := by
        have := T.told_len' hz
        have := HTL.out
        have := HL1.out
        omega
      rw [hzn]
      clear hz hlx hf5 hzn ct KNN
      dsimp only
      gi_wp2_with fail
      obtain ⟨wo, rfl⟩ : ∃ z, z = wr := ⟨_, rfl⟩
      gi_loopw [119] (fun i wq => ∃ j : Nat, i = .int .i64 j ∧ Hid (j ≤ zn ∧ Fr (fun _ => False) w5 wq))
        (fun i _ => (zn - intOf i).toNat)
      case atStart => exact ⟨0, rfl, hid ⟨Nat.zero_le _, Fr.refl _ _⟩⟩
      case round =>
        obtain ⟨j, rfl, hall⟩ := hrel
        have hfq : Fr (fun _ => False) w5 wr := hall.out.2
        have hfo : Fr (fun _ => False) wo wr := F5.out.trans hfq (fun _ _ h => h)
        have sbx := hfo.cells (HSo.out.fr.cells SBL.out (by omega)) (fun h => h)
        have hmp := HSo.out.map.kept hfo (fun h => h)
        by_cases hj : j < zn
        · obtain ⟨z, hz⟩ : ∃ z, zs[j]? = some z := ⟨_, List.getElem?_eq_getElem (by rw [HZN.out]; exact hj)⟩
          obtain ⟨g1, o1, rfl, _, a0, a1, a2, a3⟩ := T.flatN_cells (NR.out.1.kept hfq (fun _ _ h => h)) hz
          have hzm := T.told_mem GR.out.wf HZ.out (List.mem_of_getElem? hz)
          have hin : z.1.1 ∈ T.ups t K 2 := by
            rw [T.ups_two]
            exact (T.both_perm GR.out.wf HK.out).mem_iff.2 (List.mem_map.2 ⟨_, A.get_mem hzm.1, rfl⟩)
          have i0 : (0 : Int) ≤ (j : Int) := by omega
          have i1 : (j : Int) < (zn : Int) := by omega
          obtain ⟨VQ, hVQ⟩ : ∃ V, wr.alloc (.cells #[.int .i64 z.1.1, .int .i64 z.1.2.par, .string z.1.2.nm, .slice z.2.1 z.1.2.ats.length z.2.2] 68) = V := ⟨_, rfl⟩
          have fq : Fr (fun _ => False) wr VQ := by rw [← hVQ]; exact Fr.alloc (Fr.refl _ _) _
          have bq : VQ.heap[wr.heap.size]? = some (.cells #[.int .i64 z.1.1, .int .i64 z.1.2.par, .string z.1.2.nm, .slice z.2.1 z.1.2.ats.length z.2.2] 68 (0, 0)) := by rw [← hVQ]; exact Go.heap_alloc_new wr _
          have r0 : VQ.cell? ⟨wr.heap.size, 0, none⟩ = some (.int .i64 z.1.1) := cellA (j := 0) bq rfl
          have cs : VQ.cell? ⟨w2.heap.size + 1, 0, none⟩ = some (.map (some w2.heap.size)) := cellA (j := 0) (fq.cells sbx (fun h => h)) rfl
          have hlk : (Instr.lookup 61 (.map (some w2.heap.size)) (.int .i64 z.1.1) false).run Tryz.prog VQ = .ok (.int .i64 1) VQ := by
            rw [(hmp.kept fq (fun h => h)).look keyI Tryz.underlying61 (T.zeroInt VQ) (keyOfI (GR.out.wf.numwf _ _ hzm.1))]
            unfold T.sg
            rw [if_pos hin]
            rfl
          have HVQ := hid hVQ
          have HREL := hid (show j + 1 ≤ zn ∧ Fr (fun _ => False) w5 VQ from ⟨hj, hfq.trans fq (fun _ _ h => h)⟩)
          clear hall hfq hfo sbx hmp hj hz hzm hin hVQ fq bq
          gi_upto_region 29 with fail
          rw [HVQ.out]
          gi_wp2_with fail
          go_roundw
          case rel => exact ⟨j + 1, by first | rfl | go_num | trivial, HREL⟩
          case measure => simp [intOf]; omega
        · have hjn : j = zn := by have := hall.out.1; omega
          subst hjn
          have ct : wr.cell? ⟨w1.heap.size, 0, none⟩ = some (ptr p) := cellA (j := 0) (hfo.cells (HSo.out.fr.cells TBL.out (by have := lt_of_row TB2.out; omega)) (fun h => h)) rfl
          have cs : wr.cell? ⟨w2.heap.size + 1, 0, none⟩ = some (.map (some w2.heap.size)) := cellA (j := 0) sbx rfl
          have hln := hmp.len Tryz.underlying61 3
          have hll : (T.ups t K 2).length = t.length := by
            rw [T.ups_two]
            have := (T.both_perm GR.out.wf HK.out).length_eq
            rw [List.length_map] at this
            exact this
          rw [hll] at hln
          have KL := hid (tlen_any (GR.out.tf.kept hfo (fun _ _ h => h)))
          obtain ⟨tl, htl⟩ : ∃ z, List.length t = z := ⟨_, rfl⟩
          rw [htl] at hln KL
          have rb : wr.heap[w.heap.size]? = some (.cells #[.bool false] 4 (0, 0)) := hfo.cells (HSo.out.fr.cells (FL.out.cells (F2.out.cells RB.out (fun h => h)) (fun h => h)) (by have h1 := lt_of_row RB.out; have h2 := F2.out.size; omega)) (fun h => h)
          have rb0 : wr.cell? ⟨w.heap.size, 0, none⟩ = some (.bool false) := cellA (j := 0) rb rfl
          have rbz := frozen_of_row (j := 0) rb
          have HH := hid (And.intro hfq hfo)
          clear hall hfq hfo sbx hmp hj htl hll
          gi_wp2_with (first
            | (gi_at_call 11; refine (callsIn_wide.2 KL.out).mono ?_; rintro e wx ⟨rfl, rfl⟩))
          have hx := setCell_row (j := 0) rb (.bool true)
          have fs : Fr (fun i => i = w.heap.size) wr (wr.setCell ⟨w.heap.size, 0, none⟩ (.bool true)) := Fr.setCell (p := ⟨w.heap.size, 0, none⟩) (Fr.refl (fun i => i = w.heap.size) _) (fun _ => rfl) _
          have hwl : w.heap.size < WL.heap.size := by have h1 := lt_of_row RB.out; have h2 := F2.out.size; have := ZL.out; omega
          refine leaves_marks ds _ ⟨HMk.out.1.1, fun D hD => ?_⟩ (fun w' hf => ?_)
          · have g1 := (HH.out.2.block D (lt_of_row (HMk.out.1.2 D hD)) (fun h => h)).trans (HMk.out.1.2 D hD)
            exact (fs.block D (lt_of_row g1) (fun e => by have := HMk.out.2 D hD; omega)).trans g1
          · have hc := cellA (j := 0) (hf.cells hx (fun hi => by have := HMk.out.2 _ hi; omega)) rfl
            refine ⟨.bool true, results_cell1 Tryz.results5 _ _ _ _ _ (by rfl) ?_, rfl, ?_⟩
            · simp [loadVar, hc, go_sem]
            · have h1 := lt_of_row RB.out
              have h2 := F2.out.size
              exact ((((((F0.out.trans F2.out (fun _ _ h => h)).trans FL.out (fun _ _ h => h)).trans HSo.out.fr (fun i hi e => by omega)).trans HH.out.2 (fun _ _ h => h)).trans fs (fun i hi e => by omega)).trans hf (fun i hi e => by have := HMk.out.2 i e; omega))
end Go.Proofs.YtmgnldangjfohaaGreat

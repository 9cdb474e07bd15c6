/-
  What is answered in new memory may be written: Prepare, At (gen/gen_auf.py)
-/
import Derived.Test.YtedhmhlhjonloaaAUf2
import Derived.Test.YtedhmhlhjonloaaACollect
import Derived.Test.YtedhmhlhjonloaaACode2
namespace Go.Proofs.Ytedhmhlhjonloaa
open Go.RowKit Go.Maps Go.Shelf
set_option linter.unusedVariables false
set_option linter.unusedSimpArgs false
attribute [local go_sem] Oper.semAt_some
/-- A ROW OF SLOTTED ENTRIES OF ONE'S OWN, each with its own rows: all in blocks from b on. -/
structure SxU (b : Nat) (w : World) (a : Option Addr) (c : Nat) (xs : List El) : Prop where
  row : Ro w 79 59 a xs.length c (flatE xs)
  new : ∀ k, blk a = some k → b ≤ k
  el : ∀ x ∈ xs, RsU (fun g => b ≤ g ∧ g < w.heap.size ∧ blk a ≠ some g) w x.1 x.2
theorem SxU.nil (b : Nat) (w : World) : SxU b w none 0 [] := ⟨Ro.nil _ _ _, by simp [blk], by simp⟩
theorem SxU.kept {S : Nat → Prop} {b : Nat} {w w' : World} {a : Option Addr} {c : Nat} {xs : List El} (h : SxU b w a c xs) (hf : Fr S w w') (hS : ∀ k, b ≤ k → k < w.heap.size → ¬ S k) : SxU b w' a c xs :=
  ⟨h.row.kept hf (fun j hj => hS j (h.new j hj) (h.row.lt j hj)), h.new, fun x hx => ((h.el x hx).kept hf (fun i hi => hS i hi.1 hi.2.1)).mono (fun i hi => ⟨hi.1, Nat.lt_of_lt_of_le hi.2.1 hf.size, hi.2.2⟩)⟩
theorem SxU.kz {M : Nat → Prop} {b : Nat} {w w' : World} {a : Option Addr} {c : Nat} {xs : List El} (h : SxU b w a c xs) (hk : Kz M w w') (hM : ∀ k, b ≤ k → k < w.heap.size → ¬ M k) : SxU b w' a c xs :=
  ⟨h.row.kc hk.1 (fun j hj => hM j (h.new j hj) (h.row.lt j hj)), h.new, fun x hx => ((h.el x hx).kc hk.1 (fun i hi => hM i hi.1 hi.2.1)).mono (fun i hi => ⟨hi.1, Nat.lt_of_lt_of_le hi.2.1 hk.2, hi.2.2⟩)⟩
/-- one more, whose rows are new -/
theorem SxU.more {b : Nat} {w0 w w' : World} {a a' : Option Addr} {c c' : Nat} {xs : List El} {x : El} (h : SxU b w0 a c xs) (hf0 : Kz (fun _ => False) w0 w) (hx : RsU (fun g => w0.heap.size ≤ g ∧ g < w.heap.size) w x.1 x.2) (hb : b ≤ w0.heap.size) (hf : Fr (fun k => blk a = some k) w w') (hr : Ro w' 79 59 a' (xs.length + 1) c' (flatE xs ++ x.1.toList)) (hn : ∀ k, blk a' = some k → blk a = some k ∨ w.heap.size ≤ k) : SxU b w' a' c' (xs ++ [x]) := by
  have hlt : ∀ k, blk a = some k → k < w0.heap.size := h.row.lt
  refine ⟨by rw [flatE_append, flatE_one, List.length_append]; exact hr, fun k hk => ?_, fun y hy => ?_⟩
  · rcases hn k hk with h1 | h1
    · exact h.new k h1
    · exact Nat.le_trans hb (Nat.le_trans hf0.2 h1)
  · have hs := hf.size
    have hs0 := hf0.2
    rcases List.mem_append.1 hy with hy | hy
    · refine (((h.el y hy).kc hf0.1 (fun _ _ h => h)).kept hf (fun i hi e => hi.2.2 e)).mono (fun i hi => ⟨hi.1, by omega, fun e => ?_⟩)
      rcases hn i e with h1 | h1
      · exact hi.2.2 h1
      · omega
    · simp at hy
      subst hy
      refine (hx.kept hf (fun i hi e => by have := hlt i e; omega)).mono (fun i hi => ⟨by omega, by omega, fun e => ?_⟩)
      rcases hn i e with h1 | h1
      · have := hlt i h1; omega
      · omega

/-- what has been gathered: in the variable's block x, above it the rows -/
def GaU (w1 : World) (x : Nat) (ls : List A.Sd) (pre : List El) (W : World) : Prop :=
  ∃ a c, W.heap[x]? = some (.cells #[.slice a pre.length c] 28 (0, 0)) ∧ SxU (x + 1) W a c pre ∧ pre.map Prod.snd <+: ls ∧ Fr (fun k => k = x) w1 W
theorem GaU.own {w1 : World} {x : Nat} {ls : List A.Sd} : OwnFrom w1.heap.size (GaU w1 x ls) := fun pre W W' row h hg hr => by
  obtain ⟨a, c, h1, h2, h3, h4⟩ := h
  have hk : Kz (fun _ => False) W W' := Kz.grown hg (fun r e => (hr r e).2)
  exact ⟨a, c, (hk.1 _ _ _ _ h1 (fun h => h)).trans h1, h2.kz hk (fun _ _ _ h => h), h3, h4.own hg (fun r e => (hr r e).1)⟩
/-- .. and one more is at hand, in the block v -/
def GvU (w1 : World) (x : Nat) (ls : List A.Sd) (t : Array Value) (pre : List El) (y : El) (a1 : Act) (W : World) : Prop :=
  ∃ v a c W0, a1 = { tmps := (t.setIfInBounds 7 (.agg y.1)).setIfInBounds 5 (ptrV v), defers := [] } ∧ W.heap[v]? = some (.cells y.1 79 (0, 0)) ∧ W.heap[x]? = some (.cells #[.slice a pre.length c] 28 (0, 0)) ∧ SxU (x + 1) W0 a c pre ∧ Kz (fun _ => False) W0 W ∧ x < W0.heap.size ∧
    RsU (fun g => W0.heap.size ≤ g ∧ g < W.heap.size) W y.1 y.2 ∧ pre.map Prod.snd ++ [y.2] <+: ls ∧ Fr (fun k => k = x) w1 W
theorem GvU.put {w1 : World} {x : Nat} {ls : List A.Sd} {t : Array Value} {pre : List El} {y : El} {a1 : Act} {W : World} (h : GvU w1 x ls t pre y a1 W) {l : Nat} {o : Obj} (o' : Obj) (hl : w1.heap.size ≤ l) (ho : W.heap[l]? = some o) (hc : o.isCells = false) : GvU w1 x ls t pre y a1 (W.putObj l o') := by
  obtain ⟨v, a, c, W0, h1, h2, h3, h4, h5, h6, h7, h8, h9⟩ := h
  have hk : Kz (fun _ => False) W (W.putObj l o') := Kz.putObj o' ho hc
  exact ⟨v, a, c, W0, h1, (hk.1 _ _ _ _ h2 (fun h => h)).trans h2, (hk.1 _ _ _ _ h3 (fun h => h)).trans h3, h4, h5.trans hk, h6, (h7.kc hk.1 (fun _ _ h => h)).mono (fun i hi => ⟨hi.1, Nat.lt_of_lt_of_le hi.2 hk.2⟩), h8, h9.trans (Fr.of_grown (grownBy_putObj' W l o')) (fun i hi e => by simp at e; omega)⟩
set_option maxRecDepth 100000 in
set_option maxHeartbeats 4000000 in
theorem appendSeqU_any {K : Nat → Prop} {w : World} {B rc : Nat} {ra : Option Addr} {gs : List SM} (hR : It K w B ra rc gs) (hK : ∀ k, K k → k < w.heap.size) (hb : gs.length ≤ 300000000000) :
    Calls Try.prog 60 #[.slice none 0 0, .func (.func 46) #[] #[ptrV B]] w fun e w' => ∃ a c xs, e = .returned (.slice a (List.length xs) c) ∧ List.map Prod.snd xs = gs.map (·.s) ∧ SxU w.heap.size w' a c xs ∧ Fr (fun _ => False) w w' := by
  refine (callsIn_wide (n := 9)).1 ?_
  refine callsIn_of_wp_marks Try.func60 rfl trivial ?_ rfl
  simp only [Try.ntmps60, List.size_toArray, List.length_cons, List.length_nil, Nat.reduceAdd, Nat.reduceSub, Array.replicate_succ, Array.replicate_zero, List.push_toArray, List.append_toArray, List.nil_append, List.cons_append]
  obtain ⟨w1, hw1⟩ : ∃ w1, w.alloc (.cells #[.slice none 0 0] 28) = w1 := ⟨_, rfl⟩
  have f1 : Fr (fun _ => False) w w1 := by rw [← hw1]; exact Fr.alloc (Fr.refl _ _) _
  have hs1 : w1.heap.size = w.heap.size + 1 := by rw [← hw1]; simp
  have hx1 : w1.heap[w.heap.size]? = some (.cells #[.slice none 0 0] 28 (0, 0)) := by rw [← hw1]; exact Go.heap_alloc_new w _
  have hR1 := hR.kc (Kc.of_fr (M := fun k => ¬ K k) f1) (fun k h n => n h)
  have HB := hid hb
  have HK := hid hK
  have HX1 := hid hx1
  have HS1 := hid hs1
  have F1 := hid f1
  have HSQ := hid (all1U_seq 8 (by omega) B rc ra gs K (fun k => ¬ K k) w1 hR1 (fun k h n => n h) (by omega))
  have HLS := hid (show (gs.map (·.s)).length ≤ 300000000000 by simpa using hb)
  generalize gs.map (·.s) = ls at HSQ HLS ⊢
  have HW1 := hid hw1
  clear hR hb hK f1 hs1 hx1 hR1 hw1
  gi_wp2_with fail
  rw [HW1.out]
  refine wp_of_actC (fun a0 ha0 => ?_)
  refine wpIn_rangeV (w := w1) rfl (by omega) (gf := 46) (lb := #[ptrV B]) (by rw [ha0]; rfl) trivial (enters_of Try.func46 (by kernel_rfl) rfl)
    HSQ.out (Below.refl _ _) (fun _ => rfl) (fun h k => h.trans k) (fun W l o o' hl hW hc _ => Kz.putObj o' hW hc)
    (GaU w1 w.heap.size ls) (fun _ _ _ => False) (GvU w1 w.heap.size ls a0.tmps) GaU.own (fun c s W W' row h _ _ => h.elim) ⟨none, 0, HX1.out, SxU.nil _ _, ⟨ls, rfl⟩, Fr.refl _ _⟩
    (fun pre x a1 W l o o' hl hW hc _ h => h.put o' hl hW hc) ?assign ?body ?done ?stop
  case assign =>
    subst ha0
    rintro l pre x W0 W Kn ⟨a, c, hbx, hsx, hpf, hfr⟩ hfW ⟨hv1, hv2⟩ hK
    have hz := hv2.size
    obtain ⟨V, st, hbV, fV⟩ := box_whole (V := W.alloc (.cells zS59 79)) (Go.heap_alloc_new W _) (by rw [hz]; rfl) (by rw [hz]; kernel_rfl) hv2.one
    have fW : Fr (fun _ => False) W V := (Fr.alloc (Fr.refl (fun _ => False) W) _).trans fV (fun i hi e => by omega)
    have hsV := fW.size
    have hxW := hfW.cells hbx (fun h => h)
    have hxl := lt_of_row hbx
    have fin : KeepsFrom w1.heap.size W V ∧ Kz (fun k => ¬ K k) W V ∧ ∀ t, GvU w1 w.heap.size ls t pre x { tmps := (t.setIfInBounds 7 (.agg x.1)).setIfInBounds 5 (ptrV W.heap.size), defers := [] } V :=
      ⟨⟨hsV, fun k o _ hk _ => fW.cells hk (fun h => h)⟩, Kz.of_fr fW, fun t => ⟨W.heap.size, a, c, W0, rfl, hbV, fW.cells hxW (fun h => h), hsx, (Kz.of_fr hfW).trans (Kz.of_fr fW), hxl, (hv2.kept fW (fun _ _ h => h)).mono (fun i hi => ⟨hi.1, by omega⟩), hv1, (hfr.trans (hfW.mono (fun _ _ h => h.elim)) (fun _ _ h => h)).trans (fW.mono (fun _ _ h => h.elim)) (fun _ _ h => h)⟩⟩
    have ST := hid st
    have FIN := hid fin
    have HK2 := hid hK
    clear hbx hsx hpf hfr hfW hv1 hv2 hz st hbV fV fW hsV hxW hxl fin hK
    gi_wp2_with (first
      | (refine wpListIn_store_v (by exact ST.out) rfl (by exact ⟨_, _, rfl, rfl, rfl⟩) ?_))
    exact HK2.out _ _ FIN.out.1 FIN.out.2.1 (FIN.out.2.2 _)
  case body =>
    subst ha0
    rintro l pre x a1 W ⟨v, a, c, W0, rfl, hv, hbx, hsx, hkz, hxl, hrs, hpf, hfr⟩
    have hz := hrs.size
    have hpl : pre.length < 300000000000 := by
      have h1 := hpf.length_le
      have h2 := HLS.out
      rw [List.length_append, List.length_map] at h1
      simp only [List.length_cons, List.length_nil] at h1
      omega
    have hb1 : w.heap.size + 1 ≤ W0.heap.size := hxl
    have hsx' := hsx.kz hkz (fun _ _ _ h => h)
    obtain ⟨a', c', W2, hr, hro, hf2, hn2⟩ := sd_append W a c pre.length (flatE pre) hsx'.row (by omega) x.1 hz (fun u hu => by have := hrs.one; rw [Array.all_eq_true_iff_forall_mem] at this; exact this u (by simpa using hu))
    have hmore := hsx.more hkz hrs hb1 hf2 hro hn2
    have hna : blk a ≠ some w.heap.size := fun e => by have := hsx.new _ e; omega
    have hx2 := hf2.cells hbx hna
    have LD := hid (load_whole (ty := 79) hv Try.underlying79 rfl (by rw [hz]; kernel_rfl))
    have cb : W.cell? ⟨w.heap.size, 0, none⟩ = some (.slice a pre.length c) := cellA hbx rfl
    have c2 : W2.cell? ⟨w.heap.size, 0, none⟩ = some (.slice a pre.length c) := cellA hx2 rfl
    have z2 := frozen_of_row (j := 0) hx2
    have hfo : Array.foldl (fun (cs : Array Value) x => cs.setIfInBounds x.2 x.1) zS59 x.1.zipIdx 0 59 = x.1 := fold_set0 59 x.1 zS59 hz rfl
    have hr2 := hr
    rw [← hfo] at hr2
    have fs : Fr (fun k => k = w.heap.size) W2 (W2.setCell ⟨w.heap.size, 0, none⟩ (.slice a' (pre.length + 1) c')) := Fr.setCell (p := ⟨w.heap.size, 0, none⟩) (S := fun k => k = w.heap.size) (Fr.refl _ _) (fun _ => rfl) _
    have hs2 := hf2.size
    have fin : KeepsFrom w1.heap.size W (W2.setCell ⟨w.heap.size, 0, none⟩ (.slice a' (pre.length + 1) c')) ∧ Kz (fun k => ¬ K k) W (W2.setCell ⟨w.heap.size, 0, none⟩ (.slice a' (pre.length + 1) c')) ∧ GaU w1 w.heap.size ls (pre ++ [x]) (W2.setCell ⟨w.heap.size, 0, none⟩ (.slice a' (pre.length + 1) c')) := by
      refine ⟨⟨Nat.le_trans hs2 fs.size, fun k o hk h1 hc => ?_⟩, ?_, a', c', ?_, hmore.kept fs (fun k hk _ e => by omega), by rw [List.map_append]; exact hpf, ?_⟩
      · have h2 : W2.heap[k]? = some o := by
          rw [hf2.block k (lt_of_row h1) (fun e => ?_)]
          · exact h1
          · rcases hsx'.row.2 with ⟨h3, _⟩ | ⟨g, o', cur, h3, h4, _⟩
            · rw [h3] at e; simp [blk] at e
            · rw [h3] at e
              simp [blk] at e
              subst e
              rw [h4] at h1
              cases h1
              cases hc
        exact fs.cells h2 (fun e => by have := HS1.out; omega)
      · refine (Kz.of_fr' hf2).mono (fun k hk h => ?_) |>.trans ((Kz.of_fr' fs).mono (fun k hk h => ?_))
        · have h3 := hsx.new k hk
          have h4 := HK.out k h
          omega
        · have h4 := HK.out k h
          omega
      · rw [setCell_row hx2, List.length_append]; rfl
      · refine (hfr.trans hf2 (fun i hi e => ?_)).trans fs (fun _ _ h => h)
        have h3 := hsx.new i e
        have h4 := HS1.out
        omega
    have R2 := hid hr2
    have FIN := hid fin
    clear hv hbx hsx hkz hxl hrs hpf hfr hpl hb1 hsx' hr hro hf2 hn2 hmore hna hx2 hfo hr2 fs hs2 fin
    gi_wp2_with (first
      | (refine wpListIn_load_v LD.out rfl (by exact ⟨_, rfl, rfl⟩) ?_)
      | (gi_at_builtin; refine wpListIn_append_eq _ _ rfl (.tmp 8) (.tmp 10) _ rfl _ _ _ rfl rfl (by exact R2.out) ?_))
    exact FIN.out
  case done =>
    subst ha0
    rintro D0 xs W0 hD hxs ⟨a, c, hbx, hsx, hpf, hfr⟩ hK0
    have c1 : W0.cell? ⟨w.heap.size, 0, none⟩ = some (.slice a xs.length c) := cellA hbx rfl
    have HBX := hid hbx
    have HSX := hid hsx
    have HFR := hid hfr
    have HXS := hid hxs
    obtain ⟨n, hn⟩ : ∃ n, xs.length = n := ⟨_, rfl⟩
    rw [hn] at c1
    have HN := hid hn
    clear hbx hsx hpf hfr hxs hn
    gi_wp2
    refine ⟨by simp, .inl ⟨_, _, rfl, run_takeDeferred hK0, ?_⟩⟩
    refine ⟨.slice a n c, by simp [results, Try.f60, go_sem], a, c, xs, by rw [HN.out], HXS.out, ?_, ?_⟩
    · have h1 := HSX.out.kz (Kz.putObj (M := fun _ => False) (.deferred none) hK0 rfl) (fun _ _ _ h => h)
      exact ⟨h1.row, fun k hk => by have := h1.new k hk; omega, fun x hx => (h1.el x hx).mono (fun i hi => ⟨by omega, hi.2⟩)⟩
    · have h2 := HS1.out
      refine (F1.out.trans HFR.out (fun i hi e => by omega)).trans (Fr.of_grown (grownBy_putObj' _ D0 _)) (fun i hi e => by simp at e; omega)
  case stop =>
    intro D c pre W _ _ h _
    exact h.elim

theorem collectU_any {K : Nat → Prop} {w : World} {B rc : Nat} {ra : Option Addr} {gs : List SM} (hR : It K w B ra rc gs) (hK : ∀ k, K k → k < w.heap.size) (hb : gs.length ≤ 300000000000) :
    Calls Try.prog 50 #[.func (.func 46) #[] #[ptrV B]] w fun e w' => ∃ a c xs, e = .returned (.slice a (List.length xs) c) ∧ List.map Prod.snd xs = gs.map (·.s) ∧ SxU w.heap.size w' a c xs ∧ Fr (fun _ => False) w w' := by
  have KA := hid (appendSeqU_any hR hK hb)
  generalize gs.map (·.s) = ls at KA ⊢
  clear hR hK hb
  go_enter Try.func50, Try.ntmps50
  go_wp2_with (first | (go_at_call 60; refine KA.out.mono ?_; rintro e w1 ⟨a, c, xs, rfl, h1, h2, h3⟩; have H1 := hid (And.intro h1 (And.intro h2 h3)); clear h1 h2 h3; obtain ⟨n, hn⟩ : ∃ n, xs.length = n := ⟨_, rfl⟩; rw [hn]; have HN := hid hn; clear hn))
  go_ret
  exact ⟨a, c, xs, by rw [HN.out]; rfl, H1.out⟩
set_option maxHeartbeats 3200000 in
set_option maxRecDepth 20000 in
theorem acPrepareU_any {I : Nat → Prop} {w : World} {p mb : Nat} {a : A.Ac} (h : At_ I w p mb a) (b1 b2 k : Int) (hl : a.l.length ≤ 300000000000) :
    Calls Try.prog 25 #[ptrV p, .agg #[.int .i64 b1, .int .i64 b2], .int .i64 k] w fun r w' => ∃ ra rc xs, r = .returned (.tuple #[.slice ra (List.length xs) rc, .int .i64 (A.prepare a (b1, b2) k).1]) ∧ List.map Prod.snd xs = (A.prepare a (b1, b2) k).2.1 ∧ SxU w.heap.size w' ra rc xs ∧ At_ I w' p mb (A.prepare a (b1, b2) k).2.2 ∧ Fr (fun k => k = p) w w' := by
  have KJ := hid (fun (W : World) (hf : Fr (fun _ => False) w W) => acJudge_any (h.fr hf) b1 b2 k)
  obtain ⟨R, hR⟩ : ∃ x, A.prepare a (b1, b2) k = x := ⟨_, rfl⟩
  rw [hR]
  have HR := hid hR
  generalize hj : A.judge a (b1, b2) k = j at KJ
  have f0 : Fr (fun _ => False) w (w.alloc (.cells #[.int .i64 b1, .int .i64 b2] 27)) := Fr.alloc (Fr.refl _ _) _
  have bb : (w.alloc (.cells #[.int .i64 b1, .int .i64 b2] 27)).heap[w.heap.size]? = some (.cells #[.int .i64 b1, .int .i64 b2] 27 (0, 0)) := Go.heap_alloc_new w _
  have HH := hid h
  have HJ := hid hj
  have F0 := hid f0
  have BB := hid bb
  clear h hj f0 bb hR
  go_enter Try.func25, Try.ntmps25
  go_wp2_with fail
  refine (KJ.out _ F0.out).mono ?_
  rintro r w1 ⟨rfl, f1⟩
  have F1 := hid (F0.out.trans f1 (fun _ _ h => h))
  have B1 := hid (f1.cells BB.out (fun h => h))
  have AT1 := hid (HH.out.fr F1.out)
  clear f1
  by_cases hj0 : j = 0
  · subst hj0
    have hacc : A.prepare a (b1, b2) k = (0, (A.from_ k a.l).map (·.2), { a with pr := (b1, b2) }) := by unfold A.prepare; rw [HJ.out, if_neg (fun h => h rfl)]
    rw [HR.out] at hacc
    have HA := hid hacc
    have pk := AT1.out.k
    have p0 : w1.cell? ⟨p, 0, none⟩ = some (.int .i64 a.pr.1) := cellA pk rfl
    have p1 : w1.cell? ⟨p, 1, none⟩ = some (.int .i64 a.pr.2) := cellA pk rfl
    have z0 := frozen_of_row (j := 0) pk
    have z1 := frozen_of_row (j := 1) pk
    have d0 : w1.cell? ⟨w.heap.size, 0, none⟩ = some (.int .i64 b1) := cellA B1.out rfl
    have d1 : w1.cell? ⟨w.heap.size, 1, none⟩ = some (.int .i64 b2) := cellA B1.out rfl
    have pr0 := setCell_row (j := 1) (setCell_row (j := 0) pk (.int .i64 b1)) (.int .i64 b2)
    have at2 := At_.promise AT1.out (b1, b2) Fr.setCell2 (by exact pr0)
    have f2 : Fr (fun k => k = p) w ((w1.setCell ⟨p, 0, none⟩ (.int .i64 b1)).setCell ⟨p, 1, none⟩ (.int .i64 b2)) := (F1.out.mono (fun _ _ h => h.elim)).trans Fr.setCell2 (fun _ _ h => h)
    have hne : w.heap.size ≠ p := by have := HH.out.2.1; omega
    have AT2 := hid at2
    have F2 := hid f2
    clear hacc pk pr0 at2 f2
    generalize a.pr.1 = x1 at p0
    generalize a.pr.2 = x2 at p1
    go_wp2_with fail
    generalize hw2 : (w1.setCell ⟨p, 0, none⟩ (.int .i64 b1)).setCell ⟨p, 1, none⟩ (.int .i64 b2) = w2 at AT2 F2 ⊢
    clear hw2 p0 p1 z0 z1 d0 d1
    obtain ⟨hI2, hp2, hm2, l, ham⟩ := AT2.out
    have hln : l.length = a.l.length := by
      have := congrArg List.length ham.ls
      rw [A.length_mp] at this
      exact this
    have hfl := ham.from_ls k
    refine (acAll_any ham k (by omega) hm2 hI2).mono ?_
    rintro r w3 ⟨B, ra, rc, rfl, hit, f3⟩
    have hgl : ((A.from_ k l).map (·.2)).length ≤ 300000000000 := by
      rw [List.length_map]
      have : (A.from_ k l).length ≤ l.length := List.length_filter_le _ _
      omega
    have KC := hid (collectU_any hit (fun k hk => by
      rcases hk with hk | hk
      · have h1 := hI2 k hk
        have h2 := f3.size
        omega
      · exact hk.2) hgl)
    rw [hfl] at KC
    have F3 := hid f3
    clear hI2 hp2 hm2 ham hln hfl hit hgl f3
    go_wp2_with (first | (go_at_call 50; refine KC.out.mono ?_; rintro e w4 ⟨a4, c4, xs, rfl, h1, h2, h3⟩; have H1 := hid (And.intro h1 (And.intro h2 h3)); clear h1 h2 h3; obtain ⟨n, hn⟩ : ∃ n, xs.length = n := ⟨_, rfl⟩; rw [hn]; have HN := hid hn; clear hn))
    go_ret2
    obtain ⟨h1, h2, h3⟩ := H1.out
    have hs2 := F2.out.size
    have hs3 := F3.out.size
    have f4 := F3.out.trans h3 (fun _ _ h => h)
    rw [HA.out]
    exact ⟨a4, c4, xs, by rw [HN.out]; rfl, h1, ⟨h2.row, fun k hk => by have := h2.new k hk; omega, fun x hx => (h2.el x hx).mono (fun i hi => ⟨by omega, hi.2⟩)⟩, AT2.out.fr f4, F2.out.trans f4 (fun _ _ h => h.elim)⟩
  · have hacc : A.prepare a (b1, b2) k = (j, [], a) := by unfold A.prepare; rw [HJ.out, if_pos hj0]
    rw [HR.out] at hacc
    have HA := hid hacc
    clear hacc
    have hb : (j == 0) = false := by simpa using hj0
    go_wp2
    go_ret2
    rw [HA.out]
    exact ⟨none, 0, [], rfl, rfl, SxU.nil _ _, AT1.out, F1.out.mono (fun _ _ h => h.elim)⟩
theorem A.zsd_rsU (I : Nat → Prop) (w : World) : RsU I w zS59 A.zsd := ⟨A.zfx, rfl, A.zen_ok, none, 0, none, 0, rfl, RwU.nil _ _ _ _ _, RwU.nil _ _ _ _ _⟩
set_option maxHeartbeats 3200000 in
set_option maxRecDepth 20000 in
theorem acAtU_any {I : Nat → Prop} {w : World} {p mb : Nat} {a : A.Ac} (h : At_ I w p mb a) (f : Int) (h0 : -9223372036854775808 ≤ f) (h1 : f ≤ 9223372036854775807) :
    Calls Try.prog 31 #[ptrV p, .int .i64 f] w fun e w' => ∃ cs, e = .returned (.tuple #[.agg cs, .bool (A.get f a.l).isSome]) ∧ RsU (fun g => w.heap.size ≤ g ∧ g < w'.heap.size) w' cs ((A.get f a.l).getD A.zsd) ∧ Fr (fun _ => False) w w' := by
  obtain ⟨W, hW⟩ : ∃ W, w.alloc (.cells zS59 79) = W := ⟨_, rfl⟩
  have f0 : Fr (fun _ => False) w W := by rw [← hW]; exact Fr.alloc (Fr.refl _ _) _
  have b0 : W.heap[w.heap.size]? = some (.cells zS59 79 (0, 0)) := by rw [← hW]; exact Go.heap_alloc_new w _
  have hsz : W.heap.size = w.heap.size + 1 := by rw [← hW]; simp
  obtain ⟨hI, hp, hm, l, ham⟩ := h.fr f0
  have KM := hid (acMade_any (cellA (j := 3) ham.at_ rfl))
  have c3 : W.cell? ⟨p, 3, none⟩ = some (.map (some mb)) := cellA ham.at_ rfl
  have hlk := ham.mp.look h0 h1
  have hgs : A.get f (A.mp SM.g l) = (A.get f l).map SM.g := A.get_mp SM.g f l
  have hga : A.get f a.l = (A.get f l).map SM.s := by rw [← ham.ls, A.get_mp]
  rw [hgs] at hlk
  rw [hga]
  have HW := hid hW
  have F0 := hid f0
  have B0 := hid b0
  have HSZ := hid hsz
  unfold zS59 at HW
  cases hg : A.get f l with
  | none =>
    rw [hg] at hlk
    simp only [Option.map_none, Option.isSome_none, Option.getD_none] at hlk ⊢
    obtain ⟨V, st, lr, fV⟩ := box_back (c := zS59) b0 (Nat.le_refl _) (by kernel_rfl) (A.zsd_rs (fun _ => False) w).one Try.underlying79 rfl
    have fin : RsU (fun g => w.heap.size ≤ g ∧ g < V.heap.size) V zS59 A.zsd ∧ Fr (fun _ => False) w V := ⟨A.zsd_rsU _ V, f0.trans fV (fun i hi e => by omega)⟩
    obtain ⟨va, hva⟩ : ∃ va, Value.agg zS59 = va := ⟨_, rfl⟩
    rw [hva] at st lr
    have HVA := hid hva
    have ST := hid st
    have LR := hid lr
    have FIN := hid fin
    clear hW f0 b0 hI hp hm ham hgs hga hg st lr fV fin hva hsz
    go_enter Try.func31, Try.ntmps31
    go_wp2_with fail
    rw [HW.out]
    refine KM.out.mono ?_
    rintro e w2 ⟨rfl, rfl⟩
    go_wp2_with (first
      | (refine wpList_store_v ST.out (by exact ⟨_, _, rfl, rfl, HVA.out⟩) (by kernel_rfl) ?_))
    exact bodyPost_ret (v := .tuple #[va, .bool false]) (results_cell2 Try.results31 _ _ _ _ _ _ (by rfl) LR.out (by rfl)) rfl ⟨zS59, by rw [HVA.out], FIN.out⟩
  | some m =>
    rw [hg] at hlk
    simp only [Option.map_some, Option.isSome_some, Option.getD_some] at hlk ⊢
    obtain ⟨e1, e2, cs, e3, e4⟩ := ham.sl _ (A.get_mem hg)
    simp only at e3 e4
    have LD := hid (load_whole (ty := 79) e3 Try.underlying79 rfl (by rw [e4.size]; kernel_rfl))
    have KC := hid (clonedU_any e4)
    clear hW f0 b0 hI hp hm ham hgs hga hg e1 e2 e3 e4 hsz
    go_enter Try.func31, Try.ntmps31
    go_wp2_with fail
    rw [HW.out]
    refine KM.out.mono ?_
    rintro e w2 ⟨rfl, rfl⟩
    go_wp2_with (first
      | (refine wpList_load_v LD.out (by exact ⟨_, rfl, rfl⟩) (by kernel_rfl) ?_))
    refine KC.out.mono ?_
    rintro e w3 ⟨c3', rfl, r3, f3⟩
    have hz := r3.size
    obtain ⟨V, st, lr, fV⟩ := box_back (c := c3') (f3.cells B0.out (fun h => h)) (by rw [hz]; exact Nat.le_refl _) (by rw [hz]; kernel_rfl) r3.one Try.underlying79 rfl
    have fin : RsU (fun g => w.heap.size ≤ g ∧ g < V.heap.size) V c3' m.s ∧ Fr (fun _ => False) w V := by
      have h3 := fV.size
      have h4 := HSZ.out
      refine ⟨(r3.kept fV (fun i hi e => by omega)).mono (fun i hi => by omega), (F0.out.trans f3 (fun _ _ h => h)).trans fV (fun i hi e => by omega)⟩
    have ST := hid st
    have LR := hid lr
    have FIN := hid fin
    clear r3 f3 st lr fV fin
    go_wp2_with (first
      | (refine wpList_store_v ST.out (by exact ⟨_, _, rfl, rfl, rfl⟩) (by kernel_rfl) ?_))
    exact bodyPost_ret (v := .tuple #[.agg c3', .bool true]) (results_cell2 Try.results31 _ _ _ _ _ _ (by rfl) LR.out (by rfl)) rfl ⟨c3', rfl, FIN.out⟩
end Go.Proofs.Ytedhmhlhjonloaa

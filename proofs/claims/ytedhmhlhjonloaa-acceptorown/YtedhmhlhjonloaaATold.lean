/-
  told: does an iterator tell just a list, as far as it is asked, and again?
-/
import Derived.Test.YtedhmhlhjonloaaARef2
namespace Go.Proofs.Ytedhmhlhjonloaa
open Go.RowKit Go.Maps Go.Shelf
set_option linter.unusedVariables false
set_option linter.unusedSimpArgs false
attribute [local go_sem] Oper.semAt_some

theorem inBlock_both {id : Nat} {Q : Exit → Act → World → Prop} {e : Exit} {a : Act} {W : World} (he : e = .normal ∨ e = .exit id) (h : Q .normal a W) : Exit.inBlock id Q e a W := by
  rcases he with rfl | rfl
  · exact h
  · simp only [Exit.inBlock, if_true]; exact h
/-- .. and one more is at hand, in the block v -/
def Gw (w1 : World) (x : Nat) (ls : List A.Sd) (t : Array Value) (pre : List El) (y : El) (a1 : Act) (W : World) : Prop :=
  ∃ v a c W0, a1 = { tmps := (t.setIfInBounds 12 (.agg y.1)).setIfInBounds 8 (ptrV v), defers := [] } ∧ W.heap[v]? = some (.cells y.1 79 (0, 0)) ∧ W.heap[x]? = some (.cells #[.slice a pre.length c] 28 (0, 0)) ∧ Sx (x + 1) W0 a c pre ∧ Kz (fun _ => False) W0 W ∧ x < W0.heap.size ∧
    Rs (fun g => W0.heap.size ≤ g ∧ g < W.heap.size) W y.1 y.2 ∧ pre.map Prod.snd ++ [y.2] <+: ls ∧ Fr (fun k => k = x) w1 W
theorem Gw.put {w1 : World} {x : Nat} {ls : List A.Sd} {t : Array Value} {pre : List El} {y : El} {a1 : Act} {W : World} (h : Gw w1 x ls t pre y a1 W) {l : Nat} {o : Obj} (o' : Obj) (hl : w1.heap.size ≤ l) (ho : W.heap[l]? = some o) (hc : o.isCells = false) : Gw w1 x ls t pre y a1 (W.putObj l o') := by
  obtain ⟨v, a, c, W0, h1, h2, h3, h4, h5, h6, h7, h8, h9⟩ := h
  have hk : Kz (fun _ => False) W (W.putObj l o') := Kz.putObj o' ho hc
  exact ⟨v, a, c, W0, h1, (hk.1 _ _ _ _ h2 (fun h => h)).trans h2, (hk.1 _ _ _ _ h3 (fun h => h)).trans h3, h4, h5.trans hk, h6, (h7.kc hk.1 (fun _ _ h => h)).mono (fun i hi => ⟨hi.1, Nat.lt_of_lt_of_le hi.2 hk.2⟩), h8, h9.trans (Fr.of_grown (grownBy_putObj' W l o')) (fun i hi e => by simp at e; omega)⟩
/-- what is left by the range: the list in its box -/
def Gd (w1 : World) (x : Nat) (ls : List A.Sd) (nW : Nat) (stop : Int) (W : World) (xs : List El) : Prop :=
  Ga w1 x ls xs W ∧ (xs.length = ls.length ∨ (xs.length : Int) = stop ∨ nW < xs.length)
def Gm (a0 : Act) (u : World) (nb : Nat) (ls : List A.Sd) (nW : Nat) (stop : Int) (e : Exit) (a' : Act) (W' : World) : Prop :=
  (e = .normal ∨ e = .exit 2) ∧ ∃ D xs, a' = { a0 with defers := { target := .collected D, args := #[] } :: a0.defers } ∧ u.heap.size ≤ D ∧ Gd u nb ls nW stop W' xs ∧ W'.heap[D]? = some (.deferred (some []))
/-- what told answers -/
def Told (w : World) (p : Prop) (e : Ending) (w' : World) : Prop := ∃ b : Bool, e = .returned (.bool b) ∧ (p → b = true) ∧ Fr (fun _ => False) w w'
set_option maxRecDepth 100000 in
set_option maxHeartbeats 16000000 in
theorem told_any {K J : Nat → Prop} {w : World} {B rc : Nat} {ra : Option Addr} {gs : List SM} (hR : It K w B ra rc gs) (hK : ∀ k, K k → k < w.heap.size) (hb : gs.length ≤ 300000000000) {wa : Option Addr} {wc : Nat} {ys : List El} (hw : Ls J w wa ys) (hwc : ys.length ≤ wc) (stop : Int) :
    Calls Try.prog 15 #[.func (.func 46) #[] #[ptrV B], .slice wa ys.length wc, .int .i64 stop] w fun e w' => Told w (gs.map (·.s) = ys.map Prod.snd) e w' := by
  refine (callsIn_wide (n := 9)).1 ?_
  refine callsIn_of_wp_marks Try.func15 rfl trivial ?_ rfl
  simp only [Try.ntmps15, List.size_toArray, List.length_cons, List.length_nil, Nat.reduceAdd, Nat.reduceSub, Array.replicate_succ, Array.replicate_zero, List.push_toArray, List.append_toArray, List.nil_append, List.cons_append]
  obtain ⟨nW, hnW⟩ : ∃ n, ys.length = n := ⟨_, rfl⟩
  obtain ⟨wz, hwz⟩ : ∃ wz, (w.alloc (.cells #[.slice wa nW wc] 28)).alloc (.cells #[.int .i64 stop] 3) = wz := ⟨_, rfl⟩
  have fz : Fr (fun _ => False) w wz := by rw [← hwz]; exact Fr.alloc (Fr.alloc (Fr.refl _ _) _) _
  have bz0 : wz.heap[w.heap.size]? = some (.cells #[.slice wa nW wc] 28 (0, 0)) := by rw [← hwz]; exact (Below.heap_alloc _ _ _ (by simp)).trans (Go.heap_alloc_new w _)
  have bz1 : wz.heap[w.heap.size + 1]? = some (.cells #[.int .i64 stop] 3 (0, 0)) := by
    have := Go.heap_alloc_new (w.alloc (.cells #[.slice wa nW wc] 28)) (.cells #[.int .i64 stop] 3)
    rw [World.size_alloc] at this
    rw [← hwz]; exact this
  rw [hnW]
  have HNW := hid hnW
  have HLS := hid (show (gs.map (·.s)).length ≤ 300000000000 by simpa using hb)
  have HRR := hid (fun (V : World) (hf : Fr (fun _ => False) w V) => hR.kc (Kc.of_fr (M := fun _ => False) hf) (fun _ _ h => h))
  have HSQ := hid (fun (V : World) (hf : Fr (fun _ => False) w V) => all1_seq 8 (by omega) B rc ra gs K (fun k => ¬ K k) V (hR.kc (Kc.of_fr (M := fun k => ¬ K k) hf) (fun k h n => n h)) (fun k h n => n h) (by omega))
  have HK := hid hK
  have HW := hid hw
  have HWC := hid hwc
  have FZ := hid fz
  have BZ0 := hid bz0
  have BZ1 := hid bz1
  have HWZ := hid hwz
  obtain ⟨ls, hls⟩ : ∃ ls, gs.map (·.s) = ls := ⟨_, rfl⟩
  rw [hls] at HLS HSQ
  have HLE := hid hls
  have HZS := hid (show w.heap.size + 2 ≤ wz.heap.size by rw [← hwz]; simp)
  clear hR hK hb hw hwc hnW fz bz0 bz1 hwz hls HRR
  gi_wp2_with fail
  rw [HWZ.out]
  refine wpIn_loop_rounds 3 ?_
  rw [roundsIn_succ]
  gi_wp2_with fail
  obtain ⟨nb1, hnb⟩ : ∃ nb, nb = wz.heap.size := ⟨_, rfl⟩
  obtain ⟨u1, hu⟩ : ∃ u, u = wz.alloc (.cells #[.slice none 0 0] 28) := ⟨_, rfl⟩
  rw [← hu, ← hnb]
  have fu : Fr (fun _ => False) wz u1 := by rw [hu]; exact Fr.alloc (Fr.refl _ _) _
  have bu : u1.heap[nb1]? = some (.cells #[.slice none 0 0] 28 (0, 0)) := by rw [hu, hnb]; exact Go.heap_alloc_new _ _
  have hus : u1.heap.size = nb1 + 1 := by rw [hu, hnb]; simp
  have FU1 := hid (FZ.out.trans fu (fun _ _ h => h))
  have FX1 := hid fu
  have BU1 := hid bu
  have HUS1 := hid hus
  have hwn : w.heap.size + 2 ≤ nb1 := by rw [hnb]; exact HZS.out
  have HWN1 := hid hwn
  have HB01 := hid (fu.cells BZ0.out (fun h => h))
  have HB11 := hid (fu.cells BZ1.out (fun h => h))
  clear fu bu hus hnb hu hwn
  refine wp_of_actC (fun a0 ha0 => ?_)
  refine wpIn_mono (Q := Gm a0 u1 nb1 ls nW stop) ?rng ?rest
  case rng =>
    refine wpIn_rangeV (w := u1) rfl (by omega) (gf := 46) (lb := #[ptrV B]) (by rw [ha0]; rfl) trivial (enters_of Try.func46 (by kernel_rfl) rfl)
      (HSQ.out u1 FU1.out) (Below.refl _ _) (fun _ => rfl) (fun h k => h.trans k) (fun W l o o' hl hW hc _ => Kz.putObj o' hW hc)
      (Ga u1 nb1 ls) (fun c pre W => c = .exit 2 ∧ ((pre.length : Int) = stop ∨ nW < pre.length) ∧ Ga u1 nb1 ls pre W) (Gw u1 nb1 ls a0.tmps) Ga.own (fun c pre W W' row h hg hr => ⟨h.1, h.2.1, Ga.own pre W W' row h.2.2 hg hr⟩) ⟨none, 0, BU1.out, Sx.nil _ _, ⟨ls, rfl⟩, Fr.refl _ _⟩
      (fun pre x a1 W l o o' hl hW hc _ h => h.put o' hl hW hc) ?assign ?body ?done ?stop
    case assign =>
      subst ha0
      rintro l pre x W0 W Kn ⟨a, c, hbx, hsx, hpf, hfr⟩ hfW ⟨hv1, hv2⟩ hK
      have hz := hv2.size
      obtain ⟨V, st, hbV, fV⟩ := box_whole (V := W.alloc (.cells zS59 79)) (Go.heap_alloc_new W _) (by rw [hz]; rfl) (by rw [hz]; kernel_rfl) hv2.one
      have fW : Fr (fun _ => False) W V := (Fr.alloc (Fr.refl (fun _ => False) W) _).trans fV (fun i hi e => by omega)
      have hsV := fW.size
      have hxW := hfW.cells hbx (fun h => h)
      have hxl := lt_of_row hbx
      have fin : KeepsFrom u1.heap.size W V ∧ Kz (fun k => ¬ K k) W V ∧ ∀ t, Gw u1 nb1 ls t pre x { tmps := (t.setIfInBounds 12 (.agg x.1)).setIfInBounds 8 (ptrV W.heap.size), defers := [] } V :=
        ⟨⟨hsV, fun k o _ hk _ => fW.cells hk (fun h => h)⟩, Kz.of_fr fW, fun t => ⟨W.heap.size, a, c, W0, rfl, hbV, fW.cells hxW (fun h => h), hsx, (Kz.of_fr hfW).trans (Kz.of_fr fW), hxl, (hv2.kept fW (fun _ _ h => h)).mono (fun i hi => ⟨hi.1, by omega⟩), hv1, (hfr.trans (hfW.mono (fun _ _ h => h.elim)) (fun _ _ h => h)).trans (fW.mono (fun _ _ h => h.elim)) (fun _ _ h => h)⟩⟩
      have ST := hid st
      have FIN := hid fin
      have HK2 := hid hK
      clear hbx hsx hpf hfr hfW hv1 hv2 hz st hbV fV fW hsV hxW hxl fin hK
      gi_wp2_with (first
        | (refine wpListIn_store_v (by exact ST.out) rfl (by exact ⟨_, _, rfl, rfl, rfl⟩) ?_))
      exact HK2.out _ _ FIN.out.1 FIN.out.2.1 (FIN.out.2.2 _)
    case body =>
      subst ha0
      rintro l pre x a1 W ⟨v, a, c, W0, rfl, hv, hbx, hsx, hkz, hxl, hrs, hpf, hfr⟩
      have hz := hrs.size
      have hpl : pre.length < 300000000000 := by
        have h1 := hpf.length_le
        have h2 := HLS.out
        rw [List.length_append, List.length_map] at h1
        simp only [List.length_cons, List.length_nil] at h1
        omega
      have hb1 : nb1 + 1 ≤ W0.heap.size := hxl
      have hsx' := hsx.kz hkz (fun _ _ _ h => h)
      obtain ⟨a', c', W2, hr, hro, hf2, hn2⟩ := sd_append W a c pre.length (flatE pre) hsx'.row (by omega) x.1 hz (fun u hu => by have := hrs.one; rw [Array.all_eq_true_iff_forall_mem] at this; exact this u (by simpa using hu))
      have hmore := hsx.more hkz hrs hb1 hf2 hro hn2
      have hna : blk a ≠ some nb1 := fun e => by have := hsx.new _ e; omega
      have hx2 := hf2.cells hbx hna
      have LD := hid (load_whole (ty := 79) hv Try.underlying79 rfl (by rw [hz]; kernel_rfl))
      have hfo : Array.foldl (fun (cs : Array Value) x => cs.setIfInBounds x.2 x.1) zS59 x.1.zipIdx 0 59 = x.1 := fold_set0 59 x.1 zS59 hz rfl
      have hr2 := hr
      rw [← hfo] at hr2
      have fs : Fr (fun k => k = nb1) W2 (W2.setCell ⟨nb1, 0, none⟩ (.slice a' (pre.length + 1) c')) := Fr.setCell (p := ⟨nb1, 0, none⟩) (S := fun k => k = nb1) (Fr.refl _ _) (fun _ => rfl) _
      have hs2 := hf2.size
      have fin : KeepsFrom u1.heap.size W (W2.setCell ⟨nb1, 0, none⟩ (.slice a' (pre.length + 1) c')) ∧ Kz (fun k => ¬ K k) W (W2.setCell ⟨nb1, 0, none⟩ (.slice a' (pre.length + 1) c')) ∧ Ga u1 nb1 ls (pre ++ [x]) (W2.setCell ⟨nb1, 0, none⟩ (.slice a' (pre.length + 1) c')) := by
        refine ⟨⟨Nat.le_trans hs2 fs.size, fun k o hk h1 hc => ?_⟩, ?_, a', c', ?_, hmore.kept fs (fun k hk _ e => by omega), by rw [List.map_append]; exact hpf, ?_⟩
        · have h2 : W2.heap[k]? = some o := by
            rw [hf2.block k (lt_of_row h1) (fun e => ?_)]
            · exact h1
            · rcases hsx'.row.2 with ⟨h3, _⟩ | ⟨g, o', cur, h3, h4, _⟩
              · rw [h3] at e; simp [blk] at e
              · rw [h3] at e
                simp [blk] at e
                subst e
                rw [h4] at h1
                cases h1
                cases hc
          exact fs.cells h2 (fun e => by have := HUS1.out; omega)
        · refine (Kz.of_fr' hf2).mono (fun k hk h => ?_) |>.trans ((Kz.of_fr' fs).mono (fun k hk h => ?_))
          · have h3 := hsx.new k hk
            have h4 := HK.out k h
            have h5 := HWN1.out
            omega
          · have h4 := HK.out k h
            have h5 := HWN1.out
            omega
        · rw [setCell_row hx2, List.length_append]; rfl
        · refine (hfr.trans hf2 (fun i hi e => ?_)).trans fs (fun _ _ h => h)
          have h3 := hsx.new i e
          have h4 := HUS1.out
          omega
      obtain ⟨m, hm⟩ : ∃ m, pre.length + 1 = m := ⟨_, rfl⟩
      have hm2 : (pre ++ [x]).length = m := by rw [List.length_append]; exact hm
      rw [hm] at hr2 fin
      have cb : W.cell? ⟨nb1, 0, none⟩ = some (.slice a pre.length c) := cellA hbx rfl
      have c2 : W2.cell? ⟨nb1, 0, none⟩ = some (.slice a pre.length c) := cellA hx2 rfl
      have z2 := frozen_of_row (j := 0) hx2
      have hwu : Fr (fun k => k = nb1 ∨ blk a = some k) u1 W2 := (hfr.mono (fun _ _ h => .inl h)).trans hf2 (fun _ _ h => .inr h)
      have hn0 : ¬ (w.heap.size = nb1 ∨ blk a = some w.heap.size) := fun e => by
        have h5 := HWN1.out
        rcases e with e | e
        · omega
        · have := hsx.new _ e; omega
      have hn1 : ¬ (w.heap.size + 1 = nb1 ∨ blk a = some (w.heap.size + 1)) := fun e => by
        have h5 := HWN1.out
        rcases e with e | e
        · omega
        · have := hsx.new _ e; omega
      have e0 : W2.cell? ⟨w.heap.size, 0, none⟩ = some (.slice wa nW wc) := cellA (hwu.cells HB01.out hn0) rfl
      have e1 : W2.cell? ⟨w.heap.size + 1, 0, none⟩ = some (.int .i64 stop) := cellA (hwu.cells HB11.out hn1) rfl
      have ne0 : w.heap.size ≠ nb1 := by have h5 := HWN1.out; omega
      have ne1 : w.heap.size + 1 ≠ nb1 := by have h5 := HWN1.out; omega
      have R2 := hid hr2
      have FIN := hid fin
      have HM2 := hid hm2
      clear hv hbx hsx hkz hxl hrs hpf hfr hpl hb1 hsx' hr hro hf2 hn2 hmore hna hx2 hfo hr2 fs hs2 fin hm hm2 hwu hn0 hn1
      by_cases hms : (m : Int) = stop
      · have HMS := hid hms
        subst hms
        gi_wp2_with (first
          | (refine wpListIn_load_v LD.out rfl (by exact ⟨_, rfl, rfl⟩) ?_)
          | (gi_at_builtin; refine wpListIn_append_eq _ _ rfl _ _ _ rfl _ _ _ rfl rfl (by exact R2.out) ?_))
        exact ⟨FIN.out.1, rfl, .inl (by rw [HM2.out]), FIN.out.2.2⟩
      · by_cases hmn : (nW : Int) < (m : Int)
        · gi_wp2_with (first
            | (refine wpListIn_load_v LD.out rfl (by exact ⟨_, rfl, rfl⟩) ?_)
            | (gi_at_builtin; refine wpListIn_append_eq _ _ rfl _ _ _ rfl _ _ _ rfl rfl (by exact R2.out) ?_))
          exact ⟨FIN.out.1, rfl, .inr (by rw [HM2.out]; omega), FIN.out.2.2⟩
        · gi_wp2_with (first
            | (refine wpListIn_load_v LD.out rfl (by exact ⟨_, rfl, rfl⟩) ?_)
            | (gi_at_builtin; refine wpListIn_append_eq _ _ rfl _ _ _ rfl _ _ _ rfl rfl (by exact R2.out) ?_))
          exact FIN.out
    case done =>
      rintro D0 xs W0 hD hxs hga hK0
      exact ⟨.inl rfl, D0, xs, rfl, hD, ⟨hga, .inl (by rw [← hxs, List.length_map])⟩, hK0⟩
    case stop =>
      rintro D c pre W hD hSp ⟨rfl, hst, hga⟩ hK0
      gi_wp2
      exact ⟨.inr rfl, D, pre, rfl, hD, ⟨hga, .inr hst⟩, hK0⟩
  case rest =>
    subst ha0
    rintro e a' W1 ⟨he, D1, xs, rfl, hD, ⟨⟨xa, xc, hbx, hsx, hpf, hfr⟩, hend⟩, hK0⟩
    refine inBlock_both he ?_
    obtain ⟨m, hm⟩ : ∃ m, xs.length = m := ⟨_, rfl⟩
    rw [hm] at hbx hend
    have hml : m ≤ 300000000000 := by have h1 := hpf.length_le; rw [List.length_map, hm] at h1; have h2 := HLS.out; omega
    have fW : Fr (fun _ => False) w W1 := FU1.out.trans hfr (fun i hi e => by have h5 := HWN1.out; omega)
    have cg : W1.cell? ⟨nb1, 0, none⟩ = some (.slice xa m xc) := cellA hbx rfl
    have cw : W1.cell? ⟨w.heap.size, 0, none⟩ = some (.slice wa nW wc) := cellA (hfr.cells HB01.out (fun e => by have h5 := HWN1.out; omega)) rfl
    have cs_ : W1.cell? ⟨w.heap.size + 1, 0, none⟩ = some (.int .i64 stop) := cellA (hfr.cells HB11.out (fun e => by have h5 := HWN1.out; omega)) rfl
    have KS := hid (fun (V : World) (hf : Fr (fun _ => False) W1 V) => rsame_any (ca := xc) (cb := wc) ((hsx.ls).fr hf) (((HW.out.fr fW).fr hf).take m) (by omega))
    rw [hm] at KS
    have hpfx : gs.map (·.s) = ys.map Prod.snd → xs.map Prod.snd = (ys.take m).map Prod.snd := fun e => by
      obtain ⟨t, ht⟩ := hpf
      have h9 : (xs.map Prod.snd).length = m := by rw [List.length_map, hm]
      rw [List.map_take, ← e, HLE.out, ← ht, ← h9, List.take_left]
    have hle : gs.map (·.s) = ys.map Prod.snd → m ≤ nW ∧ (m = nW ∨ (m : Int) = stop) := fun e => by
      have h1 := hpf.length_le
      have h2 : ls.length = nW := by rw [← HLE.out, e, List.length_map, HNW.out]
      rw [List.length_map, hm, h2] at h1
      rw [h2] at hend
      exact ⟨h1, by omega⟩
    have HF1 := hid fW
    have HPF := hid hpfx
    have HLE2 := hid hle
    have HD1 := hid (show w.heap.size + 2 ≤ D1 by have h5 := HWN1.out; have h6 := HUS1.out; omega)
    have HK1 := hid hK0
    have HDW := hid (show D1 < W1.heap.size from lt_of_row hK0)
    have HY0 := hid (hfr.cells HB01.out (fun e => by have h5 := HWN1.out; omega))
    have HY1 := hid (hfr.cells HB11.out (fun e => by have h5 := HWN1.out; omega))
    have hmx : Try.prog.follows .mixedOrders = true := by kernel_rfl
    have hmw : m ≤ nW → m ≤ wc := fun h => by have := HWC.out; rw [HNW.out] at this; omega
    have hyl : m ≤ nW → (ys.take m).length = m := fun h => by rw [List.length_take, HNW.out]; omega
    clear hD hbx hsx hpf hfr hend hK0 hm hpfx hle fW he
    gi_wp2_with fail
    refine wpIn_wide.2 ?_
    by_cases hA : (nW : Int) < (m : Int)
    · refine wp_region_noPanic ?_
      refine wp_region_held (S := fun V => Fr (fun _ => False) W1 V) hmx ?_
      have hS : Fr (fun _ => False) W1 W1.drew := Fr.drew (Fr.refl _ _)
      simp only [List.size_toArray, List.length_cons, List.length_nil, Nat.reduceAdd, Array.replicate_succ, Array.replicate_zero, List.push_toArray, List.nil_append, List.cons_append]
      refine wpAnyH_take (i := 0) (v := ?_) rfl (by kernel_rfl) (by kernel_rfl) (by kernel_rfl) (fun _ _ _ h => h) (Or.inl ⟨by kernel_rfl, ?_⟩) hS ?_
      rotate_left 1
      · (intro w' hS'; have h1 := cellFr hS' (fun h => h) cg; clear hS'; go_simp; try with_reducible rfl)
      simp only [List.getElem_toArray, List.getElem_cons_zero, List.getElem_cons_succ, Act.put, List.setIfInBounds_toArray, List.set_cons_zero, List.set_cons_succ]
      refine wpAnyH_take (i := 1) (v := ?_) rfl (by kernel_rfl) (by kernel_rfl) (by kernel_rfl) (fun _ _ _ h => h) (Or.inl ⟨by kernel_rfl, ?_⟩) hS ?_
      rotate_left 1
      · (intro w' hS'; clear hS'; go_simp; try with_reducible rfl)
      simp only [List.getElem_toArray, List.getElem_cons_zero, List.getElem_cons_succ, Act.put, List.setIfInBounds_toArray, List.set_cons_zero, List.set_cons_succ]
      refine wpAnyH_take (i := 2) (v := ?_) rfl (by kernel_rfl) (by kernel_rfl) (by kernel_rfl) (fun _ _ _ h => h) (Or.inl ⟨by kernel_rfl, ?_⟩) hS ?_
      rotate_left 1
      · (intro w' hS'; have h1 := cellFr hS' (fun h => h) cw; clear hS'; go_simp; try with_reducible rfl)
      simp only [List.getElem_toArray, List.getElem_cons_zero, List.getElem_cons_succ, Act.put, List.setIfInBounds_toArray, List.set_cons_zero, List.set_cons_succ]
      refine wpAnyH_take (i := 3) (v := ?_) rfl (by kernel_rfl) (by kernel_rfl) (by kernel_rfl) (fun _ _ _ h => h) (Or.inl ⟨by kernel_rfl, ?_⟩) hS ?_
      rotate_left 1
      · (intro w' hS'; clear hS'; go_simp; try with_reducible rfl)
      simp only [List.getElem_toArray, List.getElem_cons_zero, List.getElem_cons_succ, Act.put, List.setIfInBounds_toArray, List.set_cons_zero, List.set_cons_succ]
      refine wpAnyH_take (i := 4) (v := .bool true) rfl (by kernel_rfl) (by kernel_rfl) (by kernel_rfl) (fun _ _ _ h => h) (Or.inl ⟨by kernel_rfl, fun w' hS' => by clear hS'; go_simp⟩) hS ?_
      simp only [List.getElem_toArray, List.getElem_cons_zero, List.getElem_cons_succ, Act.put, List.setIfInBounds_toArray, List.set_cons_zero, List.set_cons_succ]
      refine wpAnyH_take (i := 5) (v := ?_) rfl (by kernel_rfl) (by kernel_rfl) (by kernel_rfl) (fun _ _ _ h => h) (Or.inl ⟨by kernel_rfl, ?_⟩) hS ?_
      rotate_left 1
      · (intro w' hS'; clear hS'; go_simp; try with_reducible rfl)
      simp only [List.getElem_toArray, List.getElem_cons_zero, List.getElem_cons_succ, Act.put, List.setIfInBounds_toArray, List.set_cons_zero, List.set_cons_succ]
      refine wpAnyH_take (i := 6) (v := undef) rfl (by kernel_rfl) (by kernel_rfl) (by kernel_rfl) (fun _ _ _ h => h) (Or.inr ⟨by kernel_rfl, rfl⟩) hS ?_
      simp only [List.getElem_toArray, List.getElem_cons_zero, List.getElem_cons_succ, Act.put, List.setIfInBounds_toArray, List.set_cons_zero, List.set_cons_succ]
      refine wpAnyH_take (i := 7) (v := undef) rfl (by kernel_rfl) (by kernel_rfl) (by kernel_rfl) (fun _ _ _ h => h) (Or.inr ⟨by kernel_rfl, rfl⟩) hS ?_
      simp only [List.getElem_toArray, List.getElem_cons_zero, List.getElem_cons_succ, Act.put, List.setIfInBounds_toArray, List.set_cons_zero, List.set_cons_succ]
      refine wpAnyH_take (i := 8) (v := undef) rfl (by kernel_rfl) (by kernel_rfl) (by kernel_rfl) (fun _ _ _ h => h) (Or.inr ⟨by kernel_rfl, rfl⟩) hS ?_
      simp only [List.getElem_toArray, List.getElem_cons_zero, List.getElem_cons_succ, Act.put, List.setIfInBounds_toArray, List.set_cons_zero, List.set_cons_succ]
      refine wpAnyH_take (i := 9) (v := undef) rfl (by kernel_rfl) (by kernel_rfl) (by kernel_rfl) (fun _ _ _ h => h) (Or.inr ⟨by kernel_rfl, rfl⟩) hS ?_
      simp only [List.getElem_toArray, List.getElem_cons_zero, List.getElem_cons_succ, Act.put, List.setIfInBounds_toArray, List.set_cons_zero, List.set_cons_succ]
      refine wpAnyH_take (i := 10) (v := undef) rfl (by kernel_rfl) (by kernel_rfl) (by kernel_rfl) (fun _ _ _ h => h) (Or.inr ⟨by kernel_rfl, rfl⟩) hS ?_
      simp only [List.getElem_toArray, List.getElem_cons_zero, List.getElem_cons_succ, Act.put, List.setIfInBounds_toArray, List.set_cons_zero, List.set_cons_succ]
      refine wpAnyH_take (i := 11) (v := undef) rfl (by kernel_rfl) (by kernel_rfl) (by kernel_rfl) (fun _ _ _ h => h) (Or.inr ⟨by kernel_rfl, rfl⟩) hS ?_
      simp only [List.getElem_toArray, List.getElem_cons_zero, List.getElem_cons_succ, Act.put, List.setIfInBounds_toArray, List.set_cons_zero, List.set_cons_succ]
      refine wpAnyH_take (i := 12) (v := undef) rfl (by kernel_rfl) (by kernel_rfl) (by kernel_rfl) (fun _ _ _ h => h) (Or.inr ⟨by kernel_rfl, rfl⟩) hS ?_
      simp only [List.getElem_toArray, List.getElem_cons_zero, List.getElem_cons_succ, Act.put, List.setIfInBounds_toArray, List.set_cons_zero, List.set_cons_succ]
      refine wpAnyH_take (i := 13) (v := undef) rfl (by kernel_rfl) (by kernel_rfl) (by kernel_rfl) (fun _ _ _ h => h) (Or.inr ⟨by kernel_rfl, rfl⟩) hS ?_
      simp only [List.getElem_toArray, List.getElem_cons_zero, List.getElem_cons_succ, Act.put, List.setIfInBounds_toArray, List.set_cons_zero, List.set_cons_succ]
      refine wpAnyH_take (i := 14) (v := undef) rfl (by kernel_rfl) (by kernel_rfl) (by kernel_rfl) (fun _ _ _ h => h) (Or.inr ⟨by kernel_rfl, rfl⟩) hS ?_
      simp only [List.getElem_toArray, List.getElem_cons_zero, List.getElem_cons_succ, Act.put, List.setIfInBounds_toArray, List.set_cons_zero, List.set_cons_succ]
      refine wpAnyH_take (i := 15) (v := undef) rfl (by kernel_rfl) (by kernel_rfl) (by kernel_rfl) (fun _ _ _ h => h) (Or.inr ⟨by kernel_rfl, rfl⟩) hS ?_
      simp only [List.getElem_toArray, List.getElem_cons_zero, List.getElem_cons_succ, Act.put, List.setIfInBounds_toArray, List.set_cons_zero, List.set_cons_succ]
      refine wpAnyH_take (i := 16) (v := undef) rfl (by kernel_rfl) (by kernel_rfl) (by kernel_rfl) (fun _ _ _ h => h) (Or.inr ⟨by kernel_rfl, rfl⟩) hS ?_
      simp only [List.getElem_toArray, List.getElem_cons_zero, List.getElem_cons_succ, Act.put, List.setIfInBounds_toArray, List.set_cons_zero, List.set_cons_succ]
      refine wpAnyH_take (i := 17) (v := ?_) rfl (by kernel_rfl) (by kernel_rfl) (by kernel_rfl) (fun _ _ _ h => h) (Or.inl ⟨by kernel_rfl, ?_⟩) hS ?_
      rotate_left 1
      · (intro w' hS'; clear hS'; go_simp; try with_reducible rfl)
      simp only [List.getElem_toArray, List.getElem_cons_zero, List.getElem_cons_succ, Act.put, List.setIfInBounds_toArray, List.set_cons_zero, List.set_cons_succ]
      refine wpAnyH_take (i := 18) (v := ?_) rfl (by kernel_rfl) (by kernel_rfl) (by kernel_rfl) (fun _ _ _ h => h) (Or.inl ⟨by kernel_rfl, ?_⟩) hS ?_
      rotate_left 1
      · (intro w' hS'; clear hS'; go_simp; try with_reducible rfl)
      simp only [List.getElem_toArray, List.getElem_cons_zero, List.getElem_cons_succ, Act.put, List.setIfInBounds_toArray, List.set_cons_zero, List.set_cons_succ]
      refine wpAnyH_take (i := 19) (v := undef) rfl (by kernel_rfl) (by kernel_rfl) (by kernel_rfl) (fun _ _ _ h => h) (Or.inr ⟨by kernel_rfl, rfl⟩) hS ?_
      simp only [List.getElem_toArray, List.getElem_cons_zero, List.getElem_cons_succ, Act.put, List.setIfInBounds_toArray, List.set_cons_zero, List.set_cons_succ]
      refine wpAnyH_take (i := 20) (v := undef) rfl (by kernel_rfl) (by kernel_rfl) (by kernel_rfl) (fun _ _ _ h => h) (Or.inr ⟨by kernel_rfl, rfl⟩) hS ?_
      simp only [List.getElem_toArray, List.getElem_cons_zero, List.getElem_cons_succ, Act.put, List.setIfInBounds_toArray, List.set_cons_zero, List.set_cons_succ]
      refine wpAnyH_take (i := 21) (v := undef) rfl (by kernel_rfl) (by kernel_rfl) (by kernel_rfl) (fun _ _ _ h => h) (Or.inr ⟨by kernel_rfl, rfl⟩) hS ?_
      simp only [List.getElem_toArray, List.getElem_cons_zero, List.getElem_cons_succ, Act.put, List.setIfInBounds_toArray, List.set_cons_zero, List.set_cons_succ]
      refine wpAnyH_take (i := 22) (v := undef) rfl (by kernel_rfl) (by kernel_rfl) (by kernel_rfl) (fun _ _ _ h => h) (Or.inr ⟨by kernel_rfl, rfl⟩) hS ?_
      simp only [List.getElem_toArray, List.getElem_cons_zero, List.getElem_cons_succ, Act.put, List.setIfInBounds_toArray, List.set_cons_zero, List.set_cons_succ]
      refine wpAnyH_take (i := 23) (v := undef) rfl (by kernel_rfl) (by kernel_rfl) (by kernel_rfl) (fun _ _ _ h => h) (Or.inr ⟨by kernel_rfl, rfl⟩) hS ?_
      simp only [List.getElem_toArray, List.getElem_cons_zero, List.getElem_cons_succ, Act.put, List.setIfInBounds_toArray, List.set_cons_zero, List.set_cons_succ]
      refine wpAnyH_take (i := 24) (v := undef) rfl (by kernel_rfl) (by kernel_rfl) (by kernel_rfl) (fun _ _ _ h => h) (Or.inr ⟨by kernel_rfl, rfl⟩) hS ?_
      simp only [List.getElem_toArray, List.getElem_cons_zero, List.getElem_cons_succ, Act.put, List.setIfInBounds_toArray, List.set_cons_zero, List.set_cons_succ]
      refine wpAnyH_take (i := 25) (v := undef) rfl (by kernel_rfl) (by kernel_rfl) (by kernel_rfl) (fun _ _ _ h => h) (Or.inr ⟨by kernel_rfl, rfl⟩) hS ?_
      simp only [List.getElem_toArray, List.getElem_cons_zero, List.getElem_cons_succ, Act.put, List.setIfInBounds_toArray, List.set_cons_zero, List.set_cons_succ]
      refine wpAnyH_take (i := 26) (v := ?_) rfl (by kernel_rfl) (by kernel_rfl) (by kernel_rfl) (fun _ _ _ h => h) (Or.inl ⟨by kernel_rfl, ?_⟩) hS ?_
      rotate_left 1
      · (intro w' hS'; clear hS'; go_simp; try with_reducible rfl)
      simp only [List.getElem_toArray, List.getElem_cons_zero, List.getElem_cons_succ, Act.put, List.setIfInBounds_toArray, List.set_cons_zero, List.set_cons_succ]
      refine wpAnyH_done (by kernel_rfl) ?_ _
      refine NoPanic.normal ?_
      have FS := hid hS
      clear hS
      gi_wp2
      have q1 := (FS.out).cells HK1.out (fun h => h)
      refine ⟨by simp, .inl ⟨_, _, rfl, run_takeDeferred q1, ?_⟩⟩
      refine ⟨.bool false, by simp [results, Try.f15, go_sem], ?_⟩
      refine ⟨false, rfl, (fun e => by have := (HLE2.out e).1; omega), ?_⟩
      have hsz := HF1.out.size
      have hdd := HD1.out
      exact (HF1.out.trans FS.out (fun _ _ h => h)).trans (Fr.of_grown (grownBy_putObj' _ D1 _)) (fun i hi e => by simp at e; omega)
    · have hmn : m ≤ nW := by omega
      have cu := fun V => run_cutS_hi V wa nW wc m (hmw hmn) (m : Int) rfl
      rw [hyl hmn] at KS
      by_cases hC : m = nW
      · have hC3 := hC.symm
        clear hC
        subst hC3
        refine wp_region_noPanic ?_
        refine wp_region_held (S := fun V => Fr (fun _ => False) W1 V) hmx ?_
        have hS : Fr (fun _ => False) W1 W1.drew := Fr.drew (Fr.refl _ _)
        simp only [List.size_toArray, List.length_cons, List.length_nil, Nat.reduceAdd, Array.replicate_succ, Array.replicate_zero, List.push_toArray, List.nil_append, List.cons_append]
        refine wpAnyH_take (i := 0) (v := ?_) rfl (by kernel_rfl) (by kernel_rfl) (by kernel_rfl) (fun _ _ _ h => h) (Or.inl ⟨by kernel_rfl, ?_⟩) hS ?_
        rotate_left 1
        · (intro w' hS'; have h1 := cellFr hS' (fun h => h) cg; clear hS'; go_simp; try with_reducible rfl)
        simp only [List.getElem_toArray, List.getElem_cons_zero, List.getElem_cons_succ, Act.put, List.setIfInBounds_toArray, List.set_cons_zero, List.set_cons_succ]
        refine wpAnyH_take (i := 1) (v := ?_) rfl (by kernel_rfl) (by kernel_rfl) (by kernel_rfl) (fun _ _ _ h => h) (Or.inl ⟨by kernel_rfl, ?_⟩) hS ?_
        rotate_left 1
        · (intro w' hS'; clear hS'; go_simp; try with_reducible rfl)
        simp only [List.getElem_toArray, List.getElem_cons_zero, List.getElem_cons_succ, Act.put, List.setIfInBounds_toArray, List.set_cons_zero, List.set_cons_succ]
        refine wpAnyH_take (i := 2) (v := ?_) rfl (by kernel_rfl) (by kernel_rfl) (by kernel_rfl) (fun _ _ _ h => h) (Or.inl ⟨by kernel_rfl, ?_⟩) hS ?_
        rotate_left 1
        · (intro w' hS'; have h1 := cellFr hS' (fun h => h) cw; clear hS'; go_simp; try with_reducible rfl)
        simp only [List.getElem_toArray, List.getElem_cons_zero, List.getElem_cons_succ, Act.put, List.setIfInBounds_toArray, List.set_cons_zero, List.set_cons_succ]
        refine wpAnyH_take (i := 3) (v := ?_) rfl (by kernel_rfl) (by kernel_rfl) (by kernel_rfl) (fun _ _ _ h => h) (Or.inl ⟨by kernel_rfl, ?_⟩) hS ?_
        rotate_left 1
        · (intro w' hS'; clear hS'; go_simp; try with_reducible rfl)
        simp only [List.getElem_toArray, List.getElem_cons_zero, List.getElem_cons_succ, Act.put, List.setIfInBounds_toArray, List.set_cons_zero, List.set_cons_succ]
        refine wpAnyH_take (i := 4) (v := .bool false) rfl (by kernel_rfl) (by kernel_rfl) (by kernel_rfl) (fun _ _ _ h => h) (Or.inl ⟨by kernel_rfl, fun w' hS' => by clear hS'; go_simp⟩) hS ?_
        simp only [List.getElem_toArray, List.getElem_cons_zero, List.getElem_cons_succ, Act.put, List.setIfInBounds_toArray, List.set_cons_zero, List.set_cons_succ]
        refine wpAnyH_take (i := 5) (v := ?_) rfl (by kernel_rfl) (by kernel_rfl) (by kernel_rfl) (fun _ _ _ h => h) (Or.inl ⟨by kernel_rfl, ?_⟩) hS ?_
        rotate_left 1
        · (intro w' hS'; clear hS'; go_simp; try with_reducible rfl)
        simp only [List.getElem_toArray, List.getElem_cons_zero, List.getElem_cons_succ, Act.put, List.setIfInBounds_toArray, List.set_cons_zero, List.set_cons_succ]
        refine wpAnyH_take (i := 6) (v := ?_) rfl (by kernel_rfl) (by kernel_rfl) (by kernel_rfl) (fun _ _ _ h => h) (Or.inl ⟨by kernel_rfl, ?_⟩) hS ?_
        rotate_left 1
        · (intro w' hS'; have h1 := cellFr hS' (fun h => h) cg; clear hS'; go_simp; try with_reducible rfl)
        simp only [List.getElem_toArray, List.getElem_cons_zero, List.getElem_cons_succ, Act.put, List.setIfInBounds_toArray, List.set_cons_zero, List.set_cons_succ]
        refine wpAnyH_take (i := 7) (v := ?_) rfl (by kernel_rfl) (by kernel_rfl) (by kernel_rfl) (fun _ _ _ h => h) (Or.inl ⟨by kernel_rfl, ?_⟩) hS ?_
        rotate_left 1
        · (intro w' hS'; clear hS'; go_simp; try with_reducible rfl)
        simp only [List.getElem_toArray, List.getElem_cons_zero, List.getElem_cons_succ, Act.put, List.setIfInBounds_toArray, List.set_cons_zero, List.set_cons_succ]
        refine wpAnyH_take (i := 8) (v := ?_) rfl (by kernel_rfl) (by kernel_rfl) (by kernel_rfl) (fun _ _ _ h => h) (Or.inl ⟨by kernel_rfl, ?_⟩) hS ?_
        rotate_left 1
        · (intro w' hS'; have h1 := cellFr hS' (fun h => h) cw; clear hS'; go_simp; try with_reducible rfl)
        simp only [List.getElem_toArray, List.getElem_cons_zero, List.getElem_cons_succ, Act.put, List.setIfInBounds_toArray, List.set_cons_zero, List.set_cons_succ]
        refine wpAnyH_take (i := 9) (v := ?_) rfl (by kernel_rfl) (by kernel_rfl) (by kernel_rfl) (fun _ _ _ h => h) (Or.inl ⟨by kernel_rfl, ?_⟩) hS ?_
        rotate_left 1
        · (intro w' hS'; clear hS'; go_simp; try with_reducible rfl)
        simp only [List.getElem_toArray, List.getElem_cons_zero, List.getElem_cons_succ, Act.put, List.setIfInBounds_toArray, List.set_cons_zero, List.set_cons_succ]
        refine wpAnyH_take (i := 10) (v := .bool false) rfl (by kernel_rfl) (by kernel_rfl) (by kernel_rfl) (fun _ _ _ h => h) (Or.inl ⟨by kernel_rfl, fun w' hS' => by clear hS'; go_simp⟩) hS ?_
        simp only [List.getElem_toArray, List.getElem_cons_zero, List.getElem_cons_succ, Act.put, List.setIfInBounds_toArray, List.set_cons_zero, List.set_cons_succ]
        refine wpAnyH_take (i := 11) (v := ?_) rfl (by kernel_rfl) (by kernel_rfl) (by kernel_rfl) (fun _ _ _ h => h) (Or.inl ⟨by kernel_rfl, ?_⟩) hS ?_
        rotate_left 1
        · (intro w' hS'; clear hS'; go_simp; try with_reducible rfl)
        simp only [List.getElem_toArray, List.getElem_cons_zero, List.getElem_cons_succ, Act.put, List.setIfInBounds_toArray, List.set_cons_zero, List.set_cons_succ]
        refine wpAnyH_take (i := 12) (v := undef) rfl (by kernel_rfl) (by kernel_rfl) (by kernel_rfl) (fun _ _ _ h => h) (Or.inr ⟨by kernel_rfl, rfl⟩) hS ?_
        simp only [List.getElem_toArray, List.getElem_cons_zero, List.getElem_cons_succ, Act.put, List.setIfInBounds_toArray, List.set_cons_zero, List.set_cons_succ]
        refine wpAnyH_take (i := 13) (v := undef) rfl (by kernel_rfl) (by kernel_rfl) (by kernel_rfl) (fun _ _ _ h => h) (Or.inr ⟨by kernel_rfl, rfl⟩) hS ?_
        simp only [List.getElem_toArray, List.getElem_cons_zero, List.getElem_cons_succ, Act.put, List.setIfInBounds_toArray, List.set_cons_zero, List.set_cons_succ]
        refine wpAnyH_take (i := 14) (v := undef) rfl (by kernel_rfl) (by kernel_rfl) (by kernel_rfl) (fun _ _ _ h => h) (Or.inr ⟨by kernel_rfl, rfl⟩) hS ?_
        simp only [List.getElem_toArray, List.getElem_cons_zero, List.getElem_cons_succ, Act.put, List.setIfInBounds_toArray, List.set_cons_zero, List.set_cons_succ]
        refine wpAnyH_take (i := 15) (v := undef) rfl (by kernel_rfl) (by kernel_rfl) (by kernel_rfl) (fun _ _ _ h => h) (Or.inr ⟨by kernel_rfl, rfl⟩) hS ?_
        simp only [List.getElem_toArray, List.getElem_cons_zero, List.getElem_cons_succ, Act.put, List.setIfInBounds_toArray, List.set_cons_zero, List.set_cons_succ]
        refine wpAnyH_take (i := 16) (v := ?_) rfl (by kernel_rfl) (by kernel_rfl) (by kernel_rfl) (fun _ _ _ h => h) (Or.inl ⟨by kernel_rfl, ?_⟩) hS ?_
        rotate_left 1
        · (intro w' hS'; clear hS'; go_simp; try with_reducible rfl)
        simp only [List.getElem_toArray, List.getElem_cons_zero, List.getElem_cons_succ, Act.put, List.setIfInBounds_toArray, List.set_cons_zero, List.set_cons_succ]
        refine wpAnyH_take (i := 17) (v := ?_) rfl (by kernel_rfl) (by kernel_rfl) (by kernel_rfl) (fun _ _ _ h => h) (Or.inl ⟨by kernel_rfl, ?_⟩) hS ?_
        rotate_left 1
        · (intro w' hS'; clear hS'; go_simp; try with_reducible rfl)
        simp only [List.getElem_toArray, List.getElem_cons_zero, List.getElem_cons_succ, Act.put, List.setIfInBounds_toArray, List.set_cons_zero, List.set_cons_succ]
        refine wpAnyH_take (i := 18) (v := ?_) rfl (by kernel_rfl) (by kernel_rfl) (by kernel_rfl) (fun _ _ _ h => h) (Or.inl ⟨by kernel_rfl, ?_⟩) hS ?_
        rotate_left 1
        · (intro w' hS'; clear hS'; go_simp; try with_reducible rfl)
        simp only [List.getElem_toArray, List.getElem_cons_zero, List.getElem_cons_succ, Act.put, List.setIfInBounds_toArray, List.set_cons_zero, List.set_cons_succ]
        refine wpAnyH_take (i := 19) (v := ?_) rfl (by kernel_rfl) (by kernel_rfl) (by kernel_rfl) (fun _ _ _ h => h) (Or.inl ⟨by kernel_rfl, ?_⟩) hS ?_
        rotate_left 1
        · (intro w' hS'; have h1 := cellFr hS' (fun h => h) cg; clear hS'; go_simp; try with_reducible rfl)
        simp only [List.getElem_toArray, List.getElem_cons_zero, List.getElem_cons_succ, Act.put, List.setIfInBounds_toArray, List.set_cons_zero, List.set_cons_succ]
        refine wpAnyH_take (i := 20) (v := ?_) rfl (by kernel_rfl) (by kernel_rfl) (by kernel_rfl) (fun _ _ _ h => h) (Or.inl ⟨by kernel_rfl, ?_⟩) hS ?_
        rotate_left 1
        · (intro w' hS'; have h1 := cellFr hS' (fun h => h) cw; clear hS'; go_simp; try with_reducible rfl)
        simp only [List.getElem_toArray, List.getElem_cons_zero, List.getElem_cons_succ, Act.put, List.setIfInBounds_toArray, List.set_cons_zero, List.set_cons_succ]
        refine wpAnyH_take (i := 21) (v := ?_) rfl (by kernel_rfl) (by kernel_rfl) (by kernel_rfl) (fun _ _ _ h => h) (Or.inl ⟨by kernel_rfl, ?_⟩) hS ?_
        rotate_left 1
        · (intro w' hS'; have h1 := cellFr hS' (fun h => h) cg; clear hS'; go_simp; try with_reducible rfl)
        simp only [List.getElem_toArray, List.getElem_cons_zero, List.getElem_cons_succ, Act.put, List.setIfInBounds_toArray, List.set_cons_zero, List.set_cons_succ]
        refine wpAnyH_take (i := 22) (v := ?_) rfl (by kernel_rfl) (by kernel_rfl) (by kernel_rfl) (fun _ _ _ h => h) (Or.inl ⟨by kernel_rfl, ?_⟩) hS ?_
        rotate_left 1
        · (intro w' hS'; clear hS'; go_simp; try with_reducible rfl)
        simp only [List.getElem_toArray, List.getElem_cons_zero, List.getElem_cons_succ, Act.put, List.setIfInBounds_toArray, List.set_cons_zero, List.set_cons_succ]
        refine wpAnyH_take (i := 23) (v := ?_) rfl (by kernel_rfl) (by kernel_rfl) (by kernel_rfl) (fun _ _ _ h => h) (Or.inl ⟨by kernel_rfl, ?_⟩) hS ?_
        rotate_left 1
        · (intro w' hS'; have h1 := cu w'; clear hS'; go_simp; try with_reducible rfl)
        simp only [List.getElem_toArray, List.getElem_cons_zero, List.getElem_cons_succ, Act.put, List.setIfInBounds_toArray, List.set_cons_zero, List.set_cons_succ]
        refine wpAnyH_ready (rs := [24]) (by kernel_rfl) (by simp) ?_
        refine AllReadyH.cons rfl (fun K1 hK1 => ?_) AllReadyH.nil
        go_simp
        refine (KS.out _ hS).mono ?_
        rintro e w3 ⟨rb, rfl, hrb, f3⟩
        have f4 : Fr (fun _ => False) W1 w3 := hS.trans f3 (fun _ _ h => h)
        refine hK1.out _ _ f4 (fun hS => ?_)
        clear hK1 K1
        simp only [Act.put, List.setIfInBounds_toArray, List.set_cons_zero, List.set_cons_succ]
        refine wpAnyH_take (i := 25) (v := ?_) rfl (by kernel_rfl) (by kernel_rfl) (by kernel_rfl) (fun _ _ _ h => h) (Or.inl ⟨by kernel_rfl, ?_⟩) hS ?_
        rotate_left 1
        · (intro w' hS'; clear hS'; go_simp; try with_reducible rfl)
        simp only [List.getElem_toArray, List.getElem_cons_zero, List.getElem_cons_succ, Act.put, List.setIfInBounds_toArray, List.set_cons_zero, List.set_cons_succ]
        refine wpAnyH_take (i := 26) (v := ?_) rfl (by kernel_rfl) (by kernel_rfl) (by kernel_rfl) (fun _ _ _ h => h) (Or.inl ⟨by kernel_rfl, ?_⟩) hS ?_
        rotate_left 1
        · (intro w' hS'; clear hS'; go_simp; try with_reducible rfl)
        simp only [List.getElem_toArray, List.getElem_cons_zero, List.getElem_cons_succ, Act.put, List.setIfInBounds_toArray, List.set_cons_zero, List.set_cons_succ]
        refine wpAnyH_done (by kernel_rfl) ?_ _
        refine NoPanic.normal ?_
        have FS := hid hS
        have HRB := hid hrb
        clear hS hrb f3 f4
        cases rb with
        | false =>
          gi_wp2
          have q1 := (FS.out).cells HK1.out (fun h => h)
          refine ⟨by simp, .inl ⟨_, _, rfl, run_takeDeferred q1, ?_⟩⟩
          refine ⟨.bool false, by simp [results, Try.f15, go_sem], ?_⟩
          refine ⟨false, rfl, (fun e => by have := HRB.out.2 (HPF.out e); cases this), ?_⟩
          have hsz := HF1.out.size
          have hdd := HD1.out
          exact (HF1.out.trans FS.out (fun _ _ h => h)).trans (Fr.of_grown (grownBy_putObj' _ D1 _)) (fun i hi e => by simp at e; omega)
        | true =>
          gi_wp2_with fail
          rw [roundsIn_succ]
          gi_wp2_with fail
          have BY0 := hid (FS.out.cells HY0.out (fun h => h))
          have BY1 := hid (FS.out.cells HY1.out (fun h => h))
          have HK1W := hid (FS.out.cells HK1.out (fun h => h))
          have HF3 := hid (HF1.out.trans FS.out (fun _ _ h => h))
          have HZ2 := hid (show w.heap.size + 2 ≤ w3.heap.size by have h1 := HF1.out.size; have h2 := FS.out.size; have h3 := HDW.out; have h4 := HD1.out; omega)
          have HDN0 := hid (show D1 < w3.heap.size by have h2 := FS.out.size; have h3 := HDW.out; omega)
          obtain ⟨nb2, hnb⟩ : ∃ nb, nb = w3.heap.size := ⟨_, rfl⟩
          obtain ⟨u2, hu⟩ : ∃ u, u = w3.alloc (.cells #[.slice none 0 0] 28) := ⟨_, rfl⟩
          rw [← hu, ← hnb]
          have fu : Fr (fun _ => False) w3 u2 := by rw [hu]; exact Fr.alloc (Fr.refl _ _) _
          have bu : u2.heap[nb2]? = some (.cells #[.slice none 0 0] 28 (0, 0)) := by rw [hu, hnb]; exact Go.heap_alloc_new _ _
          have hus : u2.heap.size = nb2 + 1 := by rw [hu, hnb]; simp
          have FU2 := hid (HF3.out.trans fu (fun _ _ h => h))
          have FX2 := hid fu
          have BU2 := hid bu
          have HUS2 := hid hus
          have hwn : w.heap.size + 2 ≤ nb2 := by rw [hnb]; exact HZ2.out
          have HWN2 := hid hwn
          have HDN := hid (show D1 < nb2 by rw [hnb]; exact HDN0.out)
          have HB02 := hid (fu.cells BY0.out (fun h => h))
          have HB12 := hid (fu.cells BY1.out (fun h => h))
          have HK11 := hid (fu.cells HK1W.out (fun h => h))
          clear fu bu hus hnb hu hwn
          refine wp_of_actC (fun a0 ha0 => ?_)
          refine wpIn_mono (Q := Gm a0 u2 nb2 ls nW stop) ?rng ?rest
          case rng =>
            refine wpIn_rangeV (w := u2) rfl (by omega) (gf := 46) (lb := #[ptrV B]) (by rw [ha0]; rfl) trivial (enters_of Try.func46 (by kernel_rfl) rfl)
              (HSQ.out u2 FU2.out) (Below.refl _ _) (fun _ => rfl) (fun h k => h.trans k) (fun W l o o' hl hW hc _ => Kz.putObj o' hW hc)
              (Ga u2 nb2 ls) (fun c pre W => c = .exit 2 ∧ ((pre.length : Int) = stop ∨ nW < pre.length) ∧ Ga u2 nb2 ls pre W) (Gw u2 nb2 ls a0.tmps) Ga.own (fun c pre W W' row h hg hr => ⟨h.1, h.2.1, Ga.own pre W W' row h.2.2 hg hr⟩) ⟨none, 0, BU2.out, Sx.nil _ _, ⟨ls, rfl⟩, Fr.refl _ _⟩
              (fun pre x a1 W l o o' hl hW hc _ h => h.put o' hl hW hc) ?assign ?body ?done ?stop
            case assign =>
              subst ha0
              rintro l pre x W0 W Kn ⟨a, c, hbx, hsx, hpf, hfr⟩ hfW ⟨hv1, hv2⟩ hK
              have hz := hv2.size
              obtain ⟨V, st, hbV, fV⟩ := box_whole (V := W.alloc (.cells zS59 79)) (Go.heap_alloc_new W _) (by rw [hz]; rfl) (by rw [hz]; kernel_rfl) hv2.one
              have fW : Fr (fun _ => False) W V := (Fr.alloc (Fr.refl (fun _ => False) W) _).trans fV (fun i hi e => by omega)
              have hsV := fW.size
              have hxW := hfW.cells hbx (fun h => h)
              have hxl := lt_of_row hbx
              have fin : KeepsFrom u2.heap.size W V ∧ Kz (fun k => ¬ K k) W V ∧ ∀ t, Gw u2 nb2 ls t pre x { tmps := (t.setIfInBounds 12 (.agg x.1)).setIfInBounds 8 (ptrV W.heap.size), defers := [] } V :=
                ⟨⟨hsV, fun k o _ hk _ => fW.cells hk (fun h => h)⟩, Kz.of_fr fW, fun t => ⟨W.heap.size, a, c, W0, rfl, hbV, fW.cells hxW (fun h => h), hsx, (Kz.of_fr hfW).trans (Kz.of_fr fW), hxl, (hv2.kept fW (fun _ _ h => h)).mono (fun i hi => ⟨hi.1, by omega⟩), hv1, (hfr.trans (hfW.mono (fun _ _ h => h.elim)) (fun _ _ h => h)).trans (fW.mono (fun _ _ h => h.elim)) (fun _ _ h => h)⟩⟩
              have ST := hid st
              have FIN := hid fin
              have HK2 := hid hK
              clear hbx hsx hpf hfr hfW hv1 hv2 hz st hbV fV fW hsV hxW hxl fin hK
              gi_wp2_with (first
                | (refine wpListIn_store_v (by exact ST.out) rfl (by exact ⟨_, _, rfl, rfl, rfl⟩) ?_))
              exact HK2.out _ _ FIN.out.1 FIN.out.2.1 (FIN.out.2.2 _)
            case body =>
              subst ha0
              rintro l pre x a1 W ⟨v, a, c, W0, rfl, hv, hbx, hsx, hkz, hxl, hrs, hpf, hfr⟩
              have hz := hrs.size
              have hpl : pre.length < 300000000000 := by
                have h1 := hpf.length_le
                have h2 := HLS.out
                rw [List.length_append, List.length_map] at h1
                simp only [List.length_cons, List.length_nil] at h1
                omega
              have hb1 : nb2 + 1 ≤ W0.heap.size := hxl
              have hsx' := hsx.kz hkz (fun _ _ _ h => h)
              obtain ⟨a', c', W2, hr, hro, hf2, hn2⟩ := sd_append W a c pre.length (flatE pre) hsx'.row (by omega) x.1 hz (fun u hu => by have := hrs.one; rw [Array.all_eq_true_iff_forall_mem] at this; exact this u (by simpa using hu))
              have hmore := hsx.more hkz hrs hb1 hf2 hro hn2
              have hna : blk a ≠ some nb2 := fun e => by have := hsx.new _ e; omega
              have hx2 := hf2.cells hbx hna
              have LD := hid (load_whole (ty := 79) hv Try.underlying79 rfl (by rw [hz]; kernel_rfl))
              have hfo : Array.foldl (fun (cs : Array Value) x => cs.setIfInBounds x.2 x.1) zS59 x.1.zipIdx 0 59 = x.1 := fold_set0 59 x.1 zS59 hz rfl
              have hr2 := hr
              rw [← hfo] at hr2
              have fs : Fr (fun k => k = nb2) W2 (W2.setCell ⟨nb2, 0, none⟩ (.slice a' (pre.length + 1) c')) := Fr.setCell (p := ⟨nb2, 0, none⟩) (S := fun k => k = nb2) (Fr.refl _ _) (fun _ => rfl) _
              have hs2 := hf2.size
              have fin : KeepsFrom u2.heap.size W (W2.setCell ⟨nb2, 0, none⟩ (.slice a' (pre.length + 1) c')) ∧ Kz (fun k => ¬ K k) W (W2.setCell ⟨nb2, 0, none⟩ (.slice a' (pre.length + 1) c')) ∧ Ga u2 nb2 ls (pre ++ [x]) (W2.setCell ⟨nb2, 0, none⟩ (.slice a' (pre.length + 1) c')) := by
                refine ⟨⟨Nat.le_trans hs2 fs.size, fun k o hk h1 hc => ?_⟩, ?_, a', c', ?_, hmore.kept fs (fun k hk _ e => by omega), by rw [List.map_append]; exact hpf, ?_⟩
                · have h2 : W2.heap[k]? = some o := by
                    rw [hf2.block k (lt_of_row h1) (fun e => ?_)]
                    · exact h1
                    · rcases hsx'.row.2 with ⟨h3, _⟩ | ⟨g, o', cur, h3, h4, _⟩
                      · rw [h3] at e; simp [blk] at e
                      · rw [h3] at e
                        simp [blk] at e
                        subst e
                        rw [h4] at h1
                        cases h1
                        cases hc
                  exact fs.cells h2 (fun e => by have := HUS2.out; omega)
                · refine (Kz.of_fr' hf2).mono (fun k hk h => ?_) |>.trans ((Kz.of_fr' fs).mono (fun k hk h => ?_))
                  · have h3 := hsx.new k hk
                    have h4 := HK.out k h
                    have h5 := HWN2.out
                    omega
                  · have h4 := HK.out k h
                    have h5 := HWN2.out
                    omega
                · rw [setCell_row hx2, List.length_append]; rfl
                · refine (hfr.trans hf2 (fun i hi e => ?_)).trans fs (fun _ _ h => h)
                  have h3 := hsx.new i e
                  have h4 := HUS2.out
                  omega
              obtain ⟨m, hm⟩ : ∃ m, pre.length + 1 = m := ⟨_, rfl⟩
              have hm2 : (pre ++ [x]).length = m := by rw [List.length_append]; exact hm
              rw [hm] at hr2 fin
              have cb : W.cell? ⟨nb2, 0, none⟩ = some (.slice a pre.length c) := cellA hbx rfl
              have c2 : W2.cell? ⟨nb2, 0, none⟩ = some (.slice a pre.length c) := cellA hx2 rfl
              have z2 := frozen_of_row (j := 0) hx2
              have hwu : Fr (fun k => k = nb2 ∨ blk a = some k) u2 W2 := (hfr.mono (fun _ _ h => .inl h)).trans hf2 (fun _ _ h => .inr h)
              have hn0 : ¬ (w.heap.size = nb2 ∨ blk a = some w.heap.size) := fun e => by
                have h5 := HWN2.out
                rcases e with e | e
                · omega
                · have := hsx.new _ e; omega
              have hn1 : ¬ (w.heap.size + 1 = nb2 ∨ blk a = some (w.heap.size + 1)) := fun e => by
                have h5 := HWN2.out
                rcases e with e | e
                · omega
                · have := hsx.new _ e; omega
              have e0 : W2.cell? ⟨w.heap.size, 0, none⟩ = some (.slice wa nW wc) := cellA (hwu.cells HB02.out hn0) rfl
              have e1 : W2.cell? ⟨w.heap.size + 1, 0, none⟩ = some (.int .i64 stop) := cellA (hwu.cells HB12.out hn1) rfl
              have ne0 : w.heap.size ≠ nb2 := by have h5 := HWN2.out; omega
              have ne1 : w.heap.size + 1 ≠ nb2 := by have h5 := HWN2.out; omega
              have R2 := hid hr2
              have FIN := hid fin
              have HM2 := hid hm2
              clear hv hbx hsx hkz hxl hrs hpf hfr hpl hb1 hsx' hr hro hf2 hn2 hmore hna hx2 hfo hr2 fs hs2 fin hm hm2 hwu hn0 hn1
              by_cases hms : (m : Int) = stop
              · have HMS := hid hms
                subst hms
                gi_wp2_with (first
                  | (refine wpListIn_load_v LD.out rfl (by exact ⟨_, rfl, rfl⟩) ?_)
                  | (gi_at_builtin; refine wpListIn_append_eq _ _ rfl _ _ _ rfl _ _ _ rfl rfl (by exact R2.out) ?_))
                exact ⟨FIN.out.1, rfl, .inl (by rw [HM2.out]), FIN.out.2.2⟩
              · by_cases hmn : (nW : Int) < (m : Int)
                · gi_wp2_with (first
                    | (refine wpListIn_load_v LD.out rfl (by exact ⟨_, rfl, rfl⟩) ?_)
                    | (gi_at_builtin; refine wpListIn_append_eq _ _ rfl _ _ _ rfl _ _ _ rfl rfl (by exact R2.out) ?_))
                  exact ⟨FIN.out.1, rfl, .inr (by rw [HM2.out]; omega), FIN.out.2.2⟩
                · gi_wp2_with (first
                    | (refine wpListIn_load_v LD.out rfl (by exact ⟨_, rfl, rfl⟩) ?_)
                    | (gi_at_builtin; refine wpListIn_append_eq _ _ rfl _ _ _ rfl _ _ _ rfl rfl (by exact R2.out) ?_))
                  exact FIN.out
            case done =>
              rintro D0 xs W0 hD hxs hga hK0
              exact ⟨.inl rfl, D0, xs, rfl, hD, ⟨hga, .inl (by rw [← hxs, List.length_map])⟩, hK0⟩
            case stop =>
              rintro D c pre W hD hSp ⟨rfl, hst, hga⟩ hK0
              gi_wp2
              exact ⟨.inr rfl, D, pre, rfl, hD, ⟨hga, .inr hst⟩, hK0⟩
          case rest =>
            subst ha0
            rintro e a' W2 ⟨he, D2, xs, rfl, hD, ⟨⟨xa, xc, hbx, hsx, hpf, hfr⟩, hend⟩, hK0⟩
            refine inBlock_both he ?_
            obtain ⟨m, hm⟩ : ∃ m, xs.length = m := ⟨_, rfl⟩
            rw [hm] at hbx hend
            have hml : m ≤ 300000000000 := by have h1 := hpf.length_le; rw [List.length_map, hm] at h1; have h2 := HLS.out; omega
            have fW : Fr (fun _ => False) w W2 := FU2.out.trans hfr (fun i hi e => by have h5 := HWN2.out; omega)
            have cg : W2.cell? ⟨nb2, 0, none⟩ = some (.slice xa m xc) := cellA hbx rfl
            have cw : W2.cell? ⟨w.heap.size, 0, none⟩ = some (.slice wa nW wc) := cellA (hfr.cells HB02.out (fun e => by have h5 := HWN2.out; omega)) rfl
            have cs_ : W2.cell? ⟨w.heap.size + 1, 0, none⟩ = some (.int .i64 stop) := cellA (hfr.cells HB12.out (fun e => by have h5 := HWN2.out; omega)) rfl
            have KS := hid (fun (V : World) (hf : Fr (fun _ => False) W2 V) => rsame_any (ca := xc) (cb := wc) ((hsx.ls).fr hf) (((HW.out.fr fW).fr hf).take m) (by omega))
            rw [hm] at KS
            have hpfx : gs.map (·.s) = ys.map Prod.snd → xs.map Prod.snd = (ys.take m).map Prod.snd := fun e => by
              obtain ⟨t, ht⟩ := hpf
              have h9 : (xs.map Prod.snd).length = m := by rw [List.length_map, hm]
              rw [List.map_take, ← e, HLE.out, ← ht, ← h9, List.take_left]
            have hle : gs.map (·.s) = ys.map Prod.snd → m ≤ nW ∧ (m = nW ∨ (m : Int) = stop) := fun e => by
              have h1 := hpf.length_le
              have h2 : ls.length = nW := by rw [← HLE.out, e, List.length_map, HNW.out]
              rw [List.length_map, hm, h2] at h1
              rw [h2] at hend
              exact ⟨h1, by omega⟩
            have HF2 := hid fW
            have HPF := hid hpfx
            have HLE2 := hid hle
            have HD2 := hid (show w.heap.size + 2 ≤ D2 by have h5 := HWN2.out; have h6 := HUS2.out; omega)
            have HK2 := hid hK0
            have HK12 := hid (hfr.cells HK11.out (fun e => by have h5 := HDN.out; omega))
            have HD12 := hid (show D1 ≠ D2 by have h5 := HDN.out; have h6 := HUS2.out; omega)
            have hmx : Try.prog.follows .mixedOrders = true := by kernel_rfl
            have hmw : m ≤ nW → m ≤ wc := fun h => by have := HWC.out; rw [HNW.out] at this; omega
            have hyl : m ≤ nW → (ys.take m).length = m := fun h => by rw [List.length_take, HNW.out]; omega
            clear hD hbx hsx hpf hfr hend hK0 hm hpfx hle fW he
            gi_wp2_with fail
            refine wpIn_wide.2 ?_
            by_cases hA : (nW : Int) < (m : Int)
            · refine wp_region_noPanic ?_
              refine wp_region_held (S := fun V => Fr (fun _ => False) W2 V) hmx ?_
              have hS : Fr (fun _ => False) W2 W2.drew := Fr.drew (Fr.refl _ _)
              simp only [List.size_toArray, List.length_cons, List.length_nil, Nat.reduceAdd, Array.replicate_succ, Array.replicate_zero, List.push_toArray, List.nil_append, List.cons_append]
              refine wpAnyH_take (i := 0) (v := ?_) rfl (by kernel_rfl) (by kernel_rfl) (by kernel_rfl) (fun _ _ _ h => h) (Or.inl ⟨by kernel_rfl, ?_⟩) hS ?_
              rotate_left 1
              · (intro w' hS'; have h1 := cellFr hS' (fun h => h) cg; clear hS'; go_simp; try with_reducible rfl)
              simp only [List.getElem_toArray, List.getElem_cons_zero, List.getElem_cons_succ, Act.put, List.setIfInBounds_toArray, List.set_cons_zero, List.set_cons_succ]
              refine wpAnyH_take (i := 1) (v := ?_) rfl (by kernel_rfl) (by kernel_rfl) (by kernel_rfl) (fun _ _ _ h => h) (Or.inl ⟨by kernel_rfl, ?_⟩) hS ?_
              rotate_left 1
              · (intro w' hS'; clear hS'; go_simp; try with_reducible rfl)
              simp only [List.getElem_toArray, List.getElem_cons_zero, List.getElem_cons_succ, Act.put, List.setIfInBounds_toArray, List.set_cons_zero, List.set_cons_succ]
              refine wpAnyH_take (i := 2) (v := ?_) rfl (by kernel_rfl) (by kernel_rfl) (by kernel_rfl) (fun _ _ _ h => h) (Or.inl ⟨by kernel_rfl, ?_⟩) hS ?_
              rotate_left 1
              · (intro w' hS'; have h1 := cellFr hS' (fun h => h) cw; clear hS'; go_simp; try with_reducible rfl)
              simp only [List.getElem_toArray, List.getElem_cons_zero, List.getElem_cons_succ, Act.put, List.setIfInBounds_toArray, List.set_cons_zero, List.set_cons_succ]
              refine wpAnyH_take (i := 3) (v := ?_) rfl (by kernel_rfl) (by kernel_rfl) (by kernel_rfl) (fun _ _ _ h => h) (Or.inl ⟨by kernel_rfl, ?_⟩) hS ?_
              rotate_left 1
              · (intro w' hS'; clear hS'; go_simp; try with_reducible rfl)
              simp only [List.getElem_toArray, List.getElem_cons_zero, List.getElem_cons_succ, Act.put, List.setIfInBounds_toArray, List.set_cons_zero, List.set_cons_succ]
              refine wpAnyH_take (i := 4) (v := .bool true) rfl (by kernel_rfl) (by kernel_rfl) (by kernel_rfl) (fun _ _ _ h => h) (Or.inl ⟨by kernel_rfl, fun w' hS' => by clear hS'; go_simp⟩) hS ?_
              simp only [List.getElem_toArray, List.getElem_cons_zero, List.getElem_cons_succ, Act.put, List.setIfInBounds_toArray, List.set_cons_zero, List.set_cons_succ]
              refine wpAnyH_take (i := 5) (v := ?_) rfl (by kernel_rfl) (by kernel_rfl) (by kernel_rfl) (fun _ _ _ h => h) (Or.inl ⟨by kernel_rfl, ?_⟩) hS ?_
              rotate_left 1
              · (intro w' hS'; clear hS'; go_simp; try with_reducible rfl)
              simp only [List.getElem_toArray, List.getElem_cons_zero, List.getElem_cons_succ, Act.put, List.setIfInBounds_toArray, List.set_cons_zero, List.set_cons_succ]
              refine wpAnyH_take (i := 6) (v := undef) rfl (by kernel_rfl) (by kernel_rfl) (by kernel_rfl) (fun _ _ _ h => h) (Or.inr ⟨by kernel_rfl, rfl⟩) hS ?_
              simp only [List.getElem_toArray, List.getElem_cons_zero, List.getElem_cons_succ, Act.put, List.setIfInBounds_toArray, List.set_cons_zero, List.set_cons_succ]
              refine wpAnyH_take (i := 7) (v := undef) rfl (by kernel_rfl) (by kernel_rfl) (by kernel_rfl) (fun _ _ _ h => h) (Or.inr ⟨by kernel_rfl, rfl⟩) hS ?_
              simp only [List.getElem_toArray, List.getElem_cons_zero, List.getElem_cons_succ, Act.put, List.setIfInBounds_toArray, List.set_cons_zero, List.set_cons_succ]
              refine wpAnyH_take (i := 8) (v := undef) rfl (by kernel_rfl) (by kernel_rfl) (by kernel_rfl) (fun _ _ _ h => h) (Or.inr ⟨by kernel_rfl, rfl⟩) hS ?_
              simp only [List.getElem_toArray, List.getElem_cons_zero, List.getElem_cons_succ, Act.put, List.setIfInBounds_toArray, List.set_cons_zero, List.set_cons_succ]
              refine wpAnyH_take (i := 9) (v := undef) rfl (by kernel_rfl) (by kernel_rfl) (by kernel_rfl) (fun _ _ _ h => h) (Or.inr ⟨by kernel_rfl, rfl⟩) hS ?_
              simp only [List.getElem_toArray, List.getElem_cons_zero, List.getElem_cons_succ, Act.put, List.setIfInBounds_toArray, List.set_cons_zero, List.set_cons_succ]
              refine wpAnyH_take (i := 10) (v := undef) rfl (by kernel_rfl) (by kernel_rfl) (by kernel_rfl) (fun _ _ _ h => h) (Or.inr ⟨by kernel_rfl, rfl⟩) hS ?_
              simp only [List.getElem_toArray, List.getElem_cons_zero, List.getElem_cons_succ, Act.put, List.setIfInBounds_toArray, List.set_cons_zero, List.set_cons_succ]
              refine wpAnyH_take (i := 11) (v := undef) rfl (by kernel_rfl) (by kernel_rfl) (by kernel_rfl) (fun _ _ _ h => h) (Or.inr ⟨by kernel_rfl, rfl⟩) hS ?_
              simp only [List.getElem_toArray, List.getElem_cons_zero, List.getElem_cons_succ, Act.put, List.setIfInBounds_toArray, List.set_cons_zero, List.set_cons_succ]
              refine wpAnyH_take (i := 12) (v := undef) rfl (by kernel_rfl) (by kernel_rfl) (by kernel_rfl) (fun _ _ _ h => h) (Or.inr ⟨by kernel_rfl, rfl⟩) hS ?_
              simp only [List.getElem_toArray, List.getElem_cons_zero, List.getElem_cons_succ, Act.put, List.setIfInBounds_toArray, List.set_cons_zero, List.set_cons_succ]
              refine wpAnyH_take (i := 13) (v := undef) rfl (by kernel_rfl) (by kernel_rfl) (by kernel_rfl) (fun _ _ _ h => h) (Or.inr ⟨by kernel_rfl, rfl⟩) hS ?_
              simp only [List.getElem_toArray, List.getElem_cons_zero, List.getElem_cons_succ, Act.put, List.setIfInBounds_toArray, List.set_cons_zero, List.set_cons_succ]
              refine wpAnyH_take (i := 14) (v := undef) rfl (by kernel_rfl) (by kernel_rfl) (by kernel_rfl) (fun _ _ _ h => h) (Or.inr ⟨by kernel_rfl, rfl⟩) hS ?_
              simp only [List.getElem_toArray, List.getElem_cons_zero, List.getElem_cons_succ, Act.put, List.setIfInBounds_toArray, List.set_cons_zero, List.set_cons_succ]
              refine wpAnyH_take (i := 15) (v := undef) rfl (by kernel_rfl) (by kernel_rfl) (by kernel_rfl) (fun _ _ _ h => h) (Or.inr ⟨by kernel_rfl, rfl⟩) hS ?_
              simp only [List.getElem_toArray, List.getElem_cons_zero, List.getElem_cons_succ, Act.put, List.setIfInBounds_toArray, List.set_cons_zero, List.set_cons_succ]
              refine wpAnyH_take (i := 16) (v := undef) rfl (by kernel_rfl) (by kernel_rfl) (by kernel_rfl) (fun _ _ _ h => h) (Or.inr ⟨by kernel_rfl, rfl⟩) hS ?_
              simp only [List.getElem_toArray, List.getElem_cons_zero, List.getElem_cons_succ, Act.put, List.setIfInBounds_toArray, List.set_cons_zero, List.set_cons_succ]
              refine wpAnyH_take (i := 17) (v := ?_) rfl (by kernel_rfl) (by kernel_rfl) (by kernel_rfl) (fun _ _ _ h => h) (Or.inl ⟨by kernel_rfl, ?_⟩) hS ?_
              rotate_left 1
              · (intro w' hS'; clear hS'; go_simp; try with_reducible rfl)
              simp only [List.getElem_toArray, List.getElem_cons_zero, List.getElem_cons_succ, Act.put, List.setIfInBounds_toArray, List.set_cons_zero, List.set_cons_succ]
              refine wpAnyH_take (i := 18) (v := ?_) rfl (by kernel_rfl) (by kernel_rfl) (by kernel_rfl) (fun _ _ _ h => h) (Or.inl ⟨by kernel_rfl, ?_⟩) hS ?_
              rotate_left 1
              · (intro w' hS'; clear hS'; go_simp; try with_reducible rfl)
              simp only [List.getElem_toArray, List.getElem_cons_zero, List.getElem_cons_succ, Act.put, List.setIfInBounds_toArray, List.set_cons_zero, List.set_cons_succ]
              refine wpAnyH_take (i := 19) (v := undef) rfl (by kernel_rfl) (by kernel_rfl) (by kernel_rfl) (fun _ _ _ h => h) (Or.inr ⟨by kernel_rfl, rfl⟩) hS ?_
              simp only [List.getElem_toArray, List.getElem_cons_zero, List.getElem_cons_succ, Act.put, List.setIfInBounds_toArray, List.set_cons_zero, List.set_cons_succ]
              refine wpAnyH_take (i := 20) (v := undef) rfl (by kernel_rfl) (by kernel_rfl) (by kernel_rfl) (fun _ _ _ h => h) (Or.inr ⟨by kernel_rfl, rfl⟩) hS ?_
              simp only [List.getElem_toArray, List.getElem_cons_zero, List.getElem_cons_succ, Act.put, List.setIfInBounds_toArray, List.set_cons_zero, List.set_cons_succ]
              refine wpAnyH_take (i := 21) (v := undef) rfl (by kernel_rfl) (by kernel_rfl) (by kernel_rfl) (fun _ _ _ h => h) (Or.inr ⟨by kernel_rfl, rfl⟩) hS ?_
              simp only [List.getElem_toArray, List.getElem_cons_zero, List.getElem_cons_succ, Act.put, List.setIfInBounds_toArray, List.set_cons_zero, List.set_cons_succ]
              refine wpAnyH_take (i := 22) (v := undef) rfl (by kernel_rfl) (by kernel_rfl) (by kernel_rfl) (fun _ _ _ h => h) (Or.inr ⟨by kernel_rfl, rfl⟩) hS ?_
              simp only [List.getElem_toArray, List.getElem_cons_zero, List.getElem_cons_succ, Act.put, List.setIfInBounds_toArray, List.set_cons_zero, List.set_cons_succ]
              refine wpAnyH_take (i := 23) (v := undef) rfl (by kernel_rfl) (by kernel_rfl) (by kernel_rfl) (fun _ _ _ h => h) (Or.inr ⟨by kernel_rfl, rfl⟩) hS ?_
              simp only [List.getElem_toArray, List.getElem_cons_zero, List.getElem_cons_succ, Act.put, List.setIfInBounds_toArray, List.set_cons_zero, List.set_cons_succ]
              refine wpAnyH_take (i := 24) (v := undef) rfl (by kernel_rfl) (by kernel_rfl) (by kernel_rfl) (fun _ _ _ h => h) (Or.inr ⟨by kernel_rfl, rfl⟩) hS ?_
              simp only [List.getElem_toArray, List.getElem_cons_zero, List.getElem_cons_succ, Act.put, List.setIfInBounds_toArray, List.set_cons_zero, List.set_cons_succ]
              refine wpAnyH_take (i := 25) (v := undef) rfl (by kernel_rfl) (by kernel_rfl) (by kernel_rfl) (fun _ _ _ h => h) (Or.inr ⟨by kernel_rfl, rfl⟩) hS ?_
              simp only [List.getElem_toArray, List.getElem_cons_zero, List.getElem_cons_succ, Act.put, List.setIfInBounds_toArray, List.set_cons_zero, List.set_cons_succ]
              refine wpAnyH_take (i := 26) (v := ?_) rfl (by kernel_rfl) (by kernel_rfl) (by kernel_rfl) (fun _ _ _ h => h) (Or.inl ⟨by kernel_rfl, ?_⟩) hS ?_
              rotate_left 1
              · (intro w' hS'; clear hS'; go_simp; try with_reducible rfl)
              simp only [List.getElem_toArray, List.getElem_cons_zero, List.getElem_cons_succ, Act.put, List.setIfInBounds_toArray, List.set_cons_zero, List.set_cons_succ]
              refine wpAnyH_done (by kernel_rfl) ?_ _
              refine NoPanic.normal ?_
              have FS := hid hS
              clear hS
              gi_wp2
              have q2 := (FS.out).cells HK2.out (fun h => h)
              refine ⟨by simp, .inl ⟨_, _, rfl, run_takeDeferred q2, ?_⟩⟩
              have q1 := ((FS.out).cells HK12.out (fun h => h))
              have hd12 := HD12.out
              refine ⟨by simp, .inl ⟨_, _, rfl, run_takeDeferred ((World.putObj_heap_other (by omega)).trans q1), ?_⟩⟩
              refine ⟨.bool false, by simp [results, Try.f15, go_sem], ?_⟩
              refine ⟨false, rfl, (fun e => by have := (HLE2.out e).1; omega), ?_⟩
              have hsz := HF2.out.size
              have hdd := HD2.out
              have hd1 := HD1.out
              exact ((HF2.out.trans FS.out (fun _ _ h => h)).trans (Fr.of_grown (grownBy_putObj' _ D2 _)) (fun i hi e => by simp at e; omega)).trans (Fr.of_grown (grownBy_putObj' _ D1 _)) (fun i hi e => by simp at e; omega)
            · have hmn : m ≤ nW := by omega
              have cu := fun V => run_cutS_hi V wa nW wc m (hmw hmn) (m : Int) rfl
              rw [hyl hmn] at KS
              by_cases hC : m = nW
              · have hC3 := hC.symm
                clear hC
                subst hC3
                refine wp_region_noPanic ?_
                refine wp_region_held (S := fun V => Fr (fun _ => False) W2 V) hmx ?_
                have hS : Fr (fun _ => False) W2 W2.drew := Fr.drew (Fr.refl _ _)
                simp only [List.size_toArray, List.length_cons, List.length_nil, Nat.reduceAdd, Array.replicate_succ, Array.replicate_zero, List.push_toArray, List.nil_append, List.cons_append]
                refine wpAnyH_take (i := 0) (v := ?_) rfl (by kernel_rfl) (by kernel_rfl) (by kernel_rfl) (fun _ _ _ h => h) (Or.inl ⟨by kernel_rfl, ?_⟩) hS ?_
                rotate_left 1
                · (intro w' hS'; have h1 := cellFr hS' (fun h => h) cg; clear hS'; go_simp; try with_reducible rfl)
                simp only [List.getElem_toArray, List.getElem_cons_zero, List.getElem_cons_succ, Act.put, List.setIfInBounds_toArray, List.set_cons_zero, List.set_cons_succ]
                refine wpAnyH_take (i := 1) (v := ?_) rfl (by kernel_rfl) (by kernel_rfl) (by kernel_rfl) (fun _ _ _ h => h) (Or.inl ⟨by kernel_rfl, ?_⟩) hS ?_
                rotate_left 1
                · (intro w' hS'; clear hS'; go_simp; try with_reducible rfl)
                simp only [List.getElem_toArray, List.getElem_cons_zero, List.getElem_cons_succ, Act.put, List.setIfInBounds_toArray, List.set_cons_zero, List.set_cons_succ]
                refine wpAnyH_take (i := 2) (v := ?_) rfl (by kernel_rfl) (by kernel_rfl) (by kernel_rfl) (fun _ _ _ h => h) (Or.inl ⟨by kernel_rfl, ?_⟩) hS ?_
                rotate_left 1
                · (intro w' hS'; have h1 := cellFr hS' (fun h => h) cw; clear hS'; go_simp; try with_reducible rfl)
                simp only [List.getElem_toArray, List.getElem_cons_zero, List.getElem_cons_succ, Act.put, List.setIfInBounds_toArray, List.set_cons_zero, List.set_cons_succ]
                refine wpAnyH_take (i := 3) (v := ?_) rfl (by kernel_rfl) (by kernel_rfl) (by kernel_rfl) (fun _ _ _ h => h) (Or.inl ⟨by kernel_rfl, ?_⟩) hS ?_
                rotate_left 1
                · (intro w' hS'; clear hS'; go_simp; try with_reducible rfl)
                simp only [List.getElem_toArray, List.getElem_cons_zero, List.getElem_cons_succ, Act.put, List.setIfInBounds_toArray, List.set_cons_zero, List.set_cons_succ]
                refine wpAnyH_take (i := 4) (v := .bool false) rfl (by kernel_rfl) (by kernel_rfl) (by kernel_rfl) (fun _ _ _ h => h) (Or.inl ⟨by kernel_rfl, fun w' hS' => by clear hS'; go_simp⟩) hS ?_
                simp only [List.getElem_toArray, List.getElem_cons_zero, List.getElem_cons_succ, Act.put, List.setIfInBounds_toArray, List.set_cons_zero, List.set_cons_succ]
                refine wpAnyH_take (i := 5) (v := ?_) rfl (by kernel_rfl) (by kernel_rfl) (by kernel_rfl) (fun _ _ _ h => h) (Or.inl ⟨by kernel_rfl, ?_⟩) hS ?_
                rotate_left 1
                · (intro w' hS'; clear hS'; go_simp; try with_reducible rfl)
                simp only [List.getElem_toArray, List.getElem_cons_zero, List.getElem_cons_succ, Act.put, List.setIfInBounds_toArray, List.set_cons_zero, List.set_cons_succ]
                refine wpAnyH_take (i := 6) (v := ?_) rfl (by kernel_rfl) (by kernel_rfl) (by kernel_rfl) (fun _ _ _ h => h) (Or.inl ⟨by kernel_rfl, ?_⟩) hS ?_
                rotate_left 1
                · (intro w' hS'; have h1 := cellFr hS' (fun h => h) cg; clear hS'; go_simp; try with_reducible rfl)
                simp only [List.getElem_toArray, List.getElem_cons_zero, List.getElem_cons_succ, Act.put, List.setIfInBounds_toArray, List.set_cons_zero, List.set_cons_succ]
                refine wpAnyH_take (i := 7) (v := ?_) rfl (by kernel_rfl) (by kernel_rfl) (by kernel_rfl) (fun _ _ _ h => h) (Or.inl ⟨by kernel_rfl, ?_⟩) hS ?_
                rotate_left 1
                · (intro w' hS'; clear hS'; go_simp; try with_reducible rfl)
                simp only [List.getElem_toArray, List.getElem_cons_zero, List.getElem_cons_succ, Act.put, List.setIfInBounds_toArray, List.set_cons_zero, List.set_cons_succ]
                refine wpAnyH_take (i := 8) (v := ?_) rfl (by kernel_rfl) (by kernel_rfl) (by kernel_rfl) (fun _ _ _ h => h) (Or.inl ⟨by kernel_rfl, ?_⟩) hS ?_
                rotate_left 1
                · (intro w' hS'; have h1 := cellFr hS' (fun h => h) cw; clear hS'; go_simp; try with_reducible rfl)
                simp only [List.getElem_toArray, List.getElem_cons_zero, List.getElem_cons_succ, Act.put, List.setIfInBounds_toArray, List.set_cons_zero, List.set_cons_succ]
                refine wpAnyH_take (i := 9) (v := ?_) rfl (by kernel_rfl) (by kernel_rfl) (by kernel_rfl) (fun _ _ _ h => h) (Or.inl ⟨by kernel_rfl, ?_⟩) hS ?_
                rotate_left 1
                · (intro w' hS'; clear hS'; go_simp; try with_reducible rfl)
                simp only [List.getElem_toArray, List.getElem_cons_zero, List.getElem_cons_succ, Act.put, List.setIfInBounds_toArray, List.set_cons_zero, List.set_cons_succ]
                refine wpAnyH_take (i := 10) (v := .bool false) rfl (by kernel_rfl) (by kernel_rfl) (by kernel_rfl) (fun _ _ _ h => h) (Or.inl ⟨by kernel_rfl, fun w' hS' => by clear hS'; go_simp⟩) hS ?_
                simp only [List.getElem_toArray, List.getElem_cons_zero, List.getElem_cons_succ, Act.put, List.setIfInBounds_toArray, List.set_cons_zero, List.set_cons_succ]
                refine wpAnyH_take (i := 11) (v := ?_) rfl (by kernel_rfl) (by kernel_rfl) (by kernel_rfl) (fun _ _ _ h => h) (Or.inl ⟨by kernel_rfl, ?_⟩) hS ?_
                rotate_left 1
                · (intro w' hS'; clear hS'; go_simp; try with_reducible rfl)
                simp only [List.getElem_toArray, List.getElem_cons_zero, List.getElem_cons_succ, Act.put, List.setIfInBounds_toArray, List.set_cons_zero, List.set_cons_succ]
                refine wpAnyH_take (i := 12) (v := undef) rfl (by kernel_rfl) (by kernel_rfl) (by kernel_rfl) (fun _ _ _ h => h) (Or.inr ⟨by kernel_rfl, rfl⟩) hS ?_
                simp only [List.getElem_toArray, List.getElem_cons_zero, List.getElem_cons_succ, Act.put, List.setIfInBounds_toArray, List.set_cons_zero, List.set_cons_succ]
                refine wpAnyH_take (i := 13) (v := undef) rfl (by kernel_rfl) (by kernel_rfl) (by kernel_rfl) (fun _ _ _ h => h) (Or.inr ⟨by kernel_rfl, rfl⟩) hS ?_
                simp only [List.getElem_toArray, List.getElem_cons_zero, List.getElem_cons_succ, Act.put, List.setIfInBounds_toArray, List.set_cons_zero, List.set_cons_succ]
                refine wpAnyH_take (i := 14) (v := undef) rfl (by kernel_rfl) (by kernel_rfl) (by kernel_rfl) (fun _ _ _ h => h) (Or.inr ⟨by kernel_rfl, rfl⟩) hS ?_
                simp only [List.getElem_toArray, List.getElem_cons_zero, List.getElem_cons_succ, Act.put, List.setIfInBounds_toArray, List.set_cons_zero, List.set_cons_succ]
                refine wpAnyH_take (i := 15) (v := undef) rfl (by kernel_rfl) (by kernel_rfl) (by kernel_rfl) (fun _ _ _ h => h) (Or.inr ⟨by kernel_rfl, rfl⟩) hS ?_
                simp only [List.getElem_toArray, List.getElem_cons_zero, List.getElem_cons_succ, Act.put, List.setIfInBounds_toArray, List.set_cons_zero, List.set_cons_succ]
                refine wpAnyH_take (i := 16) (v := ?_) rfl (by kernel_rfl) (by kernel_rfl) (by kernel_rfl) (fun _ _ _ h => h) (Or.inl ⟨by kernel_rfl, ?_⟩) hS ?_
                rotate_left 1
                · (intro w' hS'; clear hS'; go_simp; try with_reducible rfl)
                simp only [List.getElem_toArray, List.getElem_cons_zero, List.getElem_cons_succ, Act.put, List.setIfInBounds_toArray, List.set_cons_zero, List.set_cons_succ]
                refine wpAnyH_take (i := 17) (v := ?_) rfl (by kernel_rfl) (by kernel_rfl) (by kernel_rfl) (fun _ _ _ h => h) (Or.inl ⟨by kernel_rfl, ?_⟩) hS ?_
                rotate_left 1
                · (intro w' hS'; clear hS'; go_simp; try with_reducible rfl)
                simp only [List.getElem_toArray, List.getElem_cons_zero, List.getElem_cons_succ, Act.put, List.setIfInBounds_toArray, List.set_cons_zero, List.set_cons_succ]
                refine wpAnyH_take (i := 18) (v := ?_) rfl (by kernel_rfl) (by kernel_rfl) (by kernel_rfl) (fun _ _ _ h => h) (Or.inl ⟨by kernel_rfl, ?_⟩) hS ?_
                rotate_left 1
                · (intro w' hS'; clear hS'; go_simp; try with_reducible rfl)
                simp only [List.getElem_toArray, List.getElem_cons_zero, List.getElem_cons_succ, Act.put, List.setIfInBounds_toArray, List.set_cons_zero, List.set_cons_succ]
                refine wpAnyH_take (i := 19) (v := ?_) rfl (by kernel_rfl) (by kernel_rfl) (by kernel_rfl) (fun _ _ _ h => h) (Or.inl ⟨by kernel_rfl, ?_⟩) hS ?_
                rotate_left 1
                · (intro w' hS'; have h1 := cellFr hS' (fun h => h) cg; clear hS'; go_simp; try with_reducible rfl)
                simp only [List.getElem_toArray, List.getElem_cons_zero, List.getElem_cons_succ, Act.put, List.setIfInBounds_toArray, List.set_cons_zero, List.set_cons_succ]
                refine wpAnyH_take (i := 20) (v := ?_) rfl (by kernel_rfl) (by kernel_rfl) (by kernel_rfl) (fun _ _ _ h => h) (Or.inl ⟨by kernel_rfl, ?_⟩) hS ?_
                rotate_left 1
                · (intro w' hS'; have h1 := cellFr hS' (fun h => h) cw; clear hS'; go_simp; try with_reducible rfl)
                simp only [List.getElem_toArray, List.getElem_cons_zero, List.getElem_cons_succ, Act.put, List.setIfInBounds_toArray, List.set_cons_zero, List.set_cons_succ]
                refine wpAnyH_take (i := 21) (v := ?_) rfl (by kernel_rfl) (by kernel_rfl) (by kernel_rfl) (fun _ _ _ h => h) (Or.inl ⟨by kernel_rfl, ?_⟩) hS ?_
                rotate_left 1
                · (intro w' hS'; have h1 := cellFr hS' (fun h => h) cg; clear hS'; go_simp; try with_reducible rfl)
                simp only [List.getElem_toArray, List.getElem_cons_zero, List.getElem_cons_succ, Act.put, List.setIfInBounds_toArray, List.set_cons_zero, List.set_cons_succ]
                refine wpAnyH_take (i := 22) (v := ?_) rfl (by kernel_rfl) (by kernel_rfl) (by kernel_rfl) (fun _ _ _ h => h) (Or.inl ⟨by kernel_rfl, ?_⟩) hS ?_
                rotate_left 1
                · (intro w' hS'; clear hS'; go_simp; try with_reducible rfl)
                simp only [List.getElem_toArray, List.getElem_cons_zero, List.getElem_cons_succ, Act.put, List.setIfInBounds_toArray, List.set_cons_zero, List.set_cons_succ]
                refine wpAnyH_take (i := 23) (v := ?_) rfl (by kernel_rfl) (by kernel_rfl) (by kernel_rfl) (fun _ _ _ h => h) (Or.inl ⟨by kernel_rfl, ?_⟩) hS ?_
                rotate_left 1
                · (intro w' hS'; have h1 := cu w'; clear hS'; go_simp; try with_reducible rfl)
                simp only [List.getElem_toArray, List.getElem_cons_zero, List.getElem_cons_succ, Act.put, List.setIfInBounds_toArray, List.set_cons_zero, List.set_cons_succ]
                refine wpAnyH_ready (rs := [24]) (by kernel_rfl) (by simp) ?_
                refine AllReadyH.cons rfl (fun K1 hK1 => ?_) AllReadyH.nil
                go_simp
                refine (KS.out _ hS).mono ?_
                rintro e w3 ⟨rb, rfl, hrb, f3⟩
                have f4 : Fr (fun _ => False) W2 w3 := hS.trans f3 (fun _ _ h => h)
                refine hK1.out _ _ f4 (fun hS => ?_)
                clear hK1 K1
                simp only [Act.put, List.setIfInBounds_toArray, List.set_cons_zero, List.set_cons_succ]
                refine wpAnyH_take (i := 25) (v := ?_) rfl (by kernel_rfl) (by kernel_rfl) (by kernel_rfl) (fun _ _ _ h => h) (Or.inl ⟨by kernel_rfl, ?_⟩) hS ?_
                rotate_left 1
                · (intro w' hS'; clear hS'; go_simp; try with_reducible rfl)
                simp only [List.getElem_toArray, List.getElem_cons_zero, List.getElem_cons_succ, Act.put, List.setIfInBounds_toArray, List.set_cons_zero, List.set_cons_succ]
                refine wpAnyH_take (i := 26) (v := ?_) rfl (by kernel_rfl) (by kernel_rfl) (by kernel_rfl) (fun _ _ _ h => h) (Or.inl ⟨by kernel_rfl, ?_⟩) hS ?_
                rotate_left 1
                · (intro w' hS'; clear hS'; go_simp; try with_reducible rfl)
                simp only [List.getElem_toArray, List.getElem_cons_zero, List.getElem_cons_succ, Act.put, List.setIfInBounds_toArray, List.set_cons_zero, List.set_cons_succ]
                refine wpAnyH_done (by kernel_rfl) ?_ _
                refine NoPanic.normal ?_
                have FS := hid hS
                have HRB := hid hrb
                clear hS hrb f3 f4
                cases rb with
                | false =>
                  gi_wp2
                  have q2 := (FS.out).cells HK2.out (fun h => h)
                  refine ⟨by simp, .inl ⟨_, _, rfl, run_takeDeferred q2, ?_⟩⟩
                  have q1 := ((FS.out).cells HK12.out (fun h => h))
                  have hd12 := HD12.out
                  refine ⟨by simp, .inl ⟨_, _, rfl, run_takeDeferred ((World.putObj_heap_other (by omega)).trans q1), ?_⟩⟩
                  refine ⟨.bool false, by simp [results, Try.f15, go_sem], ?_⟩
                  refine ⟨false, rfl, (fun e => by have := HRB.out.2 (HPF.out e); cases this), ?_⟩
                  have hsz := HF2.out.size
                  have hdd := HD2.out
                  have hd1 := HD1.out
                  exact ((HF2.out.trans FS.out (fun _ _ h => h)).trans (Fr.of_grown (grownBy_putObj' _ D2 _)) (fun i hi e => by simp at e; omega)).trans (Fr.of_grown (grownBy_putObj' _ D1 _)) (fun i hi e => by simp at e; omega)
                | true =>
                  gi_wp2_with fail
                  rw [roundsIn_succ]
                  gi_wp2
                  have q2 := (FS.out).cells HK2.out (fun h => h)
                  refine ⟨by simp, .inl ⟨_, _, rfl, run_takeDeferred q2, ?_⟩⟩
                  have q1 := ((FS.out).cells HK12.out (fun h => h))
                  have hd12 := HD12.out
                  refine ⟨by simp, .inl ⟨_, _, rfl, run_takeDeferred ((World.putObj_heap_other (by omega)).trans q1), ?_⟩⟩
                  refine ⟨.bool true, by simp [results, Try.f15, go_sem], ?_⟩
                  refine ⟨true, rfl, (fun _ => rfl), ?_⟩
                  have hsz := HF2.out.size
                  have hdd := HD2.out
                  have hd1 := HD1.out
                  exact ((HF2.out.trans FS.out (fun _ _ h => h)).trans (Fr.of_grown (grownBy_putObj' _ D2 _)) (fun i hi e => by simp at e; omega)).trans (Fr.of_grown (grownBy_putObj' _ D1 _)) (fun i hi e => by simp at e; omega)
              · have hC' : ¬ (m : Int) = (nW : Int) := by omega
                have hC2 : ((m : Int) == (nW : Int)) = false := beq_false_of_ne hC'
                by_cases hB : (m : Int) = stop
                · have hB2 : stop = (m : Int) := hB.symm
                  clear hB
                  refine wp_region_noPanic ?_
                  refine wp_region_held (S := fun V => Fr (fun _ => False) W2 V) hmx ?_
                  have hS : Fr (fun _ => False) W2 W2.drew := Fr.drew (Fr.refl _ _)
                  simp only [List.size_toArray, List.length_cons, List.length_nil, Nat.reduceAdd, Array.replicate_succ, Array.replicate_zero, List.push_toArray, List.nil_append, List.cons_append]
                  refine wpAnyH_take (i := 0) (v := ?_) rfl (by kernel_rfl) (by kernel_rfl) (by kernel_rfl) (fun _ _ _ h => h) (Or.inl ⟨by kernel_rfl, ?_⟩) hS ?_
                  rotate_left 1
                  · (intro w' hS'; have h1 := cellFr hS' (fun h => h) cg; clear hS'; go_simp; try with_reducible rfl)
                  simp only [List.getElem_toArray, List.getElem_cons_zero, List.getElem_cons_succ, Act.put, List.setIfInBounds_toArray, List.set_cons_zero, List.set_cons_succ]
                  refine wpAnyH_take (i := 1) (v := ?_) rfl (by kernel_rfl) (by kernel_rfl) (by kernel_rfl) (fun _ _ _ h => h) (Or.inl ⟨by kernel_rfl, ?_⟩) hS ?_
                  rotate_left 1
                  · (intro w' hS'; clear hS'; go_simp; try with_reducible rfl)
                  simp only [List.getElem_toArray, List.getElem_cons_zero, List.getElem_cons_succ, Act.put, List.setIfInBounds_toArray, List.set_cons_zero, List.set_cons_succ]
                  refine wpAnyH_take (i := 2) (v := ?_) rfl (by kernel_rfl) (by kernel_rfl) (by kernel_rfl) (fun _ _ _ h => h) (Or.inl ⟨by kernel_rfl, ?_⟩) hS ?_
                  rotate_left 1
                  · (intro w' hS'; have h1 := cellFr hS' (fun h => h) cw; clear hS'; go_simp; try with_reducible rfl)
                  simp only [List.getElem_toArray, List.getElem_cons_zero, List.getElem_cons_succ, Act.put, List.setIfInBounds_toArray, List.set_cons_zero, List.set_cons_succ]
                  refine wpAnyH_take (i := 3) (v := ?_) rfl (by kernel_rfl) (by kernel_rfl) (by kernel_rfl) (fun _ _ _ h => h) (Or.inl ⟨by kernel_rfl, ?_⟩) hS ?_
                  rotate_left 1
                  · (intro w' hS'; clear hS'; go_simp; try with_reducible rfl)
                  simp only [List.getElem_toArray, List.getElem_cons_zero, List.getElem_cons_succ, Act.put, List.setIfInBounds_toArray, List.set_cons_zero, List.set_cons_succ]
                  refine wpAnyH_take (i := 4) (v := .bool false) rfl (by kernel_rfl) (by kernel_rfl) (by kernel_rfl) (fun _ _ _ h => h) (Or.inl ⟨by kernel_rfl, fun w' hS' => by clear hS'; go_simp⟩) hS ?_
                  simp only [List.getElem_toArray, List.getElem_cons_zero, List.getElem_cons_succ, Act.put, List.setIfInBounds_toArray, List.set_cons_zero, List.set_cons_succ]
                  refine wpAnyH_take (i := 5) (v := ?_) rfl (by kernel_rfl) (by kernel_rfl) (by kernel_rfl) (fun _ _ _ h => h) (Or.inl ⟨by kernel_rfl, ?_⟩) hS ?_
                  rotate_left 1
                  · (intro w' hS'; clear hS'; go_simp; try with_reducible rfl)
                  simp only [List.getElem_toArray, List.getElem_cons_zero, List.getElem_cons_succ, Act.put, List.setIfInBounds_toArray, List.set_cons_zero, List.set_cons_succ]
                  refine wpAnyH_take (i := 6) (v := ?_) rfl (by kernel_rfl) (by kernel_rfl) (by kernel_rfl) (fun _ _ _ h => h) (Or.inl ⟨by kernel_rfl, ?_⟩) hS ?_
                  rotate_left 1
                  · (intro w' hS'; have h1 := cellFr hS' (fun h => h) cg; clear hS'; go_simp; try with_reducible rfl)
                  simp only [List.getElem_toArray, List.getElem_cons_zero, List.getElem_cons_succ, Act.put, List.setIfInBounds_toArray, List.set_cons_zero, List.set_cons_succ]
                  refine wpAnyH_take (i := 7) (v := ?_) rfl (by kernel_rfl) (by kernel_rfl) (by kernel_rfl) (fun _ _ _ h => h) (Or.inl ⟨by kernel_rfl, ?_⟩) hS ?_
                  rotate_left 1
                  · (intro w' hS'; clear hS'; go_simp; try with_reducible rfl)
                  simp only [List.getElem_toArray, List.getElem_cons_zero, List.getElem_cons_succ, Act.put, List.setIfInBounds_toArray, List.set_cons_zero, List.set_cons_succ]
                  refine wpAnyH_take (i := 8) (v := ?_) rfl (by kernel_rfl) (by kernel_rfl) (by kernel_rfl) (fun _ _ _ h => h) (Or.inl ⟨by kernel_rfl, ?_⟩) hS ?_
                  rotate_left 1
                  · (intro w' hS'; have h1 := cellFr hS' (fun h => h) cw; clear hS'; go_simp; try with_reducible rfl)
                  simp only [List.getElem_toArray, List.getElem_cons_zero, List.getElem_cons_succ, Act.put, List.setIfInBounds_toArray, List.set_cons_zero, List.set_cons_succ]
                  refine wpAnyH_take (i := 9) (v := ?_) rfl (by kernel_rfl) (by kernel_rfl) (by kernel_rfl) (fun _ _ _ h => h) (Or.inl ⟨by kernel_rfl, ?_⟩) hS ?_
                  rotate_left 1
                  · (intro w' hS'; clear hS'; go_simp; try with_reducible rfl)
                  simp only [List.getElem_toArray, List.getElem_cons_zero, List.getElem_cons_succ, Act.put, List.setIfInBounds_toArray, List.set_cons_zero, List.set_cons_succ]
                  refine wpAnyH_take (i := 10) (v := .bool true) rfl (by kernel_rfl) (by kernel_rfl) (by kernel_rfl) (fun _ _ _ h => h) (Or.inl ⟨by kernel_rfl, fun w' hS' => by clear hS'; go_simp⟩) hS ?_
                  simp only [List.getElem_toArray, List.getElem_cons_zero, List.getElem_cons_succ, Act.put, List.setIfInBounds_toArray, List.set_cons_zero, List.set_cons_succ]
                  refine wpAnyH_take (i := 11) (v := ?_) rfl (by kernel_rfl) (by kernel_rfl) (by kernel_rfl) (fun _ _ _ h => h) (Or.inl ⟨by kernel_rfl, ?_⟩) hS ?_
                  rotate_left 1
                  · (intro w' hS'; clear hS'; go_simp; try with_reducible rfl)
                  simp only [List.getElem_toArray, List.getElem_cons_zero, List.getElem_cons_succ, Act.put, List.setIfInBounds_toArray, List.set_cons_zero, List.set_cons_succ]
                  refine wpAnyH_take (i := 12) (v := ?_) rfl (by kernel_rfl) (by kernel_rfl) (by kernel_rfl) (fun _ _ _ h => h) (Or.inl ⟨by kernel_rfl, ?_⟩) hS ?_
                  rotate_left 1
                  · (intro w' hS'; have h1 := cellFr hS' (fun h => h) cg; clear hS'; go_simp; try with_reducible rfl)
                  simp only [List.getElem_toArray, List.getElem_cons_zero, List.getElem_cons_succ, Act.put, List.setIfInBounds_toArray, List.set_cons_zero, List.set_cons_succ]
                  refine wpAnyH_take (i := 13) (v := ?_) rfl (by kernel_rfl) (by kernel_rfl) (by kernel_rfl) (fun _ _ _ h => h) (Or.inl ⟨by kernel_rfl, ?_⟩) hS ?_
                  rotate_left 1
                  · (intro w' hS'; clear hS'; go_simp; try with_reducible rfl)
                  simp only [List.getElem_toArray, List.getElem_cons_zero, List.getElem_cons_succ, Act.put, List.setIfInBounds_toArray, List.set_cons_zero, List.set_cons_succ]
                  refine wpAnyH_take (i := 14) (v := ?_) rfl (by kernel_rfl) (by kernel_rfl) (by kernel_rfl) (fun _ _ _ h => h) (Or.inl ⟨by kernel_rfl, ?_⟩) hS ?_
                  rotate_left 1
                  · (intro w' hS'; have h1 := cellFr hS' (fun h => h) cs_; clear hS'; go_simp; try with_reducible rfl)
                  simp only [List.getElem_toArray, List.getElem_cons_zero, List.getElem_cons_succ, Act.put, List.setIfInBounds_toArray, List.set_cons_zero, List.set_cons_succ]
                  refine wpAnyH_take (i := 15) (v := .bool false) rfl (by kernel_rfl) (by kernel_rfl) (by kernel_rfl) (fun _ _ _ h => h) (Or.inl ⟨by kernel_rfl, fun w' hS' => by clear hS'; go_simp⟩) hS ?_
                  simp only [List.getElem_toArray, List.getElem_cons_zero, List.getElem_cons_succ, Act.put, List.setIfInBounds_toArray, List.set_cons_zero, List.set_cons_succ]
                  refine wpAnyH_take (i := 16) (v := ?_) rfl (by kernel_rfl) (by kernel_rfl) (by kernel_rfl) (fun _ _ _ h => h) (Or.inl ⟨by kernel_rfl, ?_⟩) hS ?_
                  rotate_left 1
                  · (intro w' hS'; clear hS'; go_simp; try with_reducible rfl)
                  simp only [List.getElem_toArray, List.getElem_cons_zero, List.getElem_cons_succ, Act.put, List.setIfInBounds_toArray, List.set_cons_zero, List.set_cons_succ]
                  refine wpAnyH_take (i := 17) (v := ?_) rfl (by kernel_rfl) (by kernel_rfl) (by kernel_rfl) (fun _ _ _ h => h) (Or.inl ⟨by kernel_rfl, ?_⟩) hS ?_
                  rotate_left 1
                  · (intro w' hS'; clear hS'; go_simp; try with_reducible rfl)
                  simp only [List.getElem_toArray, List.getElem_cons_zero, List.getElem_cons_succ, Act.put, List.setIfInBounds_toArray, List.set_cons_zero, List.set_cons_succ]
                  refine wpAnyH_take (i := 18) (v := ?_) rfl (by kernel_rfl) (by kernel_rfl) (by kernel_rfl) (fun _ _ _ h => h) (Or.inl ⟨by kernel_rfl, ?_⟩) hS ?_
                  rotate_left 1
                  · (intro w' hS'; clear hS'; go_simp; try with_reducible rfl)
                  simp only [List.getElem_toArray, List.getElem_cons_zero, List.getElem_cons_succ, Act.put, List.setIfInBounds_toArray, List.set_cons_zero, List.set_cons_succ]
                  refine wpAnyH_take (i := 19) (v := ?_) rfl (by kernel_rfl) (by kernel_rfl) (by kernel_rfl) (fun _ _ _ h => h) (Or.inl ⟨by kernel_rfl, ?_⟩) hS ?_
                  rotate_left 1
                  · (intro w' hS'; have h1 := cellFr hS' (fun h => h) cg; clear hS'; go_simp; try with_reducible rfl)
                  simp only [List.getElem_toArray, List.getElem_cons_zero, List.getElem_cons_succ, Act.put, List.setIfInBounds_toArray, List.set_cons_zero, List.set_cons_succ]
                  refine wpAnyH_take (i := 20) (v := ?_) rfl (by kernel_rfl) (by kernel_rfl) (by kernel_rfl) (fun _ _ _ h => h) (Or.inl ⟨by kernel_rfl, ?_⟩) hS ?_
                  rotate_left 1
                  · (intro w' hS'; have h1 := cellFr hS' (fun h => h) cw; clear hS'; go_simp; try with_reducible rfl)
                  simp only [List.getElem_toArray, List.getElem_cons_zero, List.getElem_cons_succ, Act.put, List.setIfInBounds_toArray, List.set_cons_zero, List.set_cons_succ]
                  refine wpAnyH_take (i := 21) (v := ?_) rfl (by kernel_rfl) (by kernel_rfl) (by kernel_rfl) (fun _ _ _ h => h) (Or.inl ⟨by kernel_rfl, ?_⟩) hS ?_
                  rotate_left 1
                  · (intro w' hS'; have h1 := cellFr hS' (fun h => h) cg; clear hS'; go_simp; try with_reducible rfl)
                  simp only [List.getElem_toArray, List.getElem_cons_zero, List.getElem_cons_succ, Act.put, List.setIfInBounds_toArray, List.set_cons_zero, List.set_cons_succ]
                  refine wpAnyH_take (i := 22) (v := ?_) rfl (by kernel_rfl) (by kernel_rfl) (by kernel_rfl) (fun _ _ _ h => h) (Or.inl ⟨by kernel_rfl, ?_⟩) hS ?_
                  rotate_left 1
                  · (intro w' hS'; clear hS'; go_simp; try with_reducible rfl)
                  simp only [List.getElem_toArray, List.getElem_cons_zero, List.getElem_cons_succ, Act.put, List.setIfInBounds_toArray, List.set_cons_zero, List.set_cons_succ]
                  refine wpAnyH_take (i := 23) (v := ?_) rfl (by kernel_rfl) (by kernel_rfl) (by kernel_rfl) (fun _ _ _ h => h) (Or.inl ⟨by kernel_rfl, ?_⟩) hS ?_
                  rotate_left 1
                  · (intro w' hS'; have h1 := cu w'; clear hS'; go_simp; try with_reducible rfl)
                  simp only [List.getElem_toArray, List.getElem_cons_zero, List.getElem_cons_succ, Act.put, List.setIfInBounds_toArray, List.set_cons_zero, List.set_cons_succ]
                  refine wpAnyH_ready (rs := [24]) (by kernel_rfl) (by simp) ?_
                  refine AllReadyH.cons rfl (fun K1 hK1 => ?_) AllReadyH.nil
                  go_simp
                  refine (KS.out _ hS).mono ?_
                  rintro e w3 ⟨rb, rfl, hrb, f3⟩
                  have f4 : Fr (fun _ => False) W2 w3 := hS.trans f3 (fun _ _ h => h)
                  refine hK1.out _ _ f4 (fun hS => ?_)
                  clear hK1 K1
                  simp only [Act.put, List.setIfInBounds_toArray, List.set_cons_zero, List.set_cons_succ]
                  refine wpAnyH_take (i := 25) (v := ?_) rfl (by kernel_rfl) (by kernel_rfl) (by kernel_rfl) (fun _ _ _ h => h) (Or.inl ⟨by kernel_rfl, ?_⟩) hS ?_
                  rotate_left 1
                  · (intro w' hS'; clear hS'; go_simp; try with_reducible rfl)
                  simp only [List.getElem_toArray, List.getElem_cons_zero, List.getElem_cons_succ, Act.put, List.setIfInBounds_toArray, List.set_cons_zero, List.set_cons_succ]
                  refine wpAnyH_take (i := 26) (v := ?_) rfl (by kernel_rfl) (by kernel_rfl) (by kernel_rfl) (fun _ _ _ h => h) (Or.inl ⟨by kernel_rfl, ?_⟩) hS ?_
                  rotate_left 1
                  · (intro w' hS'; clear hS'; go_simp; try with_reducible rfl)
                  simp only [List.getElem_toArray, List.getElem_cons_zero, List.getElem_cons_succ, Act.put, List.setIfInBounds_toArray, List.set_cons_zero, List.set_cons_succ]
                  refine wpAnyH_done (by kernel_rfl) ?_ _
                  refine NoPanic.normal ?_
                  have FS := hid hS
                  have HRB := hid hrb
                  clear hS hrb f3 f4 hB2 hC' hC2 hC
                  cases rb with
                  | false =>
                    gi_wp2
                    have q2 := (FS.out).cells HK2.out (fun h => h)
                    refine ⟨by simp, .inl ⟨_, _, rfl, run_takeDeferred q2, ?_⟩⟩
                    have q1 := ((FS.out).cells HK12.out (fun h => h))
                    have hd12 := HD12.out
                    refine ⟨by simp, .inl ⟨_, _, rfl, run_takeDeferred ((World.putObj_heap_other (by omega)).trans q1), ?_⟩⟩
                    refine ⟨.bool false, by simp [results, Try.f15, go_sem], ?_⟩
                    refine ⟨false, rfl, (fun e => by have := HRB.out.2 (HPF.out e); cases this), ?_⟩
                    have hsz := HF2.out.size
                    have hdd := HD2.out
                    have hd1 := HD1.out
                    exact ((HF2.out.trans FS.out (fun _ _ h => h)).trans (Fr.of_grown (grownBy_putObj' _ D2 _)) (fun i hi e => by simp at e; omega)).trans (Fr.of_grown (grownBy_putObj' _ D1 _)) (fun i hi e => by simp at e; omega)
                  | true =>
                    gi_wp2_with fail
                    rw [roundsIn_succ]
                    gi_wp2
                    have q2 := (FS.out).cells HK2.out (fun h => h)
                    refine ⟨by simp, .inl ⟨_, _, rfl, run_takeDeferred q2, ?_⟩⟩
                    have q1 := ((FS.out).cells HK12.out (fun h => h))
                    have hd12 := HD12.out
                    refine ⟨by simp, .inl ⟨_, _, rfl, run_takeDeferred ((World.putObj_heap_other (by omega)).trans q1), ?_⟩⟩
                    refine ⟨.bool true, by simp [results, Try.f15, go_sem], ?_⟩
                    refine ⟨true, rfl, (fun _ => rfl), ?_⟩
                    have hsz := HF2.out.size
                    have hdd := HD2.out
                    have hd1 := HD1.out
                    exact ((HF2.out.trans FS.out (fun _ _ h => h)).trans (Fr.of_grown (grownBy_putObj' _ D2 _)) (fun i hi e => by simp at e; omega)).trans (Fr.of_grown (grownBy_putObj' _ D1 _)) (fun i hi e => by simp at e; omega)
                · refine wp_region_noPanic ?_
                  refine wp_region_held (S := fun V => Fr (fun _ => False) W2 V) hmx ?_
                  have hS : Fr (fun _ => False) W2 W2.drew := Fr.drew (Fr.refl _ _)
                  simp only [List.size_toArray, List.length_cons, List.length_nil, Nat.reduceAdd, Array.replicate_succ, Array.replicate_zero, List.push_toArray, List.nil_append, List.cons_append]
                  refine wpAnyH_take (i := 0) (v := ?_) rfl (by kernel_rfl) (by kernel_rfl) (by kernel_rfl) (fun _ _ _ h => h) (Or.inl ⟨by kernel_rfl, ?_⟩) hS ?_
                  rotate_left 1
                  · (intro w' hS'; have h1 := cellFr hS' (fun h => h) cg; clear hS'; go_simp; try with_reducible rfl)
                  simp only [List.getElem_toArray, List.getElem_cons_zero, List.getElem_cons_succ, Act.put, List.setIfInBounds_toArray, List.set_cons_zero, List.set_cons_succ]
                  refine wpAnyH_take (i := 1) (v := ?_) rfl (by kernel_rfl) (by kernel_rfl) (by kernel_rfl) (fun _ _ _ h => h) (Or.inl ⟨by kernel_rfl, ?_⟩) hS ?_
                  rotate_left 1
                  · (intro w' hS'; clear hS'; go_simp; try with_reducible rfl)
                  simp only [List.getElem_toArray, List.getElem_cons_zero, List.getElem_cons_succ, Act.put, List.setIfInBounds_toArray, List.set_cons_zero, List.set_cons_succ]
                  refine wpAnyH_take (i := 2) (v := ?_) rfl (by kernel_rfl) (by kernel_rfl) (by kernel_rfl) (fun _ _ _ h => h) (Or.inl ⟨by kernel_rfl, ?_⟩) hS ?_
                  rotate_left 1
                  · (intro w' hS'; have h1 := cellFr hS' (fun h => h) cw; clear hS'; go_simp; try with_reducible rfl)
                  simp only [List.getElem_toArray, List.getElem_cons_zero, List.getElem_cons_succ, Act.put, List.setIfInBounds_toArray, List.set_cons_zero, List.set_cons_succ]
                  refine wpAnyH_take (i := 3) (v := ?_) rfl (by kernel_rfl) (by kernel_rfl) (by kernel_rfl) (fun _ _ _ h => h) (Or.inl ⟨by kernel_rfl, ?_⟩) hS ?_
                  rotate_left 1
                  · (intro w' hS'; clear hS'; go_simp; try with_reducible rfl)
                  simp only [List.getElem_toArray, List.getElem_cons_zero, List.getElem_cons_succ, Act.put, List.setIfInBounds_toArray, List.set_cons_zero, List.set_cons_succ]
                  refine wpAnyH_take (i := 4) (v := .bool false) rfl (by kernel_rfl) (by kernel_rfl) (by kernel_rfl) (fun _ _ _ h => h) (Or.inl ⟨by kernel_rfl, fun w' hS' => by clear hS'; go_simp⟩) hS ?_
                  simp only [List.getElem_toArray, List.getElem_cons_zero, List.getElem_cons_succ, Act.put, List.setIfInBounds_toArray, List.set_cons_zero, List.set_cons_succ]
                  refine wpAnyH_take (i := 5) (v := ?_) rfl (by kernel_rfl) (by kernel_rfl) (by kernel_rfl) (fun _ _ _ h => h) (Or.inl ⟨by kernel_rfl, ?_⟩) hS ?_
                  rotate_left 1
                  · (intro w' hS'; clear hS'; go_simp; try with_reducible rfl)
                  simp only [List.getElem_toArray, List.getElem_cons_zero, List.getElem_cons_succ, Act.put, List.setIfInBounds_toArray, List.set_cons_zero, List.set_cons_succ]
                  refine wpAnyH_take (i := 6) (v := ?_) rfl (by kernel_rfl) (by kernel_rfl) (by kernel_rfl) (fun _ _ _ h => h) (Or.inl ⟨by kernel_rfl, ?_⟩) hS ?_
                  rotate_left 1
                  · (intro w' hS'; have h1 := cellFr hS' (fun h => h) cg; clear hS'; go_simp; try with_reducible rfl)
                  simp only [List.getElem_toArray, List.getElem_cons_zero, List.getElem_cons_succ, Act.put, List.setIfInBounds_toArray, List.set_cons_zero, List.set_cons_succ]
                  refine wpAnyH_take (i := 7) (v := ?_) rfl (by kernel_rfl) (by kernel_rfl) (by kernel_rfl) (fun _ _ _ h => h) (Or.inl ⟨by kernel_rfl, ?_⟩) hS ?_
                  rotate_left 1
                  · (intro w' hS'; clear hS'; go_simp; try with_reducible rfl)
                  simp only [List.getElem_toArray, List.getElem_cons_zero, List.getElem_cons_succ, Act.put, List.setIfInBounds_toArray, List.set_cons_zero, List.set_cons_succ]
                  refine wpAnyH_take (i := 8) (v := ?_) rfl (by kernel_rfl) (by kernel_rfl) (by kernel_rfl) (fun _ _ _ h => h) (Or.inl ⟨by kernel_rfl, ?_⟩) hS ?_
                  rotate_left 1
                  · (intro w' hS'; have h1 := cellFr hS' (fun h => h) cw; clear hS'; go_simp; try with_reducible rfl)
                  simp only [List.getElem_toArray, List.getElem_cons_zero, List.getElem_cons_succ, Act.put, List.setIfInBounds_toArray, List.set_cons_zero, List.set_cons_succ]
                  refine wpAnyH_take (i := 9) (v := ?_) rfl (by kernel_rfl) (by kernel_rfl) (by kernel_rfl) (fun _ _ _ h => h) (Or.inl ⟨by kernel_rfl, ?_⟩) hS ?_
                  rotate_left 1
                  · (intro w' hS'; clear hS'; go_simp; try with_reducible rfl)
                  simp only [List.getElem_toArray, List.getElem_cons_zero, List.getElem_cons_succ, Act.put, List.setIfInBounds_toArray, List.set_cons_zero, List.set_cons_succ]
                  refine wpAnyH_take (i := 10) (v := .bool true) rfl (by kernel_rfl) (by kernel_rfl) (by kernel_rfl) (fun _ _ _ h => h) (Or.inl ⟨by kernel_rfl, fun w' hS' => by clear hS'; go_simp⟩) hS ?_
                  simp only [List.getElem_toArray, List.getElem_cons_zero, List.getElem_cons_succ, Act.put, List.setIfInBounds_toArray, List.set_cons_zero, List.set_cons_succ]
                  refine wpAnyH_take (i := 11) (v := ?_) rfl (by kernel_rfl) (by kernel_rfl) (by kernel_rfl) (fun _ _ _ h => h) (Or.inl ⟨by kernel_rfl, ?_⟩) hS ?_
                  rotate_left 1
                  · (intro w' hS'; clear hS'; go_simp; try with_reducible rfl)
                  simp only [List.getElem_toArray, List.getElem_cons_zero, List.getElem_cons_succ, Act.put, List.setIfInBounds_toArray, List.set_cons_zero, List.set_cons_succ]
                  refine wpAnyH_take (i := 12) (v := ?_) rfl (by kernel_rfl) (by kernel_rfl) (by kernel_rfl) (fun _ _ _ h => h) (Or.inl ⟨by kernel_rfl, ?_⟩) hS ?_
                  rotate_left 1
                  · (intro w' hS'; have h1 := cellFr hS' (fun h => h) cg; clear hS'; go_simp; try with_reducible rfl)
                  simp only [List.getElem_toArray, List.getElem_cons_zero, List.getElem_cons_succ, Act.put, List.setIfInBounds_toArray, List.set_cons_zero, List.set_cons_succ]
                  refine wpAnyH_take (i := 13) (v := ?_) rfl (by kernel_rfl) (by kernel_rfl) (by kernel_rfl) (fun _ _ _ h => h) (Or.inl ⟨by kernel_rfl, ?_⟩) hS ?_
                  rotate_left 1
                  · (intro w' hS'; clear hS'; go_simp; try with_reducible rfl)
                  simp only [List.getElem_toArray, List.getElem_cons_zero, List.getElem_cons_succ, Act.put, List.setIfInBounds_toArray, List.set_cons_zero, List.set_cons_succ]
                  refine wpAnyH_take (i := 14) (v := ?_) rfl (by kernel_rfl) (by kernel_rfl) (by kernel_rfl) (fun _ _ _ h => h) (Or.inl ⟨by kernel_rfl, ?_⟩) hS ?_
                  rotate_left 1
                  · (intro w' hS'; have h1 := cellFr hS' (fun h => h) cs_; clear hS'; go_simp; try with_reducible rfl)
                  simp only [List.getElem_toArray, List.getElem_cons_zero, List.getElem_cons_succ, Act.put, List.setIfInBounds_toArray, List.set_cons_zero, List.set_cons_succ]
                  refine wpAnyH_take (i := 15) (v := .bool true) rfl (by kernel_rfl) (by kernel_rfl) (by kernel_rfl) (fun _ _ _ h => h) (Or.inl ⟨by kernel_rfl, fun w' hS' => by clear hS'; go_simp⟩) hS ?_
                  simp only [List.getElem_toArray, List.getElem_cons_zero, List.getElem_cons_succ, Act.put, List.setIfInBounds_toArray, List.set_cons_zero, List.set_cons_succ]
                  refine wpAnyH_take (i := 16) (v := ?_) rfl (by kernel_rfl) (by kernel_rfl) (by kernel_rfl) (fun _ _ _ h => h) (Or.inl ⟨by kernel_rfl, ?_⟩) hS ?_
                  rotate_left 1
                  · (intro w' hS'; clear hS'; go_simp; try with_reducible rfl)
                  simp only [List.getElem_toArray, List.getElem_cons_zero, List.getElem_cons_succ, Act.put, List.setIfInBounds_toArray, List.set_cons_zero, List.set_cons_succ]
                  refine wpAnyH_take (i := 17) (v := ?_) rfl (by kernel_rfl) (by kernel_rfl) (by kernel_rfl) (fun _ _ _ h => h) (Or.inl ⟨by kernel_rfl, ?_⟩) hS ?_
                  rotate_left 1
                  · (intro w' hS'; clear hS'; go_simp; try with_reducible rfl)
                  simp only [List.getElem_toArray, List.getElem_cons_zero, List.getElem_cons_succ, Act.put, List.setIfInBounds_toArray, List.set_cons_zero, List.set_cons_succ]
                  refine wpAnyH_take (i := 18) (v := ?_) rfl (by kernel_rfl) (by kernel_rfl) (by kernel_rfl) (fun _ _ _ h => h) (Or.inl ⟨by kernel_rfl, ?_⟩) hS ?_
                  rotate_left 1
                  · (intro w' hS'; clear hS'; go_simp; try with_reducible rfl)
                  simp only [List.getElem_toArray, List.getElem_cons_zero, List.getElem_cons_succ, Act.put, List.setIfInBounds_toArray, List.set_cons_zero, List.set_cons_succ]
                  refine wpAnyH_take (i := 19) (v := undef) rfl (by kernel_rfl) (by kernel_rfl) (by kernel_rfl) (fun _ _ _ h => h) (Or.inr ⟨by kernel_rfl, rfl⟩) hS ?_
                  simp only [List.getElem_toArray, List.getElem_cons_zero, List.getElem_cons_succ, Act.put, List.setIfInBounds_toArray, List.set_cons_zero, List.set_cons_succ]
                  refine wpAnyH_take (i := 20) (v := undef) rfl (by kernel_rfl) (by kernel_rfl) (by kernel_rfl) (fun _ _ _ h => h) (Or.inr ⟨by kernel_rfl, rfl⟩) hS ?_
                  simp only [List.getElem_toArray, List.getElem_cons_zero, List.getElem_cons_succ, Act.put, List.setIfInBounds_toArray, List.set_cons_zero, List.set_cons_succ]
                  refine wpAnyH_take (i := 21) (v := undef) rfl (by kernel_rfl) (by kernel_rfl) (by kernel_rfl) (fun _ _ _ h => h) (Or.inr ⟨by kernel_rfl, rfl⟩) hS ?_
                  simp only [List.getElem_toArray, List.getElem_cons_zero, List.getElem_cons_succ, Act.put, List.setIfInBounds_toArray, List.set_cons_zero, List.set_cons_succ]
                  refine wpAnyH_take (i := 22) (v := undef) rfl (by kernel_rfl) (by kernel_rfl) (by kernel_rfl) (fun _ _ _ h => h) (Or.inr ⟨by kernel_rfl, rfl⟩) hS ?_
                  simp only [List.getElem_toArray, List.getElem_cons_zero, List.getElem_cons_succ, Act.put, List.setIfInBounds_toArray, List.set_cons_zero, List.set_cons_succ]
                  refine wpAnyH_take (i := 23) (v := undef) rfl (by kernel_rfl) (by kernel_rfl) (by kernel_rfl) (fun _ _ _ h => h) (Or.inr ⟨by kernel_rfl, rfl⟩) hS ?_
                  simp only [List.getElem_toArray, List.getElem_cons_zero, List.getElem_cons_succ, Act.put, List.setIfInBounds_toArray, List.set_cons_zero, List.set_cons_succ]
                  refine wpAnyH_take (i := 24) (v := undef) rfl (by kernel_rfl) (by kernel_rfl) (by kernel_rfl) (fun _ _ _ h => h) (Or.inr ⟨by kernel_rfl, rfl⟩) hS ?_
                  simp only [List.getElem_toArray, List.getElem_cons_zero, List.getElem_cons_succ, Act.put, List.setIfInBounds_toArray, List.set_cons_zero, List.set_cons_succ]
                  refine wpAnyH_take (i := 25) (v := undef) rfl (by kernel_rfl) (by kernel_rfl) (by kernel_rfl) (fun _ _ _ h => h) (Or.inr ⟨by kernel_rfl, rfl⟩) hS ?_
                  simp only [List.getElem_toArray, List.getElem_cons_zero, List.getElem_cons_succ, Act.put, List.setIfInBounds_toArray, List.set_cons_zero, List.set_cons_succ]
                  refine wpAnyH_take (i := 26) (v := ?_) rfl (by kernel_rfl) (by kernel_rfl) (by kernel_rfl) (fun _ _ _ h => h) (Or.inl ⟨by kernel_rfl, ?_⟩) hS ?_
                  rotate_left 1
                  · (intro w' hS'; clear hS'; go_simp; try with_reducible rfl)
                  simp only [List.getElem_toArray, List.getElem_cons_zero, List.getElem_cons_succ, Act.put, List.setIfInBounds_toArray, List.set_cons_zero, List.set_cons_succ]
                  refine wpAnyH_done (by kernel_rfl) ?_ _
                  refine NoPanic.normal ?_
                  have FS := hid hS
                  clear hS
                  gi_wp2
                  have q2 := (FS.out).cells HK2.out (fun h => h)
                  refine ⟨by simp, .inl ⟨_, _, rfl, run_takeDeferred q2, ?_⟩⟩
                  have q1 := ((FS.out).cells HK12.out (fun h => h))
                  have hd12 := HD12.out
                  refine ⟨by simp, .inl ⟨_, _, rfl, run_takeDeferred ((World.putObj_heap_other (by omega)).trans q1), ?_⟩⟩
                  refine ⟨.bool false, by simp [results, Try.f15, go_sem], ?_⟩
                  refine ⟨false, rfl, (fun e => by have := (HLE2.out e).2; omega), ?_⟩
                  have hsz := HF2.out.size
                  have hdd := HD2.out
                  have hd1 := HD1.out
                  exact ((HF2.out.trans FS.out (fun _ _ h => h)).trans (Fr.of_grown (grownBy_putObj' _ D2 _)) (fun i hi e => by simp at e; omega)).trans (Fr.of_grown (grownBy_putObj' _ D1 _)) (fun i hi e => by simp at e; omega)

      · have hC' : ¬ (m : Int) = (nW : Int) := by omega
        have hC2 : ((m : Int) == (nW : Int)) = false := beq_false_of_ne hC'
        by_cases hB : (m : Int) = stop
        · have hB2 : stop = (m : Int) := hB.symm
          clear hB
          refine wp_region_noPanic ?_
          refine wp_region_held (S := fun V => Fr (fun _ => False) W1 V) hmx ?_
          have hS : Fr (fun _ => False) W1 W1.drew := Fr.drew (Fr.refl _ _)
          simp only [List.size_toArray, List.length_cons, List.length_nil, Nat.reduceAdd, Array.replicate_succ, Array.replicate_zero, List.push_toArray, List.nil_append, List.cons_append]
          refine wpAnyH_take (i := 0) (v := ?_) rfl (by kernel_rfl) (by kernel_rfl) (by kernel_rfl) (fun _ _ _ h => h) (Or.inl ⟨by kernel_rfl, ?_⟩) hS ?_
          rotate_left 1
          · (intro w' hS'; have h1 := cellFr hS' (fun h => h) cg; clear hS'; go_simp; try with_reducible rfl)
          simp only [List.getElem_toArray, List.getElem_cons_zero, List.getElem_cons_succ, Act.put, List.setIfInBounds_toArray, List.set_cons_zero, List.set_cons_succ]
          refine wpAnyH_take (i := 1) (v := ?_) rfl (by kernel_rfl) (by kernel_rfl) (by kernel_rfl) (fun _ _ _ h => h) (Or.inl ⟨by kernel_rfl, ?_⟩) hS ?_
          rotate_left 1
          · (intro w' hS'; clear hS'; go_simp; try with_reducible rfl)
          simp only [List.getElem_toArray, List.getElem_cons_zero, List.getElem_cons_succ, Act.put, List.setIfInBounds_toArray, List.set_cons_zero, List.set_cons_succ]
          refine wpAnyH_take (i := 2) (v := ?_) rfl (by kernel_rfl) (by kernel_rfl) (by kernel_rfl) (fun _ _ _ h => h) (Or.inl ⟨by kernel_rfl, ?_⟩) hS ?_
          rotate_left 1
          · (intro w' hS'; have h1 := cellFr hS' (fun h => h) cw; clear hS'; go_simp; try with_reducible rfl)
          simp only [List.getElem_toArray, List.getElem_cons_zero, List.getElem_cons_succ, Act.put, List.setIfInBounds_toArray, List.set_cons_zero, List.set_cons_succ]
          refine wpAnyH_take (i := 3) (v := ?_) rfl (by kernel_rfl) (by kernel_rfl) (by kernel_rfl) (fun _ _ _ h => h) (Or.inl ⟨by kernel_rfl, ?_⟩) hS ?_
          rotate_left 1
          · (intro w' hS'; clear hS'; go_simp; try with_reducible rfl)
          simp only [List.getElem_toArray, List.getElem_cons_zero, List.getElem_cons_succ, Act.put, List.setIfInBounds_toArray, List.set_cons_zero, List.set_cons_succ]
          refine wpAnyH_take (i := 4) (v := .bool false) rfl (by kernel_rfl) (by kernel_rfl) (by kernel_rfl) (fun _ _ _ h => h) (Or.inl ⟨by kernel_rfl, fun w' hS' => by clear hS'; go_simp⟩) hS ?_
          simp only [List.getElem_toArray, List.getElem_cons_zero, List.getElem_cons_succ, Act.put, List.setIfInBounds_toArray, List.set_cons_zero, List.set_cons_succ]
          refine wpAnyH_take (i := 5) (v := ?_) rfl (by kernel_rfl) (by kernel_rfl) (by kernel_rfl) (fun _ _ _ h => h) (Or.inl ⟨by kernel_rfl, ?_⟩) hS ?_
          rotate_left 1
          · (intro w' hS'; clear hS'; go_simp; try with_reducible rfl)
          simp only [List.getElem_toArray, List.getElem_cons_zero, List.getElem_cons_succ, Act.put, List.setIfInBounds_toArray, List.set_cons_zero, List.set_cons_succ]
          refine wpAnyH_take (i := 6) (v := ?_) rfl (by kernel_rfl) (by kernel_rfl) (by kernel_rfl) (fun _ _ _ h => h) (Or.inl ⟨by kernel_rfl, ?_⟩) hS ?_
          rotate_left 1
          · (intro w' hS'; have h1 := cellFr hS' (fun h => h) cg; clear hS'; go_simp; try with_reducible rfl)
          simp only [List.getElem_toArray, List.getElem_cons_zero, List.getElem_cons_succ, Act.put, List.setIfInBounds_toArray, List.set_cons_zero, List.set_cons_succ]
          refine wpAnyH_take (i := 7) (v := ?_) rfl (by kernel_rfl) (by kernel_rfl) (by kernel_rfl) (fun _ _ _ h => h) (Or.inl ⟨by kernel_rfl, ?_⟩) hS ?_
          rotate_left 1
          · (intro w' hS'; clear hS'; go_simp; try with_reducible rfl)
          simp only [List.getElem_toArray, List.getElem_cons_zero, List.getElem_cons_succ, Act.put, List.setIfInBounds_toArray, List.set_cons_zero, List.set_cons_succ]
          refine wpAnyH_take (i := 8) (v := ?_) rfl (by kernel_rfl) (by kernel_rfl) (by kernel_rfl) (fun _ _ _ h => h) (Or.inl ⟨by kernel_rfl, ?_⟩) hS ?_
          rotate_left 1
          · (intro w' hS'; have h1 := cellFr hS' (fun h => h) cw; clear hS'; go_simp; try with_reducible rfl)
          simp only [List.getElem_toArray, List.getElem_cons_zero, List.getElem_cons_succ, Act.put, List.setIfInBounds_toArray, List.set_cons_zero, List.set_cons_succ]
          refine wpAnyH_take (i := 9) (v := ?_) rfl (by kernel_rfl) (by kernel_rfl) (by kernel_rfl) (fun _ _ _ h => h) (Or.inl ⟨by kernel_rfl, ?_⟩) hS ?_
          rotate_left 1
          · (intro w' hS'; clear hS'; go_simp; try with_reducible rfl)
          simp only [List.getElem_toArray, List.getElem_cons_zero, List.getElem_cons_succ, Act.put, List.setIfInBounds_toArray, List.set_cons_zero, List.set_cons_succ]
          refine wpAnyH_take (i := 10) (v := .bool true) rfl (by kernel_rfl) (by kernel_rfl) (by kernel_rfl) (fun _ _ _ h => h) (Or.inl ⟨by kernel_rfl, fun w' hS' => by clear hS'; go_simp⟩) hS ?_
          simp only [List.getElem_toArray, List.getElem_cons_zero, List.getElem_cons_succ, Act.put, List.setIfInBounds_toArray, List.set_cons_zero, List.set_cons_succ]
          refine wpAnyH_take (i := 11) (v := ?_) rfl (by kernel_rfl) (by kernel_rfl) (by kernel_rfl) (fun _ _ _ h => h) (Or.inl ⟨by kernel_rfl, ?_⟩) hS ?_
          rotate_left 1
          · (intro w' hS'; clear hS'; go_simp; try with_reducible rfl)
          simp only [List.getElem_toArray, List.getElem_cons_zero, List.getElem_cons_succ, Act.put, List.setIfInBounds_toArray, List.set_cons_zero, List.set_cons_succ]
          refine wpAnyH_take (i := 12) (v := ?_) rfl (by kernel_rfl) (by kernel_rfl) (by kernel_rfl) (fun _ _ _ h => h) (Or.inl ⟨by kernel_rfl, ?_⟩) hS ?_
          rotate_left 1
          · (intro w' hS'; have h1 := cellFr hS' (fun h => h) cg; clear hS'; go_simp; try with_reducible rfl)
          simp only [List.getElem_toArray, List.getElem_cons_zero, List.getElem_cons_succ, Act.put, List.setIfInBounds_toArray, List.set_cons_zero, List.set_cons_succ]
          refine wpAnyH_take (i := 13) (v := ?_) rfl (by kernel_rfl) (by kernel_rfl) (by kernel_rfl) (fun _ _ _ h => h) (Or.inl ⟨by kernel_rfl, ?_⟩) hS ?_
          rotate_left 1
          · (intro w' hS'; clear hS'; go_simp; try with_reducible rfl)
          simp only [List.getElem_toArray, List.getElem_cons_zero, List.getElem_cons_succ, Act.put, List.setIfInBounds_toArray, List.set_cons_zero, List.set_cons_succ]
          refine wpAnyH_take (i := 14) (v := ?_) rfl (by kernel_rfl) (by kernel_rfl) (by kernel_rfl) (fun _ _ _ h => h) (Or.inl ⟨by kernel_rfl, ?_⟩) hS ?_
          rotate_left 1
          · (intro w' hS'; have h1 := cellFr hS' (fun h => h) cs_; clear hS'; go_simp; try with_reducible rfl)
          simp only [List.getElem_toArray, List.getElem_cons_zero, List.getElem_cons_succ, Act.put, List.setIfInBounds_toArray, List.set_cons_zero, List.set_cons_succ]
          refine wpAnyH_take (i := 15) (v := .bool false) rfl (by kernel_rfl) (by kernel_rfl) (by kernel_rfl) (fun _ _ _ h => h) (Or.inl ⟨by kernel_rfl, fun w' hS' => by clear hS'; go_simp⟩) hS ?_
          simp only [List.getElem_toArray, List.getElem_cons_zero, List.getElem_cons_succ, Act.put, List.setIfInBounds_toArray, List.set_cons_zero, List.set_cons_succ]
          refine wpAnyH_take (i := 16) (v := ?_) rfl (by kernel_rfl) (by kernel_rfl) (by kernel_rfl) (fun _ _ _ h => h) (Or.inl ⟨by kernel_rfl, ?_⟩) hS ?_
          rotate_left 1
          · (intro w' hS'; clear hS'; go_simp; try with_reducible rfl)
          simp only [List.getElem_toArray, List.getElem_cons_zero, List.getElem_cons_succ, Act.put, List.setIfInBounds_toArray, List.set_cons_zero, List.set_cons_succ]
          refine wpAnyH_take (i := 17) (v := ?_) rfl (by kernel_rfl) (by kernel_rfl) (by kernel_rfl) (fun _ _ _ h => h) (Or.inl ⟨by kernel_rfl, ?_⟩) hS ?_
          rotate_left 1
          · (intro w' hS'; clear hS'; go_simp; try with_reducible rfl)
          simp only [List.getElem_toArray, List.getElem_cons_zero, List.getElem_cons_succ, Act.put, List.setIfInBounds_toArray, List.set_cons_zero, List.set_cons_succ]
          refine wpAnyH_take (i := 18) (v := ?_) rfl (by kernel_rfl) (by kernel_rfl) (by kernel_rfl) (fun _ _ _ h => h) (Or.inl ⟨by kernel_rfl, ?_⟩) hS ?_
          rotate_left 1
          · (intro w' hS'; clear hS'; go_simp; try with_reducible rfl)
          simp only [List.getElem_toArray, List.getElem_cons_zero, List.getElem_cons_succ, Act.put, List.setIfInBounds_toArray, List.set_cons_zero, List.set_cons_succ]
          refine wpAnyH_take (i := 19) (v := ?_) rfl (by kernel_rfl) (by kernel_rfl) (by kernel_rfl) (fun _ _ _ h => h) (Or.inl ⟨by kernel_rfl, ?_⟩) hS ?_
          rotate_left 1
          · (intro w' hS'; have h1 := cellFr hS' (fun h => h) cg; clear hS'; go_simp; try with_reducible rfl)
          simp only [List.getElem_toArray, List.getElem_cons_zero, List.getElem_cons_succ, Act.put, List.setIfInBounds_toArray, List.set_cons_zero, List.set_cons_succ]
          refine wpAnyH_take (i := 20) (v := ?_) rfl (by kernel_rfl) (by kernel_rfl) (by kernel_rfl) (fun _ _ _ h => h) (Or.inl ⟨by kernel_rfl, ?_⟩) hS ?_
          rotate_left 1
          · (intro w' hS'; have h1 := cellFr hS' (fun h => h) cw; clear hS'; go_simp; try with_reducible rfl)
          simp only [List.getElem_toArray, List.getElem_cons_zero, List.getElem_cons_succ, Act.put, List.setIfInBounds_toArray, List.set_cons_zero, List.set_cons_succ]
          refine wpAnyH_take (i := 21) (v := ?_) rfl (by kernel_rfl) (by kernel_rfl) (by kernel_rfl) (fun _ _ _ h => h) (Or.inl ⟨by kernel_rfl, ?_⟩) hS ?_
          rotate_left 1
          · (intro w' hS'; have h1 := cellFr hS' (fun h => h) cg; clear hS'; go_simp; try with_reducible rfl)
          simp only [List.getElem_toArray, List.getElem_cons_zero, List.getElem_cons_succ, Act.put, List.setIfInBounds_toArray, List.set_cons_zero, List.set_cons_succ]
          refine wpAnyH_take (i := 22) (v := ?_) rfl (by kernel_rfl) (by kernel_rfl) (by kernel_rfl) (fun _ _ _ h => h) (Or.inl ⟨by kernel_rfl, ?_⟩) hS ?_
          rotate_left 1
          · (intro w' hS'; clear hS'; go_simp; try with_reducible rfl)
          simp only [List.getElem_toArray, List.getElem_cons_zero, List.getElem_cons_succ, Act.put, List.setIfInBounds_toArray, List.set_cons_zero, List.set_cons_succ]
          refine wpAnyH_take (i := 23) (v := ?_) rfl (by kernel_rfl) (by kernel_rfl) (by kernel_rfl) (fun _ _ _ h => h) (Or.inl ⟨by kernel_rfl, ?_⟩) hS ?_
          rotate_left 1
          · (intro w' hS'; have h1 := cu w'; clear hS'; go_simp; try with_reducible rfl)
          simp only [List.getElem_toArray, List.getElem_cons_zero, List.getElem_cons_succ, Act.put, List.setIfInBounds_toArray, List.set_cons_zero, List.set_cons_succ]
          refine wpAnyH_ready (rs := [24]) (by kernel_rfl) (by simp) ?_
          refine AllReadyH.cons rfl (fun K1 hK1 => ?_) AllReadyH.nil
          go_simp
          refine (KS.out _ hS).mono ?_
          rintro e w3 ⟨rb, rfl, hrb, f3⟩
          have f4 : Fr (fun _ => False) W1 w3 := hS.trans f3 (fun _ _ h => h)
          refine hK1.out _ _ f4 (fun hS => ?_)
          clear hK1 K1
          simp only [Act.put, List.setIfInBounds_toArray, List.set_cons_zero, List.set_cons_succ]
          refine wpAnyH_take (i := 25) (v := ?_) rfl (by kernel_rfl) (by kernel_rfl) (by kernel_rfl) (fun _ _ _ h => h) (Or.inl ⟨by kernel_rfl, ?_⟩) hS ?_
          rotate_left 1
          · (intro w' hS'; clear hS'; go_simp; try with_reducible rfl)
          simp only [List.getElem_toArray, List.getElem_cons_zero, List.getElem_cons_succ, Act.put, List.setIfInBounds_toArray, List.set_cons_zero, List.set_cons_succ]
          refine wpAnyH_take (i := 26) (v := ?_) rfl (by kernel_rfl) (by kernel_rfl) (by kernel_rfl) (fun _ _ _ h => h) (Or.inl ⟨by kernel_rfl, ?_⟩) hS ?_
          rotate_left 1
          · (intro w' hS'; clear hS'; go_simp; try with_reducible rfl)
          simp only [List.getElem_toArray, List.getElem_cons_zero, List.getElem_cons_succ, Act.put, List.setIfInBounds_toArray, List.set_cons_zero, List.set_cons_succ]
          refine wpAnyH_done (by kernel_rfl) ?_ _
          refine NoPanic.normal ?_
          have FS := hid hS
          have HRB := hid hrb
          clear hS hrb f3 f4 hB2 hC' hC2 hC
          cases rb with
          | false =>
            gi_wp2
            have q1 := (FS.out).cells HK1.out (fun h => h)
            refine ⟨by simp, .inl ⟨_, _, rfl, run_takeDeferred q1, ?_⟩⟩
            refine ⟨.bool false, by simp [results, Try.f15, go_sem], ?_⟩
            refine ⟨false, rfl, (fun e => by have := HRB.out.2 (HPF.out e); cases this), ?_⟩
            have hsz := HF1.out.size
            have hdd := HD1.out
            exact (HF1.out.trans FS.out (fun _ _ h => h)).trans (Fr.of_grown (grownBy_putObj' _ D1 _)) (fun i hi e => by simp at e; omega)
          | true =>
            gi_wp2_with fail
            rw [roundsIn_succ]
            gi_wp2_with fail
            have BY0 := hid (FS.out.cells HY0.out (fun h => h))
            have BY1 := hid (FS.out.cells HY1.out (fun h => h))
            have HK1W := hid (FS.out.cells HK1.out (fun h => h))
            have HF3 := hid (HF1.out.trans FS.out (fun _ _ h => h))
            have HZ2 := hid (show w.heap.size + 2 ≤ w3.heap.size by have h1 := HF1.out.size; have h2 := FS.out.size; have h3 := HDW.out; have h4 := HD1.out; omega)
            have HDN0 := hid (show D1 < w3.heap.size by have h2 := FS.out.size; have h3 := HDW.out; omega)
            obtain ⟨nb2, hnb⟩ : ∃ nb, nb = w3.heap.size := ⟨_, rfl⟩
            obtain ⟨u2, hu⟩ : ∃ u, u = w3.alloc (.cells #[.slice none 0 0] 28) := ⟨_, rfl⟩
            rw [← hu, ← hnb]
            have fu : Fr (fun _ => False) w3 u2 := by rw [hu]; exact Fr.alloc (Fr.refl _ _) _
            have bu : u2.heap[nb2]? = some (.cells #[.slice none 0 0] 28 (0, 0)) := by rw [hu, hnb]; exact Go.heap_alloc_new _ _
            have hus : u2.heap.size = nb2 + 1 := by rw [hu, hnb]; simp
            have FU2 := hid (HF3.out.trans fu (fun _ _ h => h))
            have FX2 := hid fu
            have BU2 := hid bu
            have HUS2 := hid hus
            have hwn : w.heap.size + 2 ≤ nb2 := by rw [hnb]; exact HZ2.out
            have HWN2 := hid hwn
            have HDN := hid (show D1 < nb2 by rw [hnb]; exact HDN0.out)
            have HB02 := hid (fu.cells BY0.out (fun h => h))
            have HB12 := hid (fu.cells BY1.out (fun h => h))
            have HK11 := hid (fu.cells HK1W.out (fun h => h))
            clear fu bu hus hnb hu hwn
            refine wp_of_actC (fun a0 ha0 => ?_)
            refine wpIn_mono (Q := Gm a0 u2 nb2 ls nW stop) ?rng ?rest
            case rng =>
              refine wpIn_rangeV (w := u2) rfl (by omega) (gf := 46) (lb := #[ptrV B]) (by rw [ha0]; rfl) trivial (enters_of Try.func46 (by kernel_rfl) rfl)
                (HSQ.out u2 FU2.out) (Below.refl _ _) (fun _ => rfl) (fun h k => h.trans k) (fun W l o o' hl hW hc _ => Kz.putObj o' hW hc)
                (Ga u2 nb2 ls) (fun c pre W => c = .exit 2 ∧ ((pre.length : Int) = stop ∨ nW < pre.length) ∧ Ga u2 nb2 ls pre W) (Gw u2 nb2 ls a0.tmps) Ga.own (fun c pre W W' row h hg hr => ⟨h.1, h.2.1, Ga.own pre W W' row h.2.2 hg hr⟩) ⟨none, 0, BU2.out, Sx.nil _ _, ⟨ls, rfl⟩, Fr.refl _ _⟩
                (fun pre x a1 W l o o' hl hW hc _ h => h.put o' hl hW hc) ?assign ?body ?done ?stop
              case assign =>
                subst ha0
                rintro l pre x W0 W Kn ⟨a, c, hbx, hsx, hpf, hfr⟩ hfW ⟨hv1, hv2⟩ hK
                have hz := hv2.size
                obtain ⟨V, st, hbV, fV⟩ := box_whole (V := W.alloc (.cells zS59 79)) (Go.heap_alloc_new W _) (by rw [hz]; rfl) (by rw [hz]; kernel_rfl) hv2.one
                have fW : Fr (fun _ => False) W V := (Fr.alloc (Fr.refl (fun _ => False) W) _).trans fV (fun i hi e => by omega)
                have hsV := fW.size
                have hxW := hfW.cells hbx (fun h => h)
                have hxl := lt_of_row hbx
                have fin : KeepsFrom u2.heap.size W V ∧ Kz (fun k => ¬ K k) W V ∧ ∀ t, Gw u2 nb2 ls t pre x { tmps := (t.setIfInBounds 12 (.agg x.1)).setIfInBounds 8 (ptrV W.heap.size), defers := [] } V :=
                  ⟨⟨hsV, fun k o _ hk _ => fW.cells hk (fun h => h)⟩, Kz.of_fr fW, fun t => ⟨W.heap.size, a, c, W0, rfl, hbV, fW.cells hxW (fun h => h), hsx, (Kz.of_fr hfW).trans (Kz.of_fr fW), hxl, (hv2.kept fW (fun _ _ h => h)).mono (fun i hi => ⟨hi.1, by omega⟩), hv1, (hfr.trans (hfW.mono (fun _ _ h => h.elim)) (fun _ _ h => h)).trans (fW.mono (fun _ _ h => h.elim)) (fun _ _ h => h)⟩⟩
                have ST := hid st
                have FIN := hid fin
                have HK2 := hid hK
                clear hbx hsx hpf hfr hfW hv1 hv2 hz st hbV fV fW hsV hxW hxl fin hK
                gi_wp2_with (first
                  | (refine wpListIn_store_v (by exact ST.out) rfl (by exact ⟨_, _, rfl, rfl, rfl⟩) ?_))
                exact HK2.out _ _ FIN.out.1 FIN.out.2.1 (FIN.out.2.2 _)
              case body =>
                subst ha0
                rintro l pre x a1 W ⟨v, a, c, W0, rfl, hv, hbx, hsx, hkz, hxl, hrs, hpf, hfr⟩
                have hz := hrs.size
                have hpl : pre.length < 300000000000 := by
                  have h1 := hpf.length_le
                  have h2 := HLS.out
                  rw [List.length_append, List.length_map] at h1
                  simp only [List.length_cons, List.length_nil] at h1
                  omega
                have hb1 : nb2 + 1 ≤ W0.heap.size := hxl
                have hsx' := hsx.kz hkz (fun _ _ _ h => h)
                obtain ⟨a', c', W2, hr, hro, hf2, hn2⟩ := sd_append W a c pre.length (flatE pre) hsx'.row (by omega) x.1 hz (fun u hu => by have := hrs.one; rw [Array.all_eq_true_iff_forall_mem] at this; exact this u (by simpa using hu))
                have hmore := hsx.more hkz hrs hb1 hf2 hro hn2
                have hna : blk a ≠ some nb2 := fun e => by have := hsx.new _ e; omega
                have hx2 := hf2.cells hbx hna
                have LD := hid (load_whole (ty := 79) hv Try.underlying79 rfl (by rw [hz]; kernel_rfl))
                have hfo : Array.foldl (fun (cs : Array Value) x => cs.setIfInBounds x.2 x.1) zS59 x.1.zipIdx 0 59 = x.1 := fold_set0 59 x.1 zS59 hz rfl
                have hr2 := hr
                rw [← hfo] at hr2
                have fs : Fr (fun k => k = nb2) W2 (W2.setCell ⟨nb2, 0, none⟩ (.slice a' (pre.length + 1) c')) := Fr.setCell (p := ⟨nb2, 0, none⟩) (S := fun k => k = nb2) (Fr.refl _ _) (fun _ => rfl) _
                have hs2 := hf2.size
                have fin : KeepsFrom u2.heap.size W (W2.setCell ⟨nb2, 0, none⟩ (.slice a' (pre.length + 1) c')) ∧ Kz (fun k => ¬ K k) W (W2.setCell ⟨nb2, 0, none⟩ (.slice a' (pre.length + 1) c')) ∧ Ga u2 nb2 ls (pre ++ [x]) (W2.setCell ⟨nb2, 0, none⟩ (.slice a' (pre.length + 1) c')) := by
                  refine ⟨⟨Nat.le_trans hs2 fs.size, fun k o hk h1 hc => ?_⟩, ?_, a', c', ?_, hmore.kept fs (fun k hk _ e => by omega), by rw [List.map_append]; exact hpf, ?_⟩
                  · have h2 : W2.heap[k]? = some o := by
                      rw [hf2.block k (lt_of_row h1) (fun e => ?_)]
                      · exact h1
                      · rcases hsx'.row.2 with ⟨h3, _⟩ | ⟨g, o', cur, h3, h4, _⟩
                        · rw [h3] at e; simp [blk] at e
                        · rw [h3] at e
                          simp [blk] at e
                          subst e
                          rw [h4] at h1
                          cases h1
                          cases hc
                    exact fs.cells h2 (fun e => by have := HUS2.out; omega)
                  · refine (Kz.of_fr' hf2).mono (fun k hk h => ?_) |>.trans ((Kz.of_fr' fs).mono (fun k hk h => ?_))
                    · have h3 := hsx.new k hk
                      have h4 := HK.out k h
                      have h5 := HWN2.out
                      omega
                    · have h4 := HK.out k h
                      have h5 := HWN2.out
                      omega
                  · rw [setCell_row hx2, List.length_append]; rfl
                  · refine (hfr.trans hf2 (fun i hi e => ?_)).trans fs (fun _ _ h => h)
                    have h3 := hsx.new i e
                    have h4 := HUS2.out
                    omega
                obtain ⟨m, hm⟩ : ∃ m, pre.length + 1 = m := ⟨_, rfl⟩
                have hm2 : (pre ++ [x]).length = m := by rw [List.length_append]; exact hm
                rw [hm] at hr2 fin
                have cb : W.cell? ⟨nb2, 0, none⟩ = some (.slice a pre.length c) := cellA hbx rfl
                have c2 : W2.cell? ⟨nb2, 0, none⟩ = some (.slice a pre.length c) := cellA hx2 rfl
                have z2 := frozen_of_row (j := 0) hx2
                have hwu : Fr (fun k => k = nb2 ∨ blk a = some k) u2 W2 := (hfr.mono (fun _ _ h => .inl h)).trans hf2 (fun _ _ h => .inr h)
                have hn0 : ¬ (w.heap.size = nb2 ∨ blk a = some w.heap.size) := fun e => by
                  have h5 := HWN2.out
                  rcases e with e | e
                  · omega
                  · have := hsx.new _ e; omega
                have hn1 : ¬ (w.heap.size + 1 = nb2 ∨ blk a = some (w.heap.size + 1)) := fun e => by
                  have h5 := HWN2.out
                  rcases e with e | e
                  · omega
                  · have := hsx.new _ e; omega
                have e0 : W2.cell? ⟨w.heap.size, 0, none⟩ = some (.slice wa nW wc) := cellA (hwu.cells HB02.out hn0) rfl
                have e1 : W2.cell? ⟨w.heap.size + 1, 0, none⟩ = some (.int .i64 stop) := cellA (hwu.cells HB12.out hn1) rfl
                have ne0 : w.heap.size ≠ nb2 := by have h5 := HWN2.out; omega
                have ne1 : w.heap.size + 1 ≠ nb2 := by have h5 := HWN2.out; omega
                have R2 := hid hr2
                have FIN := hid fin
                have HM2 := hid hm2
                clear hv hbx hsx hkz hxl hrs hpf hfr hpl hb1 hsx' hr hro hf2 hn2 hmore hna hx2 hfo hr2 fs hs2 fin hm hm2 hwu hn0 hn1
                by_cases hms : (m : Int) = stop
                · have HMS := hid hms
                  subst hms
                  gi_wp2_with (first
                    | (refine wpListIn_load_v LD.out rfl (by exact ⟨_, rfl, rfl⟩) ?_)
                    | (gi_at_builtin; refine wpListIn_append_eq _ _ rfl _ _ _ rfl _ _ _ rfl rfl (by exact R2.out) ?_))
                  exact ⟨FIN.out.1, rfl, .inl (by rw [HM2.out]), FIN.out.2.2⟩
                · by_cases hmn : (nW : Int) < (m : Int)
                  · gi_wp2_with (first
                      | (refine wpListIn_load_v LD.out rfl (by exact ⟨_, rfl, rfl⟩) ?_)
                      | (gi_at_builtin; refine wpListIn_append_eq _ _ rfl _ _ _ rfl _ _ _ rfl rfl (by exact R2.out) ?_))
                    exact ⟨FIN.out.1, rfl, .inr (by rw [HM2.out]; omega), FIN.out.2.2⟩
                  · gi_wp2_with (first
                      | (refine wpListIn_load_v LD.out rfl (by exact ⟨_, rfl, rfl⟩) ?_)
                      | (gi_at_builtin; refine wpListIn_append_eq _ _ rfl _ _ _ rfl _ _ _ rfl rfl (by exact R2.out) ?_))
                    exact FIN.out
              case done =>
                rintro D0 xs W0 hD hxs hga hK0
                exact ⟨.inl rfl, D0, xs, rfl, hD, ⟨hga, .inl (by rw [← hxs, List.length_map])⟩, hK0⟩
              case stop =>
                rintro D c pre W hD hSp ⟨rfl, hst, hga⟩ hK0
                gi_wp2
                exact ⟨.inr rfl, D, pre, rfl, hD, ⟨hga, .inr hst⟩, hK0⟩
            case rest =>
              subst ha0
              rintro e a' W2 ⟨he, D2, xs, rfl, hD, ⟨⟨xa, xc, hbx, hsx, hpf, hfr⟩, hend⟩, hK0⟩
              refine inBlock_both he ?_
              obtain ⟨m, hm⟩ : ∃ m, xs.length = m := ⟨_, rfl⟩
              rw [hm] at hbx hend
              have hml : m ≤ 300000000000 := by have h1 := hpf.length_le; rw [List.length_map, hm] at h1; have h2 := HLS.out; omega
              have fW : Fr (fun _ => False) w W2 := FU2.out.trans hfr (fun i hi e => by have h5 := HWN2.out; omega)
              have cg : W2.cell? ⟨nb2, 0, none⟩ = some (.slice xa m xc) := cellA hbx rfl
              have cw : W2.cell? ⟨w.heap.size, 0, none⟩ = some (.slice wa nW wc) := cellA (hfr.cells HB02.out (fun e => by have h5 := HWN2.out; omega)) rfl
              have cs_ : W2.cell? ⟨w.heap.size + 1, 0, none⟩ = some (.int .i64 stop) := cellA (hfr.cells HB12.out (fun e => by have h5 := HWN2.out; omega)) rfl
              have KS := hid (fun (V : World) (hf : Fr (fun _ => False) W2 V) => rsame_any (ca := xc) (cb := wc) ((hsx.ls).fr hf) (((HW.out.fr fW).fr hf).take m) (by omega))
              rw [hm] at KS
              have hpfx : gs.map (·.s) = ys.map Prod.snd → xs.map Prod.snd = (ys.take m).map Prod.snd := fun e => by
                obtain ⟨t, ht⟩ := hpf
                have h9 : (xs.map Prod.snd).length = m := by rw [List.length_map, hm]
                rw [List.map_take, ← e, HLE.out, ← ht, ← h9, List.take_left]
              have hle : gs.map (·.s) = ys.map Prod.snd → m ≤ nW ∧ (m = nW ∨ (m : Int) = stop) := fun e => by
                have h1 := hpf.length_le
                have h2 : ls.length = nW := by rw [← HLE.out, e, List.length_map, HNW.out]
                rw [List.length_map, hm, h2] at h1
                rw [h2] at hend
                exact ⟨h1, by omega⟩
              have HF2 := hid fW
              have HPF := hid hpfx
              have HLE2 := hid hle
              have HD2 := hid (show w.heap.size + 2 ≤ D2 by have h5 := HWN2.out; have h6 := HUS2.out; omega)
              have HK2 := hid hK0
              have HK12 := hid (hfr.cells HK11.out (fun e => by have h5 := HDN.out; omega))
              have HD12 := hid (show D1 ≠ D2 by have h5 := HDN.out; have h6 := HUS2.out; omega)
              have hmx : Try.prog.follows .mixedOrders = true := by kernel_rfl
              have hmw : m ≤ nW → m ≤ wc := fun h => by have := HWC.out; rw [HNW.out] at this; omega
              have hyl : m ≤ nW → (ys.take m).length = m := fun h => by rw [List.length_take, HNW.out]; omega
              clear hD hbx hsx hpf hfr hend hK0 hm hpfx hle fW he
              gi_wp2_with fail
              refine wpIn_wide.2 ?_
              by_cases hA : (nW : Int) < (m : Int)
              · refine wp_region_noPanic ?_
                refine wp_region_held (S := fun V => Fr (fun _ => False) W2 V) hmx ?_
                have hS : Fr (fun _ => False) W2 W2.drew := Fr.drew (Fr.refl _ _)
                simp only [List.size_toArray, List.length_cons, List.length_nil, Nat.reduceAdd, Array.replicate_succ, Array.replicate_zero, List.push_toArray, List.nil_append, List.cons_append]
                refine wpAnyH_take (i := 0) (v := ?_) rfl (by kernel_rfl) (by kernel_rfl) (by kernel_rfl) (fun _ _ _ h => h) (Or.inl ⟨by kernel_rfl, ?_⟩) hS ?_
                rotate_left 1
                · (intro w' hS'; have h1 := cellFr hS' (fun h => h) cg; clear hS'; go_simp; try with_reducible rfl)
                simp only [List.getElem_toArray, List.getElem_cons_zero, List.getElem_cons_succ, Act.put, List.setIfInBounds_toArray, List.set_cons_zero, List.set_cons_succ]
                refine wpAnyH_take (i := 1) (v := ?_) rfl (by kernel_rfl) (by kernel_rfl) (by kernel_rfl) (fun _ _ _ h => h) (Or.inl ⟨by kernel_rfl, ?_⟩) hS ?_
                rotate_left 1
                · (intro w' hS'; clear hS'; go_simp; try with_reducible rfl)
                simp only [List.getElem_toArray, List.getElem_cons_zero, List.getElem_cons_succ, Act.put, List.setIfInBounds_toArray, List.set_cons_zero, List.set_cons_succ]
                refine wpAnyH_take (i := 2) (v := ?_) rfl (by kernel_rfl) (by kernel_rfl) (by kernel_rfl) (fun _ _ _ h => h) (Or.inl ⟨by kernel_rfl, ?_⟩) hS ?_
                rotate_left 1
                · (intro w' hS'; have h1 := cellFr hS' (fun h => h) cw; clear hS'; go_simp; try with_reducible rfl)
                simp only [List.getElem_toArray, List.getElem_cons_zero, List.getElem_cons_succ, Act.put, List.setIfInBounds_toArray, List.set_cons_zero, List.set_cons_succ]
                refine wpAnyH_take (i := 3) (v := ?_) rfl (by kernel_rfl) (by kernel_rfl) (by kernel_rfl) (fun _ _ _ h => h) (Or.inl ⟨by kernel_rfl, ?_⟩) hS ?_
                rotate_left 1
                · (intro w' hS'; clear hS'; go_simp; try with_reducible rfl)
                simp only [List.getElem_toArray, List.getElem_cons_zero, List.getElem_cons_succ, Act.put, List.setIfInBounds_toArray, List.set_cons_zero, List.set_cons_succ]
                refine wpAnyH_take (i := 4) (v := .bool true) rfl (by kernel_rfl) (by kernel_rfl) (by kernel_rfl) (fun _ _ _ h => h) (Or.inl ⟨by kernel_rfl, fun w' hS' => by clear hS'; go_simp⟩) hS ?_
                simp only [List.getElem_toArray, List.getElem_cons_zero, List.getElem_cons_succ, Act.put, List.setIfInBounds_toArray, List.set_cons_zero, List.set_cons_succ]
                refine wpAnyH_take (i := 5) (v := ?_) rfl (by kernel_rfl) (by kernel_rfl) (by kernel_rfl) (fun _ _ _ h => h) (Or.inl ⟨by kernel_rfl, ?_⟩) hS ?_
                rotate_left 1
                · (intro w' hS'; clear hS'; go_simp; try with_reducible rfl)
                simp only [List.getElem_toArray, List.getElem_cons_zero, List.getElem_cons_succ, Act.put, List.setIfInBounds_toArray, List.set_cons_zero, List.set_cons_succ]
                refine wpAnyH_take (i := 6) (v := undef) rfl (by kernel_rfl) (by kernel_rfl) (by kernel_rfl) (fun _ _ _ h => h) (Or.inr ⟨by kernel_rfl, rfl⟩) hS ?_
                simp only [List.getElem_toArray, List.getElem_cons_zero, List.getElem_cons_succ, Act.put, List.setIfInBounds_toArray, List.set_cons_zero, List.set_cons_succ]
                refine wpAnyH_take (i := 7) (v := undef) rfl (by kernel_rfl) (by kernel_rfl) (by kernel_rfl) (fun _ _ _ h => h) (Or.inr ⟨by kernel_rfl, rfl⟩) hS ?_
                simp only [List.getElem_toArray, List.getElem_cons_zero, List.getElem_cons_succ, Act.put, List.setIfInBounds_toArray, List.set_cons_zero, List.set_cons_succ]
                refine wpAnyH_take (i := 8) (v := undef) rfl (by kernel_rfl) (by kernel_rfl) (by kernel_rfl) (fun _ _ _ h => h) (Or.inr ⟨by kernel_rfl, rfl⟩) hS ?_
                simp only [List.getElem_toArray, List.getElem_cons_zero, List.getElem_cons_succ, Act.put, List.setIfInBounds_toArray, List.set_cons_zero, List.set_cons_succ]
                refine wpAnyH_take (i := 9) (v := undef) rfl (by kernel_rfl) (by kernel_rfl) (by kernel_rfl) (fun _ _ _ h => h) (Or.inr ⟨by kernel_rfl, rfl⟩) hS ?_
                simp only [List.getElem_toArray, List.getElem_cons_zero, List.getElem_cons_succ, Act.put, List.setIfInBounds_toArray, List.set_cons_zero, List.set_cons_succ]
                refine wpAnyH_take (i := 10) (v := undef) rfl (by kernel_rfl) (by kernel_rfl) (by kernel_rfl) (fun _ _ _ h => h) (Or.inr ⟨by kernel_rfl, rfl⟩) hS ?_
                simp only [List.getElem_toArray, List.getElem_cons_zero, List.getElem_cons_succ, Act.put, List.setIfInBounds_toArray, List.set_cons_zero, List.set_cons_succ]
                refine wpAnyH_take (i := 11) (v := undef) rfl (by kernel_rfl) (by kernel_rfl) (by kernel_rfl) (fun _ _ _ h => h) (Or.inr ⟨by kernel_rfl, rfl⟩) hS ?_
                simp only [List.getElem_toArray, List.getElem_cons_zero, List.getElem_cons_succ, Act.put, List.setIfInBounds_toArray, List.set_cons_zero, List.set_cons_succ]
                refine wpAnyH_take (i := 12) (v := undef) rfl (by kernel_rfl) (by kernel_rfl) (by kernel_rfl) (fun _ _ _ h => h) (Or.inr ⟨by kernel_rfl, rfl⟩) hS ?_
                simp only [List.getElem_toArray, List.getElem_cons_zero, List.getElem_cons_succ, Act.put, List.setIfInBounds_toArray, List.set_cons_zero, List.set_cons_succ]
                refine wpAnyH_take (i := 13) (v := undef) rfl (by kernel_rfl) (by kernel_rfl) (by kernel_rfl) (fun _ _ _ h => h) (Or.inr ⟨by kernel_rfl, rfl⟩) hS ?_
                simp only [List.getElem_toArray, List.getElem_cons_zero, List.getElem_cons_succ, Act.put, List.setIfInBounds_toArray, List.set_cons_zero, List.set_cons_succ]
                refine wpAnyH_take (i := 14) (v := undef) rfl (by kernel_rfl) (by kernel_rfl) (by kernel_rfl) (fun _ _ _ h => h) (Or.inr ⟨by kernel_rfl, rfl⟩) hS ?_
                simp only [List.getElem_toArray, List.getElem_cons_zero, List.getElem_cons_succ, Act.put, List.setIfInBounds_toArray, List.set_cons_zero, List.set_cons_succ]
                refine wpAnyH_take (i := 15) (v := undef) rfl (by kernel_rfl) (by kernel_rfl) (by kernel_rfl) (fun _ _ _ h => h) (Or.inr ⟨by kernel_rfl, rfl⟩) hS ?_
                simp only [List.getElem_toArray, List.getElem_cons_zero, List.getElem_cons_succ, Act.put, List.setIfInBounds_toArray, List.set_cons_zero, List.set_cons_succ]
                refine wpAnyH_take (i := 16) (v := undef) rfl (by kernel_rfl) (by kernel_rfl) (by kernel_rfl) (fun _ _ _ h => h) (Or.inr ⟨by kernel_rfl, rfl⟩) hS ?_
                simp only [List.getElem_toArray, List.getElem_cons_zero, List.getElem_cons_succ, Act.put, List.setIfInBounds_toArray, List.set_cons_zero, List.set_cons_succ]
                refine wpAnyH_take (i := 17) (v := ?_) rfl (by kernel_rfl) (by kernel_rfl) (by kernel_rfl) (fun _ _ _ h => h) (Or.inl ⟨by kernel_rfl, ?_⟩) hS ?_
                rotate_left 1
                · (intro w' hS'; clear hS'; go_simp; try with_reducible rfl)
                simp only [List.getElem_toArray, List.getElem_cons_zero, List.getElem_cons_succ, Act.put, List.setIfInBounds_toArray, List.set_cons_zero, List.set_cons_succ]
                refine wpAnyH_take (i := 18) (v := ?_) rfl (by kernel_rfl) (by kernel_rfl) (by kernel_rfl) (fun _ _ _ h => h) (Or.inl ⟨by kernel_rfl, ?_⟩) hS ?_
                rotate_left 1
                · (intro w' hS'; clear hS'; go_simp; try with_reducible rfl)
                simp only [List.getElem_toArray, List.getElem_cons_zero, List.getElem_cons_succ, Act.put, List.setIfInBounds_toArray, List.set_cons_zero, List.set_cons_succ]
                refine wpAnyH_take (i := 19) (v := undef) rfl (by kernel_rfl) (by kernel_rfl) (by kernel_rfl) (fun _ _ _ h => h) (Or.inr ⟨by kernel_rfl, rfl⟩) hS ?_
                simp only [List.getElem_toArray, List.getElem_cons_zero, List.getElem_cons_succ, Act.put, List.setIfInBounds_toArray, List.set_cons_zero, List.set_cons_succ]
                refine wpAnyH_take (i := 20) (v := undef) rfl (by kernel_rfl) (by kernel_rfl) (by kernel_rfl) (fun _ _ _ h => h) (Or.inr ⟨by kernel_rfl, rfl⟩) hS ?_
                simp only [List.getElem_toArray, List.getElem_cons_zero, List.getElem_cons_succ, Act.put, List.setIfInBounds_toArray, List.set_cons_zero, List.set_cons_succ]
                refine wpAnyH_take (i := 21) (v := undef) rfl (by kernel_rfl) (by kernel_rfl) (by kernel_rfl) (fun _ _ _ h => h) (Or.inr ⟨by kernel_rfl, rfl⟩) hS ?_
                simp only [List.getElem_toArray, List.getElem_cons_zero, List.getElem_cons_succ, Act.put, List.setIfInBounds_toArray, List.set_cons_zero, List.set_cons_succ]
                refine wpAnyH_take (i := 22) (v := undef) rfl (by kernel_rfl) (by kernel_rfl) (by kernel_rfl) (fun _ _ _ h => h) (Or.inr ⟨by kernel_rfl, rfl⟩) hS ?_
                simp only [List.getElem_toArray, List.getElem_cons_zero, List.getElem_cons_succ, Act.put, List.setIfInBounds_toArray, List.set_cons_zero, List.set_cons_succ]
                refine wpAnyH_take (i := 23) (v := undef) rfl (by kernel_rfl) (by kernel_rfl) (by kernel_rfl) (fun _ _ _ h => h) (Or.inr ⟨by kernel_rfl, rfl⟩) hS ?_
                simp only [List.getElem_toArray, List.getElem_cons_zero, List.getElem_cons_succ, Act.put, List.setIfInBounds_toArray, List.set_cons_zero, List.set_cons_succ]
                refine wpAnyH_take (i := 24) (v := undef) rfl (by kernel_rfl) (by kernel_rfl) (by kernel_rfl) (fun _ _ _ h => h) (Or.inr ⟨by kernel_rfl, rfl⟩) hS ?_
                simp only [List.getElem_toArray, List.getElem_cons_zero, List.getElem_cons_succ, Act.put, List.setIfInBounds_toArray, List.set_cons_zero, List.set_cons_succ]
                refine wpAnyH_take (i := 25) (v := undef) rfl (by kernel_rfl) (by kernel_rfl) (by kernel_rfl) (fun _ _ _ h => h) (Or.inr ⟨by kernel_rfl, rfl⟩) hS ?_
                simp only [List.getElem_toArray, List.getElem_cons_zero, List.getElem_cons_succ, Act.put, List.setIfInBounds_toArray, List.set_cons_zero, List.set_cons_succ]
                refine wpAnyH_take (i := 26) (v := ?_) rfl (by kernel_rfl) (by kernel_rfl) (by kernel_rfl) (fun _ _ _ h => h) (Or.inl ⟨by kernel_rfl, ?_⟩) hS ?_
                rotate_left 1
                · (intro w' hS'; clear hS'; go_simp; try with_reducible rfl)
                simp only [List.getElem_toArray, List.getElem_cons_zero, List.getElem_cons_succ, Act.put, List.setIfInBounds_toArray, List.set_cons_zero, List.set_cons_succ]
                refine wpAnyH_done (by kernel_rfl) ?_ _
                refine NoPanic.normal ?_
                have FS := hid hS
                clear hS
                gi_wp2
                have q2 := (FS.out).cells HK2.out (fun h => h)
                refine ⟨by simp, .inl ⟨_, _, rfl, run_takeDeferred q2, ?_⟩⟩
                have q1 := ((FS.out).cells HK12.out (fun h => h))
                have hd12 := HD12.out
                refine ⟨by simp, .inl ⟨_, _, rfl, run_takeDeferred ((World.putObj_heap_other (by omega)).trans q1), ?_⟩⟩
                refine ⟨.bool false, by simp [results, Try.f15, go_sem], ?_⟩
                refine ⟨false, rfl, (fun e => by have := (HLE2.out e).1; omega), ?_⟩
                have hsz := HF2.out.size
                have hdd := HD2.out
                have hd1 := HD1.out
                exact ((HF2.out.trans FS.out (fun _ _ h => h)).trans (Fr.of_grown (grownBy_putObj' _ D2 _)) (fun i hi e => by simp at e; omega)).trans (Fr.of_grown (grownBy_putObj' _ D1 _)) (fun i hi e => by simp at e; omega)
              · have hmn : m ≤ nW := by omega
                have cu := fun V => run_cutS_hi V wa nW wc m (hmw hmn) (m : Int) rfl
                rw [hyl hmn] at KS
                by_cases hC : m = nW
                · have hC3 := hC.symm
                  clear hC
                  subst hC3
                  refine wp_region_noPanic ?_
                  refine wp_region_held (S := fun V => Fr (fun _ => False) W2 V) hmx ?_
                  have hS : Fr (fun _ => False) W2 W2.drew := Fr.drew (Fr.refl _ _)
                  simp only [List.size_toArray, List.length_cons, List.length_nil, Nat.reduceAdd, Array.replicate_succ, Array.replicate_zero, List.push_toArray, List.nil_append, List.cons_append]
                  refine wpAnyH_take (i := 0) (v := ?_) rfl (by kernel_rfl) (by kernel_rfl) (by kernel_rfl) (fun _ _ _ h => h) (Or.inl ⟨by kernel_rfl, ?_⟩) hS ?_
                  rotate_left 1
                  · (intro w' hS'; have h1 := cellFr hS' (fun h => h) cg; clear hS'; go_simp; try with_reducible rfl)
                  simp only [List.getElem_toArray, List.getElem_cons_zero, List.getElem_cons_succ, Act.put, List.setIfInBounds_toArray, List.set_cons_zero, List.set_cons_succ]
                  refine wpAnyH_take (i := 1) (v := ?_) rfl (by kernel_rfl) (by kernel_rfl) (by kernel_rfl) (fun _ _ _ h => h) (Or.inl ⟨by kernel_rfl, ?_⟩) hS ?_
                  rotate_left 1
                  · (intro w' hS'; clear hS'; go_simp; try with_reducible rfl)
                  simp only [List.getElem_toArray, List.getElem_cons_zero, List.getElem_cons_succ, Act.put, List.setIfInBounds_toArray, List.set_cons_zero, List.set_cons_succ]
                  refine wpAnyH_take (i := 2) (v := ?_) rfl (by kernel_rfl) (by kernel_rfl) (by kernel_rfl) (fun _ _ _ h => h) (Or.inl ⟨by kernel_rfl, ?_⟩) hS ?_
                  rotate_left 1
                  · (intro w' hS'; have h1 := cellFr hS' (fun h => h) cw; clear hS'; go_simp; try with_reducible rfl)
                  simp only [List.getElem_toArray, List.getElem_cons_zero, List.getElem_cons_succ, Act.put, List.setIfInBounds_toArray, List.set_cons_zero, List.set_cons_succ]
                  refine wpAnyH_take (i := 3) (v := ?_) rfl (by kernel_rfl) (by kernel_rfl) (by kernel_rfl) (fun _ _ _ h => h) (Or.inl ⟨by kernel_rfl, ?_⟩) hS ?_
                  rotate_left 1
                  · (intro w' hS'; clear hS'; go_simp; try with_reducible rfl)
                  simp only [List.getElem_toArray, List.getElem_cons_zero, List.getElem_cons_succ, Act.put, List.setIfInBounds_toArray, List.set_cons_zero, List.set_cons_succ]
                  refine wpAnyH_take (i := 4) (v := .bool false) rfl (by kernel_rfl) (by kernel_rfl) (by kernel_rfl) (fun _ _ _ h => h) (Or.inl ⟨by kernel_rfl, fun w' hS' => by clear hS'; go_simp⟩) hS ?_
                  simp only [List.getElem_toArray, List.getElem_cons_zero, List.getElem_cons_succ, Act.put, List.setIfInBounds_toArray, List.set_cons_zero, List.set_cons_succ]
                  refine wpAnyH_take (i := 5) (v := ?_) rfl (by kernel_rfl) (by kernel_rfl) (by kernel_rfl) (fun _ _ _ h => h) (Or.inl ⟨by kernel_rfl, ?_⟩) hS ?_
                  rotate_left 1
                  · (intro w' hS'; clear hS'; go_simp; try with_reducible rfl)
                  simp only [List.getElem_toArray, List.getElem_cons_zero, List.getElem_cons_succ, Act.put, List.setIfInBounds_toArray, List.set_cons_zero, List.set_cons_succ]
                  refine wpAnyH_take (i := 6) (v := ?_) rfl (by kernel_rfl) (by kernel_rfl) (by kernel_rfl) (fun _ _ _ h => h) (Or.inl ⟨by kernel_rfl, ?_⟩) hS ?_
                  rotate_left 1
                  · (intro w' hS'; have h1 := cellFr hS' (fun h => h) cg; clear hS'; go_simp; try with_reducible rfl)
                  simp only [List.getElem_toArray, List.getElem_cons_zero, List.getElem_cons_succ, Act.put, List.setIfInBounds_toArray, List.set_cons_zero, List.set_cons_succ]
                  refine wpAnyH_take (i := 7) (v := ?_) rfl (by kernel_rfl) (by kernel_rfl) (by kernel_rfl) (fun _ _ _ h => h) (Or.inl ⟨by kernel_rfl, ?_⟩) hS ?_
                  rotate_left 1
                  · (intro w' hS'; clear hS'; go_simp; try with_reducible rfl)
                  simp only [List.getElem_toArray, List.getElem_cons_zero, List.getElem_cons_succ, Act.put, List.setIfInBounds_toArray, List.set_cons_zero, List.set_cons_succ]
                  refine wpAnyH_take (i := 8) (v := ?_) rfl (by kernel_rfl) (by kernel_rfl) (by kernel_rfl) (fun _ _ _ h => h) (Or.inl ⟨by kernel_rfl, ?_⟩) hS ?_
                  rotate_left 1
                  · (intro w' hS'; have h1 := cellFr hS' (fun h => h) cw; clear hS'; go_simp; try with_reducible rfl)
                  simp only [List.getElem_toArray, List.getElem_cons_zero, List.getElem_cons_succ, Act.put, List.setIfInBounds_toArray, List.set_cons_zero, List.set_cons_succ]
                  refine wpAnyH_take (i := 9) (v := ?_) rfl (by kernel_rfl) (by kernel_rfl) (by kernel_rfl) (fun _ _ _ h => h) (Or.inl ⟨by kernel_rfl, ?_⟩) hS ?_
                  rotate_left 1
                  · (intro w' hS'; clear hS'; go_simp; try with_reducible rfl)
                  simp only [List.getElem_toArray, List.getElem_cons_zero, List.getElem_cons_succ, Act.put, List.setIfInBounds_toArray, List.set_cons_zero, List.set_cons_succ]
                  refine wpAnyH_take (i := 10) (v := .bool false) rfl (by kernel_rfl) (by kernel_rfl) (by kernel_rfl) (fun _ _ _ h => h) (Or.inl ⟨by kernel_rfl, fun w' hS' => by clear hS'; go_simp⟩) hS ?_
                  simp only [List.getElem_toArray, List.getElem_cons_zero, List.getElem_cons_succ, Act.put, List.setIfInBounds_toArray, List.set_cons_zero, List.set_cons_succ]
                  refine wpAnyH_take (i := 11) (v := ?_) rfl (by kernel_rfl) (by kernel_rfl) (by kernel_rfl) (fun _ _ _ h => h) (Or.inl ⟨by kernel_rfl, ?_⟩) hS ?_
                  rotate_left 1
                  · (intro w' hS'; clear hS'; go_simp; try with_reducible rfl)
                  simp only [List.getElem_toArray, List.getElem_cons_zero, List.getElem_cons_succ, Act.put, List.setIfInBounds_toArray, List.set_cons_zero, List.set_cons_succ]
                  refine wpAnyH_take (i := 12) (v := undef) rfl (by kernel_rfl) (by kernel_rfl) (by kernel_rfl) (fun _ _ _ h => h) (Or.inr ⟨by kernel_rfl, rfl⟩) hS ?_
                  simp only [List.getElem_toArray, List.getElem_cons_zero, List.getElem_cons_succ, Act.put, List.setIfInBounds_toArray, List.set_cons_zero, List.set_cons_succ]
                  refine wpAnyH_take (i := 13) (v := undef) rfl (by kernel_rfl) (by kernel_rfl) (by kernel_rfl) (fun _ _ _ h => h) (Or.inr ⟨by kernel_rfl, rfl⟩) hS ?_
                  simp only [List.getElem_toArray, List.getElem_cons_zero, List.getElem_cons_succ, Act.put, List.setIfInBounds_toArray, List.set_cons_zero, List.set_cons_succ]
                  refine wpAnyH_take (i := 14) (v := undef) rfl (by kernel_rfl) (by kernel_rfl) (by kernel_rfl) (fun _ _ _ h => h) (Or.inr ⟨by kernel_rfl, rfl⟩) hS ?_
                  simp only [List.getElem_toArray, List.getElem_cons_zero, List.getElem_cons_succ, Act.put, List.setIfInBounds_toArray, List.set_cons_zero, List.set_cons_succ]
                  refine wpAnyH_take (i := 15) (v := undef) rfl (by kernel_rfl) (by kernel_rfl) (by kernel_rfl) (fun _ _ _ h => h) (Or.inr ⟨by kernel_rfl, rfl⟩) hS ?_
                  simp only [List.getElem_toArray, List.getElem_cons_zero, List.getElem_cons_succ, Act.put, List.setIfInBounds_toArray, List.set_cons_zero, List.set_cons_succ]
                  refine wpAnyH_take (i := 16) (v := ?_) rfl (by kernel_rfl) (by kernel_rfl) (by kernel_rfl) (fun _ _ _ h => h) (Or.inl ⟨by kernel_rfl, ?_⟩) hS ?_
                  rotate_left 1
                  · (intro w' hS'; clear hS'; go_simp; try with_reducible rfl)
                  simp only [List.getElem_toArray, List.getElem_cons_zero, List.getElem_cons_succ, Act.put, List.setIfInBounds_toArray, List.set_cons_zero, List.set_cons_succ]
                  refine wpAnyH_take (i := 17) (v := ?_) rfl (by kernel_rfl) (by kernel_rfl) (by kernel_rfl) (fun _ _ _ h => h) (Or.inl ⟨by kernel_rfl, ?_⟩) hS ?_
                  rotate_left 1
                  · (intro w' hS'; clear hS'; go_simp; try with_reducible rfl)
                  simp only [List.getElem_toArray, List.getElem_cons_zero, List.getElem_cons_succ, Act.put, List.setIfInBounds_toArray, List.set_cons_zero, List.set_cons_succ]
                  refine wpAnyH_take (i := 18) (v := ?_) rfl (by kernel_rfl) (by kernel_rfl) (by kernel_rfl) (fun _ _ _ h => h) (Or.inl ⟨by kernel_rfl, ?_⟩) hS ?_
                  rotate_left 1
                  · (intro w' hS'; clear hS'; go_simp; try with_reducible rfl)
                  simp only [List.getElem_toArray, List.getElem_cons_zero, List.getElem_cons_succ, Act.put, List.setIfInBounds_toArray, List.set_cons_zero, List.set_cons_succ]
                  refine wpAnyH_take (i := 19) (v := ?_) rfl (by kernel_rfl) (by kernel_rfl) (by kernel_rfl) (fun _ _ _ h => h) (Or.inl ⟨by kernel_rfl, ?_⟩) hS ?_
                  rotate_left 1
                  · (intro w' hS'; have h1 := cellFr hS' (fun h => h) cg; clear hS'; go_simp; try with_reducible rfl)
                  simp only [List.getElem_toArray, List.getElem_cons_zero, List.getElem_cons_succ, Act.put, List.setIfInBounds_toArray, List.set_cons_zero, List.set_cons_succ]
                  refine wpAnyH_take (i := 20) (v := ?_) rfl (by kernel_rfl) (by kernel_rfl) (by kernel_rfl) (fun _ _ _ h => h) (Or.inl ⟨by kernel_rfl, ?_⟩) hS ?_
                  rotate_left 1
                  · (intro w' hS'; have h1 := cellFr hS' (fun h => h) cw; clear hS'; go_simp; try with_reducible rfl)
                  simp only [List.getElem_toArray, List.getElem_cons_zero, List.getElem_cons_succ, Act.put, List.setIfInBounds_toArray, List.set_cons_zero, List.set_cons_succ]
                  refine wpAnyH_take (i := 21) (v := ?_) rfl (by kernel_rfl) (by kernel_rfl) (by kernel_rfl) (fun _ _ _ h => h) (Or.inl ⟨by kernel_rfl, ?_⟩) hS ?_
                  rotate_left 1
                  · (intro w' hS'; have h1 := cellFr hS' (fun h => h) cg; clear hS'; go_simp; try with_reducible rfl)
                  simp only [List.getElem_toArray, List.getElem_cons_zero, List.getElem_cons_succ, Act.put, List.setIfInBounds_toArray, List.set_cons_zero, List.set_cons_succ]
                  refine wpAnyH_take (i := 22) (v := ?_) rfl (by kernel_rfl) (by kernel_rfl) (by kernel_rfl) (fun _ _ _ h => h) (Or.inl ⟨by kernel_rfl, ?_⟩) hS ?_
                  rotate_left 1
                  · (intro w' hS'; clear hS'; go_simp; try with_reducible rfl)
                  simp only [List.getElem_toArray, List.getElem_cons_zero, List.getElem_cons_succ, Act.put, List.setIfInBounds_toArray, List.set_cons_zero, List.set_cons_succ]
                  refine wpAnyH_take (i := 23) (v := ?_) rfl (by kernel_rfl) (by kernel_rfl) (by kernel_rfl) (fun _ _ _ h => h) (Or.inl ⟨by kernel_rfl, ?_⟩) hS ?_
                  rotate_left 1
                  · (intro w' hS'; have h1 := cu w'; clear hS'; go_simp; try with_reducible rfl)
                  simp only [List.getElem_toArray, List.getElem_cons_zero, List.getElem_cons_succ, Act.put, List.setIfInBounds_toArray, List.set_cons_zero, List.set_cons_succ]
                  refine wpAnyH_ready (rs := [24]) (by kernel_rfl) (by simp) ?_
                  refine AllReadyH.cons rfl (fun K1 hK1 => ?_) AllReadyH.nil
                  go_simp
                  refine (KS.out _ hS).mono ?_
                  rintro e w3 ⟨rb, rfl, hrb, f3⟩
                  have f4 : Fr (fun _ => False) W2 w3 := hS.trans f3 (fun _ _ h => h)
                  refine hK1.out _ _ f4 (fun hS => ?_)
                  clear hK1 K1
                  simp only [Act.put, List.setIfInBounds_toArray, List.set_cons_zero, List.set_cons_succ]
                  refine wpAnyH_take (i := 25) (v := ?_) rfl (by kernel_rfl) (by kernel_rfl) (by kernel_rfl) (fun _ _ _ h => h) (Or.inl ⟨by kernel_rfl, ?_⟩) hS ?_
                  rotate_left 1
                  · (intro w' hS'; clear hS'; go_simp; try with_reducible rfl)
                  simp only [List.getElem_toArray, List.getElem_cons_zero, List.getElem_cons_succ, Act.put, List.setIfInBounds_toArray, List.set_cons_zero, List.set_cons_succ]
                  refine wpAnyH_take (i := 26) (v := ?_) rfl (by kernel_rfl) (by kernel_rfl) (by kernel_rfl) (fun _ _ _ h => h) (Or.inl ⟨by kernel_rfl, ?_⟩) hS ?_
                  rotate_left 1
                  · (intro w' hS'; clear hS'; go_simp; try with_reducible rfl)
                  simp only [List.getElem_toArray, List.getElem_cons_zero, List.getElem_cons_succ, Act.put, List.setIfInBounds_toArray, List.set_cons_zero, List.set_cons_succ]
                  refine wpAnyH_done (by kernel_rfl) ?_ _
                  refine NoPanic.normal ?_
                  have FS := hid hS
                  have HRB := hid hrb
                  clear hS hrb f3 f4
                  cases rb with
                  | false =>
                    gi_wp2
                    have q2 := (FS.out).cells HK2.out (fun h => h)
                    refine ⟨by simp, .inl ⟨_, _, rfl, run_takeDeferred q2, ?_⟩⟩
                    have q1 := ((FS.out).cells HK12.out (fun h => h))
                    have hd12 := HD12.out
                    refine ⟨by simp, .inl ⟨_, _, rfl, run_takeDeferred ((World.putObj_heap_other (by omega)).trans q1), ?_⟩⟩
                    refine ⟨.bool false, by simp [results, Try.f15, go_sem], ?_⟩
                    refine ⟨false, rfl, (fun e => by have := HRB.out.2 (HPF.out e); cases this), ?_⟩
                    have hsz := HF2.out.size
                    have hdd := HD2.out
                    have hd1 := HD1.out
                    exact ((HF2.out.trans FS.out (fun _ _ h => h)).trans (Fr.of_grown (grownBy_putObj' _ D2 _)) (fun i hi e => by simp at e; omega)).trans (Fr.of_grown (grownBy_putObj' _ D1 _)) (fun i hi e => by simp at e; omega)
                  | true =>
                    gi_wp2_with fail
                    rw [roundsIn_succ]
                    gi_wp2
                    have q2 := (FS.out).cells HK2.out (fun h => h)
                    refine ⟨by simp, .inl ⟨_, _, rfl, run_takeDeferred q2, ?_⟩⟩
                    have q1 := ((FS.out).cells HK12.out (fun h => h))
                    have hd12 := HD12.out
                    refine ⟨by simp, .inl ⟨_, _, rfl, run_takeDeferred ((World.putObj_heap_other (by omega)).trans q1), ?_⟩⟩
                    refine ⟨.bool true, by simp [results, Try.f15, go_sem], ?_⟩
                    refine ⟨true, rfl, (fun _ => rfl), ?_⟩
                    have hsz := HF2.out.size
                    have hdd := HD2.out
                    have hd1 := HD1.out
                    exact ((HF2.out.trans FS.out (fun _ _ h => h)).trans (Fr.of_grown (grownBy_putObj' _ D2 _)) (fun i hi e => by simp at e; omega)).trans (Fr.of_grown (grownBy_putObj' _ D1 _)) (fun i hi e => by simp at e; omega)
                · have hC' : ¬ (m : Int) = (nW : Int) := by omega
                  have hC2 : ((m : Int) == (nW : Int)) = false := beq_false_of_ne hC'
                  by_cases hB : (m : Int) = stop
                  · have hB2 : stop = (m : Int) := hB.symm
                    clear hB
                    refine wp_region_noPanic ?_
                    refine wp_region_held (S := fun V => Fr (fun _ => False) W2 V) hmx ?_
                    have hS : Fr (fun _ => False) W2 W2.drew := Fr.drew (Fr.refl _ _)
                    simp only [List.size_toArray, List.length_cons, List.length_nil, Nat.reduceAdd, Array.replicate_succ, Array.replicate_zero, List.push_toArray, List.nil_append, List.cons_append]
                    refine wpAnyH_take (i := 0) (v := ?_) rfl (by kernel_rfl) (by kernel_rfl) (by kernel_rfl) (fun _ _ _ h => h) (Or.inl ⟨by kernel_rfl, ?_⟩) hS ?_
                    rotate_left 1
                    · (intro w' hS'; have h1 := cellFr hS' (fun h => h) cg; clear hS'; go_simp; try with_reducible rfl)
                    simp only [List.getElem_toArray, List.getElem_cons_zero, List.getElem_cons_succ, Act.put, List.setIfInBounds_toArray, List.set_cons_zero, List.set_cons_succ]
                    refine wpAnyH_take (i := 1) (v := ?_) rfl (by kernel_rfl) (by kernel_rfl) (by kernel_rfl) (fun _ _ _ h => h) (Or.inl ⟨by kernel_rfl, ?_⟩) hS ?_
                    rotate_left 1
                    · (intro w' hS'; clear hS'; go_simp; try with_reducible rfl)
                    simp only [List.getElem_toArray, List.getElem_cons_zero, List.getElem_cons_succ, Act.put, List.setIfInBounds_toArray, List.set_cons_zero, List.set_cons_succ]
                    refine wpAnyH_take (i := 2) (v := ?_) rfl (by kernel_rfl) (by kernel_rfl) (by kernel_rfl) (fun _ _ _ h => h) (Or.inl ⟨by kernel_rfl, ?_⟩) hS ?_
                    rotate_left 1
                    · (intro w' hS'; have h1 := cellFr hS' (fun h => h) cw; clear hS'; go_simp; try with_reducible rfl)
                    simp only [List.getElem_toArray, List.getElem_cons_zero, List.getElem_cons_succ, Act.put, List.setIfInBounds_toArray, List.set_cons_zero, List.set_cons_succ]
                    refine wpAnyH_take (i := 3) (v := ?_) rfl (by kernel_rfl) (by kernel_rfl) (by kernel_rfl) (fun _ _ _ h => h) (Or.inl ⟨by kernel_rfl, ?_⟩) hS ?_
                    rotate_left 1
                    · (intro w' hS'; clear hS'; go_simp; try with_reducible rfl)
                    simp only [List.getElem_toArray, List.getElem_cons_zero, List.getElem_cons_succ, Act.put, List.setIfInBounds_toArray, List.set_cons_zero, List.set_cons_succ]
                    refine wpAnyH_take (i := 4) (v := .bool false) rfl (by kernel_rfl) (by kernel_rfl) (by kernel_rfl) (fun _ _ _ h => h) (Or.inl ⟨by kernel_rfl, fun w' hS' => by clear hS'; go_simp⟩) hS ?_
                    simp only [List.getElem_toArray, List.getElem_cons_zero, List.getElem_cons_succ, Act.put, List.setIfInBounds_toArray, List.set_cons_zero, List.set_cons_succ]
                    refine wpAnyH_take (i := 5) (v := ?_) rfl (by kernel_rfl) (by kernel_rfl) (by kernel_rfl) (fun _ _ _ h => h) (Or.inl ⟨by kernel_rfl, ?_⟩) hS ?_
                    rotate_left 1
                    · (intro w' hS'; clear hS'; go_simp; try with_reducible rfl)
                    simp only [List.getElem_toArray, List.getElem_cons_zero, List.getElem_cons_succ, Act.put, List.setIfInBounds_toArray, List.set_cons_zero, List.set_cons_succ]
                    refine wpAnyH_take (i := 6) (v := ?_) rfl (by kernel_rfl) (by kernel_rfl) (by kernel_rfl) (fun _ _ _ h => h) (Or.inl ⟨by kernel_rfl, ?_⟩) hS ?_
                    rotate_left 1
                    · (intro w' hS'; have h1 := cellFr hS' (fun h => h) cg; clear hS'; go_simp; try with_reducible rfl)
                    simp only [List.getElem_toArray, List.getElem_cons_zero, List.getElem_cons_succ, Act.put, List.setIfInBounds_toArray, List.set_cons_zero, List.set_cons_succ]
                    refine wpAnyH_take (i := 7) (v := ?_) rfl (by kernel_rfl) (by kernel_rfl) (by kernel_rfl) (fun _ _ _ h => h) (Or.inl ⟨by kernel_rfl, ?_⟩) hS ?_
                    rotate_left 1
                    · (intro w' hS'; clear hS'; go_simp; try with_reducible rfl)
                    simp only [List.getElem_toArray, List.getElem_cons_zero, List.getElem_cons_succ, Act.put, List.setIfInBounds_toArray, List.set_cons_zero, List.set_cons_succ]
                    refine wpAnyH_take (i := 8) (v := ?_) rfl (by kernel_rfl) (by kernel_rfl) (by kernel_rfl) (fun _ _ _ h => h) (Or.inl ⟨by kernel_rfl, ?_⟩) hS ?_
                    rotate_left 1
                    · (intro w' hS'; have h1 := cellFr hS' (fun h => h) cw; clear hS'; go_simp; try with_reducible rfl)
                    simp only [List.getElem_toArray, List.getElem_cons_zero, List.getElem_cons_succ, Act.put, List.setIfInBounds_toArray, List.set_cons_zero, List.set_cons_succ]
                    refine wpAnyH_take (i := 9) (v := ?_) rfl (by kernel_rfl) (by kernel_rfl) (by kernel_rfl) (fun _ _ _ h => h) (Or.inl ⟨by kernel_rfl, ?_⟩) hS ?_
                    rotate_left 1
                    · (intro w' hS'; clear hS'; go_simp; try with_reducible rfl)
                    simp only [List.getElem_toArray, List.getElem_cons_zero, List.getElem_cons_succ, Act.put, List.setIfInBounds_toArray, List.set_cons_zero, List.set_cons_succ]
                    refine wpAnyH_take (i := 10) (v := .bool true) rfl (by kernel_rfl) (by kernel_rfl) (by kernel_rfl) (fun _ _ _ h => h) (Or.inl ⟨by kernel_rfl, fun w' hS' => by clear hS'; go_simp⟩) hS ?_
                    simp only [List.getElem_toArray, List.getElem_cons_zero, List.getElem_cons_succ, Act.put, List.setIfInBounds_toArray, List.set_cons_zero, List.set_cons_succ]
                    refine wpAnyH_take (i := 11) (v := ?_) rfl (by kernel_rfl) (by kernel_rfl) (by kernel_rfl) (fun _ _ _ h => h) (Or.inl ⟨by kernel_rfl, ?_⟩) hS ?_
                    rotate_left 1
                    · (intro w' hS'; clear hS'; go_simp; try with_reducible rfl)
                    simp only [List.getElem_toArray, List.getElem_cons_zero, List.getElem_cons_succ, Act.put, List.setIfInBounds_toArray, List.set_cons_zero, List.set_cons_succ]
                    refine wpAnyH_take (i := 12) (v := ?_) rfl (by kernel_rfl) (by kernel_rfl) (by kernel_rfl) (fun _ _ _ h => h) (Or.inl ⟨by kernel_rfl, ?_⟩) hS ?_
                    rotate_left 1
                    · (intro w' hS'; have h1 := cellFr hS' (fun h => h) cg; clear hS'; go_simp; try with_reducible rfl)
                    simp only [List.getElem_toArray, List.getElem_cons_zero, List.getElem_cons_succ, Act.put, List.setIfInBounds_toArray, List.set_cons_zero, List.set_cons_succ]
                    refine wpAnyH_take (i := 13) (v := ?_) rfl (by kernel_rfl) (by kernel_rfl) (by kernel_rfl) (fun _ _ _ h => h) (Or.inl ⟨by kernel_rfl, ?_⟩) hS ?_
                    rotate_left 1
                    · (intro w' hS'; clear hS'; go_simp; try with_reducible rfl)
                    simp only [List.getElem_toArray, List.getElem_cons_zero, List.getElem_cons_succ, Act.put, List.setIfInBounds_toArray, List.set_cons_zero, List.set_cons_succ]
                    refine wpAnyH_take (i := 14) (v := ?_) rfl (by kernel_rfl) (by kernel_rfl) (by kernel_rfl) (fun _ _ _ h => h) (Or.inl ⟨by kernel_rfl, ?_⟩) hS ?_
                    rotate_left 1
                    · (intro w' hS'; have h1 := cellFr hS' (fun h => h) cs_; clear hS'; go_simp; try with_reducible rfl)
                    simp only [List.getElem_toArray, List.getElem_cons_zero, List.getElem_cons_succ, Act.put, List.setIfInBounds_toArray, List.set_cons_zero, List.set_cons_succ]
                    refine wpAnyH_take (i := 15) (v := .bool false) rfl (by kernel_rfl) (by kernel_rfl) (by kernel_rfl) (fun _ _ _ h => h) (Or.inl ⟨by kernel_rfl, fun w' hS' => by clear hS'; go_simp⟩) hS ?_
                    simp only [List.getElem_toArray, List.getElem_cons_zero, List.getElem_cons_succ, Act.put, List.setIfInBounds_toArray, List.set_cons_zero, List.set_cons_succ]
                    refine wpAnyH_take (i := 16) (v := ?_) rfl (by kernel_rfl) (by kernel_rfl) (by kernel_rfl) (fun _ _ _ h => h) (Or.inl ⟨by kernel_rfl, ?_⟩) hS ?_
                    rotate_left 1
                    · (intro w' hS'; clear hS'; go_simp; try with_reducible rfl)
                    simp only [List.getElem_toArray, List.getElem_cons_zero, List.getElem_cons_succ, Act.put, List.setIfInBounds_toArray, List.set_cons_zero, List.set_cons_succ]
                    refine wpAnyH_take (i := 17) (v := ?_) rfl (by kernel_rfl) (by kernel_rfl) (by kernel_rfl) (fun _ _ _ h => h) (Or.inl ⟨by kernel_rfl, ?_⟩) hS ?_
                    rotate_left 1
                    · (intro w' hS'; clear hS'; go_simp; try with_reducible rfl)
                    simp only [List.getElem_toArray, List.getElem_cons_zero, List.getElem_cons_succ, Act.put, List.setIfInBounds_toArray, List.set_cons_zero, List.set_cons_succ]
                    refine wpAnyH_take (i := 18) (v := ?_) rfl (by kernel_rfl) (by kernel_rfl) (by kernel_rfl) (fun _ _ _ h => h) (Or.inl ⟨by kernel_rfl, ?_⟩) hS ?_
                    rotate_left 1
                    · (intro w' hS'; clear hS'; go_simp; try with_reducible rfl)
                    simp only [List.getElem_toArray, List.getElem_cons_zero, List.getElem_cons_succ, Act.put, List.setIfInBounds_toArray, List.set_cons_zero, List.set_cons_succ]
                    refine wpAnyH_take (i := 19) (v := ?_) rfl (by kernel_rfl) (by kernel_rfl) (by kernel_rfl) (fun _ _ _ h => h) (Or.inl ⟨by kernel_rfl, ?_⟩) hS ?_
                    rotate_left 1
                    · (intro w' hS'; have h1 := cellFr hS' (fun h => h) cg; clear hS'; go_simp; try with_reducible rfl)
                    simp only [List.getElem_toArray, List.getElem_cons_zero, List.getElem_cons_succ, Act.put, List.setIfInBounds_toArray, List.set_cons_zero, List.set_cons_succ]
                    refine wpAnyH_take (i := 20) (v := ?_) rfl (by kernel_rfl) (by kernel_rfl) (by kernel_rfl) (fun _ _ _ h => h) (Or.inl ⟨by kernel_rfl, ?_⟩) hS ?_
                    rotate_left 1
                    · (intro w' hS'; have h1 := cellFr hS' (fun h => h) cw; clear hS'; go_simp; try with_reducible rfl)
                    simp only [List.getElem_toArray, List.getElem_cons_zero, List.getElem_cons_succ, Act.put, List.setIfInBounds_toArray, List.set_cons_zero, List.set_cons_succ]
                    refine wpAnyH_take (i := 21) (v := ?_) rfl (by kernel_rfl) (by kernel_rfl) (by kernel_rfl) (fun _ _ _ h => h) (Or.inl ⟨by kernel_rfl, ?_⟩) hS ?_
                    rotate_left 1
                    · (intro w' hS'; have h1 := cellFr hS' (fun h => h) cg; clear hS'; go_simp; try with_reducible rfl)
                    simp only [List.getElem_toArray, List.getElem_cons_zero, List.getElem_cons_succ, Act.put, List.setIfInBounds_toArray, List.set_cons_zero, List.set_cons_succ]
                    refine wpAnyH_take (i := 22) (v := ?_) rfl (by kernel_rfl) (by kernel_rfl) (by kernel_rfl) (fun _ _ _ h => h) (Or.inl ⟨by kernel_rfl, ?_⟩) hS ?_
                    rotate_left 1
                    · (intro w' hS'; clear hS'; go_simp; try with_reducible rfl)
                    simp only [List.getElem_toArray, List.getElem_cons_zero, List.getElem_cons_succ, Act.put, List.setIfInBounds_toArray, List.set_cons_zero, List.set_cons_succ]
                    refine wpAnyH_take (i := 23) (v := ?_) rfl (by kernel_rfl) (by kernel_rfl) (by kernel_rfl) (fun _ _ _ h => h) (Or.inl ⟨by kernel_rfl, ?_⟩) hS ?_
                    rotate_left 1
                    · (intro w' hS'; have h1 := cu w'; clear hS'; go_simp; try with_reducible rfl)
                    simp only [List.getElem_toArray, List.getElem_cons_zero, List.getElem_cons_succ, Act.put, List.setIfInBounds_toArray, List.set_cons_zero, List.set_cons_succ]
                    refine wpAnyH_ready (rs := [24]) (by kernel_rfl) (by simp) ?_
                    refine AllReadyH.cons rfl (fun K1 hK1 => ?_) AllReadyH.nil
                    go_simp
                    refine (KS.out _ hS).mono ?_
                    rintro e w3 ⟨rb, rfl, hrb, f3⟩
                    have f4 : Fr (fun _ => False) W2 w3 := hS.trans f3 (fun _ _ h => h)
                    refine hK1.out _ _ f4 (fun hS => ?_)
                    clear hK1 K1
                    simp only [Act.put, List.setIfInBounds_toArray, List.set_cons_zero, List.set_cons_succ]
                    refine wpAnyH_take (i := 25) (v := ?_) rfl (by kernel_rfl) (by kernel_rfl) (by kernel_rfl) (fun _ _ _ h => h) (Or.inl ⟨by kernel_rfl, ?_⟩) hS ?_
                    rotate_left 1
                    · (intro w' hS'; clear hS'; go_simp; try with_reducible rfl)
                    simp only [List.getElem_toArray, List.getElem_cons_zero, List.getElem_cons_succ, Act.put, List.setIfInBounds_toArray, List.set_cons_zero, List.set_cons_succ]
                    refine wpAnyH_take (i := 26) (v := ?_) rfl (by kernel_rfl) (by kernel_rfl) (by kernel_rfl) (fun _ _ _ h => h) (Or.inl ⟨by kernel_rfl, ?_⟩) hS ?_
                    rotate_left 1
                    · (intro w' hS'; clear hS'; go_simp; try with_reducible rfl)
                    simp only [List.getElem_toArray, List.getElem_cons_zero, List.getElem_cons_succ, Act.put, List.setIfInBounds_toArray, List.set_cons_zero, List.set_cons_succ]
                    refine wpAnyH_done (by kernel_rfl) ?_ _
                    refine NoPanic.normal ?_
                    have FS := hid hS
                    have HRB := hid hrb
                    clear hS hrb f3 f4 hB2 hC' hC2 hC
                    cases rb with
                    | false =>
                      gi_wp2
                      have q2 := (FS.out).cells HK2.out (fun h => h)
                      refine ⟨by simp, .inl ⟨_, _, rfl, run_takeDeferred q2, ?_⟩⟩
                      have q1 := ((FS.out).cells HK12.out (fun h => h))
                      have hd12 := HD12.out
                      refine ⟨by simp, .inl ⟨_, _, rfl, run_takeDeferred ((World.putObj_heap_other (by omega)).trans q1), ?_⟩⟩
                      refine ⟨.bool false, by simp [results, Try.f15, go_sem], ?_⟩
                      refine ⟨false, rfl, (fun e => by have := HRB.out.2 (HPF.out e); cases this), ?_⟩
                      have hsz := HF2.out.size
                      have hdd := HD2.out
                      have hd1 := HD1.out
                      exact ((HF2.out.trans FS.out (fun _ _ h => h)).trans (Fr.of_grown (grownBy_putObj' _ D2 _)) (fun i hi e => by simp at e; omega)).trans (Fr.of_grown (grownBy_putObj' _ D1 _)) (fun i hi e => by simp at e; omega)
                    | true =>
                      gi_wp2_with fail
                      rw [roundsIn_succ]
                      gi_wp2
                      have q2 := (FS.out).cells HK2.out (fun h => h)
                      refine ⟨by simp, .inl ⟨_, _, rfl, run_takeDeferred q2, ?_⟩⟩
                      have q1 := ((FS.out).cells HK12.out (fun h => h))
                      have hd12 := HD12.out
                      refine ⟨by simp, .inl ⟨_, _, rfl, run_takeDeferred ((World.putObj_heap_other (by omega)).trans q1), ?_⟩⟩
                      refine ⟨.bool true, by simp [results, Try.f15, go_sem], ?_⟩
                      refine ⟨true, rfl, (fun _ => rfl), ?_⟩
                      have hsz := HF2.out.size
                      have hdd := HD2.out
                      have hd1 := HD1.out
                      exact ((HF2.out.trans FS.out (fun _ _ h => h)).trans (Fr.of_grown (grownBy_putObj' _ D2 _)) (fun i hi e => by simp at e; omega)).trans (Fr.of_grown (grownBy_putObj' _ D1 _)) (fun i hi e => by simp at e; omega)
                  · refine wp_region_noPanic ?_
                    refine wp_region_held (S := fun V => Fr (fun _ => False) W2 V) hmx ?_
                    have hS : Fr (fun _ => False) W2 W2.drew := Fr.drew (Fr.refl _ _)
                    simp only [List.size_toArray, List.length_cons, List.length_nil, Nat.reduceAdd, Array.replicate_succ, Array.replicate_zero, List.push_toArray, List.nil_append, List.cons_append]
                    refine wpAnyH_take (i := 0) (v := ?_) rfl (by kernel_rfl) (by kernel_rfl) (by kernel_rfl) (fun _ _ _ h => h) (Or.inl ⟨by kernel_rfl, ?_⟩) hS ?_
                    rotate_left 1
                    · (intro w' hS'; have h1 := cellFr hS' (fun h => h) cg; clear hS'; go_simp; try with_reducible rfl)
                    simp only [List.getElem_toArray, List.getElem_cons_zero, List.getElem_cons_succ, Act.put, List.setIfInBounds_toArray, List.set_cons_zero, List.set_cons_succ]
                    refine wpAnyH_take (i := 1) (v := ?_) rfl (by kernel_rfl) (by kernel_rfl) (by kernel_rfl) (fun _ _ _ h => h) (Or.inl ⟨by kernel_rfl, ?_⟩) hS ?_
                    rotate_left 1
                    · (intro w' hS'; clear hS'; go_simp; try with_reducible rfl)
                    simp only [List.getElem_toArray, List.getElem_cons_zero, List.getElem_cons_succ, Act.put, List.setIfInBounds_toArray, List.set_cons_zero, List.set_cons_succ]
                    refine wpAnyH_take (i := 2) (v := ?_) rfl (by kernel_rfl) (by kernel_rfl) (by kernel_rfl) (fun _ _ _ h => h) (Or.inl ⟨by kernel_rfl, ?_⟩) hS ?_
                    rotate_left 1
                    · (intro w' hS'; have h1 := cellFr hS' (fun h => h) cw; clear hS'; go_simp; try with_reducible rfl)
                    simp only [List.getElem_toArray, List.getElem_cons_zero, List.getElem_cons_succ, Act.put, List.setIfInBounds_toArray, List.set_cons_zero, List.set_cons_succ]
                    refine wpAnyH_take (i := 3) (v := ?_) rfl (by kernel_rfl) (by kernel_rfl) (by kernel_rfl) (fun _ _ _ h => h) (Or.inl ⟨by kernel_rfl, ?_⟩) hS ?_
                    rotate_left 1
                    · (intro w' hS'; clear hS'; go_simp; try with_reducible rfl)
                    simp only [List.getElem_toArray, List.getElem_cons_zero, List.getElem_cons_succ, Act.put, List.setIfInBounds_toArray, List.set_cons_zero, List.set_cons_succ]
                    refine wpAnyH_take (i := 4) (v := .bool false) rfl (by kernel_rfl) (by kernel_rfl) (by kernel_rfl) (fun _ _ _ h => h) (Or.inl ⟨by kernel_rfl, fun w' hS' => by clear hS'; go_simp⟩) hS ?_
                    simp only [List.getElem_toArray, List.getElem_cons_zero, List.getElem_cons_succ, Act.put, List.setIfInBounds_toArray, List.set_cons_zero, List.set_cons_succ]
                    refine wpAnyH_take (i := 5) (v := ?_) rfl (by kernel_rfl) (by kernel_rfl) (by kernel_rfl) (fun _ _ _ h => h) (Or.inl ⟨by kernel_rfl, ?_⟩) hS ?_
                    rotate_left 1
                    · (intro w' hS'; clear hS'; go_simp; try with_reducible rfl)
                    simp only [List.getElem_toArray, List.getElem_cons_zero, List.getElem_cons_succ, Act.put, List.setIfInBounds_toArray, List.set_cons_zero, List.set_cons_succ]
                    refine wpAnyH_take (i := 6) (v := ?_) rfl (by kernel_rfl) (by kernel_rfl) (by kernel_rfl) (fun _ _ _ h => h) (Or.inl ⟨by kernel_rfl, ?_⟩) hS ?_
                    rotate_left 1
                    · (intro w' hS'; have h1 := cellFr hS' (fun h => h) cg; clear hS'; go_simp; try with_reducible rfl)
                    simp only [List.getElem_toArray, List.getElem_cons_zero, List.getElem_cons_succ, Act.put, List.setIfInBounds_toArray, List.set_cons_zero, List.set_cons_succ]
                    refine wpAnyH_take (i := 7) (v := ?_) rfl (by kernel_rfl) (by kernel_rfl) (by kernel_rfl) (fun _ _ _ h => h) (Or.inl ⟨by kernel_rfl, ?_⟩) hS ?_
                    rotate_left 1
                    · (intro w' hS'; clear hS'; go_simp; try with_reducible rfl)
                    simp only [List.getElem_toArray, List.getElem_cons_zero, List.getElem_cons_succ, Act.put, List.setIfInBounds_toArray, List.set_cons_zero, List.set_cons_succ]
                    refine wpAnyH_take (i := 8) (v := ?_) rfl (by kernel_rfl) (by kernel_rfl) (by kernel_rfl) (fun _ _ _ h => h) (Or.inl ⟨by kernel_rfl, ?_⟩) hS ?_
                    rotate_left 1
                    · (intro w' hS'; have h1 := cellFr hS' (fun h => h) cw; clear hS'; go_simp; try with_reducible rfl)
                    simp only [List.getElem_toArray, List.getElem_cons_zero, List.getElem_cons_succ, Act.put, List.setIfInBounds_toArray, List.set_cons_zero, List.set_cons_succ]
                    refine wpAnyH_take (i := 9) (v := ?_) rfl (by kernel_rfl) (by kernel_rfl) (by kernel_rfl) (fun _ _ _ h => h) (Or.inl ⟨by kernel_rfl, ?_⟩) hS ?_
                    rotate_left 1
                    · (intro w' hS'; clear hS'; go_simp; try with_reducible rfl)
                    simp only [List.getElem_toArray, List.getElem_cons_zero, List.getElem_cons_succ, Act.put, List.setIfInBounds_toArray, List.set_cons_zero, List.set_cons_succ]
                    refine wpAnyH_take (i := 10) (v := .bool true) rfl (by kernel_rfl) (by kernel_rfl) (by kernel_rfl) (fun _ _ _ h => h) (Or.inl ⟨by kernel_rfl, fun w' hS' => by clear hS'; go_simp⟩) hS ?_
                    simp only [List.getElem_toArray, List.getElem_cons_zero, List.getElem_cons_succ, Act.put, List.setIfInBounds_toArray, List.set_cons_zero, List.set_cons_succ]
                    refine wpAnyH_take (i := 11) (v := ?_) rfl (by kernel_rfl) (by kernel_rfl) (by kernel_rfl) (fun _ _ _ h => h) (Or.inl ⟨by kernel_rfl, ?_⟩) hS ?_
                    rotate_left 1
                    · (intro w' hS'; clear hS'; go_simp; try with_reducible rfl)
                    simp only [List.getElem_toArray, List.getElem_cons_zero, List.getElem_cons_succ, Act.put, List.setIfInBounds_toArray, List.set_cons_zero, List.set_cons_succ]
                    refine wpAnyH_take (i := 12) (v := ?_) rfl (by kernel_rfl) (by kernel_rfl) (by kernel_rfl) (fun _ _ _ h => h) (Or.inl ⟨by kernel_rfl, ?_⟩) hS ?_
                    rotate_left 1
                    · (intro w' hS'; have h1 := cellFr hS' (fun h => h) cg; clear hS'; go_simp; try with_reducible rfl)
                    simp only [List.getElem_toArray, List.getElem_cons_zero, List.getElem_cons_succ, Act.put, List.setIfInBounds_toArray, List.set_cons_zero, List.set_cons_succ]
                    refine wpAnyH_take (i := 13) (v := ?_) rfl (by kernel_rfl) (by kernel_rfl) (by kernel_rfl) (fun _ _ _ h => h) (Or.inl ⟨by kernel_rfl, ?_⟩) hS ?_
                    rotate_left 1
                    · (intro w' hS'; clear hS'; go_simp; try with_reducible rfl)
                    simp only [List.getElem_toArray, List.getElem_cons_zero, List.getElem_cons_succ, Act.put, List.setIfInBounds_toArray, List.set_cons_zero, List.set_cons_succ]
                    refine wpAnyH_take (i := 14) (v := ?_) rfl (by kernel_rfl) (by kernel_rfl) (by kernel_rfl) (fun _ _ _ h => h) (Or.inl ⟨by kernel_rfl, ?_⟩) hS ?_
                    rotate_left 1
                    · (intro w' hS'; have h1 := cellFr hS' (fun h => h) cs_; clear hS'; go_simp; try with_reducible rfl)
                    simp only [List.getElem_toArray, List.getElem_cons_zero, List.getElem_cons_succ, Act.put, List.setIfInBounds_toArray, List.set_cons_zero, List.set_cons_succ]
                    refine wpAnyH_take (i := 15) (v := .bool true) rfl (by kernel_rfl) (by kernel_rfl) (by kernel_rfl) (fun _ _ _ h => h) (Or.inl ⟨by kernel_rfl, fun w' hS' => by clear hS'; go_simp⟩) hS ?_
                    simp only [List.getElem_toArray, List.getElem_cons_zero, List.getElem_cons_succ, Act.put, List.setIfInBounds_toArray, List.set_cons_zero, List.set_cons_succ]
                    refine wpAnyH_take (i := 16) (v := ?_) rfl (by kernel_rfl) (by kernel_rfl) (by kernel_rfl) (fun _ _ _ h => h) (Or.inl ⟨by kernel_rfl, ?_⟩) hS ?_
                    rotate_left 1
                    · (intro w' hS'; clear hS'; go_simp; try with_reducible rfl)
                    simp only [List.getElem_toArray, List.getElem_cons_zero, List.getElem_cons_succ, Act.put, List.setIfInBounds_toArray, List.set_cons_zero, List.set_cons_succ]
                    refine wpAnyH_take (i := 17) (v := ?_) rfl (by kernel_rfl) (by kernel_rfl) (by kernel_rfl) (fun _ _ _ h => h) (Or.inl ⟨by kernel_rfl, ?_⟩) hS ?_
                    rotate_left 1
                    · (intro w' hS'; clear hS'; go_simp; try with_reducible rfl)
                    simp only [List.getElem_toArray, List.getElem_cons_zero, List.getElem_cons_succ, Act.put, List.setIfInBounds_toArray, List.set_cons_zero, List.set_cons_succ]
                    refine wpAnyH_take (i := 18) (v := ?_) rfl (by kernel_rfl) (by kernel_rfl) (by kernel_rfl) (fun _ _ _ h => h) (Or.inl ⟨by kernel_rfl, ?_⟩) hS ?_
                    rotate_left 1
                    · (intro w' hS'; clear hS'; go_simp; try with_reducible rfl)
                    simp only [List.getElem_toArray, List.getElem_cons_zero, List.getElem_cons_succ, Act.put, List.setIfInBounds_toArray, List.set_cons_zero, List.set_cons_succ]
                    refine wpAnyH_take (i := 19) (v := undef) rfl (by kernel_rfl) (by kernel_rfl) (by kernel_rfl) (fun _ _ _ h => h) (Or.inr ⟨by kernel_rfl, rfl⟩) hS ?_
                    simp only [List.getElem_toArray, List.getElem_cons_zero, List.getElem_cons_succ, Act.put, List.setIfInBounds_toArray, List.set_cons_zero, List.set_cons_succ]
                    refine wpAnyH_take (i := 20) (v := undef) rfl (by kernel_rfl) (by kernel_rfl) (by kernel_rfl) (fun _ _ _ h => h) (Or.inr ⟨by kernel_rfl, rfl⟩) hS ?_
                    simp only [List.getElem_toArray, List.getElem_cons_zero, List.getElem_cons_succ, Act.put, List.setIfInBounds_toArray, List.set_cons_zero, List.set_cons_succ]
                    refine wpAnyH_take (i := 21) (v := undef) rfl (by kernel_rfl) (by kernel_rfl) (by kernel_rfl) (fun _ _ _ h => h) (Or.inr ⟨by kernel_rfl, rfl⟩) hS ?_
                    simp only [List.getElem_toArray, List.getElem_cons_zero, List.getElem_cons_succ, Act.put, List.setIfInBounds_toArray, List.set_cons_zero, List.set_cons_succ]
                    refine wpAnyH_take (i := 22) (v := undef) rfl (by kernel_rfl) (by kernel_rfl) (by kernel_rfl) (fun _ _ _ h => h) (Or.inr ⟨by kernel_rfl, rfl⟩) hS ?_
                    simp only [List.getElem_toArray, List.getElem_cons_zero, List.getElem_cons_succ, Act.put, List.setIfInBounds_toArray, List.set_cons_zero, List.set_cons_succ]
                    refine wpAnyH_take (i := 23) (v := undef) rfl (by kernel_rfl) (by kernel_rfl) (by kernel_rfl) (fun _ _ _ h => h) (Or.inr ⟨by kernel_rfl, rfl⟩) hS ?_
                    simp only [List.getElem_toArray, List.getElem_cons_zero, List.getElem_cons_succ, Act.put, List.setIfInBounds_toArray, List.set_cons_zero, List.set_cons_succ]
                    refine wpAnyH_take (i := 24) (v := undef) rfl (by kernel_rfl) (by kernel_rfl) (by kernel_rfl) (fun _ _ _ h => h) (Or.inr ⟨by kernel_rfl, rfl⟩) hS ?_
                    simp only [List.getElem_toArray, List.getElem_cons_zero, List.getElem_cons_succ, Act.put, List.setIfInBounds_toArray, List.set_cons_zero, List.set_cons_succ]
                    refine wpAnyH_take (i := 25) (v := undef) rfl (by kernel_rfl) (by kernel_rfl) (by kernel_rfl) (fun _ _ _ h => h) (Or.inr ⟨by kernel_rfl, rfl⟩) hS ?_
                    simp only [List.getElem_toArray, List.getElem_cons_zero, List.getElem_cons_succ, Act.put, List.setIfInBounds_toArray, List.set_cons_zero, List.set_cons_succ]
                    refine wpAnyH_take (i := 26) (v := ?_) rfl (by kernel_rfl) (by kernel_rfl) (by kernel_rfl) (fun _ _ _ h => h) (Or.inl ⟨by kernel_rfl, ?_⟩) hS ?_
                    rotate_left 1
                    · (intro w' hS'; clear hS'; go_simp; try with_reducible rfl)
                    simp only [List.getElem_toArray, List.getElem_cons_zero, List.getElem_cons_succ, Act.put, List.setIfInBounds_toArray, List.set_cons_zero, List.set_cons_succ]
                    refine wpAnyH_done (by kernel_rfl) ?_ _
                    refine NoPanic.normal ?_
                    have FS := hid hS
                    clear hS
                    gi_wp2
                    have q2 := (FS.out).cells HK2.out (fun h => h)
                    refine ⟨by simp, .inl ⟨_, _, rfl, run_takeDeferred q2, ?_⟩⟩
                    have q1 := ((FS.out).cells HK12.out (fun h => h))
                    have hd12 := HD12.out
                    refine ⟨by simp, .inl ⟨_, _, rfl, run_takeDeferred ((World.putObj_heap_other (by omega)).trans q1), ?_⟩⟩
                    refine ⟨.bool false, by simp [results, Try.f15, go_sem], ?_⟩
                    refine ⟨false, rfl, (fun e => by have := (HLE2.out e).2; omega), ?_⟩
                    have hsz := HF2.out.size
                    have hdd := HD2.out
                    have hd1 := HD1.out
                    exact ((HF2.out.trans FS.out (fun _ _ h => h)).trans (Fr.of_grown (grownBy_putObj' _ D2 _)) (fun i hi e => by simp at e; omega)).trans (Fr.of_grown (grownBy_putObj' _ D1 _)) (fun i hi e => by simp at e; omega)

        · refine wp_region_noPanic ?_
          refine wp_region_held (S := fun V => Fr (fun _ => False) W1 V) hmx ?_
          have hS : Fr (fun _ => False) W1 W1.drew := Fr.drew (Fr.refl _ _)
          simp only [List.size_toArray, List.length_cons, List.length_nil, Nat.reduceAdd, Array.replicate_succ, Array.replicate_zero, List.push_toArray, List.nil_append, List.cons_append]
          refine wpAnyH_take (i := 0) (v := ?_) rfl (by kernel_rfl) (by kernel_rfl) (by kernel_rfl) (fun _ _ _ h => h) (Or.inl ⟨by kernel_rfl, ?_⟩) hS ?_
          rotate_left 1
          · (intro w' hS'; have h1 := cellFr hS' (fun h => h) cg; clear hS'; go_simp; try with_reducible rfl)
          simp only [List.getElem_toArray, List.getElem_cons_zero, List.getElem_cons_succ, Act.put, List.setIfInBounds_toArray, List.set_cons_zero, List.set_cons_succ]
          refine wpAnyH_take (i := 1) (v := ?_) rfl (by kernel_rfl) (by kernel_rfl) (by kernel_rfl) (fun _ _ _ h => h) (Or.inl ⟨by kernel_rfl, ?_⟩) hS ?_
          rotate_left 1
          · (intro w' hS'; clear hS'; go_simp; try with_reducible rfl)
          simp only [List.getElem_toArray, List.getElem_cons_zero, List.getElem_cons_succ, Act.put, List.setIfInBounds_toArray, List.set_cons_zero, List.set_cons_succ]
          refine wpAnyH_take (i := 2) (v := ?_) rfl (by kernel_rfl) (by kernel_rfl) (by kernel_rfl) (fun _ _ _ h => h) (Or.inl ⟨by kernel_rfl, ?_⟩) hS ?_
          rotate_left 1
          · (intro w' hS'; have h1 := cellFr hS' (fun h => h) cw; clear hS'; go_simp; try with_reducible rfl)
          simp only [List.getElem_toArray, List.getElem_cons_zero, List.getElem_cons_succ, Act.put, List.setIfInBounds_toArray, List.set_cons_zero, List.set_cons_succ]
          refine wpAnyH_take (i := 3) (v := ?_) rfl (by kernel_rfl) (by kernel_rfl) (by kernel_rfl) (fun _ _ _ h => h) (Or.inl ⟨by kernel_rfl, ?_⟩) hS ?_
          rotate_left 1
          · (intro w' hS'; clear hS'; go_simp; try with_reducible rfl)
          simp only [List.getElem_toArray, List.getElem_cons_zero, List.getElem_cons_succ, Act.put, List.setIfInBounds_toArray, List.set_cons_zero, List.set_cons_succ]
          refine wpAnyH_take (i := 4) (v := .bool false) rfl (by kernel_rfl) (by kernel_rfl) (by kernel_rfl) (fun _ _ _ h => h) (Or.inl ⟨by kernel_rfl, fun w' hS' => by clear hS'; go_simp⟩) hS ?_
          simp only [List.getElem_toArray, List.getElem_cons_zero, List.getElem_cons_succ, Act.put, List.setIfInBounds_toArray, List.set_cons_zero, List.set_cons_succ]
          refine wpAnyH_take (i := 5) (v := ?_) rfl (by kernel_rfl) (by kernel_rfl) (by kernel_rfl) (fun _ _ _ h => h) (Or.inl ⟨by kernel_rfl, ?_⟩) hS ?_
          rotate_left 1
          · (intro w' hS'; clear hS'; go_simp; try with_reducible rfl)
          simp only [List.getElem_toArray, List.getElem_cons_zero, List.getElem_cons_succ, Act.put, List.setIfInBounds_toArray, List.set_cons_zero, List.set_cons_succ]
          refine wpAnyH_take (i := 6) (v := ?_) rfl (by kernel_rfl) (by kernel_rfl) (by kernel_rfl) (fun _ _ _ h => h) (Or.inl ⟨by kernel_rfl, ?_⟩) hS ?_
          rotate_left 1
          · (intro w' hS'; have h1 := cellFr hS' (fun h => h) cg; clear hS'; go_simp; try with_reducible rfl)
          simp only [List.getElem_toArray, List.getElem_cons_zero, List.getElem_cons_succ, Act.put, List.setIfInBounds_toArray, List.set_cons_zero, List.set_cons_succ]
          refine wpAnyH_take (i := 7) (v := ?_) rfl (by kernel_rfl) (by kernel_rfl) (by kernel_rfl) (fun _ _ _ h => h) (Or.inl ⟨by kernel_rfl, ?_⟩) hS ?_
          rotate_left 1
          · (intro w' hS'; clear hS'; go_simp; try with_reducible rfl)
          simp only [List.getElem_toArray, List.getElem_cons_zero, List.getElem_cons_succ, Act.put, List.setIfInBounds_toArray, List.set_cons_zero, List.set_cons_succ]
          refine wpAnyH_take (i := 8) (v := ?_) rfl (by kernel_rfl) (by kernel_rfl) (by kernel_rfl) (fun _ _ _ h => h) (Or.inl ⟨by kernel_rfl, ?_⟩) hS ?_
          rotate_left 1
          · (intro w' hS'; have h1 := cellFr hS' (fun h => h) cw; clear hS'; go_simp; try with_reducible rfl)
          simp only [List.getElem_toArray, List.getElem_cons_zero, List.getElem_cons_succ, Act.put, List.setIfInBounds_toArray, List.set_cons_zero, List.set_cons_succ]
          refine wpAnyH_take (i := 9) (v := ?_) rfl (by kernel_rfl) (by kernel_rfl) (by kernel_rfl) (fun _ _ _ h => h) (Or.inl ⟨by kernel_rfl, ?_⟩) hS ?_
          rotate_left 1
          · (intro w' hS'; clear hS'; go_simp; try with_reducible rfl)
          simp only [List.getElem_toArray, List.getElem_cons_zero, List.getElem_cons_succ, Act.put, List.setIfInBounds_toArray, List.set_cons_zero, List.set_cons_succ]
          refine wpAnyH_take (i := 10) (v := .bool true) rfl (by kernel_rfl) (by kernel_rfl) (by kernel_rfl) (fun _ _ _ h => h) (Or.inl ⟨by kernel_rfl, fun w' hS' => by clear hS'; go_simp⟩) hS ?_
          simp only [List.getElem_toArray, List.getElem_cons_zero, List.getElem_cons_succ, Act.put, List.setIfInBounds_toArray, List.set_cons_zero, List.set_cons_succ]
          refine wpAnyH_take (i := 11) (v := ?_) rfl (by kernel_rfl) (by kernel_rfl) (by kernel_rfl) (fun _ _ _ h => h) (Or.inl ⟨by kernel_rfl, ?_⟩) hS ?_
          rotate_left 1
          · (intro w' hS'; clear hS'; go_simp; try with_reducible rfl)
          simp only [List.getElem_toArray, List.getElem_cons_zero, List.getElem_cons_succ, Act.put, List.setIfInBounds_toArray, List.set_cons_zero, List.set_cons_succ]
          refine wpAnyH_take (i := 12) (v := ?_) rfl (by kernel_rfl) (by kernel_rfl) (by kernel_rfl) (fun _ _ _ h => h) (Or.inl ⟨by kernel_rfl, ?_⟩) hS ?_
          rotate_left 1
          · (intro w' hS'; have h1 := cellFr hS' (fun h => h) cg; clear hS'; go_simp; try with_reducible rfl)
          simp only [List.getElem_toArray, List.getElem_cons_zero, List.getElem_cons_succ, Act.put, List.setIfInBounds_toArray, List.set_cons_zero, List.set_cons_succ]
          refine wpAnyH_take (i := 13) (v := ?_) rfl (by kernel_rfl) (by kernel_rfl) (by kernel_rfl) (fun _ _ _ h => h) (Or.inl ⟨by kernel_rfl, ?_⟩) hS ?_
          rotate_left 1
          · (intro w' hS'; clear hS'; go_simp; try with_reducible rfl)
          simp only [List.getElem_toArray, List.getElem_cons_zero, List.getElem_cons_succ, Act.put, List.setIfInBounds_toArray, List.set_cons_zero, List.set_cons_succ]
          refine wpAnyH_take (i := 14) (v := ?_) rfl (by kernel_rfl) (by kernel_rfl) (by kernel_rfl) (fun _ _ _ h => h) (Or.inl ⟨by kernel_rfl, ?_⟩) hS ?_
          rotate_left 1
          · (intro w' hS'; have h1 := cellFr hS' (fun h => h) cs_; clear hS'; go_simp; try with_reducible rfl)
          simp only [List.getElem_toArray, List.getElem_cons_zero, List.getElem_cons_succ, Act.put, List.setIfInBounds_toArray, List.set_cons_zero, List.set_cons_succ]
          refine wpAnyH_take (i := 15) (v := .bool true) rfl (by kernel_rfl) (by kernel_rfl) (by kernel_rfl) (fun _ _ _ h => h) (Or.inl ⟨by kernel_rfl, fun w' hS' => by clear hS'; go_simp⟩) hS ?_
          simp only [List.getElem_toArray, List.getElem_cons_zero, List.getElem_cons_succ, Act.put, List.setIfInBounds_toArray, List.set_cons_zero, List.set_cons_succ]
          refine wpAnyH_take (i := 16) (v := ?_) rfl (by kernel_rfl) (by kernel_rfl) (by kernel_rfl) (fun _ _ _ h => h) (Or.inl ⟨by kernel_rfl, ?_⟩) hS ?_
          rotate_left 1
          · (intro w' hS'; clear hS'; go_simp; try with_reducible rfl)
          simp only [List.getElem_toArray, List.getElem_cons_zero, List.getElem_cons_succ, Act.put, List.setIfInBounds_toArray, List.set_cons_zero, List.set_cons_succ]
          refine wpAnyH_take (i := 17) (v := ?_) rfl (by kernel_rfl) (by kernel_rfl) (by kernel_rfl) (fun _ _ _ h => h) (Or.inl ⟨by kernel_rfl, ?_⟩) hS ?_
          rotate_left 1
          · (intro w' hS'; clear hS'; go_simp; try with_reducible rfl)
          simp only [List.getElem_toArray, List.getElem_cons_zero, List.getElem_cons_succ, Act.put, List.setIfInBounds_toArray, List.set_cons_zero, List.set_cons_succ]
          refine wpAnyH_take (i := 18) (v := ?_) rfl (by kernel_rfl) (by kernel_rfl) (by kernel_rfl) (fun _ _ _ h => h) (Or.inl ⟨by kernel_rfl, ?_⟩) hS ?_
          rotate_left 1
          · (intro w' hS'; clear hS'; go_simp; try with_reducible rfl)
          simp only [List.getElem_toArray, List.getElem_cons_zero, List.getElem_cons_succ, Act.put, List.setIfInBounds_toArray, List.set_cons_zero, List.set_cons_succ]
          refine wpAnyH_take (i := 19) (v := undef) rfl (by kernel_rfl) (by kernel_rfl) (by kernel_rfl) (fun _ _ _ h => h) (Or.inr ⟨by kernel_rfl, rfl⟩) hS ?_
          simp only [List.getElem_toArray, List.getElem_cons_zero, List.getElem_cons_succ, Act.put, List.setIfInBounds_toArray, List.set_cons_zero, List.set_cons_succ]
          refine wpAnyH_take (i := 20) (v := undef) rfl (by kernel_rfl) (by kernel_rfl) (by kernel_rfl) (fun _ _ _ h => h) (Or.inr ⟨by kernel_rfl, rfl⟩) hS ?_
          simp only [List.getElem_toArray, List.getElem_cons_zero, List.getElem_cons_succ, Act.put, List.setIfInBounds_toArray, List.set_cons_zero, List.set_cons_succ]
          refine wpAnyH_take (i := 21) (v := undef) rfl (by kernel_rfl) (by kernel_rfl) (by kernel_rfl) (fun _ _ _ h => h) (Or.inr ⟨by kernel_rfl, rfl⟩) hS ?_
          simp only [List.getElem_toArray, List.getElem_cons_zero, List.getElem_cons_succ, Act.put, List.setIfInBounds_toArray, List.set_cons_zero, List.set_cons_succ]
          refine wpAnyH_take (i := 22) (v := undef) rfl (by kernel_rfl) (by kernel_rfl) (by kernel_rfl) (fun _ _ _ h => h) (Or.inr ⟨by kernel_rfl, rfl⟩) hS ?_
          simp only [List.getElem_toArray, List.getElem_cons_zero, List.getElem_cons_succ, Act.put, List.setIfInBounds_toArray, List.set_cons_zero, List.set_cons_succ]
          refine wpAnyH_take (i := 23) (v := undef) rfl (by kernel_rfl) (by kernel_rfl) (by kernel_rfl) (fun _ _ _ h => h) (Or.inr ⟨by kernel_rfl, rfl⟩) hS ?_
          simp only [List.getElem_toArray, List.getElem_cons_zero, List.getElem_cons_succ, Act.put, List.setIfInBounds_toArray, List.set_cons_zero, List.set_cons_succ]
          refine wpAnyH_take (i := 24) (v := undef) rfl (by kernel_rfl) (by kernel_rfl) (by kernel_rfl) (fun _ _ _ h => h) (Or.inr ⟨by kernel_rfl, rfl⟩) hS ?_
          simp only [List.getElem_toArray, List.getElem_cons_zero, List.getElem_cons_succ, Act.put, List.setIfInBounds_toArray, List.set_cons_zero, List.set_cons_succ]
          refine wpAnyH_take (i := 25) (v := undef) rfl (by kernel_rfl) (by kernel_rfl) (by kernel_rfl) (fun _ _ _ h => h) (Or.inr ⟨by kernel_rfl, rfl⟩) hS ?_
          simp only [List.getElem_toArray, List.getElem_cons_zero, List.getElem_cons_succ, Act.put, List.setIfInBounds_toArray, List.set_cons_zero, List.set_cons_succ]
          refine wpAnyH_take (i := 26) (v := ?_) rfl (by kernel_rfl) (by kernel_rfl) (by kernel_rfl) (fun _ _ _ h => h) (Or.inl ⟨by kernel_rfl, ?_⟩) hS ?_
          rotate_left 1
          · (intro w' hS'; clear hS'; go_simp; try with_reducible rfl)
          simp only [List.getElem_toArray, List.getElem_cons_zero, List.getElem_cons_succ, Act.put, List.setIfInBounds_toArray, List.set_cons_zero, List.set_cons_succ]
          refine wpAnyH_done (by kernel_rfl) ?_ _
          refine NoPanic.normal ?_
          have FS := hid hS
          clear hS
          gi_wp2
          have q1 := (FS.out).cells HK1.out (fun h => h)
          refine ⟨by simp, .inl ⟨_, _, rfl, run_takeDeferred q1, ?_⟩⟩
          refine ⟨.bool false, by simp [results, Try.f15, go_sem], ?_⟩
          refine ⟨false, rfl, (fun e => by have := (HLE2.out e).2; omega), ?_⟩
          have hsz := HF1.out.size
          have hdd := HD1.out
          exact (HF1.out.trans FS.out (fun _ _ h => h)).trans (Fr.of_grown (grownBy_putObj' _ D1 _)) (fun i hi e => by simp at e; omega)
end Go.Proofs.Ytedhmhlhjonloaa

/-
  CkptDoes, the walk: both disks are driven by the script, and answer alike.
-/
import Derived.Test.YtogdjhhabcejgaaGreatLCStep2Q
import Derived.Test.YtogdjhhabcejgaaGreatMg52
namespace Go.Proofs.YtogdjhhabcejgaaGreat
open Go.RowKit Go.Maps Go.Shelf
set_option linter.unusedVariables false
attribute [local go_sem] Oper.semAt_some

/-- how much a script's first k operations can add -/
def bulk7 (ops : List C.Op) (k : Nat) : Nat := ((ops.take k).map C.Op.add).sum
theorem bulk7_next {ops : List C.Op} {k : Nat} {o : C.Op} (h : ops[k]? = some o) : bulk7 ops (k + 1) = bulk7 ops k + o.add := by
  unfold bulk7
  rw [List.take_add_one, h]
  simp
theorem bulk7_le (ops : List C.Op) (k : Nat) : bulk7 ops k ≤ 524322 * (ops.map (fun o => o.b.length + 1)).sum := by
  have h1 : ∀ l : List C.Op, (l.map C.Op.add).sum = 524322 * (l.map (fun o => o.b.length + 1)).sum := by
    intro l
    induction l with
    | nil => rfl
    | cons o l ih => rw [List.map_cons, List.sum_cons, List.map_cons, List.sum_cons, Nat.mul_add, ih]; rfl
  unfold bulk7
  rw [h1]
  refine Nat.mul_le_mul_left _ ?_
  have h2 := List.take_append_drop k ops
  conv => rhs; rw [← h2, List.map_append, List.sum_append]
  exact Nat.le_add_right _ _

/-- what the loop over the names keeps: n's cell -/
def NI7 (wn : World) (nb : Nat) (ss pre : List K.Nm) (W : World) : Prop := Fr (fun k => k = nb) wn W ∧ W.heap[nb]? = some (.cells #[.int .i64 (pre.length : Nat)] 3 (0, 0)) ∧ pre <+: ss
theorem NI7.own (wn : World) (nb : Nat) (ss : List K.Nm) (hn : nb < wn.heap.size) : OwnFrom wn.heap.size (NI7 wn nb ss) := by
  rintro pre A B row ⟨h1, h2, h3⟩ hg hr
  exact ⟨h1.trans (Fr.of_grown hg) (fun i hi e => by have := (hr i e).1; omega), (Fr.of_grown hg).cells h2 (fun e => by have := (hr _ e).1; omega), h3⟩
/-- what the script's loop keeps: both disks, the box of the document's -/
def DX (w W : World) (p q rb u : Nat) : Prop :=
  ∃ Sd Sr d, DD (w.alloc (.cells #[.bool false] 4)) W p q Sd Sr d d ∧ d.used ≤ u ∧ ¬ Sd rb ∧ ¬ Sr rb ∧ W.heap[rb]? = some (.cells #[.pointer (some ⟨q, 0, none⟩)] 27 (0, 0))
theorem DX.kept {w W W' : World} {p q rb u : Nat} (h : DX w W p q rb u) (hf : Fr (fun _ => False) W W') : DX w W' p q rb u := by
  obtain ⟨Sd, Sr, d, h1, h2, h3, h4, h5⟩ := h
  exact ⟨Sd, Sr, d, h1.kept hf, h2, h3, h4, hf.cells h5 (fun h => h)⟩

set_option maxRecDepth 100000 in
set_option maxHeartbeats 3200000 in
theorem ckptDoes_neg (room : Int) (h0 : room < 0) (h1 : -9223372036854775808 ≤ room) (sa : Option Addr) (sn sc : Nat) (w : World) :
    Calls Tryz.prog 3 #[.int .i64 room, .slice sa sn sc] w fun e w' => e = .returned (.bool true) ∧ Below w.heap.size w w' := by
  refine (callsIn_wide (n := 8)).1 ?_
  refine callsIn_of_wp_marks Tryz.func3 rfl trivial ?_ rfl
  simp only [Tryz.ntmps3, List.size_toArray, List.length_cons, List.length_nil, Nat.reduceAdd, Nat.reduceSub, Array.replicate_succ, Array.replicate_zero, List.push_toArray, List.append_toArray, List.nil_append, List.cons_append]
  refine wpIn_wide.2 ?_
  go_wp2_with (first
    | (go_at_call 4; refine (new_neg room h0 h1 _).mono ?_; rintro e w1 ⟨rfl, rfl⟩)
    | (go_at_call 5; refine (rnew_neg room h0 h1 _).mono ?_; rintro e w1 ⟨rfl, rfl⟩)
    | (go_at_call 6; refine (ckBegun_any _).mono ?_; rintro e w2 ⟨rfl, hf2⟩; have c1 : w2.cell? ⟨w.heap.size + 1, 0, none⟩ = some (.pointer none) := cell_fr hf2 (fun h => h) (by simp); have b0 : w2.heap[w.heap.size]? = some (.cells #[.bool false] 4 (0, 0)) := hf2.cells ((Below.heap_alloc _ _ _ (by simp)).trans (Go.heap_alloc_new w _)) (fun h => h); have c0 := cell_of (j := 0) b0 rfl; have z0 := frozen_of_row (j := 0) b0; have HB0 := hid b0; have F2 : Hid (Fr (fun _ => False) w w2) := hid ((Fr.alloc (Fr.alloc (Fr.refl _ _) _) _).trans hf2 (fun _ _ h => h)); clear hf2 b0))
  have qr : (w2.setCell ⟨w.heap.size, 0, none⟩ (.bool true)).heap[w.heap.size]? = some (.cells #[.bool true] 4 (0, 0)) := by rw [setCell_row HB0.out]; rfl
  have qc := cell_of (j := 0) qr rfl
  have f3 : Fr (fun _ => False) w (w2.setCell ⟨w.heap.size, 0, none⟩ (.bool true)) := Fr.setCell (p := ⟨w.heap.size, 0, none⟩) F2.out (fun h => absurd h (Nat.lt_irrefl _)) _
  refine ⟨.bool true, ?_, rfl, f3.below (Nat.le_refl _) (fun _ _ h => h)⟩
  simp [results, Tryz.f3, go_sem, qc]

set_option maxRecDepth 100000 in
set_option maxHeartbeats 6400000 in
theorem ckptDoes_pos (room : Int) (h0 : 0 ≤ room) (h1 : room ≤ 9223372036854775807) (sa : Option Addr) (sn sc : Nat) (ops : List C.Op) (w : World) (hs : Sc7 w sa sn ops) (hsl : sn ≤ 9223372036854775807) (hbk : (ops.map (fun o => o.b.length + 1)).sum ≤ 1048576) :
    Calls Tryz.prog 3 #[.int .i64 room, .slice sa sn sc] w fun e w' => e = .returned (.bool true) ∧ Below w.heap.size w w' := by
  refine (callsIn_wide (n := 8)).1 ?_
  refine callsIn_of_wp_marks Tryz.func3 rfl trivial ?_ rfl
  simp only [Tryz.ntmps3, List.size_toArray, List.length_cons, List.length_nil, Nat.reduceAdd, Nat.reduceSub, Array.replicate_succ, Array.replicate_zero, List.push_toArray, List.append_toArray, List.nil_append, List.cons_append]
  refine wpIn_wide.2 ?_
  go_wp2_with (first
    | (go_at_call 4; refine (new_any room h0 h1 _).mono ?_; rintro e w1 ⟨rfl, ht1⟩; have HT1 := hid ht1; have HB1 := hid (ht1.2.cells (Go.heap_alloc_new w _) (fun h => h)); clear ht1)
    | (go_at_call 5; refine (rnew_any room h0 h1 _).mono ?_; rintro e w2 ⟨rfl, ht2⟩; have HT2 := hid ht2; have HB2 := hid (ht2.2.cells HB1.out (fun h => h)); clear ht2))
  have HX0 : Hid (DX w (w2.alloc (.cells #[.pointer (some ⟨w1.heap.size, 0, none⟩)] 27)) (w.heap.size + 1 + 1) w1.heap.size w2.heap.size 0) := hid (by
    have hsa : (w.alloc (.cells #[.bool false] 4)).heap.size = w.heap.size + 1 := World.size_alloc _ _
    have hT := HT1.out
    rw [hsa] at hT
    obtain ⟨S1, hd1, hS1, hf1, _⟩ := hT.ge (b := w.heap.size + 1) (fun _ h => h.elim) (by rw [hsa]; exact Nat.le_refl _)
    have hz1 := hf1.size
    rw [hsa] at hz1
    have hdd : DD (w.alloc (.cells #[.bool false] 4)) w2 (w.heap.size + 1 + 1) w1.heap.size S1 (Nx (fun _ => False) w1 w2) (K.mk room) (K.mk room) := ⟨hd1.kept HT2.out.2 (fun _ _ h => h), HT2.out.1, fun j hj hr => by
      have := hd1.1 j hj
      rcases hr.1 with h | h
      · exact h
      · omega, by rw [hsa]; exact hS1, fun j hj => by
      rw [hsa]
      rcases hj.1 with h | h
      · exact h.elim
      · omega, hf1.trans HT2.out.2 (fun _ _ h => h)⟩
    exact ⟨_, _, _, hdd.kept (Fr.alloc (Fr.refl _ _) _), Nat.le_refl _, fun h => by have := hdd.dk.1 _ h; omega, fun h => by have := hdd.rk.1 _ h; omega, Go.heap_alloc_new w2 _⟩)
  clear HT1 HT2 HB1 HB2
  generalize w.heap.size + 1 + 1 = p at HX0 ⊢
  generalize w1.heap.size = q at HX0 ⊢
  generalize w2.heap.size = rb at HX0 ⊢
  generalize w2.alloc (.cells #[.pointer (some ⟨q, 0, none⟩)] 27) = w3 at HX0 ⊢
  refine (ckBegun_any w3).mono ?_
  rintro e w4 ⟨rfl, hf4⟩
  have HX4 := hid (HX0.out.kept hf4)
  clear HX0 hf4
  have c4 : w4.cell? ⟨rb, 0, none⟩ = some (.pointer (some ⟨q, 0, none⟩)) := by
    obtain ⟨_, _, _, _, _, _, _, h5⟩ := HX4.out
    exact cell_of h5 rfl
  go_wp2
  have H0 : Hid (DX w w4 p q rb (bulk7 ops 0)) := hid (by have h := HX4.out; exact h)
  have HSC := hid hs
  have HBK := hid hbk
  clear HX4 c4 hs hbk
  go_loopw [42] (fun i wr => ∃ k : Nat, k ≤ sn ∧ i = .int .i64 k ∧ DX w wr p q rb (bulk7 ops k)) (fun i _ => sn - (intOf i).toNat)
  case atStart => exact ⟨0, by omega, rfl, H0.out⟩
  case round =>
    obtain ⟨k, hk, rfl, Sd, Sr, d, hdd, hus, hnd, hnr, hrb⟩ := hrel
    clear H0
    have hfw : Fr (fun _ => False) w wr := (Fr.alloc (Fr.refl _ w) _).trans hdd.fr (fun _ _ h => h)
    by_cases hlt : k < sn
    · obtain ⟨b, off, o, rfl, hok, s, A, L, Cc, b0, b1, b2, b3, b4, b5, h6⟩ := HSC.out.at (Fr.refl (fun _ => False) w) hlt
      have c0 := cell_fr hfw (fun h => h) b0
      have c1 := cell_fr hfw (fun h => h) b1
      have c2 := cell_fr hfw (fun h => h) b2
      have c3 := cell_fr hfw (fun h => h) b3
      have c4 := cell_fr hfw (fun h => h) b4
      have c5 := cell_fr hfw (fun h => h) b5
      have r0 := cell_of (j := 0) hrb rfl
      have hbn := bulk7_next hok
      have hbl := bulk7_le ops (k + 1)
      have hcap : d.used + o.add ≤ K.cap := by
        have := HBK.out
        have h9 : 524322 * (ops.map (fun o => o.b.length + 1)).sum ≤ 524322 * 1048576 := Nat.mul_le_mul_left _ this
        have h10 : (524322 * 1048576 : Nat) ≤ K.cap := by decide
        generalize o.add = oa at hbn ⊢
        generalize 524322 * (ops.map (fun o => o.b.length + 1)).sum = big at hbl h9
        omega
      have fa : Fr (fun _ => False) wr (wr.alloc (.cells #[.int .i64 o.do_, .int .i64 o.slot, .slice A L Cc, .int .i64 o.k, .int .i64 o.keep, .string s] 33)) := Fr.alloc (Fr.refl _ _) _
      have KS := hid (fun W (hf : Fr (fun _ => False) (wr.alloc (.cells #[.int .i64 o.do_, .int .i64 o.slot, .slice A L Cc, .int .i64 o.k, .int .i64 o.keep, .string s] 33)) W) => ckStep_any ((hdd.kept fa).kept hf) o s A L Cc (h6.kept (Fr.alloc (Fr.refl _ w) _)) hcap)
      have hub : d.used + o.add ≤ bulk7 ops (k + 1) := by generalize o.add = oa at hbn ⊢; omega
      have hrl := lt_of_row hrb
      have HSTEP : Hid (∀ W, Fr (fun _ => False) (wr.alloc (.cells #[.int .i64 o.do_, .int .i64 o.slot, .slice A L Cc, .int .i64 o.k, .int .i64 o.keep, .string s] 33)) W → ∀ e w', Sp7 (w.alloc (.cells #[.bool false] 4)) W Sd Sr p q (d.used + o.add) e w' → e = .returned (.bool true) ∧ (w'.cell? ⟨rb, 0, none⟩ = some (.pointer (some ⟨q, 0, none⟩)) ∧ w'.cell? ⟨wr.heap.size, 0, none⟩ = some (.int .i64 o.do_) ∧ w'.cell? ⟨wr.heap.size, 1, none⟩ = some (.int .i64 o.slot) ∧ w'.cell? ⟨wr.heap.size, 2, none⟩ = some (.slice A L Cc) ∧ w'.cell? ⟨wr.heap.size, 3, none⟩ = some (.int .i64 o.k) ∧ w'.cell? ⟨wr.heap.size, 4, none⟩ = some (.int .i64 o.keep) ∧ w'.cell? ⟨wr.heap.size, 5, none⟩ = some (.string s)) ∧ ∃ Sd' Sr' d', DD (w.alloc (.cells #[.bool false] 4)) w' p q Sd' Sr' d' d' ∧ d'.used ≤ bulk7 ops (k + 1) ∧ ¬ Sd' rb ∧ ¬ Sr' rb ∧ w'.heap[rb]? = some (.cells #[.pointer (some ⟨q, 0, none⟩)] 27 (0, 0))) := hid (fun W hfW e w' hsp => by
        obtain ⟨Sd', Sr', d', he, h1, h2, h3, h4, h5⟩ := hsp
        have hzW := hfW.size
        rw [World.size_alloc] at hzW
        have hbx := h3.cells (hfW.cells (Go.heap_alloc_new wr _) (fun h => h)) (fun h => h.elim (fun h => by have := hdd.dk.1 _ h; omega) (fun h => by have := hdd.rk.1 _ h; omega))
        refine ⟨he, ⟨cell_of (h3.cells (hfW.cells (fa.cells hrb (fun h => h)) (fun h => h)) (fun h => h.elim hnd hnr)) rfl, cell_of hbx rfl, cell_of hbx rfl, cell_of hbx rfl, cell_of hbx rfl, cell_of hbx rfl, cell_of hbx rfl⟩, Sd', Sr', d', h1, Nat.le_trans h2 hub, fun h => ?_, fun h => ?_, h3.cells (hfW.cells (fa.cells hrb (fun h => h)) (fun h => h)) (fun h => h.elim hnd hnr)⟩
        · rcases h4 rb h with h | h
          · exact hnd h
          · omega
        · rcases h5 rb h with h | h
          · exact hnr h
          · omega)
      clear b0 b1 b2 b3 b4 b5 hok hbn hbl hcap hub fa h6 hdd hus hnd hnr hrb hfw
      obtain ⟨us, hus⟩ : ∃ us, d.used + o.add = us := ⟨_, rfl⟩
      rw [hus] at KS HSTEP
      generalize o.do_ = od at *
      generalize o.k = okk at *
      generalize o.keep = okp at *
      generalize o.slot = osl at *
      clear hus
      have s0 : (fun w' : World => w'.cell? ⟨rb, 0, none⟩ = some (.pointer (some ⟨q, 0, none⟩)) ∧ w'.cell? ⟨wr.heap.size, 0, none⟩ = some (.int .i64 od) ∧ w'.cell? ⟨wr.heap.size, 1, none⟩ = some (.int .i64 osl) ∧ w'.cell? ⟨wr.heap.size, 2, none⟩ = some (.slice A L Cc) ∧ w'.cell? ⟨wr.heap.size, 3, none⟩ = some (.int .i64 okk) ∧ w'.cell? ⟨wr.heap.size, 4, none⟩ = some (.int .i64 okp) ∧ w'.cell? ⟨wr.heap.size, 5, none⟩ = some (.string s)) (wr.alloc (.cells #[.int .i64 od, .int .i64 osl, .slice A L Cc, .int .i64 okk, .int .i64 okp, .string s] 33)) := ⟨cell_fr (Fr.alloc (Fr.refl (fun _ => False) wr) _) (fun h => h) r0, cell_of (Go.heap_alloc_new wr _) rfl, cell_of (Go.heap_alloc_new wr _) rfl, cell_of (Go.heap_alloc_new wr _) rfl, cell_of (Go.heap_alloc_new wr _) rfl, cell_of (Go.heap_alloc_new wr _) rfl, cell_of (Go.heap_alloc_new wr _) rfl⟩
      have HS0 := hid s0
      clear s0
      go_wp2_with fail
      generalize (wr.alloc (.cells #[.int .i64 od, .int .i64 osl, .slice A L Cc, .int .i64 okk, .int .i64 okp, .string s] 33)) = wx at KS HSTEP HS0 ⊢
      clear c0 c1 c2 c3 c4 c5 r0
      have s0 := HS0.out
      go_region_held3 (fun w' => w'.cell? ⟨rb, 0, none⟩ = some (.pointer (some ⟨q, 0, none⟩)) ∧ w'.cell? ⟨wr.heap.size, 0, none⟩ = some (.int .i64 od) ∧ w'.cell? ⟨wr.heap.size, 1, none⟩ = some (.int .i64 osl) ∧ w'.cell? ⟨wr.heap.size, 2, none⟩ = some (.slice A L Cc) ∧ w'.cell? ⟨wr.heap.size, 3, none⟩ = some (.int .i64 okk) ∧ w'.cell? ⟨wr.heap.size, 4, none⟩ = some (.int .i64 okp) ∧ w'.cell? ⟨wr.heap.size, 5, none⟩ = some (.string s)) (first | exact s0 | go_keep | exact s5 | exact s6 | exact s7)
        (first
          | (go_at_call 7; refine (KS.out _ (by first | exact Fr.refl _ _ | exact Fr.drew (Fr.refl _ _))).mono ?_; rintro e w5 hsp; obtain ⟨rfl, s5, Sd5, Sr5, d5, hdd5, hus5, hnd5, hnr5, hrb5⟩ := HSTEP.out _ (by first | exact Fr.refl _ _ | exact Fr.drew (Fr.refl _ _)) e w5 hsp; have HD5 := hid hdd5; have HU5 := hid hus5; have HN5 := hid (And.intro hnd5 hnr5); have HR5 := hid hrb5; have KUd := hid (used_dk hdd5.dk); have KUr : Hid (∀ W, Fr (fun _ => False) w5 W → Calls Tryz.prog 9 #[.pointer (some ⟨q, 0, none⟩)] W fun e w' => e = .returned (.int .i64 (d5.used : Nat)) ∧ W = w') := hid (fun W hf => rused_any (HD5.out.kept hf).rk); have KDd := hid (fun W (hf : Fr (fun _ => False) w5 W) => down_any (HD5.out.kept hf).dk); have KDr := hid (fun W (hf : Fr (fun _ => False) w5 W) => rdown_any (HD5.out.kept hf).rk); clear hsp hdd5 hus5 hnd5 hnr5 hrb5; generalize d5.used = us5 at KUd KUr; generalize d5.down = dn5 at KDd KDr)
          | (go_at_call 8; refine KUd.out.mono ?_; rintro e w6 ⟨rfl, hf⟩; have F6 := hid hf; have s6 : (fun w' : World => w'.cell? ⟨rb, 0, none⟩ = some (.pointer (some ⟨q, 0, none⟩)) ∧ w'.cell? ⟨wr.heap.size, 0, none⟩ = some (.int .i64 od) ∧ w'.cell? ⟨wr.heap.size, 1, none⟩ = some (.int .i64 osl) ∧ w'.cell? ⟨wr.heap.size, 2, none⟩ = some (.slice A L Cc) ∧ w'.cell? ⟨wr.heap.size, 3, none⟩ = some (.int .i64 okk) ∧ w'.cell? ⟨wr.heap.size, 4, none⟩ = some (.int .i64 okp) ∧ w'.cell? ⟨wr.heap.size, 5, none⟩ = some (.string s)) w6 := ⟨cell_fr hf (fun h => h) s5.1, cell_fr hf (fun h => h) s5.2.1, cell_fr hf (fun h => h) s5.2.2.1, cell_fr hf (fun h => h) s5.2.2.2.1, cell_fr hf (fun h => h) s5.2.2.2.2.1, cell_fr hf (fun h => h) s5.2.2.2.2.2.1, cell_fr hf (fun h => h) s5.2.2.2.2.2.2⟩; clear hf)
          | (go_at_call 9; refine (KUr.out w6 F6.out).mono ?_; rintro e w' ⟨rfl, rfl⟩)
          | (go_at_call 10; refine (KDd.out w6 F6.out).mono ?_; rintro e w' ⟨rfl, rfl⟩)
          | (go_at_call 11; refine (KDr.out w6 F6.out).mono ?_; rintro e w' ⟨rfl, rfl⟩))
      go_wp2
      go_roundw
      case rel => exact ⟨k + 1, by omega, by go_num, Sd5, Sr5, d5, HD5.out.kept (by first | exact F6.out | exact Fr.drew F6.out), HU5.out, HN5.out.1, HN5.out.2, Fr.cells (w := w5) (S := fun _ => False) (by first | exact F6.out | exact Fr.drew F6.out) HR5.out (fun h => h)⟩
      case measure => simp [intOf]; omega
    · have hss : K.names d = d.fs.map (·.1) := rfl
      have hlen : (K.names d).length ≤ 1024 := by unfold K.names; rw [List.length_map]; exact hdd.dk.oks.files
      have KNM := hid (fun W (hf : Fr (fun _ => False) wr W) => names_any (hdd.kept hf).dk)
      unfold Nr at KNM
      have KRN := hid (fun W nb (hf : Fr (fun k => k = nb) wr W) (hn : wr.heap.size ≤ nb) => rnames_any (hdd.rk.kept hf (fun j hj e => by have := hdd.rk.1 j hj; omega)))
      have hl2 : d.fs.length = (K.names d).length := by unfold K.names; rw [List.length_map]
      rw [← hss, hl2] at KRN
      have HRB := hid hrb
      have hbx : wr.heap[w.heap.size]? = some (.cells #[.bool false] 4 (0, 0)) := hdd.fr.cells (Go.heap_alloc_new w _) (fun h => h)
      have HBX := hid hbx
      have FR := hid hfw
      have hrl := lt_of_row hrb
      have hbl := lt_of_row hbx
      generalize K.names d = ss at KNM KRN hlen
      clear hss hl2 hdd hus hnd hnr hrb hbx hfw
      have HLE := hid hlen
      clear hlen
      go_wp2_with (first
        | (go_at_call 12; refine (KNM.out _ (Fr.alloc (Fr.refl (fun _ => False) wr) _)).mono ?_; rintro e wn ⟨B, na, cap, rfl, hB, hNs, hNk, hfn⟩; have HB := hid hB; have HNs := hid hNs; have HNk := hid hNk; have HFn := hid hfn; have HNB := hid (hfn.cells (Go.heap_alloc_new wr _) (fun h => h)); clear hB hNs hNk hfn))
      obtain ⟨nb, hnb⟩ : ∃ nb, wr.heap.size = nb := ⟨_, rfl⟩
      have fwn : Fr (fun _ => False) wr wn := (Fr.alloc (Fr.refl _ wr) _).trans HFn.out (fun _ _ h => h)
      have HFW := hid fwn
      have hzz := HFn.out.size
      rw [World.size_alloc] at hzz
      have HKN : Hid (∀ k, Nk B na ss k → k < wn.heap.size ∧ k ≠ nb) := hid (fun k hk => by have h3 := HNk.out k hk; rw [World.size_alloc] at h3; exact ⟨h3.2, by omega⟩)
      rw [hnb] at HNB
      rw [hnb]
      have hln : nb < wn.heap.size := lt_of_row HNB.out
      have HN1 : Hid (wr.heap.size = nb) := hid hnb
      have hrn : rb < nb := by omega
      have hbn : w.heap.size < nb := by omega
      have HNI := hid (show NI7 wn nb ss [] wn from ⟨Fr.refl _ _, HNB.out, List.nil_prefix⟩)
      obtain ⟨ln, hlnn⟩ : ∃ ln, ss.length = ln := ⟨_, rfl⟩
      have HLN := hid hlnn
      clear HNk hnb HFn fwn hrl hbl hlnn
      refine (wpIn_wide (n := 8)).1 ?_
      refine wp_of_actC (fun a0 ha0 => ?_)
      refine wpIn_rangeFunc_ownG (w := wn) rfl (by omega) (gf := 30) (lb := #[.pointer (some ⟨B, 0, none⟩)]) (by rw [ha0]; rfl) trivial (enters_of Tryz.func30 (by kernel_rfl) rfl)
        (names1_stops Fence.wide _ trivial rfl (by omega) B cap na ss HLE.out wn HB.out HNs.out) (fun h k => h.trans k)
        (fun W l o o' hl hW _ _ k hk => World.putObj_heap_other (fun e => by have := (HKN.out k hk).1; omega))
        (Below.refl _ _) (fun _ => rfl) (NI7 wn nb ss) (fun _ pre _ => ¬ pre <+: ss) (NI7.own wn nb ss hln) (fun _ _ _ _ _ hs _ _ => hs) HNI.out
        (fun x => { tmps := (a0.tmps.setIfInBounds 68 (encStr x)).setIfInBounds 12 (encStr x), defers := [] }) ?assign ?body ?done ?stop
      case assign =>
        subst ha0
        intro l x W K hK
        gi_wp2
        exact hK
      case stop =>
        rintro D c pre W _ hp h _
        exact absurd hp h
      case body =>
        subst ha0
        rintro l pre x W ⟨hfr, hn0, hpre⟩ hlt
        have hfq : Fr (fun k => k = nb) wr W := (HFW.out.mono (fun _ _ h => h.elim)).trans hfr (fun _ _ h => h)
        have r0 := cell_of (j := 0) (hfq.cells HRB.out (fun e => by omega)) rfl
        have KN2 := hid (KRN.out W nb hfq (by have := HN1.out; omega))
        have HFR := hid hfr
        have HFQ := hid hfq
        have HN0 := hid hn0
        have HPRE := hid hpre
        rw [HLN.out] at KN2
        clear hfr hfq hn0 hpre
        gi_wp2_with fail
        refine ⟨trivial, (CallsIn.inRound l (callsIn_wide.2 KN2.out)).mono ?_⟩
        rintro e W1 ⟨la, lc, rfl, hnb1, hf1⟩
        obtain ⟨y, hy⟩ : ∃ y, ss[pre.length]? = some y := ⟨_, List.getElem?_eq_getElem hlt⟩
        obtain ⟨lg, rfl, hly⟩ := Nb.at hnb1 hy
        have hn1 := hf1.cells HN0.out (fun h => h)
        have b1 := hf1.cells (HFQ.out.cells HBX.out (fun e => by omega)) (fun h => h)
        have c0 := cell_of (j := 0) hn1 rfl
        have z0 := frozen_of_row (j := 0) hn1
        have c2 := cell_of (j := 0) b1 rfl
        have z2 := frozen_of_row (j := 0) b1
        have HN1' := hid hn1
        have HBB := hid b1
        have HY := hid hy
        have HF1 := hid hf1
        rw [HLN.out] at hlt
        obtain ⟨pl, hpl⟩ : ∃ pl, pre.length = pl := ⟨_, rfl⟩
        have HPL := hid hpl
        rw [hpl] at hlt hly c0
        have hi : (pl : Int) < (ln : Int) := by omega
        have hi3 : (ln : Int) ≤ 1024 := by have h1 := HLE.out; rw [HLN.out] at h1; omega
        have hi2 : decide ((ln : Int) ≤ (pl : Int)) = false := by simp; omega
        clear hn1 b1 hy hf1 hnb1 hpl
        have hzn := HFR.out.size
        have hz1 := HF1.out.size
        by_cases hxy : x = y
        · subst hxy
          clear c2 z2
          gi_wp2
          have f9 : Fr (fun k => k = nb) W1 (W1.setCell ⟨nb, 0, none⟩ (.int .i64 ((pl : Int) + 1))) := Fr.setCell (p := ⟨nb, 0, none⟩) (S := fun k => k = nb) (Fr.refl _ _) (fun _ => rfl) _
          have f10 : Fr (fun k => k = nb) W (W1.setCell ⟨nb, 0, none⟩ (.int .i64 ((pl : Int) + 1))) := (HF1.out.mono (fun _ _ h => h.elim)).trans f9 (fun _ _ h => h)
          have hpx : pre ++ [x] <+: ss := by
            obtain ⟨t, ht⟩ := HPRE.out
            have h1 := HY.out
            rw [← ht, List.getElem?_append_right (Nat.le_refl _)] at h1
            cases t with
            | nil => simp at h1
            | cons z r =>
              simp at h1
              subst h1
              exact ⟨r, by rw [← ht]; simp⟩
          refine ⟨⟨f10.size, fun k o hk h0 _ => f10.cells h0 (fun e => by omega)⟩, fun k hk => f10.block k (by have := (HKN.out k hk).1; omega) (HKN.out k hk).2, HFR.out.trans f10 (fun _ _ h => h), ?_, hpx⟩
          rw [setCell_row HN1'.out]
          simp [HPL.out]
        · have e1 := encC_ne hxy
          have e2 : (x == y) = false := by simpa using hxy
          gi_wp2
          have f9 : Fr (fun k => k = w.heap.size) W1 (W1.setCell ⟨w.heap.size, 0, none⟩ (.bool false)) := Fr.setCell (p := ⟨w.heap.size, 0, none⟩) (S := fun k => k = w.heap.size) (Fr.refl _ _) (fun _ => rfl) _
          have f10 : Fr (fun k => k = w.heap.size) W (W1.setCell ⟨w.heap.size, 0, none⟩ (.bool false)) := (HF1.out.mono (fun _ _ h => h.elim)).trans f9 (fun _ _ h => h)
          refine ⟨⟨f10.size, fun k o hk h0 _ => f10.cells h0 (fun e => by omega)⟩, fun hp => hxy ?_⟩
          obtain ⟨t, ht⟩ := hp
          have h1 := HY.out
          rw [← ht, List.append_assoc, List.getElem?_append_right (Nat.le_refl _)] at h1
          simpa using h1
      case done =>
        subst ha0
        rintro D0 xs W0 hD hxs ⟨hfr, hn0, _⟩ hK0
        rw [hxs, HLN.out] at hn0
        have hfq : Fr (fun k => k = nb) wr W0 := (HFW.out.mono (fun _ _ h => h.elim)).trans hfr (fun _ _ h => h)
        have r0 := cell_of (j := 0) (hfq.cells HRB.out (fun e => by omega)) rfl
        have c0 := cell_of (j := 0) hn0 rfl
        have b0 := hfq.cells HBX.out (fun e => by omega)
        have KN2 := hid (KRN.out W0 nb hfq (by have := HN1.out; omega))
        rw [HLN.out] at KN2
        have FW : Hid (Fr (fun _ => False) w W0) := hid (FR.out.trans hfq (fun i hi e => by omega))
        have HN0 := hid hn0
        have HB0 := hid b0
        have HFQ0 := hid hfq
        have HZ := hid hfr.size
        clear hfr hn0 hfq b0
        have hrw : rb ≠ w.heap.size := fun e => by
          have h1 := r0
          rw [e, cell_of (j := 0) HB0.out rfl] at h1
          simp at h1
        have z0 := frozen_of_row (j := 0) HB0.out
        have KN3 : Hid (∀ W, Fr (fun _ => False) W0 W → Calls Tryz.prog 13 #[.pointer (some ⟨q, 0, none⟩)] W fun e w' => ∃ a c, e = .returned (.slice a ln c) ∧ Fr (fun _ => False) W w') := hid (fun W hf => by
          refine (KRN.out W nb (HFQ0.out.trans hf (fun _ _ h => h.elim)) (by have := HN1.out; omega)).mono ?_
          rintro e w' ⟨a, c, rfl, _, h⟩
          exact ⟨a, c, by rw [HLN.out], h⟩)
        have s0 : (fun w' : World => w'.cell? ⟨nb, 0, none⟩ = some (.int .i64 (ln : Nat)) ∧ w'.cell? ⟨rb, 0, none⟩ = some (.pointer (some ⟨q, 0, none⟩))) W0 := ⟨c0, r0⟩
        have HST : Hid (∀ (W : World) (v : Value), (fun w' : World => w'.cell? ⟨nb, 0, none⟩ = some (.int .i64 (ln : Nat)) ∧ w'.cell? ⟨rb, 0, none⟩ = some (.pointer (some ⟨q, 0, none⟩))) W → (fun w' : World => w'.cell? ⟨nb, 0, none⟩ = some (.int .i64 (ln : Nat)) ∧ w'.cell? ⟨rb, 0, none⟩ = some (.pointer (some ⟨q, 0, none⟩))) (W.setCell ⟨w.heap.size, 0, none⟩ v)) := hid (fun W v h => by
          have f9 : Fr (fun k => k = w.heap.size) W (W.setCell ⟨w.heap.size, 0, none⟩ v) := Fr.setCell (p := ⟨w.heap.size, 0, none⟩) (S := fun k => k = w.heap.size) (Fr.refl _ _) (fun _ => rfl) _
          exact ⟨cell_fr f9 (fun e => by omega) h.1, cell_fr f9 (fun e => hrw e) h.2⟩)
        clear c0 r0 KN2
        gi_wp2_with fail
        go_wp2_with fail
        go_region_held3 (fun w' => w'.cell? ⟨nb, 0, none⟩ = some (.int .i64 (ln : Nat)) ∧ w'.cell? ⟨rb, 0, none⟩ = some (.pointer (some ⟨q, 0, none⟩))) (first | exact s0 | exact s1 | exact HST.out _ _ s1 | go_keep)
          (first
            | (go_at_call 13; refine (KN3.out _ (by first | exact Fr.refl _ _ | exact Fr.drew (Fr.refl _ _))).mono ?_; rintro e w1 ⟨la, lc, rfl, hf⟩; have F1 : Hid (Fr (fun _ => False) W0 w1) := hid (by first | exact hf | exact (Fr.drew (Fr.refl _ _)).trans hf (fun _ _ h => h)); have s1 : (fun w' : World => w'.cell? ⟨nb, 0, none⟩ = some (.int .i64 (ln : Nat)) ∧ w'.cell? ⟨rb, 0, none⟩ = some (.pointer (some ⟨q, 0, none⟩))) w1 := ⟨cell_fr F1.out (fun h => h) s0.1, cell_fr F1.out (fun h => h) s0.2⟩; have z1 := frozen_of_row (j := 0) (F1.out.cells HB0.out (fun h => h)); have d1 := cell_of (j := 0) (F1.out.cells HB0.out (fun h => h)) rfl; clear hf))
        go_wp2
        have hD0 : D0 ≠ w.heap.size := fun e => by rw [e, HB0.out] at hK0; simp at hK0
        have hK1 := F1.out.cells hK0 (fun h => h)
        have q0 : (w1.setCell ⟨w.heap.size, 0, none⟩ (.bool true)).heap[D0]? = some (.deferred (some [])) := (Below.heap_setCell _ _ _ _ hD0).trans hK1
        have qr : ((w1.setCell ⟨w.heap.size, 0, none⟩ (.bool true)).putObj D0 (.deferred none)).heap[w.heap.size]? = some (.cells #[.bool true] 4 (0, 0)) := by
          rw [World.putObj_heap_other hD0.symm, setCell_row (F1.out.cells HB0.out (fun h => h))]; rfl
        have qc := cell_of (j := 0) qr rfl
        have f1 : Fr (fun _ => False) w (w1.setCell ⟨w.heap.size, 0, none⟩ (.bool true)) := Fr.setCell (p := ⟨w.heap.size, 0, none⟩) (FW.out.trans F1.out (fun _ _ h => h)) (fun h => absurd h (Nat.lt_irrefl _)) _
        have f2 : Fr (fun _ => False) w ((w1.setCell ⟨w.heap.size, 0, none⟩ (.bool true)).putObj D0 (.deferred none)) := f1.trans (Fr.of_grown (grownBy_putObj' _ D0 _)) (fun i hi e => by simp at e; omega)
        refine ⟨by simp, .inl ⟨_, _, rfl, run_takeDeferred q0, ?_⟩⟩
        refine ⟨.bool true, ?_, rfl, f2.below (Nat.le_refl _) (fun _ _ h => h)⟩
        simp [results, Tryz.f3, go_sem, qc]

theorem ckptDoes_walk (room : Int) (h0 : -9223372036854775808 ≤ room) (h1 : room ≤ 9223372036854775807) (sa : Option Addr) (sn sc : Nat) (ops : List C.Op) (w : World) (hs : Sc7 w sa sn ops) (hsl : sn ≤ 9223372036854775807) (hbk : (ops.map (fun o => o.b.length + 1)).sum ≤ 1048576) :
    Calls Tryz.prog 3 #[.int .i64 room, .slice sa sn sc] w fun e w' => e = .returned (.bool true) ∧ Below w.heap.size w w' := by
  by_cases h : room < 0
  · exact ckptDoes_neg room h h0 sa sn sc w
  · exact ckptDoes_pos room (by omega) h1 sa sn sc ops w hs hsl hbk

end Go.Proofs.YtogdjhhabcejgaaGreat

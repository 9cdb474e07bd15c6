/-
  The document's disk: Clone.
-/
import Derived.Test.YtnfpceeacfdldaaRRen2
namespace Go.Proofs.Ytnfpceeacfdldaa
open Go.RowKit Go.Maps
set_option linter.unusedVariables false

/-- a row of files is no row of bytes -/
theorem Rb.ow_ne {base base' : Nat} {w : World} {fa a : Option Addr} {fc c : Nat} {l : List RM} {bs : List UInt8} (h : Rb base w fa fc l) (hl : 0 < l.length) (ho : Ow base' w a c bs) (hb : 0 < bs.length) {k : Nat} (hk : blk a = some k) : blk fa ≠ some k := by
  intro e
  have h0 : l[0]? = some l[0] := by simp [hl]
  obtain ⟨g, rfl, q0, _, _⟩ := h.rw.at h0
  obtain ⟨g', rfl, _, _⟩ := ho.some_of hb
  simp only [blk, Option.some.injEq] at e hk
  subst e
  subst hk
  have hx : (bs.map B)[0]? = some (B bs[0]) := by simp [hb]
  have c1 := ho.cells 0 _ hx
  rw [Addr.add_lit] at c1
  rw [Nat.zero_mul] at q0
  rw [Nat.add_zero] at c1
  rw [q0] at c1
  simp [encStr] at c1
/-- the clone, while its row grows: q its block, l its files so far -/
structure Rc (w W : World) (q : Nat) (fa : Option Addr) (fc : Nat) (l : List RM) (d : K.DK) (kp : Int) : Prop where
  at_ : W.heap[q]? = some (.cells #[.int .i64 d.room, .slice fa l.length fc, .int .i64 d.left, .int .i64 kp, .bool d.down] 68 (0, 0))
  row : Rb (w.heap.size + 1) W fa fc l
  by_ : ∀ m ∈ l, Ow (w.heap.size + 1) W m.a m.c m.b ∧ m.sy ≤ m.b.length ∧ (m.b = [] → m.a = none)
  fr : Fr (fun _ => False) w W
theorem Rc.rk {w W : World} {q : Nat} {fa : Option Addr} {fc : Nat} {l : List RM} {d : K.DK} {kp : Int} (h : Rc w W q fa fc l d kp) (hq : q = w.heap.size) (ho : K.Ok d) (h0 : 0 ≤ kp) (h1 : kp ≤ 9223372036854775807) (he : d.left ≠ 0 → kp = d.keep) (hfs : l.map RM.kf = d.fs) :
    Rk (fun k => w.heap.size ≤ k ∧ k < W.heap.size) W q d := by
  have hql := lt_of_row h.at_
  refine ⟨fun k hk => hk.2, ho, fa, fc, l, kp, ⟨h.at_, h0, h1, he, h.row.rw, fun e => by have := (h.row.bk q e).1; omega, fun m hm => ⟨(h.by_ m hm).1.sl, (h.by_ m hm).2.1, (h.by_ m hm).1.len⟩, fun m hm hz k hk => ⟨by have := ((h.by_ m hm).1.lt k hk).1; omega, h.row.ow_ne (List.length_pos_of_mem hm) (h.by_ m hm).1 hz hk⟩, hfs⟩, ⟨by omega, hql⟩, fun k hk => ⟨by have := (h.row.bk k hk).1; omega, (h.row.bk k hk).2⟩, fun m hm hz k hk => ⟨by have := ((h.by_ m hm).1.lt k hk).1; omega, ((h.by_ m hm).1.lt k hk).2⟩⟩
/-- one round of it: the bytes are copied (w2), then the row grows (w3), then it is stored -/
theorem Rc.next {w W w2 w3 : World} {fa : Option Addr} {fc : Nat} {l : List RM} {d : K.DK} {kp : Int} (h : Rc w W w.heap.size fa fc l d kp) (hf : Fr (fun _ => False) W w2) {m : RM} (hm : Ow (w.heap.size + 1) w2 m.a m.c m.b) (hs : m.sy ≤ m.b.length ∧ (m.b = [] → m.a = none)) (hnew : ∀ k, blk m.a = some k → W.heap.size ≤ k) {a3 : Option Addr} {c3 n : Nat} (hr : Rb (w.heap.size + 1) w3 a3 c3 (l ++ [m])) (hg : w2.grownBy w3 (blk fa)) (hn : (l ++ [m]).length = n) :
    Rc w (w3.setCell ⟨w.heap.size, 1, none⟩ (.slice a3 n c3)) w.heap.size a3 c3 (l ++ [m]) d kp := by
  subst hn
  have hf3 := Fr.of_grown hg
  have hq : ¬ (blk fa = some w.heap.size) := fun e => by have := (h.row.bk _ e).1; omega
  have h2 : w2.heap[w.heap.size]? = some (.cells #[.int .i64 d.room, .slice fa l.length fc, .int .i64 d.left, .int .i64 kp, .bool d.down] 68 (0, 0)) := hf.cells h.at_ (fun h => h)
  have h3 := hf3.cells h2 hq
  have hf4 : Fr (fun k => k = w.heap.size) w3 (w3.setCell ⟨w.heap.size, 1, none⟩ (.slice a3 (l ++ [m]).length c3)) := Fr.setCell (p := ⟨w.heap.size, 1, none⟩) (S := fun k => k = w.heap.size) (Fr.refl _ _) (fun _ => rfl) _
  have hw2 : w.heap.size < w2.heap.size := lt_of_row h2
  refine ⟨by rw [setCell_row h3]; rfl, hr.kept hf4 (fun k hk e => by have := (hr.bk k hk).1; omega), ?_, ?_⟩
  · intro x hx
    have hx2 : (Ow (w.heap.size + 1) w2 x.a x.c x.b ∧ x.sy ≤ x.b.length ∧ (x.b = [] → x.a = none)) ∧ ∀ k, blk x.a = some k → blk fa ≠ some k := by
      rcases List.mem_append.1 hx with hx | hx
      · refine ⟨⟨(h.by_ x hx).1.kept hf (fun _ _ h => h), (h.by_ x hx).2⟩, fun k hk => ?_⟩
        by_cases he : x.b = []
        · rw [(h.by_ x hx).2.2 he] at hk
          simp [blk] at hk
        · exact h.row.ow_ne (List.length_pos_of_mem hx) (h.by_ x hx).1 (List.length_pos_iff.2 he) hk
      · simp at hx
        subst hx
        exact ⟨⟨hm, hs⟩, fun k hk e => by have := hnew k hk; have := (h.row.bk k e).2; omega⟩
    exact ⟨(hx2.1.1.kept hf3 (fun k hk e => hx2.2 k hk e)).kept hf4 (fun k hk e => by have := (hx2.1.1.lt k hk).1; omega), hx2.1.2⟩
  · exact ((h.fr.trans hf (fun _ _ h => h)).trans hf3 (fun i hi e => by have := (h.row.bk i e).1; omega)).trans hf4 (fun i hi e => by omega)

theorem Fs.one3 (W : World) (n : Nat) (hn : W.heap.size = n) (m : RM) (bl : Nat) (hb : m.b.length = bl) (t : TypeId) : Fs (W.alloc (.cells #[encStr m.nm, .slice m.a bl m.c, .int .i64 (m.sy : Nat)] t)) (some ⟨n, 0, none⟩) 1 [m] := by
  subst hn
  subst hb
  refine ⟨rfl, .inr ⟨_, rfl, fun j u hu => ?_⟩⟩
  rw [Addr.add_lit, Nat.zero_add]
  refine cell_of (Go.heap_alloc_new W _) ?_
  simpa [rcs, RM.cs] using hu

set_option maxHeartbeats 3200000 in
theorem rclone_any {S : Nat → Prop} {w : World} {p : Nat} {d : K.DK} (h : Rk S w p d) :
    Calls Try.prog 44 #[.pointer (some ⟨p, 0, none⟩)] w fun e w' => ∃ q, e = .returned (.pointer (some ⟨q, 0, none⟩)) ∧ Rt (fun _ => False) w q d w' := by
  obtain ⟨h1, ho, fa0, fc0, l, kp, hm, h4, h5, h6⟩ := h
  obtain ⟨c0, c1, c2, c3, c4⟩ := hm.c
  have HM := hid hm
  have HO := hid ho
  have hfl := ho.files
  rw [← hm.len] at hfl
  have hcap : ∀ m ∈ l, m.b.length ≤ K.cap := fun m hmm => by
    have h8 : m.kf ∈ d.fs := by rw [← hm.fs]; exact List.mem_map_of_mem hmm
    have h9 := K.tot_mem K.F.len h8
    have := ho.uc
    unfold K.DK.used at this
    simp only [RM.kf, RM.len] at h9
    omega
  have HCAP := hid hcap
  obtain ⟨ln, hln⟩ : ∃ ln, l.length = ln := ⟨_, rfl⟩
  rw [hln] at c1 hfl
  have HLN := hid hln
  clear h1 ho h4 h5 h6 hln hcap
  have HP := hid hm.lt
  clear hm
  go_enter Try.func44, Try.ntmps44
  go_wp2
  go_loopw [4] (fun i wr => ∃ (fa : Option Addr) (fc : Nat) (lk : List RM) (k : Nat), k ≤ ln ∧ i = .int .i64 k ∧ lk.length = k ∧ lk.map RM.kf = (l.take k).map RM.kf ∧ Rc w wr w.heap.size fa fc lk d kp) (fun i _ => ln - (intOf i).toNat)
  case atStart =>
    refine ⟨none, 0, [], 0, by omega, rfl, rfl, by simp, ?_⟩
    refine ⟨?_, Rb.nil _ _, by simp, ?_⟩
    · exact Go.heap_alloc_new w _
    · exact Fr.alloc (Fr.refl _ _) _
  case round =>
    obtain ⟨fa, fc, lk, k, hk, rfl, hlk, hkf, hrc⟩ := hrel
    have k1 := cell_fr hrc.fr (fun h => h) c1
    have hzr := hrc.fr.size
    have HRC := hid hrc
    have HKF := hid hkf
    have HLK := hid hlk
    have at0 := hrc.at_
    rw [hlk] at at0
    have d1 := cell_of (j := 1) at0 rfl
    have z1 := frozen_of_row (j := 1) at0
    have hqr := lt_of_row at0
    clear hrc hkf hlk at0
    by_cases hlt : k < ln
    · obtain ⟨m, hlm, hdm, hmem⟩ := HM.out.getAt (i := k) (by rw [HLN.out]; exact hlt)
      obtain ⟨g, rfl, q0, q1, q2⟩ := HM.out.row.at hlm
      replace q0 := cell_fr HRC.out.fr (fun h => h) q0
      replace q1 := cell_fr HRC.out.fr (fun h => h) q1
      replace q2 := cell_fr HRC.out.fr (fun h => h) q2
      have hi : (k : Int) < (ln : Int) := by omega
      have hby := HM.out.by_ m hmem
      have hcp := HCAP.out m hmem
      unfold K.cap at hcp
      have HSY := hid hby.2.1
      have HSL := hid (hby.1.kept HRC.out.fr (fun _ _ _ h => h))
      have HLM := hid hlm
      obtain ⟨bl, hbl⟩ : ∃ bl, m.b.length = bl := ⟨_, rfl⟩
      rw [hbl] at q1 hcp HSL
      have HBL := hid hbl
      have hqn : w.heap.size ≠ wr.heap.size := by omega
      clear hlm hdm hmem c0 c1 c2 c3 c4 hby hbl
      go_wp2_with (first
        | (at_builtin; refine wpList_append_b _ rfl (.const (.slice none 0 0)) (.tmp 27) rfl (w.heap.size + 1) none 0 0 [] rfl rfl (Ow.nil _ _) m.a bl m.c m.b rfl (HSL.out.kept (Fr.alloc (Fr.refl (fun _ => False) _) _) (fun _ _ _ h => h)) (by omega) (by simp; omega) ?_; intro a2 c2 w2 ho2 hg2 hor2
           have f2 : Fr (fun _ => False) wr w2 := (Fr.alloc (Fr.refl (fun _ => False) wr) (.cells #[encStr m.nm, .slice m.a bl m.c, .int .i64 (m.sy : Nat)] 73)).trans (Fr.of_grown hg2) (fun i _ e => by simp [blk] at e)
           have v2 := (Fr.of_grown hg2).cells (Go.heap_alloc_new wr (.cells #[encStr m.nm, .slice m.a bl m.c, .int .i64 (m.sy : Nat)] 73)) (fun e => by simp [blk] at e)
           have g0 := cell_of (j := 1) v2 rfl
           have zv := frozen_of_row (j := 1) v2
           have v3 := setCell_row (j := 1) v2 (.slice a2 bl c2)
           have f3 : Fr (fun k => k = wr.heap.size) w2 (w2.setCell ⟨wr.heap.size, 1, none⟩ (.slice a2 bl c2)) := Fr.setCell (p := ⟨wr.heap.size, 1, none⟩) (S := fun k => k = wr.heap.size) (Fr.refl _ _) (fun _ => rfl) _
           have f23 : Fr (fun _ => False) wr (w2.setCell ⟨wr.heap.size, 1, none⟩ (.slice a2 bl c2)) := f2.trans f3 (fun i hi e => by omega)
           have x0 := cell_of (j := 0) v3 rfl
           have x1 := cell_of (j := 1) v3 rfl
           have x2 := cell_of (j := 2) v3 rfl
           have e1 := cell_fr f23 (fun h => h) d1
           have F23 := hid f23
           have HO2 := hid (show Ow (w.heap.size + 1) (w2.setCell ⟨wr.heap.size, 1, none⟩ (.slice a2 bl c2)) a2 c2 m.b from by rw [List.nil_append] at ho2; exact ho2.kept f3 (fun j hj e => by
             rcases hor2 with ⟨ha, _⟩ | ⟨ha, _⟩
             · rw [ha] at hj; simp [blk] at hj
             · rw [ha] at hj; simp [blk] at hj; omega))
           have HN2 : Hid ((m.b = [] → a2 = none) ∧ ∀ j, blk a2 = some j → wr.heap.size ≤ j) := hid ⟨fun he => by
             rcases hor2 with ⟨ha, _⟩ | ⟨_, ha, _⟩
             · exact ha
             · have h1 := HBL.out; rw [he] at h1; simp at h1; omega, fun j hj => by
             rcases hor2 with ⟨ha, _⟩ | ⟨ha, _⟩
             · rw [ha] at hj; simp [blk] at hj
             · rw [ha] at hj; simp [blk] at hj; omega⟩
           clear f2 v2 v3 f3 f23 ho2 hg2 hor2)
        | (at_builtin; refine wpList_append_f _ rfl (.tmp 31) (.tmp 33) rfl (w.heap.size + 1) fa k fc lk rfl HLK.out (HRC.out.row.kept (Fr.alloc F23.out _) (fun _ _ h => h)) (some ⟨w2.heap.size, 0, none⟩) 1 1 [{ m with a := a2, c := c2 }] rfl (Fs.one3 _ _ (setCell_size _ _ _) { m with a := a2, c := c2 } bl HBL.out _) (by omega) (by simp; have := F23.out.size; rw [setCell_size] at this; omega) ?_; intro a3 c3 w3 hr3 hg3
           have hx3 := HRC.out.next (Fr.alloc F23.out (.cells #[encStr m.nm, .slice a2 bl c2, .int .i64 (m.sy : Nat)] 73)) (m := { m with a := a2, c := c2 }) (HO2.out.kept (Fr.alloc (Fr.refl (fun _ => False) _) _) (fun _ _ h => h)) ⟨HSY.out, HN2.out.1⟩ HN2.out.2 hr3 hg3 (n := k + 1) (by rw [List.length_append, HLK.out]; rfl)
           have at3 := (Fr.of_grown hg3).cells ((Fr.alloc F23.out (.cells #[encStr m.nm, .slice a2 bl c2, .int .i64 (m.sy : Nat)] 73)).cells HRC.out.at_ (fun h => h)) (fun e => by have := (HRC.out.row.bk _ e).1; omega)
           have e3 := cell_of (j := 1) at3 rfl
           have z3 := frozen_of_row (j := 1) at3
           have HX3 := hid hx3
           clear hr3 hg3 hx3 at3))
      go_wp2
      go_roundw
      case rel => exact ⟨a3, c3, lk ++ [{ m with a := a2, c := c2 }], k + 1, by omega, by go_num, by rw [List.length_append, HLK.out]; rfl, by rw [List.map_append, HKF.out, List.take_add_one, HLM.out]; simp [RM.kf, RM.f], HX3.out⟩
      case measure => simp [intOf]; omega
    · obtain rfl : k = ln := by omega
      clear d1 z1 hqr
      go_wp2
      go_ret
      have hk := HRC.out.rk rfl HO.out HM.out.kp0 HM.out.kp1 HM.out.kpe (by rw [HKF.out, ← HLN.out, List.take_length, HM.out.fs])
      exact ⟨_, rfl, hk.mono (fun j hj => ⟨.inr hj.1, hj.2⟩) Nx.lt, HRC.out.fr⟩

end Go.Proofs.Ytnfpceeacfdldaa

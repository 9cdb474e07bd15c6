/-
  DiskStays, the walk: what is synced of a file is a beginning of what it has; an error changes nothing.
-/
import Derived.Test.YtnfpceeacfdldaaKLaw
import Derived.Test.YtnfpceeacfdldaaKScript
import Derived.Deep.CutRange
namespace Go.Proofs.Ytnfpceeacfdldaa
open Go.RowKit Go.Maps
set_option linter.unusedVariables false

namespace K
/-- what is seen of a file: its bytes, how many are synced, whether it is there -/
def lk (d : DK) (n : Nm) : List UInt8 × Nat × Bool := match get n d.fs with | none => ([], 0, false) | some f => (f.all, f.sf.length, true)
theorem lk_stays {d d' : DK} {n : Nm} (h : Keeps d.fs d'.fs n) (hi : (lk d n).2.2 = true) : (lk d' n).2.2 = true ∧ (lk d n).2.1 ≤ (lk d' n).1.length ∧ (lk d n).2.1 ≤ (lk d n).1.length ∧ (lk d n).1.take (lk d n).2.1 = (lk d' n).1.take (lk d n).2.1 ∧ (lk d n).2.1 ≤ (lk d' n).2.1 := by
  unfold lk at *
  cases hg : get n d.fs with
  | none => rw [hg] at hi; cases hi
  | some f =>
    obtain ⟨f', hg', hp⟩ := h f hg
    rw [hg']
    obtain ⟨t, ht⟩ := hp
    simp only [F.all, ← ht, List.length_append, List.append_assoc]
    refine ⟨trivial, by omega, by omega, ?_, by omega⟩
    rw [List.take_left, List.take_left]
end K
theorem look_lk {S : Nat → Prop} {w : World} {p : Nat} {d : K.DK} (h : Dk S w p d) (s : ByteArray) (hz : s.size ≤ maxLen) :
    Calls Try.prog 17 #[.pointer (some ⟨p, 0, none⟩), .string s] w fun e w' => ∃ a c, e = .returned (.tuple #[.slice a (K.lk d s.data.toList).1.length c, .int .i64 ((K.lk d s.data.toList).2.1 : Nat), .bool (K.lk d s.data.toList).2.2]) ∧ Ow w.heap.size w' a c (K.lk d s.data.toList).1 ∧ Fr (fun _ => False) w w' := by
  refine (look_any h s hz).mono ?_
  rintro e w' ⟨⟨hg, rfl⟩ | ⟨f, a, c, hg, rfl, ho⟩, hf⟩
  · exact ⟨none, 0, by rw [show K.lk d s.data.toList = ([], 0, false) by unfold K.lk; rw [hg]]; rfl, by rw [show K.lk d s.data.toList = ([], 0, false) by unfold K.lk; rw [hg]]; exact Ow.nil _ _, hf⟩
  · exact ⟨a, c, by rw [show K.lk d s.data.toList = (f.all, f.sf.length, true) by unfold K.lk; rw [hg]], by rw [show K.lk d s.data.toList = (f.all, f.sf.length, true) by unfold K.lk; rw [hg]]; exact ho, hf⟩
theorem str_ne {s t : ByteArray} (h : s ≠ t) : (s.toList == t.toList) = false := by
  rw [ByteArray.toList_eq, ByteArray.toList_eq]
  simp only [beq_eq_false_iff_ne, ne_eq]
  intro e
  apply h
  cases s
  cases t
  simp at e
  rw [e]
/-- the bytes of the first k operations -/
def bulk (ops : List K.Op) (k : Nat) : Nat := ((ops.take k).map (fun o => o.b.length + 1)).sum
theorem bulk_next {ops : List K.Op} {k : Nat} {o : K.Op} (h : ops[k]? = some o) : bulk ops (k + 1) = bulk ops k + (o.b.length + 1) := by
  unfold bulk
  rw [List.take_add_one, h]
  simp
theorem bulk_le (ops : List K.Op) (k : Nat) : bulk ops k ≤ (ops.map (fun o => o.b.length + 1)).sum := by
  unfold bulk
  conv => rhs; rw [← List.take_append_drop k ops]
  rw [List.map_append, List.sum_append]
  exact Nat.le_add_right _ _
/-- what the script's loop keeps -/
def SI (w : World) (p : Nat) (ops : List K.Op) (k : Nat) (wr : World) : Prop := ∃ Sd d, Dk Sd wr p d ∧ (∀ j, Sd j → w.heap.size ≤ j) ∧ Fr (fun _ => False) w wr ∧ d.used ≤ bulk ops k

theorem SI.kept {w : World} {p : Nat} {ops : List K.Op} {k : Nat} {wr wr' : World} (h : SI w p ops k wr) (hf : Fr (fun _ => False) wr wr') : SI w p ops k wr' := by
  obtain ⟨Sd, d, h1, h2, h3, h4⟩ := h
  exact ⟨Sd, d, h1.kept hf (fun _ _ h => h), h2, h3.trans hf (fun _ _ h => h), h4⟩
set_option maxRecDepth 20000 in
set_option maxHeartbeats 1600000 in
theorem stays_neg (room : Int) (h0 : room < 0) (h1 : -9223372036854775808 ≤ room) (sa : Option Addr) (sn sc : Nat) (nm : ByteArray) (w : World) :
    Calls Try.prog 4 #[.int .i64 room, .slice sa sn sc, .string nm] w fun e w' => e = .returned (.bool true) ∧ Below w.heap.size w w' := by
  have d0 : decide (0 ≤ room) = false := by simp; omega
  go_enter Try.func4, Try.ntmps4
  go_wp2_with (first
    | (go_at_call 8; refine (new_neg room h0 h1 _).mono ?_; rintro e w1 ⟨rfl, rfl⟩)
    | (go_at_call 10; refine (begun_any _).mono ?_; rintro e w2 ⟨rfl, hf2⟩; have F2 := hid hf2; clear hf2))
  go_ret
  exact ⟨rfl, F2.out.below (Nat.le_refl _) (fun _ _ h => h)⟩

set_option maxRecDepth 20000 in
set_option maxHeartbeats 6400000 in
theorem stays_pos (room : Int) (h0 : 0 ≤ room) (h1 : room ≤ 9223372036854775807) (sa : Option Addr) (sn sc : Nat) (ops : List K.Op) (nm : ByteArray) (hz : nm.size ≤ maxLen) (w : World) (hs : Sc w sa sn ops) (hsl : sn ≤ 9223372036854775807) (hbk : (ops.map (fun o => o.b.length + 1)).sum ≤ 1048576) :
    Calls Try.prog 4 #[.int .i64 room, .slice sa sn sc, .string nm] w fun e w' => e = .returned (.bool true) ∧ Below w.heap.size w w' := by
  have d0 : decide (0 ≤ room) = true := by simp; omega
  have d1 : decide (room < 0) = false := by simp; omega
  go_enter Try.func4, Try.ntmps4
  go_wp2_with fail
  refine (new_any room h0 h1 w).mono ?_
  rintro e w1 ⟨rfl, ht1⟩
  obtain ⟨S1, hd1, hS1, hf1, _⟩ := ht1.ge (b := w.heap.size) (fun _ h => h.elim) (Nat.le_refl _)
  obtain ⟨p, hp⟩ : ∃ p, p = w.heap.size + 1 := ⟨_, rfl⟩
  rw [← hp] at hd1 ⊢
  have HD1 := hid hd1
  have F1 := hid hf1
  have HS1 := hid hS1
  clear hd1 hf1 hS1 ht1 hp
  go_wp2_with fail
  refine (begun_any _).mono ?_
  rintro e w2 ⟨rfl, hf2⟩
  have H0 : Hid (SI w p ops 0 w2) := hid ⟨S1, K.mk room, HD1.out.kept hf2 (fun _ _ h => h), HS1.out, F1.out.trans hf2 (fun _ _ h => h), Nat.zero_le _⟩
  clear hf2 HD1 F1 HS1
  go_wp2
  go_loopw [46] (fun i wr => ∃ k : Nat, k ≤ sn ∧ i = .int .i64 k ∧ SI w p ops k wr) (fun i _ => sn - (intOf i).toNat)
  case atStart => exact ⟨0, by omega, rfl, H0.out⟩
  case round =>
    obtain ⟨k, hk, rfl, Sd, d, hdk, hge, hfr, hus⟩ := hrel
    by_cases hlt : k < sn
    · obtain ⟨b, off, o, rfl, hok, s, t, A, L, C, c0, c1, c2, c3, c4, c5, h6⟩ := hs.at hfr hlt
      have hbn := bulk_next hok
      have hbl := bulk_le ops (k + 1)
      obtain ⟨bx, hbx⟩ : ∃ bx, bx = wr.heap.size := ⟨_, rfl⟩
      obtain ⟨wa, hwa⟩ : ∃ wa, wa = wr.alloc (.cells #[.int .i64 o.do_, .string s, .string t, .slice A L C, .int .i64 o.k, .int .i64 o.keep] 33) := ⟨_, rfl⟩
      have fa : Fr (fun _ => False) wr wa := by rw [hwa]; exact Fr.alloc (Fr.refl _ _) _
      have hza : wa.heap.size = bx + 1 := by rw [hwa, hbx]; simp
      have hbo : wa.heap[bx]? = some (.cells #[.int .i64 o.do_, .string s, .string t, .slice A L C, .int .i64 o.k, .int .i64 o.keep] 33 (0, 0)) := by rw [hwa, hbx]; exact Go.heap_alloc_new wr _
      have HDA := hid (hdk.kept fa (fun _ _ h => h))
      have HO6 := hid (h6.kept fa)
      have HFA := hid (hfr.trans fa (fun _ _ h => h))
      have HGE := hid hge
      have HUS := hid hus
      have HBO := hid hbo
      have HSD := hid hdk.1
      have HBX := hid hbx
      have HBN := hid hbn
      have HOK := hid hok
      have KL := hid (look_lk HDA.out nm hz)
      clear hdk hge hfr hus h6 fa hbo hbn hok
      go_wp2_with fail
      rw [← hwa, ← hbx]
      clear c0 c1 c2 c3 c4 c5 hwa hbx
      obtain ⟨n, hn⟩ : ∃ n, nm.data.toList = n := ⟨_, rfl⟩
      rw [hn] at KL
      obtain ⟨T, hT⟩ : ∃ T, K.lk d n = T := ⟨_, rfl⟩
      obtain ⟨bs, nn, ii⟩ := T
      rw [hT] at KL
      have HT := hid hT
      have HN := hid hn
      clear hT hn
      refine KL.out.mono ?_
      rintro e w3 ⟨a3, q3, rfl, ho3, hf3⟩
      simp only
      obtain ⟨lb, hlb⟩ : ∃ lb, bs.length = lb := ⟨_, rfl⟩
      rw [hlb]
      have HLB := hid hlb
      have HR3 := hid ho3
      have HF3 := hid hf3
      have hz3 := hf3.size
      have KU := hid (used_dk (HDA.out.kept hf3 (fun _ _ h => h)))
      clear hlb ho3 hf3 KL
      go_wp2_with fail
      refine KU.out.mono ?_
      rintro e w4 ⟨rfl, hf4⟩
      obtain ⟨us, hus⟩ : ∃ us, d.used = us := ⟨_, rfl⟩
      rw [hus]
      have HU := hid hus
      have HF4 := hid (HF3.out.trans hf4 (fun _ _ h => h))
      have hz4 := hf4.size
      have HD4 := hid (HDA.out.kept HF4.out (fun _ _ h => h))
      have HR4 := hid (HR3.out.kept hf4 (fun _ _ h => h))
      have KD := hid (down_any HD4.out)
      obtain ⟨dn, hdn⟩ : ∃ dn, d.down = dn := ⟨_, rfl⟩
      rw [hdn] at KD
      have HDN := hid hdn
      clear hus hf4 KU HR3 HDA HF3 hdn
      go_wp2_with fail
      refine KD.out.mono ?_
      rintro e w4' ⟨rfl, rfl⟩
      have hbo4 := HF4.out.cells HBO.out (fun h => h)
      have g0 := cell_of (j := 0) hbo4 rfl
      have g1 := cell_of (j := 1) hbo4 rfl
      have g2 := cell_of (j := 2) hbo4 rfl
      have g3 := cell_of (j := 3) hbo4 rfl
      have g4 := cell_of (j := 4) hbo4 rfl
      have g5 := cell_of (j := 5) hbo4 rfl
      have KR := hid (run_any HD4.out o s t A L C (HO6.out.kept HF4.out) (fun _ => by have h1 := HUS.out; have h2 := HBN.out; have h3 := HO6.out.b_.1; show _ ≤ 200000000000000; omega))
      have HKE := hid (K.run_err d o)
      have HKS := hid (K.run_stays d HD4.out.2.1.up o n)
      have HKU := hid (K.run_used d HD4.out.2.1.up o)
      obtain ⟨R, hR⟩ : ∃ R, K.run d o = R := ⟨_, rfl⟩
      obtain ⟨er, d'⟩ := R
      rw [hR] at KR HKE HKS HKU
      clear hR hbo4 KD
      go_wp2_with fail
      refine KR.out.mono ?_
      rintro e w5 ⟨rfl, ht5⟩
      obtain ⟨S5, hd5, hS5, hf5, hn5⟩ := ht5.ge (b := w.heap.size) HGE.out (Nat.le_trans HFA.out.size HF4.out.size)
      have HD5 := hid hd5
      have HGE5 := hid hS5
      have HFR5 : Hid (Fr (fun _ => False) w w5) := hid ((HFA.out.trans HF4.out (fun _ _ h => h)).trans hf5 (fun i hi h1 => by have := HGE.out i h1; omega))
      have hza4 := HF4.out.size
      have HR5 := hid (HR4.out.kept hf5 (fun j hj h1 => by have h2 := (HR4.out.lt j hj).1; have h3 := HSD.out j h1; have h4 := HBX.out; omega))
      have HBO5 := hid (hf5.cells (HF4.out.cells HBO.out (fun h => h)) (fun h1 => by have h3 := HSD.out bx h1; have h4 := HBX.out; omega))
      have KL2 := hid (look_lk HD5.out nm hz)
      rw [HN.out] at KL2
      obtain ⟨T2, hT2⟩ : ∃ T2, K.lk d' n = T2 := ⟨_, rfl⟩
      obtain ⟨cs, mm, si⟩ := T2
      rw [hT2] at KL2
      have HT2 := hid hT2
      clear ht5 hd5 hS5 hf5 hn5 hT2 KR HR4 HD4 g0 g1 g2 g3 g4 g5
      go_wp2_with fail
      refine KL2.out.mono ?_
      rintro e w6 ⟨a6, q6, rfl, ho6, hf6⟩
      simp only
      obtain ⟨lc, hlc⟩ : ∃ lc, cs.length = lc := ⟨_, rfl⟩
      rw [hlc]
      have HLC := hid hlc
      have HR6 := hid (HR5.out.kept hf6 (fun _ _ h => h))
      have HC6 := hid ho6
      have HD6 := hid (HD5.out.kept hf6 (fun _ _ h => h))
      have HF6 := hid (HFR5.out.trans hf6 (fun _ _ h => h))
      have HBO6 := hid (hf6.cells HBO5.out (fun h => h))
      have KU2 := hid (used_dk HD6.out)
      clear hlc ho6 hf6 KL2 HR5 HD5 HFR5 HBO5
      go_wp2_with fail
      refine KU2.out.mono ?_
      rintro e w7 ⟨rfl, hf7⟩
      have KM := hid (room_any (HD6.out.kept hf7 (fun _ _ h => h)))
      have hur := HD6.out.2.1.ur
      obtain ⟨us', hus'⟩ : ∃ us', d'.used = us' := ⟨_, rfl⟩
      obtain ⟨rm', hrm'⟩ : ∃ rm', d'.room = rm' := ⟨_, rfl⟩
      rw [hus', hrm'] at hur
      rw [hus']
      rw [hrm'] at KM
      have HU' := hid hus'
      have hd7 : decide (rm' < (us' : Int)) = false := by simp; omega
      have HF7 := hid (HF6.out.trans hf7 (fun _ _ h => h))
      have HD7 := hid (HD6.out.kept hf7 (fun _ _ h => h))
      have HR7 := hid (HR6.out.kept hf7 (fun _ _ h => h))
      have HC7 := hid (HC6.out.kept hf7 (fun _ _ h => h))
      have HBO7 := hid (hf7.cells HBO6.out (fun h => h))
      clear hus' hrm' hf7 KU2 HR6 HD6 HF6 HBO6 HC6 hur
      go_upto_region 16 with (first | (go_at_call 19; refine KM.out.mono ?_; rintro e w7' ⟨rfl, rfl⟩))
      go_cut [46, 115] from 46 to 177 (fun i v wc => i = .int .i64 (k : Int) ∧ v = .bool false ∧ Fr (fun _ => False) w7 wc)
      case first =>
        by_cases hA : er = 0
        · subst hA
          go_wp2_with fail
          go_meet
          case rel => exact ⟨rfl, rfl, Fr.refl _ _⟩
        · have hA' : (er == 0) = false := by simpa using hA
          by_cases hB : er = 7 ∧ dn = false
          · obtain ⟨rfl, rfl⟩ := hB
            go_wp2_with fail
            go_meet
            case rel => exact ⟨rfl, rfl, Fr.refl _ _⟩
          · have hdd : d' = d := (HKE.out hA).resolve_right (fun h => hB ⟨h.1, HDN.out ▸ h.2⟩)
            subst hdd
            have e1 : (cs, mm, si) = (bs, nn, ii) := HT2.out.symm.trans HT.out
            simp only [Prod.mk.injEq] at e1
            obtain ⟨e1, e2, e3⟩ := e1
            subst e1 e2 e3
            have e4 : us' = us := HU'.out.symm.trans HU.out
            have e5 : lc = lb := HLC.out.symm.trans HLB.out
            subst e4 e5
            have KU3 := hid (used_dk HD7.out)
            rw [HU'.out] at KU3
            have HDN' := HDN.out
            clear HT HT2 HKE HKS HKU
            by_cases hC : er = 7
            · subst hC
              have hdn : dn = true := by cases dn with | false => exact absurd ⟨rfl, rfl⟩ hB | true => rfl
              subst hdn
              clear hA hA' hB
              go_wp2_with fail
              refine KU3.out.mono ?_
              rintro e w8 ⟨rfl, hf8⟩
              have KD3 := hid (down_any (HD7.out.kept hf8 (fun _ _ h => h)))
              rw [HDN'] at KD3
              have cv1 := run_str w8 a3 lc q3 cs (by have := (HR7.out.kept hf8 (fun _ _ h => h)).sl; rw [HLC.out] at this; exact this)
              have cv2 := run_str w8 a6 lc q6 cs (by have := (HC7.out.kept hf8 (fun _ _ h => h)).sl; rw [HLC.out] at this; exact this)
              have F8 := hid hf8
              clear hf8 KU3 HDN'
              go_wp2_with (first | (go_at_call 12; refine KD3.out.mono ?_; rintro e w8' ⟨rfl, rfl⟩))
              go_meet
              case rel => exact ⟨rfl, by simp, F8.out⟩
            · have hC' : (er == 7) = false := by simpa using hC
              clear hB
              go_wp2_with fail
              refine KU3.out.mono ?_
              rintro e w8 ⟨rfl, hf8⟩
              have KD3 := hid (down_any (HD7.out.kept hf8 (fun _ _ h => h)))
              rw [HDN'] at KD3
              have cv1 := run_str w8 a3 lc q3 cs (by have := (HR7.out.kept hf8 (fun _ _ h => h)).sl; rw [HLC.out] at this; exact this)
              have cv2 := run_str w8 a6 lc q6 cs (by have := (HC7.out.kept hf8 (fun _ _ h => h)).sl; rw [HLC.out] at this; exact this)
              have F8 := hid hf8
              clear hf8 KU3 HDN'
              go_wp2_with (first | (go_at_call 12; refine KD3.out.mono ?_; rintro e w8' ⟨rfl, rfl⟩))
              go_meet
              case rel => exact ⟨rfl, by simp, F8.out⟩
      case rest =>
        obtain ⟨rfl, rfl, hf8⟩ := hcut
        have HBO8 := hf8.cells HBO7.out (fun h => h)
        have g0 := cell_of (j := 0) HBO8 rfl
        have g1 := cell_of (j := 1) HBO8 rfl
        have g2 := cell_of (j := 2) HBO8 rfl
        have HF8 := hid (HF7.out.trans hf8 (fun _ _ h => h))
        have HD8 := hid (HD7.out.kept hf8 (fun _ _ h => h))
        have HR8 := hid (HR7.out.kept hf8 (fun _ _ h => h))
        have HC8 := hid (HC7.out.kept hf8 (fun _ _ h => h))
        have HSI : Hid (SI w p ops (k + 1) wc) := hid ⟨S5, d', HD8.out, HGE5.out, HF8.out, by have h1 := HKU.out; have h2 := HUS.out; have h3 := HBN.out; omega⟩
        clear hf8 HBO8 HF7 HD7 HR7 HC7 HBO7
        go_upto_region 18 with fail
        go_cut [46, 20] from 46 to 177 (fun i v wd => i = .int .i64 (k : Int) ∧ wd = wc ∧ ∃ mv, v = .bool mv ∧ (mv = false → ¬ K.moved o n))
        case first =>
          have es : (s = nm) ↔ (o.nm = n) := by
            rw [← HO6.out.s_, ← HN.out]
            exact ⟨fun h => by rw [h], fun h => by cases s; cases nm; simp at h; rw [h]⟩
          have et : (t = nm) ↔ (o.to = n) := by
            rw [← HO6.out.t_, ← HN.out]
            exact ⟨fun h => by rw [h], fun h => by cases t; cases nm; simp at h; rw [h]⟩
          have ES := hid es
          have ET := hid et
          have HMV := hid (show K.moved o n ↔ ((o.do_ = 3 ∧ o.nm = n) ∨ (o.do_ = 4 ∧ (o.nm = n ∨ o.to = n))) from Iff.rfl)
          generalize o.do_ = od at *
          clear es et
          by_cases e3 : od = 3
          · subst e3
            by_cases e1 : s = nm
            · subst e1
              go_wp2_with fail
              go_meet
              case rel => exact ⟨rfl, rfl, true, rfl, fun h => by cases h⟩
            · have e1' := str_ne e1
              go_wp2_with fail
              go_meet
              case rel => exact ⟨rfl, rfl, false, rfl, fun _ hm => by rcases HMV.out.1 hm with ⟨_, h⟩ | ⟨h, _⟩; exact e1 (ES.out.2 h); cases h⟩
          · have e3' : (od == 3) = false := by simpa using e3
            by_cases e4 : od = 4
            · subst e4
              by_cases e1 : s = nm
              · subst e1
                go_wp2_with fail
                go_meet
                case rel => exact ⟨rfl, rfl, true, rfl, fun h => by cases h⟩
              · have e1' := str_ne e1
                by_cases e2 : t = nm
                · subst e2
                  go_wp2_with fail
                  go_meet
                  case rel => exact ⟨rfl, rfl, true, rfl, fun h => by cases h⟩
                · have e2' := str_ne e2
                  go_wp2_with fail
                  go_meet
                  case rel => exact ⟨rfl, rfl, false, rfl, fun _ hm => by rcases HMV.out.1 hm with ⟨h, _⟩ | ⟨_, h | h⟩; cases h; exact e1 (ES.out.2 h); exact e2 (ET.out.2 h)⟩
            · have e4' : (od == 4) = false := by simpa using e4
              go_wp2_with fail
              go_meet
              case rel => exact ⟨rfl, rfl, false, rfl, fun _ hm => by rcases HMV.out.1 hm with ⟨h, _⟩ | ⟨h, _⟩; exact e3 h; exact e4 h⟩
        case rest =>
          obtain ⟨rfl, rfl, mv, rfl, hmv⟩ := hcut
          clear g0 g1 g2
          cases mv with
          | true =>
            clear hmv
            go_wp2
            go_roundw
            case rel => exact ⟨k + 1, by omega, by go_num, HSI.out⟩
            case measure => simp [intOf]; omega
          | false =>
            cases ii with
            | false =>
              clear hmv
              go_wp2
              go_roundw
              case rel => exact ⟨k + 1, by omega, by go_num, HSI.out⟩
              case measure => simp [intOf]; omega
            | true =>
              have hst := K.lk_stays (HKS.out (hmv rfl)) (by rw [HT.out])
              rw [HT.out, HT2.out] at hst
              simp only at hst
              obtain ⟨rfl, st2, st3, st4, st5⟩ := hst
              rw [HLC.out] at st2
              rw [HLB.out] at st3
              have q1 : decide ((lc : Int) < (nn : Int)) = false := by simp; omega
              have q2 : decide ((lb : Int) < (nn : Int)) = false := by simp; omega
              have q3' : decide ((mm : Int) < (nn : Int)) = false := by simp; omega
              have q1n : decide (lc < nn) = false := by simp; omega
              have q2n : decide (lb < nn) = false := by simp; omega
              have q3n : decide (mm < nn) = false := by simp; omega
              have k3 := HR8.out.len
              have k6 := HC8.out.len
              rw [HLB.out] at k3
              rw [HLC.out] at k6
              have cu1 := fun W => run_cut_hi' W a3 lb q3 nn (by omega) _ rfl
              have cu2 := fun W => run_cut_hi' W a6 lc q6 nn (by omega) _ rfl
              obtain ⟨pre, hpre⟩ : ∃ pre, bs.take nn = pre := ⟨_, rfl⟩
              have hpre2 : cs.take nn = pre := st4.symm.trans hpre
              have cv1 : ∀ m, (convert 31 9 (.slice a3 nn q3)).run Try.prog (wc.drewN m) = .ok (.string (str pre)) (wc.drewN m) := fun m => run_str _ a3 nn q3 pre (by have := (HR8.out.kept (Fr.drewN (S := fun _ => False) _ m) (fun _ _ h => h)).sl.take nn (by rw [HLB.out]; omega); rw [hpre] at this; exact this)
              have cv2 : ∀ m, (convert 31 9 (.slice a6 nn q6)).run Try.prog (wc.drewN m) = .ok (.string (str pre)) (wc.drewN m) := fun m => run_str _ a6 nn q6 pre (by have := (HC8.out.kept (Fr.drewN (S := fun _ => False) _ m) (fun _ _ h => h)).sl.take nn (by rw [HLC.out]; omega); rw [hpre2] at this; exact this)
              clear st2 st3 st4 st5 k3 k6 hpre hpre2 hmv
              go_wp2
              go_quiet (fail)
              go_wp2
              go_roundw
              case rel => exact ⟨k + 1, by omega, by go_num, HSI.out.kept (Fr.drewN _ _)⟩
              case measure => simp [intOf]; omega
    · obtain ⟨hfr, _⟩ := And.intro hfr hus
      have HFR := hid hfr
      clear hdk hge hfr hus
      go_wp2
      go_ret
      exact ⟨rfl, HFR.out.below (Nat.le_refl _) (fun _ _ h => h)⟩

theorem diskStays_walk (room : Int) (h0 : -9223372036854775808 ≤ room) (h1 : room ≤ 9223372036854775807) (sa : Option Addr) (sn sc : Nat) (ops : List K.Op) (nm : ByteArray) (hz : nm.size ≤ maxLen) (w : World) (hs : Sc w sa sn ops) (hsl : sn ≤ 9223372036854775807) (hbk : (ops.map (fun o => o.b.length + 1)).sum ≤ 1048576) :
    Calls Try.prog 4 #[.int .i64 room, .slice sa sn sc, .string nm] w fun e w' => e = .returned (.bool true) ∧ Below w.heap.size w w' := by
  by_cases h : room < 0
  · exact stays_neg room h h0 sa sn sc nm w
  · exact stays_pos room (by omega) h1 sa sn sc ops nm hz w hs hsl hbk

end Go.Proofs.Ytnfpceeacfdldaa

/-
  WireOwn, the walk: what is handed in is left as it is, what is answered is nobody's else.
-/
import Derived.Test.YtilliicanbbjkabFlips
import Derived.Test.YtilliicanbbjkabRefInt
namespace Go.Proofs.Ytilliicanbbjkab
open Go.RowKit
set_option linter.unusedVariables false

theorem takeB_frame (bs : List UInt8) (h : bs.length ≤ 1048576) : M.takeB (M.frame bs) = (bs, (M.enc (M.fd bs.length)).length + bs.length, 0) := by
  unfold M.takeB M.frame
  rw [List.append_assoc, M.takeL_enc bs.length _ (by omega)]
  simp only [Int.toNat_natCast]
  rw [if_neg (by simp), if_neg (by simp; omega), List.drop_left, List.take_left]
theorem takeB_nil : M.takeB [] = ([], 0, 10) := by decide

/-- a writer that has nothing is handed bytes: it has them, or nothing still -/
theorem own_put (w : World) (p : Nat) (h : Wr p w p none 0 []) (ma : Option Addr) (len mc : Nat) (bs : List UInt8) (hs : Sl w ma len bs) (hl : len ≤ 140737488351232) :
    Calls Try.prog 12 #[.pointer (some ⟨p, 0, none⟩), .slice ma len mc] w fun e w' => ∃ (er : Int) (wa : Option Addr) (wc : Nat) (wb : List UInt8), e = .returned (.int .i64 er) ∧ (er = 0 ∨ er = 3) ∧ (er = 0 → wb = encB bs) ∧
      wb.length ≤ 1048576 ∧ Wr p w' p wa wc wb ∧ Fr (fun k => k = p) w w' ∧ (∀ k, blk wa = some k → w.heap.size ≤ k) := by
  refine (wBytes_any p w p none 0 [] h ma len mc bs hs (fun _ k _ e => by simp [blk] at e) (Nat.le_of_lt (lt_of_row h.at_)) (by omega) (by simp)).mono ?_
  intro e w' hw
  rcases hw with ⟨h1, rfl, h2, h3⟩ | ⟨h1, rfl, a', c', h2, h3, h4⟩
  · exact ⟨3, none, 0, [], rfl, .inr rfl, by simp, by simp, h3, h2.mono (fun _ _ h => h.elim), fun k hk => by simp [blk] at hk⟩
  · refine ⟨0, a', c', [] ++ encB bs, rfl, .inl rfl, fun _ => rfl, by simpa using h1, h2, h3.mono (fun i _ h => ?_), fun k hk => ?_⟩
    · rcases h with h | h
      · exact h
      · simp [blk] at h
    · rcases h4 with e | e
      · rw [e] at hk; simp [blk] at hk
      · exact e k hk
/-- a frame of any bytes: it, or nothing where they are too long -/
theorem own_frame (w : World) (ma : Option Addr) (len mc : Nat) (bs : List UInt8) (hs : Sl w ma len bs) (hl : len ≤ 140737488351232) :
    Calls Try.prog 7 #[.slice ma len mc] w fun e w' => ∃ (fa : Option Addr) (fn fc : Nat) (er : Int) (fb : List UInt8), e = .returned (.tuple #[.slice fa fn fc, .int .i64 er]) ∧ fb.length = fn ∧ (len ≤ 1048576 → fb = M.frame bs) ∧ fn ≤ 1048590 ∧
      Ow w.heap.size w' fa fc fb ∧ Fr (fun _ => False) w w' := by
  by_cases h : len ≤ 1048576
  · refine (frame_ok ma len mc bs w hs h).mono ?_
    rintro e w' ⟨fa, fc, rfl, h1, h2⟩
    have hfl := M.frame_length bs
    have hel := M.enc_ten _ (M.fd_lt bs.length (by have := hs.1; omega) (by have := hs.1; omega))
    exact ⟨fa, _, fc, 0, M.frame bs, rfl, rfl, fun _ => rfl, by have := hs.1; omega, h1, h2⟩
  · refine (frame_long ma len mc w (by omega) (by omega)).mono ?_
    rintro e w' ⟨rfl, rfl⟩
    exact ⟨none, 0, 0, 3, [], rfl, rfl, fun h' => absurd h' h, by omega, Ow.nil _ _, Fr.refl _ _⟩

set_option maxRecDepth 20000 in
set_option maxHeartbeats 3200000 in
theorem wireOwn_walk (a : Option Addr) (len cap : Nat) (bs : List UInt8) (w : World) (h : Sl w a len bs) (hl : len ≤ 140737488351232) :
    Calls Try.prog 4 #[.slice a len cap] w fun e w' => e = .returned (.bool true) ∧ Below w.heap.size w w' := by
  have hbl := h.1
  go_enter Try.func4, Try.ntmps4
  go_wp2_with fail
  refine (newWriter_any _).mono ?_
  rintro e w1 ⟨rfl, hw1, f1⟩
  obtain ⟨p, hp⟩ : ∃ p, p = w.heap.size := ⟨_, rfl⟩
  rw [← hp] at hw1 ⊢
  have HW1 := hid hw1
  have F1 := hid f1
  have HP := hid hp
  have hpl : p < w1.heap.size := lt_of_row hw1.at_
  have hs1 : Sl (w1.alloc (.cells #[] 5)) a len bs := (h.kept f1 (fun _ _ _ h => h)).alloc _
  have how1 : Ow p (w1.alloc (.cells #[] 5)) (some ⟨w1.heap.size, 0, none⟩) 0 [] :=
    .inr ⟨_, _, _, rfl, by omega, Go.heap_alloc_new w1 _, by simp, by simp, by simp [maxLen], by simp⟩
  clear hw1 f1 hp
  go_wp2_with (first
    | (at_builtin; refine wpList_append_b _ rfl (.tmp 16) (.tmp 17) rfl p (some ⟨w1.heap.size, 0, none⟩) 0 0 [] rfl rfl how1 a len cap bs rfl hs1 (by omega) (by simp; omega) ?_; intro ma mc w2 how hgb hat; have f2 : Fr (fun _ => False) w1 w2 := (Fr.alloc (Fr.refl _ w1) _).trans (Fr.of_grown hgb) (fun i hi e => by simp [blk] at e; omega); have HM2 : Hid (Ow p w2 ma mc bs) := hid (by simpa using how); have hmb : ∀ k, blk ma = some k → w1.heap.size ≤ k := (by intro k hk; rcases hat with ⟨e, _⟩ | ⟨e, _⟩ <;> (rw [e] at hk; simp [blk] at hk; omega)); have HMB := hid hmb; have HW2 := hid (HW1.out.kept f2 (fun h => h) (fun _ _ h => h)); have F2 := hid (F1.out.trans f2 (fun _ _ h => h)); have S12 := hid f2.size; clear how hgb hat f2 hmb how1 hs1))
  refine (live_any _).mono ?_
  rintro e w3 ⟨rfl, f3⟩
  have HM3 := hid (HM2.out.kept f3 (fun _ _ h => h))
  have HW3 := hid (HW2.out.kept f3 (fun h => h) (fun _ _ h => h))
  have F3 := hid (F2.out.trans f3 (fun _ _ h => h))
  have hmb3 : ∀ k, blk ma = some k → w1.heap.size ≤ k ∧ k < w3.heap.size := fun k hk => ⟨HMB.out k hk, (HM3.out.lt k hk).2⟩
  have HMB3 := hid hmb3
  have hsm3 : Sl w3 ma len bs := by have := HM3.out.sl; rw [hbl] at this; exact this
  have K4 := hid (own_put w3 p HW3.out ma len mc bs hsm3 hl)
  clear f3 hmb3 hsm3 HM2 HW2 F2 HMB HW1 F1
  go_wp2_with fail
  refine K4.out.mono ?_
  rintro e w4 ⟨er, wa, wc, wb, rfl, her, herb, hwbl, hw4, f4, hwa4⟩
  have HER := hid her
  have HERB := hid herb
  have HW4 := hid hw4
  have hpm : ∀ k, blk ma = some k → ¬ k = p := fun k hk e => by have := (HMB3.out k hk).1; omega
  have HM4 := hid (HM3.out.kept f4 hpm)
  have F4 : Hid (Fr (fun _ => False) w w4) := hid (F3.out.trans f4 (fun i hi e => by have := HP.out; omega))
  have hwa : ∀ k, blk wa = some k → w3.heap.size ≤ k ∧ k < w4.heap.size := fun k hk => ⟨hwa4 k hk, (hw4.row.lt k hk).2⟩
  have HWA := hid hwa
  have S34 := hid f4.size
  have HWSZ : Hid (w.heap.size ≤ w4.heap.size) := hid (F4.out.size)
  have hsm4 : Sl w4 ma len bs := by have := HM4.out.sl; rw [hbl] at this; exact this
  have K5 := hid (own_frame w4 ma len mc bs hsm4 hl)
  clear her herb hw4 f4 hwa4 hwa hsm4 K4 HM3 HW3 F3 hpm
  go_wp2_with fail
  refine K5.out.mono ?_
  rintro e w5 ⟨fa, fn, fc, er2, fb, rfl, hfn, hfb, hfnl, ho5, f5⟩
  have HFN := hid hfn
  have HFB := hid hfb
  have HF5 := hid ho5
  have HM5 := hid (HM4.out.kept f5 (fun _ _ h => h))
  have HW5 := hid (HW4.out.kept f5 (fun h => h) (fun _ _ h => h))
  have F5 := hid (F4.out.trans f5 (fun _ _ h => h))
  have hfa : ∀ k, blk fa = some k → w4.heap.size ≤ k ∧ k < w5.heap.size := fun k hk => ho5.lt k hk
  have HFA := hid hfa
  have S45 := hid f5.size
  have hsf5 : Sl w5 fa fn fb := by have := ho5.sl; rw [hfn] at this; exact this
  have K6 := hid (newReader_any fa fn fc fb w5 hsf5 (by omega))
  clear hfn hfb ho5 f5 hfa hsf5 K5 HM4 HW4 F4
  go_wp2_with fail
  refine K6.out.mono ?_
  rintro e w6 ⟨q, qa, qc, rfl, hr6, f6, hq6, hqa6⟩
  have HR6 := hid hr6
  have HF6 := hid (HF5.out.kept f6 (fun _ _ h => h))
  have HM6 := hid (HM5.out.kept f6 (fun _ _ h => h))
  have HW6 := hid (HW5.out.kept f6 (fun h => h) (fun _ _ h => h))
  have F6 := hid (F5.out.trans f6 (fun _ _ h => h))
  have HQ : Hid (w5.heap.size ≤ q ∧ q < w6.heap.size ∧ ∀ k, blk qa = some k → w5.heap.size ≤ k) := hid ⟨hq6, lt_of_row hr6.at_, hqa6⟩
  have S56 := hid f6.size
  clear hr6 f6 hq6 hqa6 K6 HF5 HM5 HW5 F5
  go_wp2
  go_loopw [39] (fun i wr => ∃ k : Nat, k ≤ len ∧ i = .int .i64 k ∧ Fl p w6 ma mc bs k wr) (fun i _ => len - (intOf i).toNat)
  case atStart => exact ⟨0, by omega, rfl, Fl.start HM6.out⟩
  case round =>
    obtain ⟨k, hk, rfl, hfl⟩ := hrel
    by_cases hlt : k < len
    · obtain ⟨g, x, rfl, hgc, hgf, hgn⟩ := hfl.at (by rw [hbl]; exact hlt)
      have HGN := hid hgn
      clear hgn hfl
      have e1 := flip_bits x
      go_wp2
      go_roundw
      case rel => exact ⟨k + 1, by omega, by go_num, HGN.out⟩
      case measure => simp [intOf]; omega
    · have HFL := hid hfl
      clear hfl
      have hpw := HW6.out.ne
      have F67 := hid HFL.out.2
      have HW7 := hid (HW6.out.kept HFL.out.2 (fun e => by have := (HMB3.out p e).1; omega) (fun k hk e => by have h1 := (HWA.out k hk).1; have h2 := (HMB3.out k e).2; omega))
      have HF7 := hid (HF6.out.kept HFL.out.2 (fun k hk e => by have h1 := (HFA.out k hk).1; have h2 := (HMB3.out k e).2; have := S34.out; omega))
      have HR7 := hid (HR6.out.kept HFL.out.2 (fun e => by have h1 := HQ.out.1; have h2 := (HMB3.out q e).2; have := S34.out; have := S45.out; omega) (fun k hk e => by have h1 := HQ.out.2.2 k hk; have h2 := (HMB3.out k e).2; have := S34.out; have := S45.out; omega))
      have F7 : Hid (Fr (fun _ => False) w wr) := hid (F6.out.trans HFL.out.2 (fun i hi e => by have := (HMB3.out i e).1; have := HP.out; omega))
      have S67 := hid HFL.out.2.size
      obtain ⟨w7, hw7⟩ : ∃ w7, wr = w7 := ⟨_, rfl⟩
      rw [hw7] at HW7 HF7 HR7 F7 S67 ⊢
      clear hw7 HFL hpw F67 HW6 HF6 HR6 HM6 F6
      have K8 := hid (wOut_any p w7 p wa wc wb HW7.out (by omega))
      obtain ⟨wl, hwl⟩ : ∃ wl, wb.length = wl := ⟨_, rfl⟩
      rw [hwl] at K8 hwbl
      have HWL := hid hwl
      clear hwl
      go_wp2_with fail
      refine K8.out.mono ?_
      rintro e w8 ⟨oa, oc, rfl, ho8, f8⟩
      have HO8 := hid ho8
      have HW8 := hid (HW7.out.kept f8 (fun h => h) (fun _ _ h => h))
      have HF8 := hid (HF7.out.kept f8 (fun _ _ h => h))
      have HR8 := hid (HR7.out.kept f8 (fun h => h) (fun _ _ h => h))
      have F8 := hid (F7.out.trans f8 (fun _ _ h => h))
      have HOA : Hid (∀ k, blk oa = some k → w7.heap.size ≤ k) := hid (fun k hk => (ho8.lt k hk).1)
      have HALL : Hid (p < w7.heap.size ∧ (∀ k, blk wa = some k → k < w7.heap.size) ∧ (∀ k, blk fa = some k → k < w7.heap.size) ∧ q < w7.heap.size ∧ (0 < fb.length → ∀ k, blk qa = some k → k < w7.heap.size) ∧ w.heap.size ≤ w7.heap.size) := hid ⟨lt_of_row HW7.out.at_, fun k hk => (HW7.out.row.lt k hk).2, fun k hk => (HF7.out.lt k hk).2, lt_of_row HR7.out.at_, (fun hz k hk => HR7.out.sl.lt hz k hk), F7.out.size⟩
      clear ho8 f8 K8 HW7 HF7 HR7 F7
      go_wp2
      go_loopw [53] (fun i wr => ∃ k : Nat, k ≤ wl ∧ i = .int .i64 k ∧ Fl w7.heap.size w8 oa oc wb k wr) (fun i _ => wl - (intOf i).toNat)
      case atStart => exact ⟨0, by omega, rfl, Fl.start HO8.out⟩
      case round =>
        obtain ⟨k, hk, rfl, hfl⟩ := hrel
        by_cases hlt : k < wl
        · obtain ⟨g, x, rfl, hgc, hgf, hgn⟩ := hfl.at (by rw [HWL.out]; exact hlt)
          have HGN := hid hgn
          clear hgn hfl
          have e1 := flip_bits x
          go_wp2
          go_roundw
          case rel => exact ⟨k + 1, by omega, by go_num, HGN.out⟩
          case measure => simp [intOf]; omega
        · have HFL := hid hfl
          clear hfl
          have HW9 := hid (HW8.out.kept HFL.out.2 (fun e => by have h1 := HOA.out p e; have h2 := HALL.out.1; omega) (fun k hk e => by have h1 := HOA.out k e; have h2 := HALL.out.2.1 k hk; omega))
          have HF9 := hid (HF8.out.kept HFL.out.2 (fun k hk e => by have h1 := HOA.out k e; have h2 := HALL.out.2.2.1 k hk; omega))
          have HR9 := hid (HR8.out.kept' HFL.out.2 (fun e => by have h1 := HOA.out q e; have h2 := HALL.out.2.2.2.1; omega) (fun hz k hk e => by have h1 := HOA.out k e; have h2 := HALL.out.2.2.2.2.1 hz k hk; omega))
          have F9 : Hid (Fr (fun _ => False) w wr) := hid (F8.out.trans HFL.out.2 (fun i hi e => by have h1 := HOA.out i e; have h2 := HALL.out.2.2.2.2.2; omega))
          obtain ⟨w9, hw9⟩ : ∃ w9, wr = w9 := ⟨_, rfl⟩
          rw [hw9] at HW9 HF9 HR9 F9 ⊢
          clear hw9 HFL HW8 HF8 HR8 F8 HO8
          have F4S := HWSZ
          rcases HER.out with rfl | rfl
          · have hwb : wb = encB bs := HERB.out rfl
            have K10 := hid (wOut_any p w9 p wa wc wb HW9.out (by rw [HWL.out]; exact hwbl))
            have hbs9 : Sl w9 a len bs := h.kept F9.out (fun _ _ _ h => h)
            have HWB := hid hwb
            clear hwb
            rw [HWL.out] at K10
            go_wp2_with fail
            refine K10.out.mono ?_
            rintro e wA ⟨pa, pc, rfl, hpA, fA⟩
            have hbsA : Sl wA a len bs := hbs9.kept fA (fun _ _ _ h => h)
            have KA := hid (refBytes_any a len cap bs wA hbsA (by omega))
            have HPA := hid hpA
            have FA := hid fA
            clear hbs9 hbsA hpA fA K10
            go_wp2_with fail
            refine KA.out.mono ?_
            rintro e wB ⟨ra, rc, rfl, hrB, fB⟩
            have hpB : Sl wB pa wl wb := by have := (HPA.out.kept fB (fun _ _ h => h)).sl; rw [HWL.out] at this; exact this
            have hrB' : Sl wB ra ((M.enc (M.fd len)).length + len) (M.enc (M.fd len) ++ bs) := by have := hrB.sl; rw [List.length_append, hbl] at this; exact this
            have KB := hid (equal_any pa ra wl pc _ rc wb (M.enc (M.fd len) ++ bs) wB hpB hrB')
            rw [decide_eq_true (by rw [HWB.out]; unfold encB; rw [hbl])] at KB
            have f9B : Fr (fun _ => False) w9 wB := FA.out.trans fB (fun _ _ h => h)
            have HF10 := hid (HF9.out.kept f9B (fun _ _ h => h))
            have HR10 := hid (HR9.out.kept f9B (fun h => h) (fun _ _ h => h))
            have F10 := hid (F9.out.trans f9B (fun _ _ h => h))
            clear hpB hrB hrB' fB f9B KA HPA FA HF9 HR9 F9 HW9
            obtain ⟨w10, hw10⟩ : ∃ w10, wB = w10 := ⟨_, rfl⟩
            rw [hw10] at HF10 HR10 F10 KB ⊢
            clear hw10
            go_wp2_with fail
            refine KB.out.mono ?_
            rintro e wC ⟨rfl, rfl⟩
            clear KB
            have hs13 : Sl w10 a len bs := h.kept F10.out (fun _ _ _ h => h)
            go_wp2
            go_loopw [75] (fun i wr => ∃ k : Nat, k ≤ fn ∧ i = .int .i64 k ∧ Fl w4.heap.size w10 fa fc fb k wr) (fun i _ => fn - (intOf i).toNat)
            case atStart => exact ⟨0, by omega, rfl, Fl.start HF10.out⟩
            case round =>
              obtain ⟨k, hk, rfl, hfl⟩ := hrel
              by_cases hlt : k < fn
              · obtain ⟨g, x, rfl, hgc, hgf, hgn⟩ := hfl.at (by rw [HFN.out]; exact hlt)
                have HGN := hid hgn
                clear hgn hfl
                have e1 := flip_bits x
                go_wp2
                go_roundw
                case rel => exact ⟨k + 1, by omega, by go_num, HGN.out⟩
                case measure => simp [intOf]; omega
              · have HFL := hid hfl
                clear hfl
                have HR11 := hid (HR10.out.kept' HFL.out.2 (fun e => by have h1 := (HFA.out q e).2; have h2 := HQ.out.1; omega) (fun hz k hk e => by have h1 := (HFA.out k e).2; have h2 := HQ.out.2.2 k hk; omega))
                have F11 : Hid (Fr (fun _ => False) w wr) := hid (F10.out.trans HFL.out.2 (fun i hi e => by have h1 := (HFA.out i e).1; have h2 := F4S.out; omega))
                obtain ⟨w11, hw11⟩ : ∃ w11, wr = w11 := ⟨_, rfl⟩
                rw [hw11] at HR11 F11 ⊢
                clear hw11 HFL HF10 HR10 F10
                have K12 := hid (rBytes_any w11 q qa qc fb HR11.out)
                by_cases hmax : len ≤ 1048576
                · have hfb : fb = M.frame bs := HFB.out hmax
                  have ht : M.takeB fb = (bs, (M.enc (M.fd bs.length)).length + bs.length, 0) := by rw [hfb]; exact takeB_frame bs (by omega)
                  rw [ht] at K12
                  simp only at K12
                  rw [hbl] at K12
                  have K12' := K12
                  clear K12 ht hfb
                  go_wp2_with fail
                  refine K12'.out.mono ?_
                  rintro e w12 ⟨xa, xc, rfl, hx, hr⟩
                  have HX := hid hx
                  have F12 : Hid (Fr (fun _ => False) w w12) := hid (by obtain ⟨_, _, _, f, _⟩ := hr; exact F11.out.trans f (fun i hi e => by have h1 := HQ.out.1; have h2 := F4S.out; have := S45.out; omega))
                  have HXA : Hid (∀ k, blk xa = some k → w.heap.size ≤ k) := hid (fun k hk => Nat.le_trans F11.out.size (hx.lt k hk).1)
                  clear hx hr K12' HR11 F11
                  go_wp2
                  go_loopw [92] (fun i wr => ∃ k : Nat, k ≤ len ∧ i = .int .i64 k ∧ Fl w11.heap.size w12 xa xc bs k wr) (fun i _ => len - (intOf i).toNat)
                  case atStart => exact ⟨0, by omega, rfl, Fl.start HX.out⟩
                  case round =>
                    obtain ⟨k, hk, rfl, hfl⟩ := hrel
                    by_cases hlt : k < len
                    · obtain ⟨g, x, rfl, hgc, hgf, hgn⟩ := hfl.at (by rw [hbl]; exact hlt)
                      have HGN := hid hgn
                      clear hgn hfl
                      have e1 := flip_bits x
                      go_wp2
                      go_roundw
                      case rel => exact ⟨k + 1, by omega, by go_num, HGN.out⟩
                      case measure => simp [intOf]; omega
                    · have HFL := hid hfl
                      clear hfl
                      have F13 : Hid (Fr (fun _ => False) w wr) := hid (F12.out.trans HFL.out.2 (fun i hi e => by have h1 := HXA.out i e; omega))
                      have hk' : k = len := by omega
                      have hml : decide ((1048576 : Int) < (len : Int)) = false := by simp; omega
                      have hb13 : Sl wr a len bs := h.kept F13.out (fun _ _ _ h => h)
                      by_cases hz : len = 0
                      · have hz' : ((len : Int) == 0) = true := by simp; omega
                        have HZ := hid hz
                        clear hz hb13 hk' HFL
                        go_wp2
                        go_quiet (fail)
                        go_wp2
                        go_ret
                        exact ⟨rfl, (F13.out.trans (Fr.drewN _ _) (fun _ _ h => h)).below (Nat.le_refl _) (fun _ _ h => h)⟩
                      · have hz' : ((len : Int) == 0) = false := by simp; omega
                        have hpos : (0 : Int) < (len : Int) := by omega
                        obtain ⟨g, rfl, _, _⟩ := HFL.out.1.some_of (by rw [flipTo_length]; omega)
                        obtain ⟨b, off, y, rfl, hy, hyc⟩ := hb13.at (k := 0) (by omega)
                        rw [Nat.add_zero] at hyc
                        have hxc : wr.cell? ⟨g, 0, none⟩ = some (.int .u8 ((flip y).toNat : Int)) := by
                          have h1 : (flipTo bs k)[0]? = some (flip y) := by
                            rw [hk']
                            unfold flipTo
                            rw [List.getElem?_append_left (by simp; omega), List.getElem?_map, List.getElem?_take, if_pos (by omega), hy]
                            rfl
                          have := HFL.out.1.cells 0 (B (flip y)) (by rw [List.getElem?_map, h1]; rfl)
                          rw [Addr.add_lit] at this
                          exact this
                        have e1 := flip_bits y
                        clear hz hb13 hk' HFL hy
                        go_wp2
                        go_quiet (fail)
                        go_wp2
                        go_ret
                        exact ⟨rfl, (F13.out.trans (Fr.drewN _ _) (fun _ _ h => h)).below (Nat.le_refl _) (fun _ _ h => h)⟩
                · have hml : decide ((1048576 : Int) < (len : Int)) = true := by simp; omega
                  go_wp2_with fail
                  refine K12.out.mono ?_
                  rintro e w12 ⟨xa, xc, rfl, hx, hr⟩
                  have HX := hid hx
                  have F12 : Hid (Fr (fun _ => False) w w12) := hid (by obtain ⟨_, _, _, f, _⟩ := hr; exact F11.out.trans f (fun i hi e => by have h1 := HQ.out.1; have h2 := F4S.out; have := S45.out; omega))
                  have HXA : Hid (∀ k, blk xa = some k → w.heap.size ≤ k) := hid (fun k hk => Nat.le_trans F11.out.size (hx.lt k hk).1)
                  clear hx hr K12 HR11 F11
                  obtain ⟨xb, hxb⟩ : ∃ xb, (M.takeB fb).1 = xb := ⟨_, rfl⟩
                  obtain ⟨xe, hxe⟩ : ∃ xe, (M.takeB fb).2.2 = xe := ⟨_, rfl⟩
                  have hxl : xb.length ≤ 1048590 := by rw [← hxb]; have := M.takeB_le fb; have := HFN.out; omega
                  rw [hxb] at HX ⊢
                  rw [hxe]
                  obtain ⟨xl, hxl'⟩ : ∃ xl, xb.length = xl := ⟨_, rfl⟩
                  rw [hxl'] at hxl ⊢
                  have HXL := hid hxl'
                  clear hxb hxe hxl'
                  go_wp2
                  go_loopw [92] (fun i wr => ∃ k : Nat, k ≤ xl ∧ i = .int .i64 k ∧ Fl w11.heap.size w12 xa xc xb k wr) (fun i _ => xl - (intOf i).toNat)
                  case atStart => exact ⟨0, by omega, rfl, Fl.start HX.out⟩
                  case round =>
                    obtain ⟨k, hk, rfl, hfl⟩ := hrel
                    by_cases hlt : k < xl
                    · obtain ⟨g, x, rfl, hgc, hgf, hgn⟩ := hfl.at (by rw [HXL.out]; exact hlt)
                      have HGN := hid hgn
                      clear hgn hfl
                      have e1 := flip_bits x
                      go_wp2
                      go_roundw
                      case rel => exact ⟨k + 1, by omega, by go_num, HGN.out⟩
                      case measure => simp [intOf]; omega
                    · have HFL := hid hfl
                      clear hfl
                      have F13 : Hid (Fr (fun _ => False) w wr) := hid (F12.out.trans HFL.out.2 (fun i hi e => by have h1 := HXA.out i e; omega))
                      clear HFL
                      go_wp2
                      go_quiet (fail)
                      go_wp2
                      go_ret
                      exact ⟨rfl, (F13.out.trans (Fr.drewN _ _) (fun _ _ h => h)).below (Nat.le_refl _) (fun _ _ h => h)⟩
          · have HF10 := HF9
            have HR10 := HR9
            have F10 := F9
            obtain ⟨w10, hw10⟩ : ∃ w10, w9 = w10 := ⟨_, rfl⟩
            rw [hw10] at HF10 HR10 F10 ⊢
            clear hw10 HF9 HR9 F9 HW9
            have hs13 : Sl w10 a len bs := h.kept F10.out (fun _ _ _ h => h)
            go_wp2
            go_loopw [75] (fun i wr => ∃ k : Nat, k ≤ fn ∧ i = .int .i64 k ∧ Fl w4.heap.size w10 fa fc fb k wr) (fun i _ => fn - (intOf i).toNat)
            case atStart => exact ⟨0, by omega, rfl, Fl.start HF10.out⟩
            case round =>
              obtain ⟨k, hk, rfl, hfl⟩ := hrel
              by_cases hlt : k < fn
              · obtain ⟨g, x, rfl, hgc, hgf, hgn⟩ := hfl.at (by rw [HFN.out]; exact hlt)
                have HGN := hid hgn
                clear hgn hfl
                have e1 := flip_bits x
                go_wp2
                go_roundw
                case rel => exact ⟨k + 1, by omega, by go_num, HGN.out⟩
                case measure => simp [intOf]; omega
              · have HFL := hid hfl
                clear hfl
                have HR11 := hid (HR10.out.kept' HFL.out.2 (fun e => by have h1 := (HFA.out q e).2; have h2 := HQ.out.1; omega) (fun hz k hk e => by have h1 := (HFA.out k e).2; have h2 := HQ.out.2.2 k hk; omega))
                have F11 : Hid (Fr (fun _ => False) w wr) := hid (F10.out.trans HFL.out.2 (fun i hi e => by have h1 := (HFA.out i e).1; have h2 := F4S.out; omega))
                obtain ⟨w11, hw11⟩ : ∃ w11, wr = w11 := ⟨_, rfl⟩
                rw [hw11] at HR11 F11 ⊢
                clear hw11 HFL HF10 HR10 F10
                have K12 := hid (rBytes_any w11 q qa qc fb HR11.out)
                by_cases hmax : len ≤ 1048576
                · have hfb : fb = M.frame bs := HFB.out hmax
                  have ht : M.takeB fb = (bs, (M.enc (M.fd bs.length)).length + bs.length, 0) := by rw [hfb]; exact takeB_frame bs (by omega)
                  rw [ht] at K12
                  simp only at K12
                  rw [hbl] at K12
                  have K12' := K12
                  clear K12 ht hfb
                  go_wp2_with fail
                  refine K12'.out.mono ?_
                  rintro e w12 ⟨xa, xc, rfl, hx, hr⟩
                  have HX := hid hx
                  have F12 : Hid (Fr (fun _ => False) w w12) := hid (by obtain ⟨_, _, _, f, _⟩ := hr; exact F11.out.trans f (fun i hi e => by have h1 := HQ.out.1; have h2 := F4S.out; have := S45.out; omega))
                  have HXA : Hid (∀ k, blk xa = some k → w.heap.size ≤ k) := hid (fun k hk => Nat.le_trans F11.out.size (hx.lt k hk).1)
                  clear hx hr K12' HR11 F11
                  go_wp2
                  go_loopw [92] (fun i wr => ∃ k : Nat, k ≤ len ∧ i = .int .i64 k ∧ Fl w11.heap.size w12 xa xc bs k wr) (fun i _ => len - (intOf i).toNat)
                  case atStart => exact ⟨0, by omega, rfl, Fl.start HX.out⟩
                  case round =>
                    obtain ⟨k, hk, rfl, hfl⟩ := hrel
                    by_cases hlt : k < len
                    · obtain ⟨g, x, rfl, hgc, hgf, hgn⟩ := hfl.at (by rw [hbl]; exact hlt)
                      have HGN := hid hgn
                      clear hgn hfl
                      have e1 := flip_bits x
                      go_wp2
                      go_roundw
                      case rel => exact ⟨k + 1, by omega, by go_num, HGN.out⟩
                      case measure => simp [intOf]; omega
                    · have HFL := hid hfl
                      clear hfl
                      have F13 : Hid (Fr (fun _ => False) w wr) := hid (F12.out.trans HFL.out.2 (fun i hi e => by have h1 := HXA.out i e; omega))
                      have hk' : k = len := by omega
                      have hml : decide ((1048576 : Int) < (len : Int)) = false := by simp; omega
                      have hb13 : Sl wr a len bs := h.kept F13.out (fun _ _ _ h => h)
                      by_cases hz : len = 0
                      · have hz' : ((len : Int) == 0) = true := by simp; omega
                        have HZ := hid hz
                        clear hz hb13 hk' HFL
                        go_wp2
                        go_quiet (fail)
                        go_wp2
                        go_ret
                        exact ⟨rfl, (F13.out.trans (Fr.drewN _ _) (fun _ _ h => h)).below (Nat.le_refl _) (fun _ _ h => h)⟩
                      · have hz' : ((len : Int) == 0) = false := by simp; omega
                        have hpos : (0 : Int) < (len : Int) := by omega
                        obtain ⟨g, rfl, _, _⟩ := HFL.out.1.some_of (by rw [flipTo_length]; omega)
                        obtain ⟨b, off, y, rfl, hy, hyc⟩ := hb13.at (k := 0) (by omega)
                        rw [Nat.add_zero] at hyc
                        have hxc : wr.cell? ⟨g, 0, none⟩ = some (.int .u8 ((flip y).toNat : Int)) := by
                          have h1 : (flipTo bs k)[0]? = some (flip y) := by
                            rw [hk']
                            unfold flipTo
                            rw [List.getElem?_append_left (by simp; omega), List.getElem?_map, List.getElem?_take, if_pos (by omega), hy]
                            rfl
                          have := HFL.out.1.cells 0 (B (flip y)) (by rw [List.getElem?_map, h1]; rfl)
                          rw [Addr.add_lit] at this
                          exact this
                        have e1 := flip_bits y
                        clear hz hb13 hk' HFL hy
                        go_wp2
                        go_quiet (fail)
                        go_wp2
                        go_ret
                        exact ⟨rfl, (F13.out.trans (Fr.drewN _ _) (fun _ _ h => h)).below (Nat.le_refl _) (fun _ _ h => h)⟩
                · have hml : decide ((1048576 : Int) < (len : Int)) = true := by simp; omega
                  go_wp2_with fail
                  refine K12.out.mono ?_
                  rintro e w12 ⟨xa, xc, rfl, hx, hr⟩
                  have HX := hid hx
                  have F12 : Hid (Fr (fun _ => False) w w12) := hid (by obtain ⟨_, _, _, f, _⟩ := hr; exact F11.out.trans f (fun i hi e => by have h1 := HQ.out.1; have h2 := F4S.out; have := S45.out; omega))
                  have HXA : Hid (∀ k, blk xa = some k → w.heap.size ≤ k) := hid (fun k hk => Nat.le_trans F11.out.size (hx.lt k hk).1)
                  clear hx hr K12 HR11 F11
                  obtain ⟨xb, hxb⟩ : ∃ xb, (M.takeB fb).1 = xb := ⟨_, rfl⟩
                  obtain ⟨xe, hxe⟩ : ∃ xe, (M.takeB fb).2.2 = xe := ⟨_, rfl⟩
                  have hxl : xb.length ≤ 1048590 := by rw [← hxb]; have := M.takeB_le fb; have := HFN.out; omega
                  rw [hxb] at HX ⊢
                  rw [hxe]
                  obtain ⟨xl, hxl'⟩ : ∃ xl, xb.length = xl := ⟨_, rfl⟩
                  rw [hxl'] at hxl ⊢
                  have HXL := hid hxl'
                  clear hxb hxe hxl'
                  go_wp2
                  go_loopw [92] (fun i wr => ∃ k : Nat, k ≤ xl ∧ i = .int .i64 k ∧ Fl w11.heap.size w12 xa xc xb k wr) (fun i _ => xl - (intOf i).toNat)
                  case atStart => exact ⟨0, by omega, rfl, Fl.start HX.out⟩
                  case round =>
                    obtain ⟨k, hk, rfl, hfl⟩ := hrel
                    by_cases hlt : k < xl
                    · obtain ⟨g, x, rfl, hgc, hgf, hgn⟩ := hfl.at (by rw [HXL.out]; exact hlt)
                      have HGN := hid hgn
                      clear hgn hfl
                      have e1 := flip_bits x
                      go_wp2
                      go_roundw
                      case rel => exact ⟨k + 1, by omega, by go_num, HGN.out⟩
                      case measure => simp [intOf]; omega
                    · have HFL := hid hfl
                      clear hfl
                      have F13 : Hid (Fr (fun _ => False) w wr) := hid (F12.out.trans HFL.out.2 (fun i hi e => by have h1 := HXA.out i e; omega))
                      clear HFL
                      go_wp2
                      go_quiet (fail)
                      go_wp2
                      go_ret
                      exact ⟨rfl, (F13.out.trans (Fr.drewN _ _) (fun _ _ h => h)).below (Nat.le_refl _) (fun _ _ h => h)⟩
end Go.Proofs.Ytilliicanbbjkab

/-
  WireOne, the walk: what is read of any bytes is, put again, just the bytes that were taken.
-/
import Derived.Test.YtilliicanbbjkaaMaths3
namespace Go.Proofs.Ytilliicanbbjkaa
open Go.RowKit
set_option linter.unusedVariables false

theorem M.takeB_err (bs : List UInt8) (h : (M.takeB bs).2.2 ≠ 0) : (M.takeB bs).1 = [] ∧ (M.takeB bs).2.1 = 0 := by
  unfold M.takeB at h ⊢
  split
  · exact ⟨rfl, rfl⟩
  · split
    · exact ⟨rfl, rfl⟩
    · rename_i h1 h2
      rw [if_neg h1, if_neg h2] at h
      simp at h
theorem M.takeF_err (bs : List UInt8) (h : (M.takeF bs).2.2 ≠ 0) : (M.takeF bs).1 = false ∧ (M.takeF bs).2.1 = 0 := by
  unfold M.takeF at h ⊢
  split
  · exact ⟨rfl, rfl⟩
  · split
    · exact ⟨rfl, rfl⟩
    · rename_i h1 h2
      rw [if_neg h1, if_neg h2] at h
      simp at h

/-- A READER AND A WRITER: what was read was put. -/
structure ON (w wr : World) (p r : Nat) (a : Option Addr) (c : Nat) (qa : Option Addr) (qc : Nat) (bs wb rest : List UInt8) : Prop where
  wr_ : Wr p wr p a c wb
  rd : Rd wr r qa qc rest
  eq : bs = wb ++ rest
  len : wb.length ≤ 1048576
  fr : Fr (fun _ => False) w wr
  rp : r < p
  qp : 0 < rest.length → ∀ k, blk qa = some k → k < p
  rl : w.heap.size ≤ r
/-- the reader's half of it -/
structure OR (w wr : World) (p r : Nat) (qa : Option Addr) (qc : Nat) (rest : List UInt8) : Prop where
  rd : Rd wr r qa qc rest
  fr : Fr (fun _ => False) w wr
  rp : r < p
  qp : 0 < rest.length → ∀ k, blk qa = some k → k < p
  rl : w.heap.size ≤ r
section
variable {w wr : World} {p r : Nat} {a : Option Addr} {c : Nat} {qa : Option Addr} {qc : Nat} {bs wb rest : List UInt8}
theorem ON.alloc (h : ON w wr p r a c qa qc bs wb rest) (o : Obj) : ON w (wr.alloc o) p r a c qa qc bs wb rest :=
  ⟨h.wr_.kept (Fr.alloc (Fr.refl (fun _ => False) _) _) (fun h => h) (fun _ _ h => h), h.rd.kept (Fr.alloc (Fr.refl (fun _ => False) _) _) (fun h => h) (fun _ _ h => h), h.eq, h.len, Fr.alloc h.fr o, h.rp, h.qp, h.rl⟩
theorem ON.read (h : ON w wr p r a c qa qc bs wb rest) {n : Nat} {w1 : World} (hr : RP wr r qa rest n w1) : ∃ qa' qc', OR w w1 p r qa' qc' (rest.drop n) := by
  obtain ⟨a', c', h1, h2, h3⟩ := hr
  exact ⟨a', c', h1, h.fr.trans h2 (fun i hi e => by have := h.rl; omega), h.rp, fun hz k hk => h.qp (by rw [List.length_drop] at hz; omega) k (h3 ▸ hk), h.rl⟩
theorem ON.frd (h : ON w wr p r a c qa qc bs wb rest) {n : Nat} {w1 : World} (hr : RP wr r qa rest n w1) : Fr (fun k => k = r) wr w1 := by
  obtain ⟨a', c', h1, h2, h3⟩ := hr
  exact h2
theorem ON.wread (h : ON w wr p r a c qa qc bs wb rest) {n : Nat} {w1 : World} (hr : RP wr r qa rest n w1) : Wr p w1 p a c wb :=
  h.wr_.kept (h.frd hr) (fun e => by have := h.rp; omega) (fun k hk e => by have h1 := (h.wr_.row.lt k hk).1; have := h.rp; omega)
theorem OR.wrote {n : Nat} {w1 : World} (h : OR w w1 p r qa qc (rest.drop n)) {w2 : World} {a' : Option Addr} {c' : Nat} (hw : Wr p w2 p a' c' (wb ++ rest.take n)) (hf : Fr (fun k => k = p ∨ blk a = some k) w1 w2) (hl : (wb ++ rest.take n).length ≤ 1048576) (he : bs = wb ++ rest)
    (hab : ∀ k, blk a = some k → p ≤ k) : ON w w2 p r a' c' qa qc bs (wb ++ rest.take n) (rest.drop n) := by
  have hr := h.rp
  have hl2 := h.rl
  refine ⟨hw, h.rd.kept' hf (fun e => ?_) (fun hz k hk e => ?_), by rw [he, List.append_assoc, List.take_append_drop], hl, h.fr.trans hf (fun i hi e => ?_), h.rp, h.qp, h.rl⟩
  · rcases e with e | e
    · omega
    · have := hab r e; omega
  · have := h.qp hz k hk
    rcases e with e | e
    · omega
    · have := hab k e; omega
  · rcases e with e | e
    · omega
    · have := hab i e; omega
end

theorem hasPrefix_any (a b : Option Addr) (n c m d : Nat) (bs cs r : List UInt8) (w : World) (ha : Sl w a n bs) (hb : Sl w b m cs) (hnc : n ≤ c) (hn : n ≤ 9223372036854775807) (he : bs = cs ++ r) :
    Calls Try.prog 28 #[.slice a n c, .slice b m d] w fun e w' => e = .returned (.bool true) ∧ w = w' := by
  have hl : n = m + r.length := by rw [← ha.1, he, List.length_append, hb.1]
  have hge : (m : Int) ≤ (n : Int) := by omega
  have hle : m ≤ n := by omega
  have ht : Sl w a m cs := by
    have := ha.take m hle
    rw [he, ← hb.1, List.take_left] at this
    rw [hb.1] at this
    exact this
  have kc := fun w => run_cut_hi w a n c m (by omega)
  have K := hid (equal_any a b m c m d cs cs w ht hb)
  rw [decide_eq_true (rfl : cs = cs)] at K
  clear ht hl
  go_enter Try.func28, Try.ntmps28
  go_wp2_with (first | (go_at_call 13; refine K.out.mono ?_; rintro e w' ⟨rfl, rfl⟩))
  go_ret
  exact ⟨rfl, rfl⟩

set_option maxRecDepth 20000 in
set_option maxHeartbeats 6400000 in
theorem wireOne_walk (a0 : Option Addr) (blen bcap : Nat) (bs : List UInt8) (a1 : Option Addr) (len cap : Nat) (ps : List Pt) (w : World) (hb : Sl w a0 blen bs) (hbc : blen ≤ bcap) (hbl : blen ≤ 140737488351232) (h : Ps w a1 len ps) (hm : len ≤ 9223372036854775807) :
    Calls Try.prog 6 #[.slice a0 blen bcap, .slice a1 len cap] w fun e w' => e = .returned (.bool true) ∧ Below w.heap.size w w' := by
  have HBL := hid hb.1
  have K1 := hid (newReader_any a0 blen bcap bs w hb (by omega))
  go_enter Try.func6, Try.ntmps6
  go_wp2_with fail
  refine K1.out.mono ?_
  rintro e w1 ⟨r, qa0, qc0, rfl, hr1, f1, hrl, hqal⟩
  have HR1 := hid hr1
  have F1 := hid f1
  have HRL0 := hid hrl
  clear hr1 f1 hrl hqal K1
  go_wp2_with fail
  refine (newWriter_any _).mono ?_
  rintro e w2 ⟨rfl, hw2, f2⟩
  obtain ⟨p, hp⟩ : ∃ p, w1.heap.size = p := ⟨_, rfl⟩
  rw [hp] at hw2 ⊢
  have HQP : Hid (0 < bs.length → ∀ k, blk qa0 = some k → k < p) := hid (fun hz k hk => by rw [← hp]; exact HR1.out.sl.lt hz k hk)
  have HRP0 : Hid (r < p) := hid (by rw [← hp]; exact lt_of_row HR1.out.at_)
  have HR2 := hid (HR1.out.kept f2 (fun h => h) (fun _ _ h => h))
  have HW2 := hid hw2
  have F2 := hid (F1.out.trans f2 (fun _ _ h => h))
  clear hw2 f2 hp HR1 F1
  go_wp2_with fail
  refine (live_any _).mono ?_
  rintro e w3 ⟨rfl, f3⟩
  have HR3 := hid (HR2.out.kept f3 (fun h => h) (fun _ _ h => h))
  have HW3 := hid (HW2.out.kept f3 (fun h => h) (fun _ _ h => h))
  have F3 := hid (F2.out.trans f3 (fun _ _ h => h))
  clear f3 HR2 HW2 F2
  have HON0 : Hid (ON w w3 p r none 0 qa0 qc0 bs [] bs) := hid ⟨HW3.out, HR3.out, rfl, by simp, F3.out, HRP0.out, HQP.out, HRL0.out⟩
  clear HR3 HW3 F3 HQP HRP0 HRL0
  go_wp2
  go_loopw [34] (fun i wr => ∃ (j : Nat) (a : Option Addr) (c : Nat) (qa : Option Addr) (qc : Nat) (wb rest : List UInt8), j ≤ len ∧ i = .int .i64 j ∧ ON w wr p r a c qa qc bs wb rest) (fun i _ => len - (intOf i).toNat)
  case atStart => exact ⟨0, none, 0, qa0, qc0, [], bs, by omega, rfl, HON0.out⟩
  case round =>
    clear HON0
    obtain ⟨j, a, c, qa, qc, wb, rest, hj, rfl, hon⟩ := hrel
    by_cases hjlt : j < len
    · obtain ⟨b, off, q, rfl, g0, g1, g2, hq⟩ := h.part hon.fr hjlt
      obtain ⟨kd, n, A, L, C, qb⟩ := q
      simp only at g0 g1 g2
      have HON := hid (hon.alloc (.cells #[.int .i64 kd, .int .i64 n, .slice A L C] 28))
      have KL := hid (rLeft_any _ r qa qc rest HON.out.rd)
      have KN := hid (wLen_any p _ p a c wb HON.out.wr_)
      obtain ⟨rl, hrl⟩ : ∃ rl, rest.length = rl := ⟨_, rfl⟩
      obtain ⟨wl, hwl⟩ : ∃ wl, wb.length = wl := ⟨_, rfl⟩
      rw [hrl] at KL
      rw [hwl] at KN
      have HRL := hid hrl
      have HWL := hid hwl
      have hrlm : rl ≤ 200000000000000 := by have := HON.out.rd.mx; rw [hrl] at this; exact this
      have hwlm : wl ≤ 1048576 := by have := HON.out.len; rw [hwl] at this; exact this
      clear hon hq hrl hwl
      by_cases e0 : kd = 0
      · subst e0
        have hsz := M.takeI_size rest
        have K := rInt_any (wr.alloc (.cells #[.int .i64 0, .int .i64 n, .slice A L C] 28)) r qa qc rest HON.out.rd
        obtain ⟨t1, t2, t3, ht⟩ : ∃ t1 t2 t3, M.takeI rest = (t1, t2, t3) := ⟨_, _, _, rfl⟩
        have herr := M.takeI_err rest
        rw [ht] at K hsz herr
        simp only at K hsz herr
        have HK := hid K
        have HT := hid ht
        have ht2m : t2 ≤ rl := by have := HRL.out; omega
        clear K ht 
        by_cases h3 : t3 = 0
        · subst h3
          have hadd : M.enc (M.fd t1) = rest.take t2 := (M.takeI_one rest t1 t2 HT.out).1
          have HADD := hid hadd
          have HR := hid (M.takeI_one rest t1 t2 HT.out).2
          clear hadd herr
          go_wp2_with (first | (go_at_call 23; refine KL.out.mono ?_; rintro e w5 ⟨rfl, rfl⟩) | (go_at_call 12; refine KN.out.mono ?_; rintro e w5 ⟨rfl, rfl⟩) | (go_at_call 16; refine HK.out.mono ?_; rintro e w1 ⟨rfl, hr⟩; have HRP := hid hr; clear hr))
          have hst := HON.out.read HRP.out
          have hfr1 := HON.out.frd HRP.out
          obtain ⟨qa', qc', hon1⟩ := hst
          have KW := wInt_any p w1 p a c wb (HON.out.wread HRP.out) t1 HR.out.1 HR.out.2 (Nat.le_trans (Nat.le_of_lt (lt_of_row HON.out.wr_.at_)) hfr1.size) HON.out.len
          rw [HADD.out] at KW
          have HKW := hid KW
          have HON1 := hid hon1
          clear KW hon1 HK g0 g1 g2
          go_wp2_with fail
          refine HKW.out.mono ?_
          intro e w2 hwp
          have htl : (rest.take t2).length = t2 := by rw [List.length_take]; omega
          rcases hwp with ⟨hlong, rfl, hf2, hw2⟩ | ⟨hok, rfl, a', c', hw2, hf2, hb2⟩
          · have hbig : (1048576 : Int) < (blen : Int) := by
              have e1 := HON.out.eq
              have e2 : bs.length = wb.length + rest.length := by rw [e1, List.length_append]
              rw [htl] at hlong
              rw [HBL.out] at e2
              omega
            have F2 := hid (HON1.out.fr.trans hf2 (fun _ _ h => h))
            clear hlong hf2 hw2
            go_wp2
            go_ret
            exact ⟨rfl, F2.out.below (Nat.le_refl _) (fun _ _ h => h)⟩
          · have hon2 := HON1.out.wrote hw2 hf2 (by rw [htl] at hok; rw [List.length_append, htl]; exact hok) HON.out.eq (fun k hk => (HON.out.wr_.row.lt k hk).1)
            have KL2 := hid (rLeft_any w2 r qa' qc' (rest.drop t2) hon2.rd)
            have KN2 := hid (wLen_any p w2 p a' c' (wb ++ rest.take t2) hon2.wr_)
            rw [List.length_drop, HRL.out] at KL2
            rw [List.length_append, htl, HWL.out] at KN2
            have HON2 := hid hon2
            have hsub : ((rl - t2 : Nat) : Int) = (rl : Int) - (t2 : Int) := by have := HRL.out; omega
            have hadd2 : ((wl + t2 : Nat) : Int) = (wl : Int) + (t2 : Int) := by omega
            rw [hsub] at KL2
            rw [hadd2] at KN2
            have heqt : ((rl : Int) - ((rl : Int) - (t2 : Int)) != (wl : Int) + (t2 : Int) - (wl : Int)) = false := by simp; omega
            clear hok hw2 hf2 hb2 hon2 hsub hadd2 htl
            go_wp2_with (first | (go_at_call 23; refine KL2.out.mono ?_; rintro e w5 ⟨rfl, rfl⟩) | (go_at_call 12; refine KN2.out.mono ?_; rintro e w5 ⟨rfl, rfl⟩))
            go_roundw
            case rel => first | exact ⟨j + 1, a', c', qa', qc', _, _, by omega, by go_num, HON2.out⟩ | ((repeat apply Exists.intro); exact ⟨⟨j + 1, a', c', qa', qc', _, _, by omega, by go_num, HON2.out⟩, rfl⟩)
            case measure => simp [intOf]; omega
        · have h3' : (t3 == 0) = false := by simpa using h3
          have ht2 := (herr h3).2
          subst ht2
          clear h3 herr
          go_wp2_with (first | (go_at_call 23; refine KL.out.mono ?_; rintro e w5 ⟨rfl, rfl⟩) | (go_at_call 12; refine KN.out.mono ?_; rintro e w5 ⟨rfl, rfl⟩) | (go_at_call 16; refine HK.out.mono ?_; rintro e w1 ⟨rfl, hr⟩; have HRP := hid hr; clear hr))
          have hst := HON.out.read HRP.out
          rw [List.drop_zero] at hst
          obtain ⟨qa', qc', hon1⟩ := hst
          have hw1 := HON.out.wread HRP.out
          have hon2 : ON w w1 p r a c qa' qc' bs wb rest := ⟨hw1, hon1.rd, HON.out.eq, HON.out.len, hon1.fr, hon1.rp, hon1.qp, hon1.rl⟩
          have KL2 := hid (rLeft_any w1 r qa' qc' rest hon2.rd)
          have KN2 := hid (wLen_any p w1 p a c wb hon2.wr_)
          rw [HRL.out] at KL2
          rw [HWL.out] at KN2
          have HON2 := hid hon2
          clear hon1 hon2 hw1 HK g0 g1 g2
          go_wp2_with (first | (go_at_call 23; refine KL2.out.mono ?_; rintro e w5 ⟨rfl, rfl⟩) | (go_at_call 12; refine KN2.out.mono ?_; rintro e w5 ⟨rfl, rfl⟩))
          go_roundw
          case rel => first | exact ⟨j + 1, a, c, qa', qc', _, _, by omega, by go_num, HON2.out⟩ | ((repeat apply Exists.intro); exact ⟨⟨j + 1, a, c, qa', qc', _, _, by omega, by go_num, HON2.out⟩, rfl⟩)
          case measure => simp [intOf]; omega
      · by_cases e1 : kd = 1
        · subst e1
          have hsz := M.takeB_size rest
          have hle1 := M.takeB_le rest
          have K := rBytes_any (wr.alloc (.cells #[.int .i64 1, .int .i64 n, .slice A L C] 28)) r qa qc rest HON.out.rd
          obtain ⟨t1, t2, t3, ht⟩ : ∃ t1 t2 t3, M.takeB rest = (t1, t2, t3) := ⟨_, _, _, rfl⟩
          have herr := M.takeB_err rest
          rw [ht] at K hsz herr hle1
          simp only at K hsz herr hle1
          have HX1 := hid hle1
          clear hle1
          have HK := hid K
          have HT := hid ht
          have ht2m : t2 ≤ rl := by have := HRL.out; omega
          clear K ht 
          by_cases h3 : t3 = 0
          · subst h3
            have hadd : encB t1 = rest.take t2 := M.takeB_one rest t1 t2 HT.out
            have HADD := hid hadd
            clear hadd herr
            go_wp2_with (first | (go_at_call 23; refine KL.out.mono ?_; rintro e w5 ⟨rfl, rfl⟩) | (go_at_call 12; refine KN.out.mono ?_; rintro e w5 ⟨rfl, rfl⟩) | (go_at_call 18; refine HK.out.mono ?_; rintro e w1 ⟨xa, xc, rfl, hx, hr⟩; have HRP := hid hr; have HX := hid hx; clear hr hx))
            have hst := HON.out.read HRP.out
            have hfr1 := HON.out.frd HRP.out
            obtain ⟨qa', qc', hon1⟩ := hst
            have KW := wBytes_any p w1 p a c wb (HON.out.wread HRP.out) xa t1.length xc t1 HX.out.sl (fun hz i hi e => by have h1 := (HX.out.lt i hi).1; have h2 := (HON.out.wr_.row.lt i e).2; omega) (Nat.le_trans (Nat.le_of_lt (lt_of_row HON.out.wr_.at_)) hfr1.size) (by have h1 := HX1.out; have h2 := HON.out.rd.mx; omega) HON.out.len
            rw [HADD.out] at KW
            have HKW := hid KW
            have HON1 := hid hon1
            clear KW hon1 HK g0 g1 g2
            go_wp2_with fail
            refine HKW.out.mono ?_
            intro e w2 hwp
            have htl : (rest.take t2).length = t2 := by rw [List.length_take]; omega
            rcases hwp with ⟨hlong, rfl, hf2, hw2⟩ | ⟨hok, rfl, a', c', hw2, hf2, hb2⟩
            · have hbig : (1048576 : Int) < (blen : Int) := by
                have e1 := HON.out.eq
                have e2 : bs.length = wb.length + rest.length := by rw [e1, List.length_append]
                rw [htl] at hlong
                rw [HBL.out] at e2
                omega
              have F2 := hid (HON1.out.fr.trans hf2 (fun _ _ h => h))
              clear hlong hf2 hw2
              go_wp2
              go_ret
              exact ⟨rfl, F2.out.below (Nat.le_refl _) (fun _ _ h => h)⟩
            · have hon2 := HON1.out.wrote hw2 hf2 (by rw [htl] at hok; rw [List.length_append, htl]; exact hok) HON.out.eq (fun k hk => (HON.out.wr_.row.lt k hk).1)
              have KL2 := hid (rLeft_any w2 r qa' qc' (rest.drop t2) hon2.rd)
              have KN2 := hid (wLen_any p w2 p a' c' (wb ++ rest.take t2) hon2.wr_)
              rw [List.length_drop, HRL.out] at KL2
              rw [List.length_append, htl, HWL.out] at KN2
              have HON2 := hid hon2
              have hsub : ((rl - t2 : Nat) : Int) = (rl : Int) - (t2 : Int) := by have := HRL.out; omega
              have hadd2 : ((wl + t2 : Nat) : Int) = (wl : Int) + (t2 : Int) := by omega
              rw [hsub] at KL2
              rw [hadd2] at KN2
              have heqt : ((rl : Int) - ((rl : Int) - (t2 : Int)) != (wl : Int) + (t2 : Int) - (wl : Int)) = false := by simp; omega
              clear hok hw2 hf2 hb2 hon2 hsub hadd2 htl
              go_wp2_with (first | (go_at_call 23; refine KL2.out.mono ?_; rintro e w5 ⟨rfl, rfl⟩) | (go_at_call 12; refine KN2.out.mono ?_; rintro e w5 ⟨rfl, rfl⟩))
              go_roundw
              case rel => first | exact ⟨j + 1, a', c', qa', qc', _, _, by omega, by go_num, HON2.out⟩ | ((repeat apply Exists.intro); exact ⟨⟨j + 1, a', c', qa', qc', _, _, by omega, by go_num, HON2.out⟩, rfl⟩)
              case measure => simp [intOf]; omega
          · have h3' : (t3 == 0) = false := by simpa using h3
            have ht2 := (herr h3).2
            subst ht2
            clear h3 herr
            go_wp2_with (first | (go_at_call 23; refine KL.out.mono ?_; rintro e w5 ⟨rfl, rfl⟩) | (go_at_call 12; refine KN.out.mono ?_; rintro e w5 ⟨rfl, rfl⟩) | (go_at_call 18; refine HK.out.mono ?_; rintro e w1 ⟨xa, xc, rfl, hx, hr⟩; have HRP := hid hr; have HX := hid hx; clear hr hx))
            have hst := HON.out.read HRP.out
            rw [List.drop_zero] at hst
            obtain ⟨qa', qc', hon1⟩ := hst
            have hw1 := HON.out.wread HRP.out
            have hon2 : ON w w1 p r a c qa' qc' bs wb rest := ⟨hw1, hon1.rd, HON.out.eq, HON.out.len, hon1.fr, hon1.rp, hon1.qp, hon1.rl⟩
            have KL2 := hid (rLeft_any w1 r qa' qc' rest hon2.rd)
            have KN2 := hid (wLen_any p w1 p a c wb hon2.wr_)
            rw [HRL.out] at KL2
            rw [HWL.out] at KN2
            have HON2 := hid hon2
            clear hon1 hon2 hw1 HK g0 g1 g2
            go_wp2_with (first | (go_at_call 23; refine KL2.out.mono ?_; rintro e w5 ⟨rfl, rfl⟩) | (go_at_call 12; refine KN2.out.mono ?_; rintro e w5 ⟨rfl, rfl⟩))
            go_roundw
            case rel => first | exact ⟨j + 1, a, c, qa', qc', _, _, by omega, by go_num, HON2.out⟩ | ((repeat apply Exists.intro); exact ⟨⟨j + 1, a, c, qa', qc', _, _, by omega, by go_num, HON2.out⟩, rfl⟩)
            case measure => simp [intOf]; omega
        · by_cases e2 : kd = 2
          · subst e2
            have hsz := M.takeB_size rest
            have hle1 := M.takeB_le rest
            have K := rBytes_any (wr.alloc (.cells #[.int .i64 2, .int .i64 n, .slice A L C] 28)) r qa qc rest HON.out.rd
            obtain ⟨t1, t2, t3, ht⟩ : ∃ t1 t2 t3, M.takeB rest = (t1, t2, t3) := ⟨_, _, _, rfl⟩
            have herr := M.takeB_err rest
            rw [ht] at K hsz herr hle1
            simp only at K hsz herr hle1
            have HX1 := hid hle1
            clear hle1
            have HK := hid K
            have HT := hid ht
            have ht2m : t2 ≤ rl := by have := HRL.out; omega
            clear K ht 
            by_cases h3 : t3 = 0
            · subst h3
              have hadd : encB t1 = rest.take t2 := M.takeB_one rest t1 t2 HT.out
              have HADD := hid hadd
              clear hadd herr
              go_wp2_with (first | (go_at_call 23; refine KL.out.mono ?_; rintro e w5 ⟨rfl, rfl⟩) | (go_at_call 12; refine KN.out.mono ?_; rintro e w5 ⟨rfl, rfl⟩) | (go_at_call 18; refine HK.out.mono ?_; rintro e w1 ⟨xa, xc, rfl, hx, hr⟩; have HRP := hid hr; have HX := hid hx; clear hr hx))
              have hst := HON.out.read HRP.out
              have hfr1 := HON.out.frd HRP.out
              obtain ⟨qa', qc', hon1⟩ := hst
              have KW := wBytes_any p w1 p a c wb (HON.out.wread HRP.out) xa t1.length xc t1 HX.out.sl (fun hz i hi e => by have h1 := (HX.out.lt i hi).1; have h2 := (HON.out.wr_.row.lt i e).2; omega) (Nat.le_trans (Nat.le_of_lt (lt_of_row HON.out.wr_.at_)) hfr1.size) (by have h1 := HX1.out; have h2 := HON.out.rd.mx; omega) HON.out.len
              rw [HADD.out] at KW
              have HKW := hid KW
              have HON1 := hid hon1
              clear KW hon1 HK g0 g1 g2
              go_wp2_with fail
              refine HKW.out.mono ?_
              intro e w2 hwp
              have htl : (rest.take t2).length = t2 := by rw [List.length_take]; omega
              rcases hwp with ⟨hlong, rfl, hf2, hw2⟩ | ⟨hok, rfl, a', c', hw2, hf2, hb2⟩
              · have hbig : (1048576 : Int) < (blen : Int) := by
                  have e1 := HON.out.eq
                  have e2 : bs.length = wb.length + rest.length := by rw [e1, List.length_append]
                  rw [htl] at hlong
                  rw [HBL.out] at e2
                  omega
                have F2 := hid (HON1.out.fr.trans hf2 (fun _ _ h => h))
                clear hlong hf2 hw2
                go_wp2
                go_ret
                exact ⟨rfl, F2.out.below (Nat.le_refl _) (fun _ _ h => h)⟩
              · have hon2 := HON1.out.wrote hw2 hf2 (by rw [htl] at hok; rw [List.length_append, htl]; exact hok) HON.out.eq (fun k hk => (HON.out.wr_.row.lt k hk).1)
                have KL2 := hid (rLeft_any w2 r qa' qc' (rest.drop t2) hon2.rd)
                have KN2 := hid (wLen_any p w2 p a' c' (wb ++ rest.take t2) hon2.wr_)
                rw [List.length_drop, HRL.out] at KL2
                rw [List.length_append, htl, HWL.out] at KN2
                have HON2 := hid hon2
                have hsub : ((rl - t2 : Nat) : Int) = (rl : Int) - (t2 : Int) := by have := HRL.out; omega
                have hadd2 : ((wl + t2 : Nat) : Int) = (wl : Int) + (t2 : Int) := by omega
                rw [hsub] at KL2
                rw [hadd2] at KN2
                have heqt : ((rl : Int) - ((rl : Int) - (t2 : Int)) != (wl : Int) + (t2 : Int) - (wl : Int)) = false := by simp; omega
                clear hok hw2 hf2 hb2 hon2 hsub hadd2 htl
                go_wp2_with (first | (go_at_call 23; refine KL2.out.mono ?_; rintro e w5 ⟨rfl, rfl⟩) | (go_at_call 12; refine KN2.out.mono ?_; rintro e w5 ⟨rfl, rfl⟩))
                go_roundw
                case rel => first | exact ⟨j + 1, a', c', qa', qc', _, _, by omega, by go_num, HON2.out⟩ | ((repeat apply Exists.intro); exact ⟨⟨j + 1, a', c', qa', qc', _, _, by omega, by go_num, HON2.out⟩, rfl⟩)
                case measure => simp [intOf]; omega
            · have h3' : (t3 == 0) = false := by simpa using h3
              have ht2 := (herr h3).2
              subst ht2
              clear h3 herr
              go_wp2_with (first | (go_at_call 23; refine KL.out.mono ?_; rintro e w5 ⟨rfl, rfl⟩) | (go_at_call 12; refine KN.out.mono ?_; rintro e w5 ⟨rfl, rfl⟩) | (go_at_call 18; refine HK.out.mono ?_; rintro e w1 ⟨xa, xc, rfl, hx, hr⟩; have HRP := hid hr; have HX := hid hx; clear hr hx))
              have hst := HON.out.read HRP.out
              rw [List.drop_zero] at hst
              obtain ⟨qa', qc', hon1⟩ := hst
              have hw1 := HON.out.wread HRP.out
              have hon2 : ON w w1 p r a c qa' qc' bs wb rest := ⟨hw1, hon1.rd, HON.out.eq, HON.out.len, hon1.fr, hon1.rp, hon1.qp, hon1.rl⟩
              have KL2 := hid (rLeft_any w1 r qa' qc' rest hon2.rd)
              have KN2 := hid (wLen_any p w1 p a c wb hon2.wr_)
              rw [HRL.out] at KL2
              rw [HWL.out] at KN2
              have HON2 := hid hon2
              clear hon1 hon2 hw1 HK g0 g1 g2
              go_wp2_with (first | (go_at_call 23; refine KL2.out.mono ?_; rintro e w5 ⟨rfl, rfl⟩) | (go_at_call 12; refine KN2.out.mono ?_; rintro e w5 ⟨rfl, rfl⟩))
              go_roundw
              case rel => first | exact ⟨j + 1, a, c, qa', qc', _, _, by omega, by go_num, HON2.out⟩ | ((repeat apply Exists.intro); exact ⟨⟨j + 1, a, c, qa', qc', _, _, by omega, by go_num, HON2.out⟩, rfl⟩)
              case measure => simp [intOf]; omega
          · have k0 : (kd == 0) = false := by simpa using e0
            have k1 : (kd == 1) = false := by simpa using e1
            have k2 : (kd == 2) = false := by simpa using e2
            have hsz := M.takeF_size rest
            have K := rFlag_any (wr.alloc (.cells #[.int .i64 kd, .int .i64 n, .slice A L C] 28)) r qa qc rest HON.out.rd
            obtain ⟨t1, t2, t3, ht⟩ : ∃ t1 t2 t3, M.takeF rest = (t1, t2, t3) := ⟨_, _, _, rfl⟩
            have herr := M.takeF_err rest
            rw [ht] at K hsz herr
            simp only at K hsz herr
            have HK := hid K
            have HT := hid ht
            have ht2m : t2 ≤ rl := by have := HRL.out; omega
            clear K ht e0 e1 e2
            by_cases h3 : t3 = 0
            · subst h3
              have hadd : M.enc (M.fd (if t1 then 1 else 0)) = rest.take t2 := M.takeF_one rest t1 t2 HT.out
              have HADD := hid hadd
              clear hadd herr
              go_wp2_with (first | (go_at_call 23; refine KL.out.mono ?_; rintro e w5 ⟨rfl, rfl⟩) | (go_at_call 12; refine KN.out.mono ?_; rintro e w5 ⟨rfl, rfl⟩) | (go_at_call 21; refine HK.out.mono ?_; rintro e w1 ⟨rfl, hr⟩; have HRP := hid hr; clear hr))
              have hst := HON.out.read HRP.out
              have hfr1 := HON.out.frd HRP.out
              obtain ⟨qa', qc', hon1⟩ := hst
              have KW := wFlag_any p w1 p a c wb (HON.out.wread HRP.out) t1 (Nat.le_trans (Nat.le_of_lt (lt_of_row HON.out.wr_.at_)) hfr1.size) HON.out.len
              rw [HADD.out] at KW
              have HKW := hid KW
              have HON1 := hid hon1
              clear KW hon1 HK g0 g1 g2
              go_wp2_with fail
              refine HKW.out.mono ?_
              intro e w2 hwp
              have htl : (rest.take t2).length = t2 := by rw [List.length_take]; omega
              rcases hwp with ⟨hlong, rfl, hf2, hw2⟩ | ⟨hok, rfl, a', c', hw2, hf2, hb2⟩
              · have hbig : (1048576 : Int) < (blen : Int) := by
                  have e1 := HON.out.eq
                  have e2 : bs.length = wb.length + rest.length := by rw [e1, List.length_append]
                  rw [htl] at hlong
                  rw [HBL.out] at e2
                  omega
                have F2 := hid (HON1.out.fr.trans hf2 (fun _ _ h => h))
                clear hlong hf2 hw2
                go_wp2
                go_ret
                exact ⟨rfl, F2.out.below (Nat.le_refl _) (fun _ _ h => h)⟩
              · have hon2 := HON1.out.wrote hw2 hf2 (by rw [htl] at hok; rw [List.length_append, htl]; exact hok) HON.out.eq (fun k hk => (HON.out.wr_.row.lt k hk).1)
                have KL2 := hid (rLeft_any w2 r qa' qc' (rest.drop t2) hon2.rd)
                have KN2 := hid (wLen_any p w2 p a' c' (wb ++ rest.take t2) hon2.wr_)
                rw [List.length_drop, HRL.out] at KL2
                rw [List.length_append, htl, HWL.out] at KN2
                have HON2 := hid hon2
                have hsub : ((rl - t2 : Nat) : Int) = (rl : Int) - (t2 : Int) := by have := HRL.out; omega
                have hadd2 : ((wl + t2 : Nat) : Int) = (wl : Int) + (t2 : Int) := by omega
                rw [hsub] at KL2
                rw [hadd2] at KN2
                have heqt : ((rl : Int) - ((rl : Int) - (t2 : Int)) != (wl : Int) + (t2 : Int) - (wl : Int)) = false := by simp; omega
                clear hok hw2 hf2 hb2 hon2 hsub hadd2 htl
                go_wp2_with (first | (go_at_call 23; refine KL2.out.mono ?_; rintro e w5 ⟨rfl, rfl⟩) | (go_at_call 12; refine KN2.out.mono ?_; rintro e w5 ⟨rfl, rfl⟩))
                go_roundw
                case rel => first | exact ⟨j + 1, a', c', qa', qc', _, _, by omega, by go_num, HON2.out⟩ | ((repeat apply Exists.intro); exact ⟨⟨j + 1, a', c', qa', qc', _, _, by omega, by go_num, HON2.out⟩, rfl⟩)
                case measure => simp [intOf]; omega
            · have h3' : (t3 == 0) = false := by simpa using h3
              have ht2 := (herr h3).2
              subst ht2
              clear h3 herr
              go_wp2_with (first | (go_at_call 23; refine KL.out.mono ?_; rintro e w5 ⟨rfl, rfl⟩) | (go_at_call 12; refine KN.out.mono ?_; rintro e w5 ⟨rfl, rfl⟩) | (go_at_call 21; refine HK.out.mono ?_; rintro e w1 ⟨rfl, hr⟩; have HRP := hid hr; clear hr))
              have hst := HON.out.read HRP.out
              rw [List.drop_zero] at hst
              obtain ⟨qa', qc', hon1⟩ := hst
              have hw1 := HON.out.wread HRP.out
              have hon2 : ON w w1 p r a c qa' qc' bs wb rest := ⟨hw1, hon1.rd, HON.out.eq, HON.out.len, hon1.fr, hon1.rp, hon1.qp, hon1.rl⟩
              have KL2 := hid (rLeft_any w1 r qa' qc' rest hon2.rd)
              have KN2 := hid (wLen_any p w1 p a c wb hon2.wr_)
              rw [HRL.out] at KL2
              rw [HWL.out] at KN2
              have HON2 := hid hon2
              clear hon1 hon2 hw1 HK g0 g1 g2
              go_wp2_with (first | (go_at_call 23; refine KL2.out.mono ?_; rintro e w5 ⟨rfl, rfl⟩) | (go_at_call 12; refine KN2.out.mono ?_; rintro e w5 ⟨rfl, rfl⟩))
              go_roundw
              case rel => first | exact ⟨j + 1, a, c, qa', qc', _, _, by omega, by go_num, HON2.out⟩ | ((repeat apply Exists.intro); exact ⟨⟨j + 1, a, c, qa', qc', _, _, by omega, by go_num, HON2.out⟩, rfl⟩)
              case measure => simp [intOf]; omega
    · have K := wOut_any p wr p a c wb hon.wr_ hon.len
      have HON := hid hon
      obtain ⟨wl, hwl⟩ : ∃ wl, wb.length = wl := ⟨_, rfl⟩
      rw [hwl] at K
      have HWL := hid hwl
      have HK := hid K
      clear hon K hwl
      go_wp2_with fail
      refine HK.out.mono ?_
      rintro e w4 ⟨oa, oc, rfl, ho, f4⟩
      have F4 := hid (HON.out.fr.trans f4 (fun _ _ h => h))
      have ho' : Sl w4 oa wl wb := by have := ho.sl; rw [HWL.out] at this; exact this
      have KP := hid (hasPrefix_any a0 oa blen bcap wl oc bs wb rest w4 (hb.kept F4.out (fun _ _ _ h => h)) ho' hbc (by omega) HON.out.eq)
      clear ho f4 ho' HK
      go_wp2_with fail
      refine KP.out.mono ?_
      rintro e w5 ⟨rfl, rfl⟩
      go_wp2
      go_ret
      exact ⟨rfl, F4.out.below (Nat.le_refl _) (fun _ _ h => h)⟩
end Go.Proofs.Ytilliicanbbjkaa

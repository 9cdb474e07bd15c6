/-
  WireHeads, the walk: a beginning of what was written ends too early, and is nothing else.
-/
import Derived.Test.YtilliicanbbjkabBacks
namespace Go.Proofs.Ytilliicanbbjkab
open Go.RowKit
set_option linter.unusedVariables false

set_option maxRecDepth 20000 in
set_option maxHeartbeats 3200000 in
theorem wireHeads_walk (a0 : Option Addr) (len cap : Nat) (ps : List Pt) (ct : Nat) (w : World) (h : Ps w a0 len ps) (hm : len ≤ 9223372036854775807) (hct : ct ≤ 65535) :
    Calls Try.prog 6 #[.slice a0 len cap, .int .u16 (ct : Nat)] w fun e w' => e = .returned (.bool true) ∧ Below w.heap.size w w' := by
  obtain ⟨i0, hi, hz0, hz1, hz2⟩ := info_parts infoP
  have HI : Hid (Try.prog.info? 61 = some i0 ∧ i0.zero = some (.agg #[.int .i64 0, .int .i64 0, .slice none 0 0]) ∧ i0.size = 3 ∧ i0.bytes = 40) := hid ⟨hi, hz0, hz1, hz2⟩
  clear hi hz0 hz1 hz2
  go_enter Try.func6, Try.ntmps6
  go_wp2_with fail
  refine (newWriter_any _).mono ?_
  rintro e w1 ⟨rfl, hw1, f1⟩
  obtain ⟨p, hp⟩ : ∃ p, p = w.heap.size := ⟨_, rfl⟩
  rw [← hp] at hw1 ⊢
  have HW1 := hid hw1
  have F1 := hid f1
  have HP := hid hp
  clear hw1 f1 hp
  go_wp2_with fail
  refine (live_any _).mono ?_
  rintro e w2 ⟨rfl, f2⟩
  have HTH : Hid (TH w p w2 none 0 (.slice none 0 0) []) := hid ⟨HW1.out.kept f2 (fun h => h) (fun _ _ h => h), World.ownsRow_nil _ _ _ _, fun k hk => by simp [Value.ownBlock] at hk, F1.out.trans f2 (fun _ _ h => h), by simp [encs], fun q hq => by simp at hq⟩
  clear f2 HW1 F1
  go_wp2
  go_loopw [6, 26] (fun t i wr => ∃ (k : Nat) (a : Option Addr) (c : Nat) (va : Option Addr) (vc : Nat) (qs : List Rp), k ≤ len ∧ i = .int .i64 k ∧ t = .slice va qs.length vc ∧ TH w p wr a c (.slice va qs.length vc) qs) (fun _ i _ => len - (intOf i).toNat)
  case atStart => exact ⟨0, none, 0, none, 0, [], by omega, rfl, rfl, HTH.out⟩
  case round =>
    obtain ⟨k, a, c, va, vc, qs, hk, rfl, rfl, hth⟩ := hrel
    have hql : qs.length ≤ 1048576 := Nat.le_trans (encs_len w qs hth.ok) hth.len
    obtain ⟨qn, hqn⟩ : ∃ qn, qs.length = qn := ⟨_, rfl⟩
    have HQN := hid hqn
    rw [hqn] at hql hth ⊢
    clear hqn
    by_cases hlt : k < len
    · obtain ⟨b, off, q, rfl, q0, q1, q2, hq⟩ := h.part hth.fr hlt
      have hpp : w.heap.size ≤ p := Nat.le_of_eq HP.out.symm
      have K := hid (put_part hth hpp q hq (.cells #[.int .i64 q.k, .int .i64 q.n, .slice q.A q.L q.C] 61))
      have HTH := hid hth
      have HQ := hid hq
      have hvl : ∀ k, (Value.slice va qn vc).ownBlock = some k → p ≤ k := fun k hk => (hth.row.lt k hk).1
      have HVL := hid hvl
      obtain ⟨kd, hkd⟩ : ∃ kd, q.k = kd := ⟨_, rfl⟩
      obtain ⟨n, hn⟩ : ∃ n, q.n = n := ⟨_, rfl⟩
      obtain ⟨A, hA⟩ : ∃ A, q.A = A := ⟨_, rfl⟩
      obtain ⟨L, hL⟩ : ∃ L, q.L = L := ⟨_, rfl⟩
      obtain ⟨C, hC⟩ : ∃ C, q.C = C := ⟨_, rfl⟩
      have HCS : Hid (q.cells = [.int .i64 kd, .int .i64 n, .slice A L C]) := hid (by unfold Rp.cells; rw [hkd, hn, hA, hL, hC])
      rw [hkd] at q0 K
      rw [hn] at q1 K
      rw [hA, hL, hC] at q2 K
      clear hth hq hvl hkd hn hA hL hC
      go_wp2_with fail
      refine K.out.mono ?_
      rintro e w3 ⟨ra, rl, rc, er, rfl, hcase⟩
      clear K q0 q1 q2
      rcases hcase with ⟨rfl, hth3, hbox⟩ | ⟨rfl, a', c', hw3, hl3, hrow3, hfr3, hne3, hbox⟩
      · have HT3 := hid hth3
        clear hth3 hbox
        go_wp2
        go_roundw
        case rel => exact ⟨k + 1, a, c, va, vc, qs, by omega, by go_num, by rw [HQN.out], by rw [HQN.out]; exact HT3.out⟩
        case measure => simp [intOf]; omega
      · have b0 : w3.cell? ⟨wr.heap.size, 0, none⟩ = some (.int .i64 kd) := by rw [cell_of_row _ _ _ _ _ _ hbox]; rfl
        have b1 : w3.cell? ⟨wr.heap.size, 1, none⟩ = some (.int .i64 n) := by rw [cell_of_row _ _ _ _ _ _ hbox]; rfl
        have b2 : w3.cell? ⟨wr.heap.size, 2, none⟩ = some (.slice A L C) := by rw [cell_of_row _ _ _ _ _ _ hbox]; rfl
        have hpl3 := lt_of_row hw3.at_
        have HW3 := hid hw3
        have HL3 := hid hl3
        have HR3 := hid hrow3
        have HF3 := hid hfr3
        have HN3 := hid hne3
        clear hbox hw3 hl3 hrow3 hfr3 hne3
        go_wp2_with (at_builtin; refine wpList_append_own_at _ rfl (.tmp 38) (.tmp 40) 59 rfl p 61 i0 (.agg #[.int .i64 0, .int .i64 0, .slice none 0 0]) 3 40 Try.underlying59 HI.out.1 HI.out.2.1 HI.out.2.2.1 HI.out.2.2.2 rfl (by omega) (.slice va qn vc) qn (cellsR qs) rfl (by have := HR3.out.alloc; rw [HQN.out] at this; exact this _) ⟨w3.heap.size, 0, none⟩ 1 1 [.int .i64 kd, .int .i64 n, .slice A L C] rfl rfl ?c1 ?c2 (by unfold maxLen; omega) (by omega) (by simp; omega) ?_)
        case c1 =>
          intro j u hj
          rw [Addr.add_lit, Nat.zero_add, cell_of_row _ _ _ _ _ _ (Go.heap_alloc_new w3 _)]
          match j, hj with
          | 0, hj => simpa using hj
          | 1, hj => simpa using hj
          | 2, hj => simpa using hj
        case c2 =>
          intro u hu
          simp at hu
          rcases hu with rfl | rfl | rfl <;> rfl
        · intro v' w4 hown hgb _ hat
          obtain ⟨va', vc', rfl⟩ := owns_shape hown
          have HT4 := hid (HTH.out.next (Nat.le_of_eq HP.out.symm) HQ.out HW3.out HF3.out HN3.out HL3.out (by rw [HCS.out, HQN.out]; exact hown) hgb (by rw [size_al]; exact hat) HVL.out)
          clear hown hgb hat b0 b1 b2
          go_wp2
          go_roundw
          case rel => exact ⟨k + 1, a', c', va', vc', qs ++ [q], by omega, by go_num, by rw [List.length_append, HQN.out]; rfl, by rw [List.length_append, HQN.out]; exact HT4.out⟩
          case measure => simp [intOf]; omega
    · have HTH := hid hth
      have K := wOut_any p wr p a c (encs qs) hth.wr_ hth.len
      have hel := hth.len
      obtain ⟨el, hel'⟩ : ∃ el, (encs qs).length = el := ⟨_, rfl⟩
      rw [hel'] at K hel
      have HEL := hid hel'
      have HK := hid K
      clear hth K hel'
      go_wp2_with fail
      refine HK.out.mono ?_
      rintro e w3 ⟨oa, oc, rfl, ho, f3⟩
      have ho' : Sl w3 oa el (encs qs) := by have := ho.sl; rw [HEL.out] at this; exact this
      have hoc : el ≤ oc := by have := ho.len; rw [HEL.out] at this; exact this
      have HR3 := hid (HTH.out.row_kept f3 (fun _ _ h => h))
      have F3 := hid (HTH.out.fr.trans f3 (fun _ _ h => h))
      have HOK := hid HTH.out.ok
      clear ho f3 HK
      by_cases hz : el = 0
      · have hz' : ((el : Int) == 0) = true := by simp; omega
        clear hz
        go_wp2
        go_ret
        exact ⟨rfl, F3.out.below (Nat.le_refl _) (fun _ _ h => h)⟩
      · have hz' : ((el : Int) == 0) = false := by simp; omega
        have hmod : ct % el < el := Nat.mod_lt _ (by omega)
        have hpos : (0 : Int) < (el : Int) := by omega
        have kcut := fun w => run_cut_hi' w oa el oc (ct % el) (by omega) ((ct : Int) % (el : Int)) (by omega)
        have K4 := newReader_any oa (ct % el) oc ((encs qs).take (ct % el)) w3 (ho'.take (ct % el) (by omega)) (by omega)
        obtain ⟨cut, hcut⟩ : ∃ cut, ct % el = cut := ⟨_, rfl⟩
        rw [hcut] at K4 hmod kcut
        have HK4 := hid K4
        clear hz K4 ho' hcut
        go_wp2_with fail
        refine HK4.out.mono ?_
        rintro e w4 ⟨r, qa, qc, rfl, hr4, f4, hrl, hqal⟩
        have HRow4 := hid (show w4.ownsRow p 61 3 (.slice va qn vc) qs.length (cellsR qs) from by
          obtain ⟨h1, h2⟩ := HR3.out
          refine ⟨h1, ?_⟩
          rcases h2 with h2 | ⟨g, cap, cur, e, hg, hh, rr⟩
          · exact .inl h2
          · exact .inr ⟨g, cap, cur, e, hg, f4.cells hh (fun h => h), rr⟩)
        have HBK : Hid (BK w p w4 r qa qc (.slice va qn vc) qs ((encs qs).take cut)) := hid ⟨hr4, HRow4.out, F3.out.trans f4 (fun _ _ h => h), Nat.le_trans F3.out.size hrl, fun k hk e => by have h1 := (HR3.out.lt k hk).2; omega⟩
        clear hr4 f4 hrl hqal HK4 HR3 F3 HRow4 HTH kcut
        go_wp2
        go_loopw [59] (fun i wr => ∃ (j : Nat) (qa : Option Addr) (qc : Nat) (m : Nat), j ≤ qn ∧ i = .int .i64 j ∧ m < (encs (qs.drop j)).length ∧ BK w p wr r qa qc (.slice va qn vc) qs ((encs (qs.drop j)).take m)) (fun i _ => qn - (intOf i).toNat)
        case atStart => exact ⟨0, qa, qc, cut, by omega, rfl, by rw [List.drop_zero, HEL.out]; exact hmod, by simpa using HBK.out⟩
        case round =>
          clear HBK
          obtain ⟨j, qa, qc, m, hj, rfl, hm', hbk⟩ := hrel
          by_cases hjlt : j < qn
          · obtain ⟨g, vcap, q, hv, hqj, g0, g1, g2⟩ := TH.at (w := w) (p := p) hbk.row (i := j) (by rw [HQN.out]; exact hjlt)
            simp only [Value.slice.injEq] at hv
            obtain ⟨rfl, hqq, rfl⟩ := hv
            clear hqq
            have hqok := HOK.out q (List.mem_of_getElem? hqj)
            have hd := encs_drop qs j q hqj
            have HBK := hid (hbk.alloc (.cells #[.int .i64 q.k, .int .i64 q.n, .slice q.A q.L q.C] 61))
            rw [hd] at HBK hm'
            obtain ⟨rest, hrest⟩ : ∃ rest, encs (qs.drop (j + 1)) = rest := ⟨_, rfl⟩
            rw [hrest] at HBK hm'
            have HREST := hid hrest
            have HQOK := hid hqok
            have HM := hid hm'
            obtain ⟨kd, n, A, L, C, bs⟩ := q
            simp only at g0 g1 g2 HBK
            clear hbk hqok hd hrest hqj hm'
            by_cases e0 : kd = 0
            · subst e0
              have hen : (Rp.enc ⟨0, n, A, L, C, bs⟩) = M.enc (M.fd n) := by simp [Rp.enc, partEnc]
              rw [hen] at HBK HM
              clear hen 
              by_cases hin : m < (M.enc (M.fd n)).length
              · have ht : (M.enc (M.fd n) ++ rest).take m = (M.enc (M.fd n)).take m := List.take_append_of_le_length (by omega)
                rw [ht] at HBK
                have K := rInt_any (wr.alloc (.cells #[.int .i64 0, .int .i64 n, .slice A L C] 61)) r qa qc ((M.enc (M.fd n)).take m) HBK.out.rd
                rw [M.takeI_head n m HQOK.out.2.2.2.1 HQOK.out.2.2.2.2 hin] at K
                simp only at K
                have HK := hid K
                clear K ht hin
                go_wp2_with fail
                refine HK.out.mono ?_
                rintro e w1 ⟨rfl, hr⟩
                have hf := (HBK.out.step hr).2
                have F1 := hid (HBK.out.fr.trans hf (fun i hi e => by have := HBK.out.rl; omega))
                clear hr hf HK g0 g1 g2
                go_wp2
                go_ret
                exact ⟨rfl, F1.out.below (Nat.le_refl _) (fun _ _ h => h)⟩
              · have ht : (M.enc (M.fd n) ++ rest).take m = M.enc (M.fd n) ++ rest.take (m - (M.enc (M.fd n)).length) := by rw [List.take_append, List.take_of_length_le (by omega)]
                rw [ht] at HBK
                have K := rInt_any (wr.alloc (.cells #[.int .i64 0, .int .i64 n, .slice A L C] 61)) r qa qc (M.enc (M.fd n) ++ rest.take (m - (M.enc (M.fd n)).length)) HBK.out.rd
                rw [M.takeI_enc n _ HQOK.out.2.2.2.1 HQOK.out.2.2.2.2] at K
                simp only at K
                have HK := hid K
                have hm2 : m - (M.enc (M.fd n)).length < rest.length := by have := HM.out; rw [List.length_append] at this; omega
                have HM2 := hid hm2
                clear K ht hin hm2
                go_wp2_with fail
                refine HK.out.mono ?_
                rintro e w1 ⟨rfl, hr⟩
                obtain ⟨⟨qa', qc', hb1⟩, hf1⟩ := HBK.out.step hr
                rw [List.drop_left] at hb1
                have HB1 := hid hb1
                clear hr hb1 hf1 HK g0 g1 g2
                go_wp2
                go_roundw
                case rel => first | exact ⟨j + 1, qa', qc', _, by omega, by go_num, by rw [HREST.out]; exact HM2.out, by rw [HREST.out]; exact HB1.out⟩ | ((repeat apply Exists.intro); exact ⟨⟨j + 1, qa', qc', _, by omega, by go_num, by rw [HREST.out]; exact HM2.out, by rw [HREST.out]; exact HB1.out⟩, rfl⟩)
                case measure => simp [intOf]; omega
            · by_cases e1 : kd = 1
              · subst e1
                have hen : (Rp.enc ⟨1, n, A, L, C, bs⟩) = encB bs := by simp [Rp.enc, partEnc]
                rw [hen] at HBK HM
                clear hen 
                by_cases hin : m < (encB bs).length
                · have ht : (encB bs ++ rest).take m = (encB bs).take m := List.take_append_of_le_length (by omega)
                  rw [ht] at HBK
                  have K := rBytes_any (wr.alloc (.cells #[.int .i64 1, .int .i64 n, .slice A L C] 61)) r qa qc ((encB bs).take m) HBK.out.rd
                  rw [takeB_head bs m (by have h1 := HQOK.out.1.1; have h2 := HQOK.out.2.2.1; simp only at h1 h2; omega) hin] at K
                  simp only at K
                  have HK := hid K
                  clear K ht hin
                  go_wp2_with fail
                  refine HK.out.mono ?_
                  rintro e w1 ⟨xa, xc, rfl, hx, hr⟩
                  have hf := (HBK.out.step hr).2
                  have F1 := hid (HBK.out.fr.trans hf (fun i hi e => by have := HBK.out.rl; omega))
                  clear hr hf HK g0 g1 g2
                  go_wp2
                  go_ret
                  exact ⟨rfl, F1.out.below (Nat.le_refl _) (fun _ _ h => h)⟩
                · have ht : (encB bs ++ rest).take m = encB bs ++ rest.take (m - (encB bs).length) := by rw [List.take_append, List.take_of_length_le (by omega)]
                  rw [ht] at HBK
                  have K := rBytes_any (wr.alloc (.cells #[.int .i64 1, .int .i64 n, .slice A L C] 61)) r qa qc (encB bs ++ rest.take (m - (encB bs).length)) HBK.out.rd
                  rw [takeB_enc bs _ (by have h1 := HQOK.out.1.1; have h2 := HQOK.out.2.2.1; simp only at h1 h2; omega)] at K
                  simp only at K
                  have HK := hid K
                  have hm2 : m - (encB bs).length < rest.length := by have := HM.out; rw [List.length_append] at this; omega
                  have HM2 := hid hm2
                  clear K ht hin hm2
                  go_wp2_with fail
                  refine HK.out.mono ?_
                  rintro e w1 ⟨xa, xc, rfl, hx, hr⟩
                  obtain ⟨⟨qa', qc', hb1⟩, hf1⟩ := HBK.out.step hr
                  rw [List.drop_left] at hb1
                  have HB1 := hid hb1
                  clear hr hb1 hf1 HK g0 g1 g2
                  go_wp2
                  go_roundw
                  case rel => first | exact ⟨j + 1, qa', qc', _, by omega, by go_num, by rw [HREST.out]; exact HM2.out, by rw [HREST.out]; exact HB1.out⟩ | ((repeat apply Exists.intro); exact ⟨⟨j + 1, qa', qc', _, by omega, by go_num, by rw [HREST.out]; exact HM2.out, by rw [HREST.out]; exact HB1.out⟩, rfl⟩)
                  case measure => simp [intOf]; omega
              · by_cases e2 : kd = 2
                · subst e2
                  have hen : (Rp.enc ⟨2, n, A, L, C, bs⟩) = encB bs := by simp [Rp.enc, partEnc]
                  rw [hen] at HBK HM
                  clear hen 
                  by_cases hin : m < (encB bs).length
                  · have ht : (encB bs ++ rest).take m = (encB bs).take m := List.take_append_of_le_length (by omega)
                    rw [ht] at HBK
                    have K := rBytes_any (wr.alloc (.cells #[.int .i64 2, .int .i64 n, .slice A L C] 61)) r qa qc ((encB bs).take m) HBK.out.rd
                    rw [takeB_head bs m (by have h1 := HQOK.out.1.1; have h2 := HQOK.out.2.2.1; simp only at h1 h2; omega) hin] at K
                    simp only at K
                    have HK := hid K
                    clear K ht hin
                    go_wp2_with fail
                    refine HK.out.mono ?_
                    rintro e w1 ⟨xa, xc, rfl, hx, hr⟩
                    have hf := (HBK.out.step hr).2
                    have F1 := hid (HBK.out.fr.trans hf (fun i hi e => by have := HBK.out.rl; omega))
                    clear hr hf HK g0 g1 g2
                    go_wp2
                    go_ret
                    exact ⟨rfl, F1.out.below (Nat.le_refl _) (fun _ _ h => h)⟩
                  · have ht : (encB bs ++ rest).take m = encB bs ++ rest.take (m - (encB bs).length) := by rw [List.take_append, List.take_of_length_le (by omega)]
                    rw [ht] at HBK
                    have K := rBytes_any (wr.alloc (.cells #[.int .i64 2, .int .i64 n, .slice A L C] 61)) r qa qc (encB bs ++ rest.take (m - (encB bs).length)) HBK.out.rd
                    rw [takeB_enc bs _ (by have h1 := HQOK.out.1.1; have h2 := HQOK.out.2.2.1; simp only at h1 h2; omega)] at K
                    simp only at K
                    have HK := hid K
                    have hm2 : m - (encB bs).length < rest.length := by have := HM.out; rw [List.length_append] at this; omega
                    have HM2 := hid hm2
                    clear K ht hin hm2
                    go_wp2_with fail
                    refine HK.out.mono ?_
                    rintro e w1 ⟨xa, xc, rfl, hx, hr⟩
                    obtain ⟨⟨qa', qc', hb1⟩, hf1⟩ := HBK.out.step hr
                    rw [List.drop_left] at hb1
                    have HB1 := hid hb1
                    clear hr hb1 hf1 HK g0 g1 g2
                    go_wp2
                    go_roundw
                    case rel => first | exact ⟨j + 1, qa', qc', _, by omega, by go_num, by rw [HREST.out]; exact HM2.out, by rw [HREST.out]; exact HB1.out⟩ | ((repeat apply Exists.intro); exact ⟨⟨j + 1, qa', qc', _, by omega, by go_num, by rw [HREST.out]; exact HM2.out, by rw [HREST.out]; exact HB1.out⟩, rfl⟩)
                    case measure => simp [intOf]; omega
                · have k0 : (kd == 0) = false := by simpa using e0
                  have k1 : (kd == 1) = false := by simpa using e1
                  have k2 : (kd == 2) = false := by simpa using e2
                  have hen : (Rp.enc ⟨kd, n, A, L, C, bs⟩) = M.enc (M.fd (if 0 < n then 1 else 0)) := by simp [Rp.enc, partEnc, e0, e1, e2]
                  rw [hen] at HBK HM
                  clear hen e0 e1 e2
                  by_cases hin : m < (M.enc (M.fd (if 0 < n then 1 else 0))).length
                  · have ht : (M.enc (M.fd (if 0 < n then 1 else 0)) ++ rest).take m = (M.enc (M.fd (if 0 < n then 1 else 0))).take m := List.take_append_of_le_length (by omega)
                    rw [ht] at HBK
                    have K := rFlag_any (wr.alloc (.cells #[.int .i64 kd, .int .i64 n, .slice A L C] 61)) r qa qc ((M.enc (M.fd (if 0 < n then 1 else 0))).take m) HBK.out.rd
                    rw [takeF_head n m hin] at K
                    simp only at K
                    have HK := hid K
                    clear K ht hin
                    go_wp2_with fail
                    refine HK.out.mono ?_
                    rintro e w1 ⟨rfl, hr⟩
                    have hf := (HBK.out.step hr).2
                    have F1 := hid (HBK.out.fr.trans hf (fun i hi e => by have := HBK.out.rl; omega))
                    clear hr hf HK g0 g1 g2
                    go_wp2
                    go_ret
                    exact ⟨rfl, F1.out.below (Nat.le_refl _) (fun _ _ h => h)⟩
                  · have ht : (M.enc (M.fd (if 0 < n then 1 else 0)) ++ rest).take m = M.enc (M.fd (if 0 < n then 1 else 0)) ++ rest.take (m - (M.enc (M.fd (if 0 < n then 1 else 0))).length) := by rw [List.take_append, List.take_of_length_le (by omega)]
                    rw [ht] at HBK
                    have K := rFlag_any (wr.alloc (.cells #[.int .i64 kd, .int .i64 n, .slice A L C] 61)) r qa qc (M.enc (M.fd (if 0 < n then 1 else 0)) ++ rest.take (m - (M.enc (M.fd (if 0 < n then 1 else 0))).length)) HBK.out.rd
                    rw [takeF_enc n _] at K
                    simp only at K
                    have HK := hid K
                    have hm2 : m - (M.enc (M.fd (if 0 < n then 1 else 0))).length < rest.length := by have := HM.out; rw [List.length_append] at this; omega
                    have HM2 := hid hm2
                    clear K ht hin hm2
                    go_wp2_with fail
                    refine HK.out.mono ?_
                    rintro e w1 ⟨rfl, hr⟩
                    obtain ⟨⟨qa', qc', hb1⟩, hf1⟩ := HBK.out.step hr
                    rw [List.drop_left] at hb1
                    have HB1 := hid hb1
                    clear hr hb1 hf1 HK g0 g1 g2
                    go_wp2
                    go_roundw
                    case rel => first | exact ⟨j + 1, qa', qc', _, by omega, by go_num, by rw [HREST.out]; exact HM2.out, by rw [HREST.out]; exact HB1.out⟩ | ((repeat apply Exists.intro); exact ⟨⟨j + 1, qa', qc', _, by omega, by go_num, by rw [HREST.out]; exact HM2.out, by rw [HREST.out]; exact HB1.out⟩, rfl⟩)
                    case measure => simp [intOf]; omega
          · have hz : encs (qs.drop j) = [] := by rw [List.drop_of_length_le (by rw [HQN.out]; omega)]; rfl
            rw [hz] at hm'
            simp at hm'
theorem wireHeads_any (a0 : Option Addr) (len cap : Nat) (ps : List Pt) (n : Int) (w : World) (h : Ps w a0 len ps) (hm : len ≤ 9223372036854775807) (hn : (Lit.int .u16 n).wf = true) :
    Calls Try.prog 6 #[.slice a0 len cap, .int .u16 n] w fun e w' => e = .returned (.bool true) ∧ Below w.heap.size w w' := by
  have hb : 0 ≤ n ∧ n ≤ 65535 := by simpa [Lit.wf, IntKind.min, IntKind.max, IntKind.signed, IntKind.bits] using hn
  obtain ⟨m, rfl⟩ : ∃ m : Nat, n = (m : Int) := ⟨n.toNat, by omega⟩
  exact wireHeads_walk a0 len cap ps m w h hm (by omega)
end Go.Proofs.Ytilliicanbbjkab

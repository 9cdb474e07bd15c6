/-
  WireBack, the walk: what was put is read, part by part, and nothing is left.
-/
import Derived.Test.YtilliicanbbjkaaBacks
namespace Go.Proofs.Ytilliicanbbjkaa
open Go.RowKit
set_option linter.unusedVariables false

set_option maxRecDepth 20000 in
set_option maxHeartbeats 3200000 in
theorem wireBack_walk (a0 : Option Addr) (len cap : Nat) (ps : List Pt) (w : World) (h : Ps w a0 len ps) (hm : len ≤ 9223372036854775807) :
    Calls Try.prog 5 #[.slice a0 len cap] w fun e w' => e = .returned (.bool true) ∧ Below w.heap.size w w' := by
  obtain ⟨i0, hi, hz0, hz1, hz2⟩ := info_parts infoP
  have HI : Hid (Try.prog.info? 28 = some i0 ∧ i0.zero = some (.agg #[.int .i64 0, .int .i64 0, .slice none 0 0]) ∧ i0.size = 3 ∧ i0.bytes = 40) := hid ⟨hi, hz0, hz1, hz2⟩
  clear hi hz0 hz1 hz2
  go_enter Try.func5, Try.ntmps5
  go_wp2_with fail
  refine (newWriter_any _).mono ?_
  rintro e w1 ⟨rfl, hw1, f1⟩
  obtain ⟨p, hp⟩ : ∃ p, p = w.heap.size := ⟨_, rfl⟩
  rw [← hp] at hw1 ⊢
  have HW1 := hid hw1
  have F1 := hid f1
  have HP := hid hp
  clear hw1 f1 hp
  go_wp2_with fail
  refine (live_any _).mono ?_
  rintro e w2 ⟨rfl, f2⟩
  have HTH : Hid (TH w p w2 none 0 (.slice none 0 0) []) := hid ⟨HW1.out.kept f2 (fun h => h) (fun _ _ h => h), World.ownsRow_nil _ _ _ _, fun k hk => by simp [Value.ownBlock] at hk, F1.out.trans f2 (fun _ _ h => h), by simp [encs], fun q hq => by simp at hq⟩
  clear f2 HW1 F1
  go_wp2
  go_loopw [4, 30] (fun t i wr => ∃ (k : Nat) (a : Option Addr) (c : Nat) (va : Option Addr) (vc : Nat) (qs : List Rp), k ≤ len ∧ i = .int .i64 k ∧ t = .slice va qs.length vc ∧ TH w p wr a c (.slice va qs.length vc) qs) (fun _ i _ => len - (intOf i).toNat)
  case atStart => exact ⟨0, none, 0, none, 0, [], by omega, rfl, rfl, HTH.out⟩
  case round =>
    obtain ⟨k, a, c, va, vc, qs, hk, rfl, rfl, hth⟩ := hrel
    have hql : qs.length ≤ 1048576 := Nat.le_trans (encs_len w qs hth.ok) hth.len
    obtain ⟨qn, hqn⟩ : ∃ qn, qs.length = qn := ⟨_, rfl⟩
    have HQN := hid hqn
    rw [hqn] at hql hth ⊢
    clear hqn
    by_cases hlt : k < len
    · obtain ⟨b, off, q, rfl, q0, q1, q2, hq⟩ := h.part hth.fr hlt
      have hpp : w.heap.size ≤ p := Nat.le_of_eq HP.out.symm
      have K := hid (put_part hth hpp q hq (.cells #[.int .i64 q.k, .int .i64 q.n, .slice q.A q.L q.C] 28))
      have HTH := hid hth
      have HQ := hid hq
      have hvl : ∀ k, (Value.slice va qn vc).ownBlock = some k → p ≤ k := fun k hk => (hth.row.lt k hk).1
      have HVL := hid hvl
      obtain ⟨kd, hkd⟩ : ∃ kd, q.k = kd := ⟨_, rfl⟩
      obtain ⟨n, hn⟩ : ∃ n, q.n = n := ⟨_, rfl⟩
      obtain ⟨A, hA⟩ : ∃ A, q.A = A := ⟨_, rfl⟩
      obtain ⟨L, hL⟩ : ∃ L, q.L = L := ⟨_, rfl⟩
      obtain ⟨C, hC⟩ : ∃ C, q.C = C := ⟨_, rfl⟩
      have HCS : Hid (q.cells = [.int .i64 kd, .int .i64 n, .slice A L C]) := hid (by unfold Rp.cells; rw [hkd, hn, hA, hL, hC])
      rw [hkd] at q0 K
      rw [hn] at q1 K
      rw [hA, hL, hC] at q2 K
      clear hth hq hvl hkd hn hA hL hC
      go_wp2_with fail
      refine K.out.mono ?_
      rintro e w3 ⟨ra, rl, rc, er, rfl, hcase⟩
      clear K q0 q1 q2
      rcases hcase with ⟨rfl, hth3, hbox⟩ | ⟨rfl, a', c', hw3, hl3, hrow3, hfr3, hne3, hbox⟩
      · have HT3 := hid hth3
        clear hth3 hbox
        go_wp2
        go_roundw
        case rel => exact ⟨k + 1, a, c, va, vc, qs, by omega, by go_num, by rw [HQN.out], by rw [HQN.out]; exact HT3.out⟩
        case measure => simp [intOf]; omega
      · have b0 : w3.cell? ⟨wr.heap.size, 0, none⟩ = some (.int .i64 kd) := by rw [cell_of_row _ _ _ _ _ _ hbox]; rfl
        have b1 : w3.cell? ⟨wr.heap.size, 1, none⟩ = some (.int .i64 n) := by rw [cell_of_row _ _ _ _ _ _ hbox]; rfl
        have b2 : w3.cell? ⟨wr.heap.size, 2, none⟩ = some (.slice A L C) := by rw [cell_of_row _ _ _ _ _ _ hbox]; rfl
        have hpl3 := lt_of_row hw3.at_
        have HW3 := hid hw3
        have HL3 := hid hl3
        have HR3 := hid hrow3
        have HF3 := hid hfr3
        have HN3 := hid hne3
        clear hbox hw3 hl3 hrow3 hfr3 hne3
        go_wp2_with (at_builtin; refine wpList_append_own_at _ rfl (.tmp 42) (.tmp 44) 22 rfl p 28 i0 (.agg #[.int .i64 0, .int .i64 0, .slice none 0 0]) 3 40 Try.underlying22 HI.out.1 HI.out.2.1 HI.out.2.2.1 HI.out.2.2.2 rfl (by omega) (.slice va qn vc) qn (cellsR qs) rfl (by have := HR3.out.alloc; rw [HQN.out] at this; exact this _) ⟨w3.heap.size, 0, none⟩ 1 1 [.int .i64 kd, .int .i64 n, .slice A L C] rfl rfl ?c1 ?c2 (by unfold maxLen; omega) (by omega) (by simp; omega) ?_)
        case c1 =>
          intro j u hj
          rw [Addr.add_lit, Nat.zero_add, cell_of_row _ _ _ _ _ _ (Go.heap_alloc_new w3 _)]
          match j, hj with
          | 0, hj => simpa using hj
          | 1, hj => simpa using hj
          | 2, hj => simpa using hj
        case c2 =>
          intro u hu
          simp at hu
          rcases hu with rfl | rfl | rfl <;> rfl
        · intro v' w4 hown hgb _ hat
          obtain ⟨va', vc', rfl⟩ := owns_shape hown
          have HT4 := hid (HTH.out.next (Nat.le_of_eq HP.out.symm) HQ.out HW3.out HF3.out HN3.out HL3.out (by rw [HCS.out, HQN.out]; exact hown) hgb (by rw [size_al]; exact hat) HVL.out)
          clear hown hgb hat b0 b1 b2
          go_wp2
          go_roundw
          case rel => exact ⟨k + 1, a', c', va', vc', qs ++ [q], by omega, by go_num, by rw [List.length_append, HQN.out]; rfl, by rw [List.length_append, HQN.out]; exact HT4.out⟩
          case measure => simp [intOf]; omega
    · have HTH := hid hth
      have K := wOut_any p wr p a c (encs qs) hth.wr_ hth.len
      have hel := hth.len
      obtain ⟨el, hel'⟩ : ∃ el, (encs qs).length = el := ⟨_, rfl⟩
      rw [hel'] at K hel
      have HEL := hid hel'
      have HK := hid K
      clear hth K hel'
      go_wp2_with fail
      refine HK.out.mono ?_
      rintro e w3 ⟨oa, oc, rfl, ho, f3⟩
      have ho' : Sl w3 oa el (encs qs) := by have := ho.sl; rw [HEL.out] at this; exact this
      have K4 := hid (newReader_any oa el oc (encs qs) w3 ho' (by omega))
      have HR3 := hid (HTH.out.row_kept f3 (fun _ _ h => h))
      have F3 := hid (HTH.out.fr.trans f3 (fun _ _ h => h))
      clear ho f3 ho' HK
      go_wp2_with fail
      refine K4.out.mono ?_
      rintro e w4 ⟨r, qa, qc, rfl, hr4, f4, hrl, hqal⟩
      have HRow4 := hid (show w4.ownsRow p 28 3 (.slice va qn vc) qs.length (cellsR qs) from by
        obtain ⟨h1, h2⟩ := HR3.out
        refine ⟨h1, ?_⟩
        rcases h2 with h2 | ⟨g, cap, cur, e, hg, hh, rr⟩
        · exact .inl h2
        · exact .inr ⟨g, cap, cur, e, hg, f4.cells hh (fun h => h), rr⟩)
      have HBK : Hid (BK w p w4 r qa qc (.slice va qn vc) qs (encs qs)) := hid ⟨hr4, HRow4.out, F3.out.trans f4 (fun _ _ h => h), Nat.le_trans F3.out.size hrl, fun k hk e => by have h1 := (HR3.out.lt k hk).2; omega⟩
      have HOK := hid HTH.out.ok
      clear hr4 f4 hrl hqal K4 HR3 F3 HRow4 HTH
      go_wp2
      go_loopw [54] (fun i wr => ∃ (j : Nat) (qa : Option Addr) (qc : Nat), j ≤ qn ∧ i = .int .i64 j ∧ BK w p wr r qa qc (.slice va qn vc) qs (encs (qs.drop j))) (fun i _ => qn - (intOf i).toNat)
      case atStart => exact ⟨0, qa, qc, by omega, rfl, by simpa using HBK.out⟩
      case round =>
        clear HBK
        obtain ⟨j, qa, qc, hj, rfl, hbk⟩ := hrel
        by_cases hjlt : j < qn
        · obtain ⟨g, vcap, q, hv, hqj, g0, g1, g2⟩ := TH.at (w := w) (p := p) hbk.row (i := j) (by rw [HQN.out]; exact hjlt)
          simp only [Value.slice.injEq] at hv
          obtain ⟨rfl, hqq, rfl⟩ := hv
          clear hqq
          have hqok := HOK.out q (List.mem_of_getElem? hqj)
          have hd := encs_drop qs j q hqj
          have HBK := hid (hbk.alloc (.cells #[.int .i64 q.k, .int .i64 q.n, .slice q.A q.L q.C] 28))
          rw [hd] at HBK
          obtain ⟨rest, hrest⟩ : ∃ rest, encs (qs.drop (j + 1)) = rest := ⟨_, rfl⟩
          rw [hrest] at HBK
          have HREST := hid hrest
          have HBK0 := hid hbk
          have HQOK := hid hqok
          obtain ⟨kd, n, A, L, C, bs⟩ := q
          simp only at g0 g1 g2 HBK
          clear hbk hqok hd hrest hqj
          by_cases e0 : kd = 0
          · subst e0
            have hen : (Rp.enc ⟨0, n, A, L, C, bs⟩) = M.enc (M.fd n) := by simp [Rp.enc, partEnc]
            rw [hen] at HBK
            have K := rInt_any (wr.alloc (.cells #[.int .i64 0, .int .i64 n, .slice A L C] 28)) r qa qc (M.enc (M.fd n) ++ rest) HBK.out.rd
            rw [M.takeI_enc n rest HQOK.out.2.2.2.1 HQOK.out.2.2.2.2] at K
            simp only at K
            have HK := hid K
            clear hen K
            go_wp2_with fail
            refine HK.out.mono ?_
            rintro e w1 ⟨rfl, hr⟩
            obtain ⟨⟨qa', qc', hb1⟩, hf1⟩ := HBK.out.step hr
            have hbox := HBK0.out.box _ hf1
            rw [List.drop_left] at hb1
            have b1 : w1.cell? ⟨wr.heap.size, 1, none⟩ = some (.int .i64 n) := by rw [cell_of_row _ _ _ _ _ _ hbox]; rfl
            have b2 : w1.cell? ⟨wr.heap.size, 2, none⟩ = some (.slice A L C) := by rw [cell_of_row _ _ _ _ _ _ hbox]; rfl
            have HB1 := hid hb1
            clear hr hb1 hf1 hbox HK g0 g1 g2
            go_wp2
            go_roundw
            case rel => first | exact ⟨j + 1, qa', qc', by omega, by go_num, by rw [HREST.out]; exact HB1.out⟩ | ((repeat apply Exists.intro); exact ⟨⟨j + 1, qa', qc', by omega, by go_num, by rw [HREST.out]; exact HB1.out⟩, rfl⟩)
            case measure => simp [intOf]; omega
          · by_cases e1 : kd = 1
            · subst e1
              have hen : (Rp.enc ⟨1, n, A, L, C, bs⟩) = encB bs := by simp [Rp.enc, partEnc]
              rw [hen] at HBK
              have K := rBytes_any (wr.alloc (.cells #[.int .i64 1, .int .i64 n, .slice A L C] 28)) r qa qc (encB bs ++ rest) HBK.out.rd
              rw [takeB_enc bs rest (by have h1 := HQOK.out.1.1; have h2 := HQOK.out.2.2.1; simp only at h1 h2; omega)] at K
              simp only at K
              have HK := hid K
              clear hen K
              go_wp2_with fail
              refine HK.out.mono ?_
              rintro e w1 ⟨xa, xc, rfl, hx, hr⟩
              obtain ⟨⟨qa', qc', hb1⟩, hf1⟩ := HBK.out.step hr
              have hbox := HBK0.out.box _ hf1
              rw [List.drop_left] at hb1
              have b1 : w1.cell? ⟨wr.heap.size, 1, none⟩ = some (.int .i64 n) := by rw [cell_of_row _ _ _ _ _ _ hbox]; rfl
              have b2 : w1.cell? ⟨wr.heap.size, 2, none⟩ = some (.slice A L C) := by rw [cell_of_row _ _ _ _ _ _ hbox]; rfl
              have HB1 := hid hb1
              have hsb : Sl w1 A L bs := HQOK.out.1.kept hb1.fr (fun _ _ _ h => h)
              have hxs : Sl w1 xa L bs := by have h1 := hx.sl; have h2 := HQOK.out.1.1; simp only at h2; rw [h2] at h1; exact h1
              have KE := hid (equal_any xa A L xc L C bs bs w1 hxs hsb)
              rw [decide_eq_true (rfl : bs = bs)] at KE
              have hbsl : bs.length = L := HQOK.out.1.1
              rw [hbsl]
              clear hsb hxs hx hbsl
              clear hr hb1 hf1 hbox HK g0 g1 g2
              go_wp2_with (first | (go_at_call 13; refine KE.out.mono ?_; rintro e w2 ⟨rfl, rfl⟩))
              go_roundw
              case rel => first | exact ⟨j + 1, qa', qc', by omega, by go_num, by rw [HREST.out]; exact HB1.out⟩ | ((repeat apply Exists.intro); exact ⟨⟨j + 1, qa', qc', by omega, by go_num, by rw [HREST.out]; exact HB1.out⟩, rfl⟩)
              case measure => simp [intOf]; omega
            · by_cases e2 : kd = 2
              · subst e2
                have hen : (Rp.enc ⟨2, n, A, L, C, bs⟩) = encB bs := by simp [Rp.enc, partEnc]
                rw [hen] at HBK
                have K := rText_any (wr.alloc (.cells #[.int .i64 2, .int .i64 n, .slice A L C] 28)) r qa qc (encB bs ++ rest) HBK.out.rd
                rw [takeB_enc bs rest (by have h1 := HQOK.out.1.1; have h2 := HQOK.out.2.2.1; simp only at h1 h2; omega)] at K
                simp only at K
                have HK := hid K
                clear hen K
                go_wp2_with fail
                refine HK.out.mono ?_
                rintro e w1 ⟨rfl, hr⟩
                obtain ⟨⟨qa', qc', hb1⟩, hf1⟩ := HBK.out.step hr
                have hbox := HBK0.out.box _ hf1
                rw [List.drop_left] at hb1
                have b1 : w1.cell? ⟨wr.heap.size, 1, none⟩ = some (.int .i64 n) := by rw [cell_of_row _ _ _ _ _ _ hbox]; rfl
                have b2 : w1.cell? ⟨wr.heap.size, 2, none⟩ = some (.slice A L C) := by rw [cell_of_row _ _ _ _ _ _ hbox]; rfl
                have HB1 := hid hb1
                have hsb : Sl w1 A L bs := HQOK.out.1.kept hb1.fr (fun _ _ _ h => h)
                have kst := run_str w1 A L C bs hsb
                clear hsb
                clear hr hb1 hf1 hbox HK g0 g1 g2
                go_wp2
                go_roundw
                case rel => first | exact ⟨j + 1, qa', qc', by omega, by go_num, by rw [HREST.out]; exact HB1.out⟩ | ((repeat apply Exists.intro); exact ⟨⟨j + 1, qa', qc', by omega, by go_num, by rw [HREST.out]; exact HB1.out⟩, rfl⟩)
                case measure => simp [intOf]; omega
              · have k0 : (kd == 0) = false := by simpa using e0
                have k1 : (kd == 1) = false := by simpa using e1
                have k2 : (kd == 2) = false := by simpa using e2
                have hen : (Rp.enc ⟨kd, n, A, L, C, bs⟩) = M.enc (M.fd (if 0 < n then 1 else 0)) := by simp [Rp.enc, partEnc, e0, e1, e2]
                rw [hen] at HBK
                have K := rFlag_any (wr.alloc (.cells #[.int .i64 kd, .int .i64 n, .slice A L C] 28)) r qa qc (M.enc (M.fd (if 0 < n then 1 else 0)) ++ rest) HBK.out.rd
                rw [takeF_enc n rest] at K
                simp only at K
                have HK := hid K
                clear hen K e0 e1 e2
                go_wp2_with fail
                refine HK.out.mono ?_
                rintro e w1 ⟨rfl, hr⟩
                obtain ⟨⟨qa', qc', hb1⟩, hf1⟩ := HBK.out.step hr
                have hbox := HBK0.out.box _ hf1
                rw [List.drop_left] at hb1
                have b1 : w1.cell? ⟨wr.heap.size, 1, none⟩ = some (.int .i64 n) := by rw [cell_of_row _ _ _ _ _ _ hbox]; rfl
                have b2 : w1.cell? ⟨wr.heap.size, 2, none⟩ = some (.slice A L C) := by rw [cell_of_row _ _ _ _ _ _ hbox]; rfl
                have HB1 := hid hb1
                clear hr hb1 hf1 hbox HK g0 g1 g2
                go_wp2
                go_roundw
                case rel => first | exact ⟨j + 1, qa', qc', by omega, by go_num, by rw [HREST.out]; exact HB1.out⟩ | ((repeat apply Exists.intro); exact ⟨⟨j + 1, qa', qc', by omega, by go_num, by rw [HREST.out]; exact HB1.out⟩, rfl⟩)
                case measure => simp [intOf]; omega
        · have hz : encs (qs.drop j) = [] := by rw [List.drop_of_length_le (by rw [HQN.out]; omega)]; rfl
          rw [hz] at hbk
          have K1 := hid (rEnd_any wr r qa qc [] hbk.rd)
          have K2 := hid (rLeft_any wr r qa qc [] hbk.rd)
          simp only [List.length_nil, if_true] at K1 K2
          have F := hid hbk.fr
          clear hz hbk
          go_wp2_with (first
            | (go_at_call 24; refine K1.out.mono ?_; rintro e w5 ⟨rfl, rfl⟩)
            | (go_at_call 23; refine K2.out.mono ?_; rintro e w5 ⟨rfl, rfl⟩))
          go_ret
          exact ⟨rfl, F.out.below (Nat.le_refl _) (fun _ _ h => h)⟩
end Go.Proofs.Ytilliicanbbjkaa

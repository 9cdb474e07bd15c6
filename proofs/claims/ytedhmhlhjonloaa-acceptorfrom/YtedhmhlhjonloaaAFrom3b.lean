/-
  The document's From: a ballot was promised. (gen/gen_rfrom.py)
-/
import Derived.Test.YtedhmhlhjonloaaAFrom3z
namespace Go.Proofs.Ytedhmhlhjonloaa
open Go.RowKit Go.Maps
set_option linter.unusedVariables false
set_option linter.unusedSimpArgs false

set_option maxHeartbeats 6400000 in
set_option maxRecDepth 20000 in
theorem rfrom_some {E : Nat → Prop} {w : World} {wa : Option Addr} {xs : List El} (h : Ls E w wa xs) (hE : ∀ k, E k → k < w.heap.size) (hl : xs.length ≤ 270000000000) (b1 b2 fs : Int) (c : Nat) (hz : ¬ (b1 = 0 ∧ b2 = 0)) (hok1 : A.okB (b1, b2) = true) (hok2 : A.okS fs = true) :
    Calls Try.prog 19 #[.agg #[.int .i64 b1, .int .i64 b2], .int .i64 fs, .slice wa xs.length c] w fun r w' => Fg w (A.fromAll (b1, b2) fs (xs.map Prod.snd)) r w' := by
  obtain ⟨W, hW⟩ : ∃ W, w.alloc (.cells #[.int .i64 b1, .int .i64 b2] 27) = W := ⟨_, rfl⟩
  have f0 : Fr (fun _ => False) w W := by rw [← hW]; exact Fr.alloc (Fr.refl _ _) _
  have bb : W.heap[w.heap.size]? = some (.cells #[.int .i64 b1, .int .i64 b2] 27 (0, 0)) := by rw [← hW]; exact Go.heap_alloc_new w _
  have c1 : W.cell? ⟨w.heap.size, 0, none⟩ = some (.int .i64 b1) := cellA bb rfl
  have c2 : W.cell? ⟨w.heap.size, 1, none⟩ = some (.int .i64 b2) := cellA bb rfl
  have KC := hid (fun (V : World) => rcheck_any b1 b2 V)
  have KS := hid (fun (V : World) => rslot_any fs V)
  obtain ⟨n, hn⟩ : ∃ n, xs.length = n := ⟨_, rfl⟩
  obtain ⟨R, hR⟩ : ∃ R, A.fromAll (b1, b2) fs (xs.map Prod.snd) = R := ⟨_, rfl⟩
  rw [hR, hn]
  rw [hn] at hl
  unfold A.fromAll at hR
  simp only at hR
  generalize A.okB (b1, b2) = x1 at KC hR hok1
  generalize A.okS fs = x2 at KS hR hok2
  have HH := hid h
  have HE := hid hE
  have F0 := hid f0
  have BB := hid bb
  have HN := hid hn
  have HW := hid hW
  have bad : R = (1, A.new) → ∀ W', Fr (fun _ => False) w W' → Fg w R (.returned (.tuple #[.pointer none, .int .i64 1])) W' := by
    rintro rfl W' fW
    exact ⟨_, rfl, .inl ⟨by simp, rfl⟩, fW⟩
  have BAD := hid bad
  clear h hE f0 bb hn hW bad
  have LDB := hid (fun (V : World) (hf : Fr (fun _ => False) W V) => ball_ld (V := V) (g := w.heap.size) (o := 0) (cellFr hf (fun h => h) c1) (cellFr hf (fun h => h) c2))
  rw [if_pos ⟨.inr hok1, hok2⟩] at hR
  have HR := hid hR
  clear hR
  have hne : ∀ V : World, (binOp .neq 27 (.agg #[.int .i64 b1, .int .i64 b2]) (.agg #[.int .i64 0, .int .i64 0])).run Try.prog V = .ok (.bool true) V := fun V => neqBl hz V
  have NE := hid hne
  generalize hvb : (Value.agg #[.int .i64 b1, .int .i64 b2] : Value) = vb at NE LDB
  try rw [← hvb]
  have HVB := hid hvb
  have HCC := hid (fun (V : World) (hf : Fr (fun _ => False) W V) => And.intro (cellFr hf (fun h => h) c1) (cellFr hf (fun h => h) c2))
  clear hne c1 c2 hvb
  clear hz
  subst hok1 hok2
  go_enter Try.func19, Try.ntmps19
  go_upto_region 1 with fail
  rw [HW.out]
  go_upto_region 3 with (first
    | (refine wpList_load_v (LDB.out _ (Fr.refl _ _)) (by exact ⟨_, rfl, rfl⟩) (by rfl) ?_)
    | (refine wpList_neq_v (NE.out _) (by exact ⟨_, _, _, rfl, rfl, rfl, by rw [← HVB.out]; exact guard_ne (by kernel_rfl) _ _ _ _ _⟩) (by kernel_rfl) ?_)
    | (go_at_call 23; rw [← HVB.out]; refine (KC.out _).mono ?_; rintro e w2 ⟨rfl, f2⟩; have F2 := hid f2; clear f2)
    | (go_at_call 24; refine (KS.out _).mono ?_; rintro e w3 ⟨rfl, rfl⟩))
  have fV := F2.out
  have d0 : w2.cell? ⟨w.heap.size, 0, none⟩ = some (.int .i64 b1) := (HCC.out _ fV).1
  have d1 : w2.cell? ⟨w.heap.size, 1, none⟩ = some (.int .i64 b2) := (HCC.out _ fV).2
  have rg0 : Rg (fun _ => False) (w2.alloc (.cells #[.int .i64 b1, .int .i64 b2, .int .i64 fs, .slice none 0 0] 30)) w2.heap.size ⟨(b1, b2), fs, []⟩ := ⟨fun _ h => h.elim, by simp, none, 0, [], ⟨Go.heap_alloc_new _ _, Ls.nil _ _ _, Nat.le_refl _, rfl, by simp [A.Up], fun h => h⟩⟩
  have RG0 := hid rg0
  have FV := hid (show Fr (fun _ => False) w _ from Fr.alloc (F0.out.trans fV (fun _ _ h => h)) (.cells #[.int .i64 b1, .int .i64 b2, .int .i64 fs, .slice none 0 0] 30))
  have BBV := hid (show _ = _ from (Fr.alloc fV (.cells #[.int .i64 b1, .int .i64 b2, .int .i64 fs, .slice none 0 0] 30)).cells BB.out (fun h => h))
  have HQW := hid (show w.heap.size < w2.heap.size from Nat.lt_of_lt_of_le (lt_of_row BB.out) fV.size)
  clear fV rg0
  go_wp2_with fail
  obtain ⟨q, hq⟩ : ∃ q, w2.heap.size = q := ⟨_, rfl⟩
  rw [hq] at RG0 HQW ⊢
  clear hq d0 d1
  go_loopw [9] (fun i wr => ∃ (k : Nat), k ≤ n ∧ i = .int .i64 k ∧ Hid (∃ J, (∀ k, J k → w.heap.size ≤ k) ∧ Rg J wr q (A.rst ⟨(b1, b2), fs, []⟩ ((xs.map Prod.snd).take k)).2 ∧ (A.rst ⟨(b1, b2), fs, []⟩ ((xs.map Prod.snd).take k)).1 = 0 ∧ Fr (fun _ => False) w wr ∧ wr.heap[w.heap.size]? = some (.cells #[.int .i64 b1, .int .i64 b2] 27 (0, 0)))) (fun i _ => n - (intOf i).toNat)
  case atStart => exact ⟨0, Nat.zero_le _, rfl, hid ⟨_, fun _ h => h.elim, RG0.out, rfl, FV.out, BBV.out⟩⟩
  case round =>
    clear RG0 FV BBV
    obtain ⟨k, hk, rfl, hall⟩ := hrel
    obtain ⟨J, hJw, hrgk, hok0, hfr, hbbk⟩ := hall.out
    have HJW := hid hJw
    clear hJw
    by_cases hlt : k < n
    · obtain ⟨x, hx⟩ : ∃ x, xs[k]? = some x := ⟨_, List.getElem?_eq_getElem (by rw [HN.out]; exact hlt)⟩
      have hls := HH.out.fr hfr
      obtain ⟨g, o, rfl⟩ := hls.some_of (by rw [HN.out]; omega)
      obtain ⟨_, hld, hrs⟩ := hls.whole hx
      have hsn := take_snoc hx
      have hrl := A.rst_pr ⟨(b1, b2), fs, []⟩ ((xs.map Prod.snd).take k)
      obtain ⟨cs, sd⟩ := x
      simp only at hld hrs hsn
      have hz1 := hrs.size
      obtain ⟨V, st, hbV, fV⟩ := box_whole (V := wr.alloc (.cells zS59 79)) (c := cs) (Go.heap_alloc_new wr _) (by rw [hz1]; rfl) (by rw [hz1]; kernel_rfl) hrs.one
      have fW : Fr (fun _ => False) wr V := (Fr.alloc (Fr.refl (fun _ => False) wr) _).trans fV (fun i hi e => by omega)
      have hst2 : A.rst ⟨(b1, b2), fs, []⟩ ((xs.map Prod.snd).take (k + 1)) = A.restore (A.rst ⟨(b1, b2), fs, []⟩ ((xs.map Prod.snd).take k)).2 sd := by rw [hsn, A.rst_snoc, if_pos hok0]
      have hbbV := fW.cells hbbk (fun h => h)
      obtain ⟨_, _, _, _, _, _, _, e0, e1, e2, _⟩ := hrs.parts
      have HCV := hid (fun (V' : World) (hf : Fr (fun _ => False) V V') => show V'.cell? ⟨wr.heap.size, 0, none⟩ = some (.int .i64 sd.slot) ∧ V'.cell? ⟨wr.heap.size, 1, none⟩ = some (.int .i64 sd.bl.1) ∧ V'.cell? ⟨wr.heap.size, 2, none⟩ = some (.int .i64 sd.bl.2) ∧ V'.cell? ⟨w.heap.size, 0, none⟩ = some (.int .i64 b1) ∧ V'.cell? ⟨w.heap.size, 1, none⟩ = some (.int .i64 b2) from
        ⟨cellA (hf.cells hbV (fun h => h)) e0, cellA (hf.cells hbV (fun h => h)) e1, cellA (hf.cells hbV (fun h => h)) e2, cellA (hf.cells hbbV (fun h => h)) rfl, cellA (hf.cells hbbV (fun h => h)) rfl⟩)
      obtain ⟨ak, hak⟩ : ∃ a, (A.rst ⟨(b1, b2), fs, []⟩ ((xs.map Prod.snd).take k)).2 = a := ⟨_, rfl⟩
      rw [hak] at hrgk hst2 hrl
      have hrgV := hrgk.fr fW
      have hpr : ak.pr = (b1, b2) := hrl.1
      have hfs : ak.fs = fs := hrl.2.1
      have hlen : ak.l.length ≤ 270000000000 := by have := hrl.2.2; rw [List.length_take] at this; simp only [List.length_nil] at this; omega
      have LDV := hid (fun (V' : World) (hf : Fr (fun _ => False) V V') => load_whole (ty := 79) (hf.cells hbV (fun h => h)) Try.underlying79 rfl (by rw [hz1]; kernel_rfl))
      have LD := hid hld
      have ST := hid st
      have FW := hid (hfr.trans fW (fun _ _ h => h))
      have HRS := hid (hrs.kept fW (fun _ _ h => h))
      have HRG := hid hrgV
      have HLEN := hid hlen
      have HBV := hid hbbV
      have i0 : (0 : Int) ≤ (k : Int) := by omega
      have i1 : (k : Int) < (n : Int) := by omega
      have HALL := hid (show A.rst ⟨(b1, b2), fs, []⟩ (xs.map Prod.snd) = A.rst ⟨(b1, b2), fs, []⟩ ((xs.map Prod.snd).take (k + 1) ++ (xs.map Prod.snd).drop (k + 1)) by rw [List.take_append_drop])
      have HST2 := hid hst2
      have K1 := hid (fun (V : World) => rslot_any sd.slot V)
      have K3 := hid (fun (V : World) => rcheck_any sd.bl.1 sd.bl.2 V)
      have K4 := hid (fun (V : World) => rcompare_any sd.bl.1 sd.bl.2 b1 b2 V)
      have hcg := A.cmp_gt (a := (sd.bl.1, sd.bl.2)) (b := (b1, b2))
      unfold A.restore at hst2
      rw [hfs, hpr] at hst2
      change _ = (if A.okS sd.slot = true ∧ fs ≤ sd.slot ∧ A.okB (sd.bl.1, sd.bl.2) = true ∧ A.le (sd.bl.1, sd.bl.2) (b1, b2) = true then _ else _) at hst2
      generalize A.cmp (sd.bl.1, sd.bl.2) (b1, b2) = cc at K4 hcg
      generalize A.okS sd.slot = y1 at K1 hst2
      generalize A.okB (sd.bl.1, sd.bl.2) = y3 at K3 hst2
      generalize A.le (sd.bl.1, sd.bl.2) (b1, b2) = y4 at hcg hst2
      obtain ⟨v0, v1, v2, v3, v4⟩ := HCV.out V (Fr.refl _ _)
      have errs : ∀ (e : Int) (W' : World), e ≠ 0 → (A.rst ⟨(b1, b2), fs, []⟩ ((xs.map Prod.snd).take (k + 1))).1 = e → Fr (fun _ => False) w W' → Fg w R (.returned (.tuple #[.pointer none, .int .i64 e])) W' := by
        intro e W' he h1 fW'
        have hRR : R.1 = e := by rw [← HR.out, HALL.out, A.rst_err (by rw [h1]; exact he), h1]
        exact ⟨_, by rw [hRR], .inl ⟨by rw [hRR]; exact he, rfl⟩, fW'⟩
      have ERRS := hid errs
      clear hx hls hld hrs hsn hrl st hbV fV fW hrgk hok0 hfr hbbk hall hrgV hbbV e0 e1 e2 hpr hfs hlen errs hak
      by_cases hg : y1 = true ∧ fs ≤ sd.slot ∧ y3 = true ∧ y4 = true
      · rw [if_pos hg] at hst2
        obtain ⟨rfl, hfs2, rfl, rfl⟩ := hg
        have hlt2 : ¬ sd.slot < fs := by omega
        have hcc : ¬ 0 < cc := fun h => by have := hcg.1 h; cases this
        obtain ⟨hJ2, hq2, qa, qc, ys, rf2⟩ := HRG.out
        have hyl := rf2.len
        have KA := hid (fun (V' : World) (hf : Fr (fun _ => False) V V') => rat_any (rf2.kept hf (fun h => h) (fun _ _ h => h)) (fun i hi => Nat.lt_of_lt_of_le (hJ2 i hi) hf.size) (by have := HLEN.out; omega) sd.slot)
        have KP := hid (fun (V' : World) (hf : Fr (fun _ => False) V V') => rput_any (rf2.kept hf (fun h => h) (fun _ _ h => h)) (fun i hi => Nat.lt_of_lt_of_le (hJ2 i hi) hf.size) (Nat.lt_of_lt_of_le hq2 hf.size) (by have := HLEN.out; omega) (HRS.out.kept hf (fun _ _ h => h)))
        generalize (A.get sd.slot ak.l).isSome = y5 at KA hst2
        generalize (A.get sd.slot ak.l).getD A.zsd = yz at KA
        have HS3 := hid hst2
        clear hst2 hJ2 hq2 rf2 hyl hcg
        go_wp2_with (first
          | (refine wpList_load_v LD.out (by exact ⟨_, rfl, rfl⟩) (by kernel_rfl) ?_)
          | (refine wpList_store_v (by exact ST.out) (by exact ⟨_, _, rfl, rfl, rfl⟩) (by kernel_rfl) ?_)
          | (go_at_call 24; refine (K1.out _).mono ?_; rintro e w3 ⟨rfl, rfl⟩)
          | (go_at_call 23; refine (K3.out _).mono ?_; rintro e w4 ⟨rfl, f4⟩; obtain ⟨u0, u1, u2, u3, u4⟩ := HCV.out w4 f4; have F4 := hid f4; clear f4)
          | (go_at_call 22; refine (K4.out _).mono ?_; rintro e w5 ⟨rfl, f5⟩; have F5 := hid (F4.out.trans f5 (fun _ _ h => h)); obtain ⟨t0, t1, t2, t3, t4⟩ := HCV.out w5 F5.out; clear f5))
        refine (KA.out _ F5.out).mono ?_
        rintro e w6 ⟨cs6, rfl, hr6, f6⟩
        have hz6 := hr6.size
        obtain ⟨V6, st6, hb6, fv6⟩ := box_whole (V := w6.alloc (.cells zS59 79)) (c := cs6) (Go.heap_alloc_new w6 _) (by rw [hz6]; rfl) (by rw [hz6]; kernel_rfl) hr6.one
        have g6 : Fr (fun _ => False) V V6 := (F5.out.trans f6 (fun _ _ h => h)).trans ((Fr.alloc (Fr.refl (fun _ => False) w6) _).trans fv6 (fun i hi e => by omega)) (fun _ _ h => h)
        have ST6 := hid st6
        have G6 := hid g6
        have LD6 := hid (LDV.out _ g6)
        clear hr6 f6 st6 hb6 fv6 g6
        cases y5 with
        | true =>
          simp at HS3
          go_wp2_with (first
            | (refine wpList_store_v (by exact ST6.out) (by exact ⟨_, _, rfl, rfl, rfl⟩) (by kernel_rfl) ?_))
          go_ret2
          exact ERRS.out 5 _ (by omega) (by rw [HS3.out]) (FW.out.trans G6.out (fun _ _ h => h))
        | false =>
          simp at HS3
          have KP6 := hid (KP.out _ G6.out)
          go_wp2_with (first
            | (refine wpList_store_v (by exact ST6.out) (by exact ⟨_, _, rfl, rfl, rfl⟩) (by kernel_rfl) ?_)
            | (refine wpList_load_v LD6.out (by exact ⟨_, rfl, rfl⟩) (by kernel_rfl) ?_)
            | (go_at_call 49; refine KP6.out.mono ?_; rintro e w7 ⟨rfl, hrg7, f7⟩; have RG7 := hid hrg7; have F7 := hid f7; clear hrg7 f7))
          have hqw := HQW.out
          have FIN := hid (show ∃ J, (∀ k, J k → w.heap.size ≤ k) ∧ Rg J w7 q (A.rst ⟨(b1, b2), fs, []⟩ ((xs.map Prod.snd).take (k + 1))).2 ∧ (A.rst ⟨(b1, b2), fs, []⟩ ((xs.map Prod.snd).take (k + 1))).1 = 0 ∧ Fr (fun _ => False) w w7 ∧ w7.heap[w.heap.size]? = some (.cells #[.int .i64 b1, .int .i64 b2] 27 (0, 0)) from
            ⟨Nw J V6 w7, fun k hk => Or.elim hk (HJW.out k) (fun h => by have h1 := (FW.out.trans G6.out (fun _ _ h => h)).size; have h2 := h.1; omega), by rw [HS3.out]; exact RG7.out, by rw [HS3.out], (FW.out.trans G6.out (fun _ _ h => h)).trans F7.out (fun i hi e => by omega), F7.out.cells (G6.out.cells HBV.out (fun h => h)) (fun e => by omega)⟩)
          go_roundw
          case rel => exact ⟨k + 1, by omega, by first | go_num | trivial, FIN⟩
          case measure => simp [intOf]; omega
      · rw [if_neg hg] at hst2
        have HS3 := hid (show (A.rst ⟨(b1, b2), fs, []⟩ ((xs.map Prod.snd).take (k + 1))).1 = 1 by rw [hst2])
        have hcs : y1 = false ∨ (y1 = true ∧ sd.slot < fs) ∨ (y1 = true ∧ ¬ sd.slot < fs ∧ y3 = false) ∨ (y1 = true ∧ ¬ sd.slot < fs ∧ y3 = true ∧ 0 < cc) := by
          cases y1
          · exact .inl rfl
          · refine .inr ?_
            by_cases h1 : sd.slot < fs
            · exact .inl ⟨rfl, h1⟩
            · refine .inr ?_
              cases y3
              · exact .inl ⟨rfl, h1, rfl⟩
              · refine .inr ⟨rfl, h1, rfl, ?_⟩
                cases y4
                · exact hcg.2 rfl
                · exact absurd ⟨rfl, by omega, rfl, rfl⟩ hg
        clear hst2 hg hcg
        rcases hcs with rfl | ⟨rfl, h1⟩ | ⟨rfl, h1, rfl⟩ | ⟨rfl, h1, rfl, h2⟩
        all_goals
          go_wp2_with (first
            | (refine wpList_load_v LD.out (by exact ⟨_, rfl, rfl⟩) (by kernel_rfl) ?_)
            | (refine wpList_store_v (by exact ST.out) (by exact ⟨_, _, rfl, rfl, rfl⟩) (by kernel_rfl) ?_)
            | (go_at_call 24; refine (K1.out _).mono ?_; rintro e w3 ⟨rfl, rfl⟩)
            | (go_at_call 23; refine (K3.out _).mono ?_; rintro e w4 ⟨rfl, f4⟩; obtain ⟨u0, u1, u2, u3, u4⟩ := HCV.out w4 f4; have F4 := hid f4; clear f4)
            | (go_at_call 22; refine (K4.out _).mono ?_; rintro e w5 ⟨rfl, f5⟩; have F5 := hid (F4.out.trans f5 (fun _ _ h => h)); clear f5))
          go_ret2
          first
          | exact ERRS.out 1 _ (by omega) HS3.out FW.out
          | exact ERRS.out 1 _ (by omega) HS3.out (FW.out.trans F4.out (fun _ _ h => h))
          | exact ERRS.out 1 _ (by omega) HS3.out (FW.out.trans F5.out (fun _ _ h => h))
    · obtain rfl : k = n := by omega
      have HRG := hid hrgk
      have HFR := hid hfr
      have HOK := hid hok0
      clear hrgk hfr hok0 hbbk hall
      go_wp2
      go_ret2
      have htk : (xs.map Prod.snd).take k = xs.map Prod.snd := List.take_of_length_le (by rw [List.length_map, HN.out]; exact Nat.le_refl _)
      have h1 := HRG.out
      have h2 := HOK.out
      rw [htk, HR.out] at h1 h2
      exact ⟨_, by rw [h2]; rfl, .inr ⟨h2, q, J, rfl, by have := HQW.out; omega, HJW.out, h1⟩, HFR.out⟩
end Go.Proofs.Ytedhmhlhjonloaa

/-
  WireReads, the walk: what a reader tells of any bytes is what the document's reader tells of them.
-/
import Derived.Test.YtilliicanbbjkaaBacks
import Derived.Test.YtilliicanbbjkaaRefReader
import Derived.Deep.QuietTactic
import Derived.BigQuiet
namespace Go.Proofs.Ytilliicanbbjkaa
open Go.RowKit
set_option linter.unusedVariables false

theorem Fr.drewN' {S : Nat → Prop} (w : World) (n : Nat) : Fr S w (w.drewN n) := ⟨rfl, rfl, rfl, Nat.le_refl _, fun _ _ _ => rfl⟩
theorem quiet_flip {P : Program} {f : FuncId} {args : Array Value} {w : World} {n : Nat} {v : Value} (h : Calls P f args (w.drewN n) fun e w' => e = .returned v ∧ w.drewN n = w') :
    Calls P f args (w.drewN n) fun e w' => e = .returned v ∧ ∃ m, w' = w.drewN m :=
  h.mono fun e w' ⟨h1, h2⟩ => ⟨h1, n, h2.symm⟩

/-- THE TWO READERS over the same bytes: what each has left. -/
structure DR (w wr : World) (r s : Nat) (qa : Option Addr) (qc : Nat) (ra : Option Addr) (rc : Nat) (rest rest' : List UInt8) : Prop where
  rd : Rd wr r qa qc rest
  rr : RR wr s ra rc rest'
  fr : Fr (fun _ => False) w wr
  ne : r ≠ s
  rl : w.heap.size ≤ r
  sl : w.heap.size ≤ s
section
variable {w wr : World} {r s : Nat} {qa : Option Addr} {qc : Nat} {ra : Option Addr} {rc : Nat} {rest rest' : List UInt8}
theorem DR.on (h : DR w wr r s qa qc ra rc rest rest') {w1 : World} (hf : Fr (fun _ => False) wr w1) : DR w w1 r s qa qc ra rc rest rest' :=
  ⟨h.rd.kept hf (fun h => h) (fun _ _ h => h), h.rr.kept hf (fun h => h) (fun _ _ _ h => h), h.fr.trans hf (fun _ _ h => h), h.ne, h.rl, h.sl⟩
theorem DR.alloc (h : DR w wr r s qa qc ra rc rest rest') (o : Obj) : DR w (wr.alloc o) r s qa qc ra rc rest rest' := h.on (Fr.alloc (Fr.refl (fun _ => False) _) o)
theorem DR.drewN (h : DR w wr r s qa qc ra rc rest rest') (n : Nat) : DR w (wr.drewN n) r s qa qc ra rc rest rest' := h.on (Fr.drewN' _ _)
theorem DR.lt (h : DR w wr r s qa qc ra rc rest rest') : s < wr.heap.size := lt_of_row h.rr.at_
theorem DR.read (h : DR w wr r s qa qc ra rc rest rest') {n : Nat} {w1 : World} (hr : RP wr r qa rest n w1) : ∃ qa' qc', DR w w1 r s qa' qc' ra rc (rest.drop n) rest' := by
  obtain ⟨a', c', h1, h2, h3⟩ := hr
  exact ⟨a', c', h1, h.rr.kept h2 (fun e => h.ne e.symm) (fun hz k hk e => (Sl.apart h.rd.at_ (two_apart _ _ _ _) h.rr.sl hz) (e ▸ hk)), h.fr.trans h2 (fun i hi e => by have := h.rl; omega), h.ne, h.rl, h.sl⟩
theorem DR.frs (h : DR w wr r s qa qc ra rc rest rest') {n : Nat} {w1 : World} (hr : RRP wr s ra rest' n w1) : Fr (fun k => k = s) wr w1 := by
  obtain ⟨a', c', h1, h2, h3⟩ := hr
  exact h2
theorem DR.again (h : DR w wr r s qa qc ra rc rest rest') {n : Nat} {w1 : World} (hr : RRP wr s ra rest' n w1) : ∃ ra' rc', DR w w1 r s qa qc ra' rc' rest (rest'.drop n) := by
  obtain ⟨a', c', h1, h2, h3⟩ := hr
  exact ⟨a', c', h.rd.kept' h2 (fun e => h.ne e) (fun hz k hk e => (Sl.apart h.rr.at_ (one_apart _ _ _) h.rd.sl hz) (e ▸ hk)), h1, h.fr.trans h2 (fun i hi e => by have := h.sl; omega), h.ne, h.rl, h.sl⟩
theorem DR.fresh (h : DR w wr r s qa qc ra rc rest rest') {w1 : World} {xa : Option Addr} {xc : Nat} {xs : List UInt8} (hx : Ow wr.heap.size w1 xa xc xs) {k : Nat} (e : k = s) (hk : blk xa = some k) : False := by
  have h1 := (hx.lt k hk).1
  have h2 := h.lt
  omega
end

set_option maxRecDepth 20000 in
set_option maxHeartbeats 6400000 in
theorem wireReads_walk (a0 : Option Addr) (blen bcap : Nat) (bs : List UInt8) (a1 : Option Addr) (len cap : Nat) (ps : List Pt) (w : World) (hb : Sl w a0 blen bs) (hbc : blen ≤ bcap) (hbl : blen ≤ 140737488351232) (h : Ps w a1 len ps) (hm : len ≤ 9223372036854775807) :
    Calls Try.prog 4 #[.slice a0 blen bcap, .slice a1 len cap] w fun e w' => e = .returned (.bool true) ∧ Below w.heap.size w w' := by
  have HBL := hid hb.1
  have K1 := hid (newReader_any a0 blen bcap bs w hb (by omega))
  go_enter Try.func4, Try.ntmps4
  go_wp2_with fail
  refine K1.out.mono ?_
  rintro e w1 ⟨r, qa0, qc0, rfl, hr1, f1, hrl, hqal⟩
  have hb1 := hb.kept f1 (fun _ _ _ h => h)
  have f1a := Fr.alloc (Fr.refl (fun _ => False) w1) (.cells #[.slice a0 blen bcap] 39)
  have HD0 : Hid (DR w (w1.alloc (.cells #[.slice a0 blen bcap] 39)) r w1.heap.size qa0 qc0 a0 bcap bs bs) := hid
    ⟨hr1.kept f1a (fun h => h) (fun _ _ h => h), ⟨by rw [hb.1]; exact Go.heap_alloc_new w1 _, by rw [hb.1]; exact hb1.kept f1a (fun _ _ _ h => h), by rw [hb.1]; exact hbc, by rw [hb.1]; omega⟩, Fr.alloc f1 _, by have := lt_of_row hr1.at_; omega, hrl, f1.size⟩
  clear hr1 f1 hrl hqal K1 hb1 f1a hb
  go_wp2_with fail
  refine (live_any _).mono ?_
  rintro e w2 ⟨rfl, f2⟩
  have HD := hid (HD0.out.on f2)
  obtain ⟨s, hs⟩ : ∃ s, w1.heap.size = s := ⟨_, rfl⟩
  rw [hs] at HD ⊢
  clear f2 hs HD0
  go_wp2
  go_loopw [30] (fun i wr => ∃ (k : Nat) (qa : Option Addr) (qc : Nat) (ra : Option Addr) (rc : Nat) (rest : List UInt8), k ≤ len ∧ i = .int .i64 k ∧ DR w wr r s qa qc ra rc rest rest) (fun i _ => len - (intOf i).toNat)
  case atStart => exact ⟨0, qa0, qc0, a0, bcap, bs, by omega, rfl, HD.out⟩
  case round =>
    clear HD
    obtain ⟨j, qa, qc, ra, rc, rest, hj, rfl, hd⟩ := hrel
    by_cases hjlt : j < len
    · obtain ⟨b, off, q, rfl, g0, g1, g2, hq⟩ := h.part hd.fr hjlt
      have HD := hid (hd.alloc (.cells #[.int .i64 q.k, .int .i64 q.n, .slice q.A q.L q.C] 28))
      obtain ⟨kd, n, A, L, C, qbs⟩ := q
      simp only at g0 g1 g2 HD
      clear hd hq
      by_cases e0 : kd = 0
      · subst e0
        have K := rInt_any (wr.alloc (.cells #[.int .i64 0, .int .i64 n, .slice A L C] 28)) r qa qc rest HD.out.rd
        obtain ⟨t1, t2, t3, ht⟩ : ∃ t1 t2 t3, M.takeI rest = (t1, t2, t3) := ⟨_, _, _, rfl⟩
        rw [ht] at K
        simp only at K
        have HK := hid K
        have HT := hid ht
        clear K ht 
        go_wp2_with fail
        refine HK.out.mono ?_
        rintro e w1 ⟨rfl, hr⟩
        obtain ⟨qa', qc', hd1⟩ := HD.out.read hr
        have HD1 := hid hd1
        have K := refRInt_any w1 s ra rc rest HD1.out.rr
        rw [HT.out] at K
        simp only at K
        have HK2 := hid K
        clear K hr hd1 HK
        go_wp2_with fail
        refine HK2.out.mono ?_
        rintro e w2 ⟨rfl, hr2⟩
        obtain ⟨ra', rc', hd2⟩ := HD1.out.again hr2
        have HD2 := hid hd2
        have KE := hid (fun m => equal_any none none 0 0 0 0 [] [] (w2.drewN m) (Sl.nil _ _) (Sl.nil _ _))
        rw [decide_eq_true (rfl : ([] : List UInt8) = [])] at KE
        clear hr2 hd2 HK2 g0 g1 g2
        have hc0 := HD2.out.rr.c0
        obtain ⟨l, hl⟩ : ∃ l, (rest.drop t2).length = l := ⟨_, rfl⟩
        rw [hl] at hc0
        have KL := hid (fun m => rLeft_any (w2.drewN m) r qa' qc' (rest.drop t2) (HD2.out.drewN m).rd)
        have KN := hid (fun m => rEnd_any (w2.drewN m) r qa' qc' (rest.drop t2) (HD2.out.drewN m).rd)
        rw [hl] at KL KN
        clear hl
        by_cases hz : l = 0
        · subst hz
          rw [if_pos rfl] at KN
          go_wp2_with fail
          go_quiet ((first | (go_at_call 13; exact quiet_flip (KE.out _)) | (go_at_call 23; exact quiet_flip (KL.out _)) | (go_at_call 24; exact quiet_flip (KN.out _))))
          go_wp2
          go_roundw
          case rel => first | exact ⟨j + 1, qa', qc', ra', rc', _, by omega, by go_num, HD2.out.drewN _⟩ | ((repeat apply Exists.intro); exact ⟨⟨j + 1, qa', qc', ra', rc', _, by omega, by go_num, HD2.out.drewN _⟩, rfl⟩)
          case measure => simp [intOf]; omega
        · rw [if_neg hz] at KN
          have hz' : ((l : Int) == 0) = false := by simp; omega
          go_wp2_with fail
          go_quiet ((first | (go_at_call 13; exact quiet_flip (KE.out _)) | (go_at_call 23; exact quiet_flip (KL.out _)) | (go_at_call 24; exact quiet_flip (KN.out _))))
          go_wp2
          go_roundw
          case rel => first | exact ⟨j + 1, qa', qc', ra', rc', _, by omega, by go_num, HD2.out.drewN _⟩ | ((repeat apply Exists.intro); exact ⟨⟨j + 1, qa', qc', ra', rc', _, by omega, by go_num, HD2.out.drewN _⟩, rfl⟩)
          case measure => simp [intOf]; omega
      · by_cases e1 : kd = 1
        · subst e1
          have K := rBytes_any (wr.alloc (.cells #[.int .i64 1, .int .i64 n, .slice A L C] 28)) r qa qc rest HD.out.rd
          obtain ⟨t1, t2, t3, ht⟩ : ∃ t1 t2 t3, M.takeB rest = (t1, t2, t3) := ⟨_, _, _, rfl⟩
          rw [ht] at K
          simp only at K
          have HK := hid K
          have HT := hid ht
          clear K ht 
          go_wp2_with fail
          refine HK.out.mono ?_
          rintro e w1 ⟨xa, xc, rfl, hx, hr⟩
          obtain ⟨qa', qc', hd1⟩ := HD.out.read hr
          have HD1 := hid hd1
          have HX := hid hx
          clear hx
          have K := refRBytes_any w1 s ra rc rest HD1.out.rr
          rw [HT.out] at K
          simp only at K
          have HK2 := hid K
          clear K hr hd1 HK
          go_wp2_with fail
          refine HK2.out.mono ?_
          rintro e w2 ⟨ya, yc, rfl, hy, hr2⟩
          obtain ⟨ra', rc', hd2⟩ := HD1.out.again hr2
          have HD2 := hid hd2
          have hx2 := (HX.out.sl).kept (HD1.out.frs hr2) (fun hz k hk e => HD.out.fresh HX.out e hk)
          have KE := hid (fun m => equal_any xa ya t1.length xc t1.length yc t1 t1 (w2.drewN m) (hx2.kept (Fr.drewN' (S := fun _ => False) _ _) (fun _ _ _ h => h)) (hy.sl.kept (Fr.drewN' (S := fun _ => False) _ _) (fun _ _ _ h => h)))
          rw [decide_eq_true (rfl : t1 = t1)] at KE
          obtain ⟨tl, htl⟩ : ∃ tl, t1.length = tl := ⟨_, rfl⟩
          rw [htl] at KE ⊢
          clear hx2 hy htl
          clear hr2 hd2 HK2 g0 g1 g2
          have hc0 := HD2.out.rr.c0
          obtain ⟨l, hl⟩ : ∃ l, (rest.drop t2).length = l := ⟨_, rfl⟩
          rw [hl] at hc0
          have KL := hid (fun m => rLeft_any (w2.drewN m) r qa' qc' (rest.drop t2) (HD2.out.drewN m).rd)
          have KN := hid (fun m => rEnd_any (w2.drewN m) r qa' qc' (rest.drop t2) (HD2.out.drewN m).rd)
          rw [hl] at KL KN
          clear hl
          by_cases hz : l = 0
          · subst hz
            rw [if_pos rfl] at KN
            go_wp2_with fail
            go_quiet ((first | (go_at_call 13; exact quiet_flip (KE.out _)) | (go_at_call 23; exact quiet_flip (KL.out _)) | (go_at_call 24; exact quiet_flip (KN.out _))))
            go_wp2
            go_roundw
            case rel => first | exact ⟨j + 1, qa', qc', ra', rc', _, by omega, by go_num, HD2.out.drewN _⟩ | ((repeat apply Exists.intro); exact ⟨⟨j + 1, qa', qc', ra', rc', _, by omega, by go_num, HD2.out.drewN _⟩, rfl⟩)
            case measure => simp [intOf]; omega
          · rw [if_neg hz] at KN
            have hz' : ((l : Int) == 0) = false := by simp; omega
            go_wp2_with fail
            go_quiet ((first | (go_at_call 13; exact quiet_flip (KE.out _)) | (go_at_call 23; exact quiet_flip (KL.out _)) | (go_at_call 24; exact quiet_flip (KN.out _))))
            go_wp2
            go_roundw
            case rel => first | exact ⟨j + 1, qa', qc', ra', rc', _, by omega, by go_num, HD2.out.drewN _⟩ | ((repeat apply Exists.intro); exact ⟨⟨j + 1, qa', qc', ra', rc', _, by omega, by go_num, HD2.out.drewN _⟩, rfl⟩)
            case measure => simp [intOf]; omega
        · by_cases e2 : kd = 2
          · subst e2
            have K := rText_any (wr.alloc (.cells #[.int .i64 2, .int .i64 n, .slice A L C] 28)) r qa qc rest HD.out.rd
            obtain ⟨t1, t2, t3, ht⟩ : ∃ t1 t2 t3, M.takeB rest = (t1, t2, t3) := ⟨_, _, _, rfl⟩
            rw [ht] at K
            simp only at K
            have HK := hid K
            have HT := hid ht
            clear K ht 
            go_wp2_with fail
            refine HK.out.mono ?_
            rintro e w1 ⟨rfl, hr⟩
            obtain ⟨qa', qc', hd1⟩ := HD.out.read hr
            have HD1 := hid hd1
            have kb := run_bytes w1 (str t1)
            have hf := bytesWorld_fr w1 (str t1)
            have hx := bytesWorld_sl w1 t1
            obtain ⟨w1', hw1'⟩ : ∃ w1', w1' = Lib.bytesWorld w1 5 (str t1) := ⟨_, rfl⟩
            rw [← hw1'] at kb hf hx
            rw [str_size] at kb
            obtain ⟨xc, hxc⟩ : ∃ xc, xc = grownCap w1 t1.length 0 5 := ⟨_, rfl⟩
            rw [← hxc] at kb
            have hxl := HD1.out.lt
            obtain ⟨xb, hxb⟩ : ∃ xb, xb = w1.heap.size := ⟨_, rfl⟩
            rw [← hxb] at kb hx hxl
            have HD1 := hid (HD1.out.on hf)
            have HX := hid hx
            clear hf hx hw1' hxc hxb
            have K := refRBytes_any w1' s ra rc rest HD1.out.rr
            rw [HT.out] at K
            simp only at K
            have HK2 := hid K
            clear K hr hd1 HK
            go_wp2_with fail
            refine HK2.out.mono ?_
            rintro e w2 ⟨ya, yc, rfl, hy, hr2⟩
            obtain ⟨ra', rc', hd2⟩ := HD1.out.again hr2
            have HD2 := hid hd2
            have hx2 := HX.out.kept (HD1.out.frs hr2) (fun hz k hk e => by simp [blk] at hk; omega)
            have KE := hid (fun m => equal_any (some ⟨xb, 0, none⟩) ya t1.length xc t1.length yc t1 t1 (w2.drewN m) (hx2.kept (Fr.drewN' (S := fun _ => False) _ _) (fun _ _ _ h => h)) (hy.sl.kept (Fr.drewN' (S := fun _ => False) _ _) (fun _ _ _ h => h)))
            rw [decide_eq_true (rfl : t1 = t1)] at KE
            obtain ⟨tl, htl⟩ : ∃ tl, t1.length = tl := ⟨_, rfl⟩
            rw [htl] at KE ⊢
            clear hx2 hy htl
            clear hr2 hd2 HK2 g0 g1 g2
            have hc0 := HD2.out.rr.c0
            obtain ⟨l, hl⟩ : ∃ l, (rest.drop t2).length = l := ⟨_, rfl⟩
            rw [hl] at hc0
            have KL := hid (fun m => rLeft_any (w2.drewN m) r qa' qc' (rest.drop t2) (HD2.out.drewN m).rd)
            have KN := hid (fun m => rEnd_any (w2.drewN m) r qa' qc' (rest.drop t2) (HD2.out.drewN m).rd)
            rw [hl] at KL KN
            clear hl
            by_cases hz : l = 0
            · subst hz
              rw [if_pos rfl] at KN
              go_wp2_with fail
              go_quiet ((first | (go_at_call 13; exact quiet_flip (KE.out _)) | (go_at_call 23; exact quiet_flip (KL.out _)) | (go_at_call 24; exact quiet_flip (KN.out _))))
              go_wp2
              go_roundw
              case rel => first | exact ⟨j + 1, qa', qc', ra', rc', _, by omega, by go_num, HD2.out.drewN _⟩ | ((repeat apply Exists.intro); exact ⟨⟨j + 1, qa', qc', ra', rc', _, by omega, by go_num, HD2.out.drewN _⟩, rfl⟩)
              case measure => simp [intOf]; omega
            · rw [if_neg hz] at KN
              have hz' : ((l : Int) == 0) = false := by simp; omega
              go_wp2_with fail
              go_quiet ((first | (go_at_call 13; exact quiet_flip (KE.out _)) | (go_at_call 23; exact quiet_flip (KL.out _)) | (go_at_call 24; exact quiet_flip (KN.out _))))
              go_wp2
              go_roundw
              case rel => first | exact ⟨j + 1, qa', qc', ra', rc', _, by omega, by go_num, HD2.out.drewN _⟩ | ((repeat apply Exists.intro); exact ⟨⟨j + 1, qa', qc', ra', rc', _, by omega, by go_num, HD2.out.drewN _⟩, rfl⟩)
              case measure => simp [intOf]; omega
          · have k0 : (kd == 0) = false := by simpa using e0
            have k1 : (kd == 1) = false := by simpa using e1
            have k2 : (kd == 2) = false := by simpa using e2
            have K := rFlag_any (wr.alloc (.cells #[.int .i64 kd, .int .i64 n, .slice A L C] 28)) r qa qc rest HD.out.rd
            obtain ⟨t1, t2, t3, ht⟩ : ∃ t1 t2 t3, M.takeF rest = (t1, t2, t3) := ⟨_, _, _, rfl⟩
            rw [ht] at K
            simp only at K
            have HK := hid K
            have HT := hid ht
            clear K ht e0 e1 e2 
            go_wp2_with fail
            refine HK.out.mono ?_
            rintro e w1 ⟨rfl, hr⟩
            obtain ⟨qa', qc', hd1⟩ := HD.out.read hr
            have HD1 := hid hd1
            have K := refRFlag_any w1 s ra rc rest HD1.out.rr
            rw [HT.out] at K
            simp only at K
            have HK2 := hid K
            clear K hr hd1 HK
            go_wp2_with fail
            refine HK2.out.mono ?_
            rintro e w2 ⟨rfl, hr2⟩
            obtain ⟨ra', rc', hd2⟩ := HD1.out.again hr2
            have HD2 := hid hd2
            have KE := hid (fun m => equal_any none none 0 0 0 0 [] [] (w2.drewN m) (Sl.nil _ _) (Sl.nil _ _))
            rw [decide_eq_true (rfl : ([] : List UInt8) = [])] at KE
            clear hr2 hd2 HK2 g0 g1 g2
            have hc0 := HD2.out.rr.c0
            obtain ⟨l, hl⟩ : ∃ l, (rest.drop t2).length = l := ⟨_, rfl⟩
            rw [hl] at hc0
            have KL := hid (fun m => rLeft_any (w2.drewN m) r qa' qc' (rest.drop t2) (HD2.out.drewN m).rd)
            have KN := hid (fun m => rEnd_any (w2.drewN m) r qa' qc' (rest.drop t2) (HD2.out.drewN m).rd)
            rw [hl] at KL KN
            clear hl
            by_cases hz : l = 0
            · subst hz
              rw [if_pos rfl] at KN
              go_wp2_with fail
              go_quiet ((first | (go_at_call 13; exact quiet_flip (KE.out _)) | (go_at_call 23; exact quiet_flip (KL.out _)) | (go_at_call 24; exact quiet_flip (KN.out _))))
              go_wp2
              go_roundw
              case rel => first | exact ⟨j + 1, qa', qc', ra', rc', _, by omega, by go_num, HD2.out.drewN _⟩ | ((repeat apply Exists.intro); exact ⟨⟨j + 1, qa', qc', ra', rc', _, by omega, by go_num, HD2.out.drewN _⟩, rfl⟩)
              case measure => simp [intOf]; omega
            · rw [if_neg hz] at KN
              have hz' : ((l : Int) == 0) = false := by simp; omega
              go_wp2_with fail
              go_quiet ((first | (go_at_call 13; exact quiet_flip (KE.out _)) | (go_at_call 23; exact quiet_flip (KL.out _)) | (go_at_call 24; exact quiet_flip (KN.out _))))
              go_wp2
              go_roundw
              case rel => first | exact ⟨j + 1, qa', qc', ra', rc', _, by omega, by go_num, HD2.out.drewN _⟩ | ((repeat apply Exists.intro); exact ⟨⟨j + 1, qa', qc', ra', rc', _, by omega, by go_num, HD2.out.drewN _⟩, rfl⟩)
              case measure => simp [intOf]; omega
    · have HD := hid hd
      clear hd
      go_wp2
      go_ret
      exact ⟨rfl, HD.out.fr.below (Nat.le_refl _) (fun _ _ h => h)⟩
end Go.Proofs.Ytilliicanbbjkaa

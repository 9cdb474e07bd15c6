/-
  An operation of a script, done with a disk: the law's 'run'.
-/
import Derived.Test.YtnfpceeacfdldaaKClone
namespace Go.Proofs.Ytnfpceeacfdldaa
open Go.RowKit Go.Maps
set_option linter.unusedVariables false

namespace K
/-- an operation of a script -/
structure Op where
  do_ : Int
  nm : Nm
  to : Nm
  b : List UInt8
  k : Int
  keep : Int
def run (d : DK) (o : Op) : Int × DK :=
  if o.do_ = 0 then app d o.nm o.b else if o.do_ = 1 then syn d o.nm else if o.do_ = 3 then rem d o.nm else if o.do_ = 4 then ren d o.nm o.to else if o.do_ = 6 then fuse d o.k o.keep else if o.do_ = 7 then crash d o.keep else if o.do_ = 8 then restart d else (0, d)
end K
theorem Td.pre {S : Nat → Prop} {w w1 w' : World} {p : Nat} {d : K.DK} (hf : Fr (fun _ => False) w w1) (h : Td S w1 p d w') : Td S w p d w' :=
  ⟨h.1.mono (fun k hk => ⟨hk.1.imp id (Nat.le_trans hf.size), hk.2⟩) Nx.lt, (hf.mono (T := S) (fun _ _ h => h.elim)).trans h.2 (fun _ _ h => h)⟩
/-- the six cells of an operation -/
structure O6 (w : World) (o : K.Op) (s t : ByteArray) (ba : Option Addr) (bm : Nat) : Prop where
  s_ : s.data.toList = o.nm
  t_ : t.data.toList = o.to
  sz : s.size ≤ maxLen
  tz : t.size ≤ maxLen
  b_ : Sl w ba bm o.b
  bl : bm ≤ 9223372036854775807
  k0 : -9223372036854775808 ≤ o.k
  k1 : o.k ≤ 9223372036854775807
  p0 : -9223372036854775808 ≤ o.keep
  p1 : o.keep ≤ 9223372036854775807
theorem O6.kept {w w' : World} {o : K.Op} {s t : ByteArray} {ba : Option Addr} {bm : Nat} (h : O6 w o s t ba bm) (hf : Fr (fun _ => False) w w') : O6 w' o s t ba bm :=
  ⟨h.s_, h.t_, h.sz, h.tz, h.b_.kept hf (fun _ _ _ h => h), h.bl, h.k0, h.k1, h.p0, h.p1⟩

set_option maxHeartbeats 1600000 in
theorem run_0 {S : Nat → Prop} {w : World} {p : Nat} {d : K.DK} (h : Dk S w p d) (o : K.Op) (hdo : o.do_ = 0) (s t : ByteArray) (ba : Option Addr) (bm bc : Nat) (h6 : O6 w o s t ba bm) (hc : ((d.used + bm : Nat) : Int) ≤ d.room → d.used + bm ≤ K.cap) :
    Calls Try.prog 18 #[.pointer (some ⟨p, 0, none⟩), .agg #[.int .i64 o.do_, .string s, .string t, .slice ba bm bc, .int .i64 o.k, .int .i64 o.keep]] w fun e w' => e = .returned (.int .i64 (K.run d o).1) ∧ Td S w p (K.run d o).2 w' := by
  have e : K.run d o = K.app d o.nm o.b := by unfold K.run; rw [hdo]; simp
  rw [e, hdo]
  have HK := hid h
  have HC := hid hc
  have h6 := hid h6
  have F0 := hid (Fr.alloc (Fr.refl (fun _ => False) w) (.cells #[.int .i64 0, .string s, .string t, .slice ba bm bc, .int .i64 o.k, .int .i64 o.keep] 33))
  have KC := hid (append_any (HK.out.kept F0.out (fun _ _ h => h)) s h6.out.sz ba bm bc o.b (h6.out.b_.kept F0.out (fun _ _ _ h => h)) (by have := h6.out.bl; omega) HC.out)
  rw [h6.out.s_] at KC
  obtain ⟨R, hR⟩ : ∃ R, K.app d o.nm o.b = R := ⟨_, rfl⟩
  rw [hR] at KC ⊢
  clear hR e h hc hdo
  generalize o.k = ok at KC F0 ⊢
  generalize o.keep = op at KC F0 ⊢
  go_enter Try.func18, Try.ntmps18
  go_wp2_with (first | (go_at_call 26; refine KC.out.mono ?_; rintro e w1 ⟨rfl, ht⟩; have HT := hid ht; clear ht))
  go_ret
  exact ⟨rfl, Td.pre F0.out HT.out⟩
set_option maxHeartbeats 1600000 in
theorem run_1 {S : Nat → Prop} {w : World} {p : Nat} {d : K.DK} (h : Dk S w p d) (o : K.Op) (hdo : o.do_ = 1) (s t : ByteArray) (ba : Option Addr) (bm bc : Nat) (h6 : O6 w o s t ba bm) (hc : ((d.used + bm : Nat) : Int) ≤ d.room → d.used + bm ≤ K.cap) :
    Calls Try.prog 18 #[.pointer (some ⟨p, 0, none⟩), .agg #[.int .i64 o.do_, .string s, .string t, .slice ba bm bc, .int .i64 o.k, .int .i64 o.keep]] w fun e w' => e = .returned (.int .i64 (K.run d o).1) ∧ Td S w p (K.run d o).2 w' := by
  have e : K.run d o = K.syn d o.nm := by unfold K.run; rw [hdo]; simp
  rw [e, hdo]
  have HK := hid h
  have HC := hid hc
  have h6 := hid h6
  have F0 := hid (Fr.alloc (Fr.refl (fun _ => False) w) (.cells #[.int .i64 1, .string s, .string t, .slice ba bm bc, .int .i64 o.k, .int .i64 o.keep] 33))
  have KC := hid (sync_any (HK.out.kept F0.out (fun _ _ h => h)) s h6.out.sz)
  rw [h6.out.s_] at KC
  obtain ⟨R, hR⟩ : ∃ R, K.syn d o.nm = R := ⟨_, rfl⟩
  rw [hR] at KC ⊢
  clear hR e h hc hdo
  generalize o.k = ok at KC F0 ⊢
  generalize o.keep = op at KC F0 ⊢
  go_enter Try.func18, Try.ntmps18
  go_wp2_with (first | (go_at_call 27; refine KC.out.mono ?_; rintro e w1 ⟨rfl, ht⟩; have HT := hid ht; clear ht))
  go_ret
  exact ⟨rfl, Td.pre F0.out HT.out⟩
set_option maxHeartbeats 1600000 in
theorem run_3 {S : Nat → Prop} {w : World} {p : Nat} {d : K.DK} (h : Dk S w p d) (o : K.Op) (hdo : o.do_ = 3) (s t : ByteArray) (ba : Option Addr) (bm bc : Nat) (h6 : O6 w o s t ba bm) (hc : ((d.used + bm : Nat) : Int) ≤ d.room → d.used + bm ≤ K.cap) :
    Calls Try.prog 18 #[.pointer (some ⟨p, 0, none⟩), .agg #[.int .i64 o.do_, .string s, .string t, .slice ba bm bc, .int .i64 o.k, .int .i64 o.keep]] w fun e w' => e = .returned (.int .i64 (K.run d o).1) ∧ Td S w p (K.run d o).2 w' := by
  have e : K.run d o = K.rem d o.nm := by unfold K.run; rw [hdo]; simp
  rw [e, hdo]
  have HK := hid h
  have HC := hid hc
  have h6 := hid h6
  have F0 := hid (Fr.alloc (Fr.refl (fun _ => False) w) (.cells #[.int .i64 3, .string s, .string t, .slice ba bm bc, .int .i64 o.k, .int .i64 o.keep] 33))
  have KC := hid (remove_any (HK.out.kept F0.out (fun _ _ h => h)) s h6.out.sz)
  rw [h6.out.s_] at KC
  obtain ⟨R, hR⟩ : ∃ R, K.rem d o.nm = R := ⟨_, rfl⟩
  rw [hR] at KC ⊢
  clear hR e h hc hdo
  generalize o.k = ok at KC F0 ⊢
  generalize o.keep = op at KC F0 ⊢
  go_enter Try.func18, Try.ntmps18
  go_wp2_with (first | (go_at_call 28; refine KC.out.mono ?_; rintro e w1 ⟨rfl, ht⟩; have HT := hid ht; clear ht))
  go_ret
  exact ⟨rfl, Td.pre F0.out HT.out⟩
set_option maxHeartbeats 1600000 in
theorem run_4 {S : Nat → Prop} {w : World} {p : Nat} {d : K.DK} (h : Dk S w p d) (o : K.Op) (hdo : o.do_ = 4) (s t : ByteArray) (ba : Option Addr) (bm bc : Nat) (h6 : O6 w o s t ba bm) (hc : ((d.used + bm : Nat) : Int) ≤ d.room → d.used + bm ≤ K.cap) :
    Calls Try.prog 18 #[.pointer (some ⟨p, 0, none⟩), .agg #[.int .i64 o.do_, .string s, .string t, .slice ba bm bc, .int .i64 o.k, .int .i64 o.keep]] w fun e w' => e = .returned (.int .i64 (K.run d o).1) ∧ Td S w p (K.run d o).2 w' := by
  have e : K.run d o = K.ren d o.nm o.to := by unfold K.run; rw [hdo]; simp
  rw [e, hdo]
  have HK := hid h
  have HC := hid hc
  have h6 := hid h6
  have F0 := hid (Fr.alloc (Fr.refl (fun _ => False) w) (.cells #[.int .i64 4, .string s, .string t, .slice ba bm bc, .int .i64 o.k, .int .i64 o.keep] 33))
  have KC := hid (rename_any (HK.out.kept F0.out (fun _ _ h => h)) s t h6.out.sz h6.out.tz)
  rw [h6.out.s_] at KC
  rw [h6.out.t_] at KC
  obtain ⟨R, hR⟩ : ∃ R, K.ren d o.nm o.to = R := ⟨_, rfl⟩
  rw [hR] at KC ⊢
  clear hR e h hc hdo
  generalize o.k = ok at KC F0 ⊢
  generalize o.keep = op at KC F0 ⊢
  go_enter Try.func18, Try.ntmps18
  go_wp2_with (first | (go_at_call 29; refine KC.out.mono ?_; rintro e w1 ⟨rfl, ht⟩; have HT := hid ht; clear ht))
  go_ret
  exact ⟨rfl, Td.pre F0.out HT.out⟩
set_option maxHeartbeats 1600000 in
theorem run_6 {S : Nat → Prop} {w : World} {p : Nat} {d : K.DK} (h : Dk S w p d) (o : K.Op) (hdo : o.do_ = 6) (s t : ByteArray) (ba : Option Addr) (bm bc : Nat) (h6 : O6 w o s t ba bm) (hc : ((d.used + bm : Nat) : Int) ≤ d.room → d.used + bm ≤ K.cap) :
    Calls Try.prog 18 #[.pointer (some ⟨p, 0, none⟩), .agg #[.int .i64 o.do_, .string s, .string t, .slice ba bm bc, .int .i64 o.k, .int .i64 o.keep]] w fun e w' => e = .returned (.int .i64 (K.run d o).1) ∧ Td S w p (K.run d o).2 w' := by
  have e : K.run d o = K.fuse d o.k o.keep := by unfold K.run; rw [hdo]; simp
  rw [e, hdo]
  have HK := hid h
  have HC := hid hc
  have h6 := hid h6
  have F0 := hid (Fr.alloc (Fr.refl (fun _ => False) w) (.cells #[.int .i64 6, .string s, .string t, .slice ba bm bc, .int .i64 o.k, .int .i64 o.keep] 33))
  have KC := hid (fuse_any (HK.out.kept F0.out (fun _ _ h => h)) o.k o.keep h6.out.k1 h6.out.p1)
  obtain ⟨R, hR⟩ : ∃ R, K.fuse d o.k o.keep = R := ⟨_, rfl⟩
  rw [hR] at KC ⊢
  clear hR e h hc hdo
  generalize o.k = ok at KC F0 ⊢
  generalize o.keep = op at KC F0 ⊢
  go_enter Try.func18, Try.ntmps18
  go_wp2_with (first | (go_at_call 30; refine KC.out.mono ?_; rintro e w1 ⟨rfl, ht⟩; have HT := hid ht; clear ht))
  go_ret
  exact ⟨rfl, Td.pre F0.out HT.out⟩
set_option maxHeartbeats 1600000 in
theorem run_7 {S : Nat → Prop} {w : World} {p : Nat} {d : K.DK} (h : Dk S w p d) (o : K.Op) (hdo : o.do_ = 7) (s t : ByteArray) (ba : Option Addr) (bm bc : Nat) (h6 : O6 w o s t ba bm) (hc : ((d.used + bm : Nat) : Int) ≤ d.room → d.used + bm ≤ K.cap) :
    Calls Try.prog 18 #[.pointer (some ⟨p, 0, none⟩), .agg #[.int .i64 o.do_, .string s, .string t, .slice ba bm bc, .int .i64 o.k, .int .i64 o.keep]] w fun e w' => e = .returned (.int .i64 (K.run d o).1) ∧ Td S w p (K.run d o).2 w' := by
  have e : K.run d o = K.crash d o.keep := by unfold K.run; rw [hdo]; simp
  rw [e, hdo]
  have HK := hid h
  have HC := hid hc
  have h6 := hid h6
  have F0 := hid (Fr.alloc (Fr.refl (fun _ => False) w) (.cells #[.int .i64 7, .string s, .string t, .slice ba bm bc, .int .i64 o.k, .int .i64 o.keep] 33))
  have KC := hid (crash_any (HK.out.kept F0.out (fun _ _ h => h)) o.keep h6.out.p1)
  obtain ⟨R, hR⟩ : ∃ R, K.crash d o.keep = R := ⟨_, rfl⟩
  rw [hR] at KC ⊢
  clear hR e h hc hdo
  generalize o.k = ok at KC F0 ⊢
  generalize o.keep = op at KC F0 ⊢
  go_enter Try.func18, Try.ntmps18
  go_wp2_with (first | (go_at_call 20; refine KC.out.mono ?_; rintro e w1 ⟨rfl, ht⟩; have HT := hid ht; clear ht))
  go_ret
  exact ⟨rfl, Td.pre F0.out HT.out⟩
set_option maxHeartbeats 1600000 in
theorem run_8 {S : Nat → Prop} {w : World} {p : Nat} {d : K.DK} (h : Dk S w p d) (o : K.Op) (hdo : o.do_ = 8) (s t : ByteArray) (ba : Option Addr) (bm bc : Nat) (h6 : O6 w o s t ba bm) (hc : ((d.used + bm : Nat) : Int) ≤ d.room → d.used + bm ≤ K.cap) :
    Calls Try.prog 18 #[.pointer (some ⟨p, 0, none⟩), .agg #[.int .i64 o.do_, .string s, .string t, .slice ba bm bc, .int .i64 o.k, .int .i64 o.keep]] w fun e w' => e = .returned (.int .i64 (K.run d o).1) ∧ Td S w p (K.run d o).2 w' := by
  have e : K.run d o = K.restart d := by unfold K.run; rw [hdo]; simp
  rw [e, hdo]
  have HK := hid h
  have HC := hid hc
  have h6 := hid h6
  have F0 := hid (Fr.alloc (Fr.refl (fun _ => False) w) (.cells #[.int .i64 8, .string s, .string t, .slice ba bm bc, .int .i64 o.k, .int .i64 o.keep] 33))
  have KC := hid (restart_any (HK.out.kept F0.out (fun _ _ h => h)))
  obtain ⟨R, hR⟩ : ∃ R, K.restart d = R := ⟨_, rfl⟩
  rw [hR] at KC ⊢
  clear hR e h hc hdo
  generalize o.k = ok at KC F0 ⊢
  generalize o.keep = op at KC F0 ⊢
  go_enter Try.func18, Try.ntmps18
  go_wp2_with (first | (go_at_call 22; refine KC.out.mono ?_; rintro e w1 ⟨rfl, ht⟩; have HT := hid ht; clear ht))
  go_ret
  exact ⟨rfl, Td.pre F0.out HT.out⟩
set_option maxHeartbeats 1600000 in
theorem run_o {S : Nat → Prop} {w : World} {p : Nat} {d : K.DK} (h : Dk S w p d) (o : K.Op) (s t : ByteArray) (ba : Option Addr) (bm bc : Nat) (hd : o.do_ ≠ 0 ∧ o.do_ ≠ 1 ∧ o.do_ ≠ 3 ∧ o.do_ ≠ 4 ∧ o.do_ ≠ 6 ∧ o.do_ ≠ 7 ∧ o.do_ ≠ 8) :
    Calls Try.prog 18 #[.pointer (some ⟨p, 0, none⟩), .agg #[.int .i64 o.do_, .string s, .string t, .slice ba bm bc, .int .i64 o.k, .int .i64 o.keep]] w fun e w' => e = .returned (.int .i64 (K.run d o).1) ∧ Td S w p (K.run d o).2 w' := by
  obtain ⟨d0, d1, d3, d4, d6, d7, d8⟩ := hd
  have e : K.run d o = (0, d) := by unfold K.run; rw [if_neg d0, if_neg d1, if_neg d3, if_neg d4, if_neg d6, if_neg d7, if_neg d8]
  rw [e]
  have HK := hid h
  have F0 := hid (Fr.alloc (Fr.refl (fun _ => False) w) (.cells #[.int .i64 o.do_, .string s, .string t, .slice ba bm bc, .int .i64 o.k, .int .i64 o.keep] 33))
  generalize o.do_ = od at *
  generalize o.k = ok at *
  generalize o.keep = op at *
  have e0 : (od == 0) = false := by simpa using d0
  have e1 : (od == 1) = false := by simpa using d1
  have e3 : (od == 3) = false := by simpa using d3
  have e4 : (od == 4) = false := by simpa using d4
  have e6 : (od == 6) = false := by simpa using d6
  have e7 : (od == 7) = false := by simpa using d7
  have e8 : (od == 8) = false := by simpa using d8
  clear e h d0 d1 d3 d4 d6 d7 d8
  go_enter Try.func18, Try.ntmps18
  go_wp2
  go_ret
  exact ⟨rfl, Td.refl HK.out F0.out⟩
theorem run_any {S : Nat → Prop} {w : World} {p : Nat} {d : K.DK} (h : Dk S w p d) (o : K.Op) (s t : ByteArray) (ba : Option Addr) (bm bc : Nat) (h6 : O6 w o s t ba bm) (hc : ((d.used + bm : Nat) : Int) ≤ d.room → d.used + bm ≤ K.cap) :
    Calls Try.prog 18 #[.pointer (some ⟨p, 0, none⟩), .agg #[.int .i64 o.do_, .string s, .string t, .slice ba bm bc, .int .i64 o.k, .int .i64 o.keep]] w fun e w' => e = .returned (.int .i64 (K.run d o).1) ∧ Td S w p (K.run d o).2 w' := by
  by_cases d0 : o.do_ = 0
  · exact run_0 h o d0 s t ba bm bc h6 hc
  by_cases d1 : o.do_ = 1
  · exact run_1 h o d1 s t ba bm bc h6 hc
  by_cases d3 : o.do_ = 3
  · exact run_3 h o d3 s t ba bm bc h6 hc
  by_cases d4 : o.do_ = 4
  · exact run_4 h o d4 s t ba bm bc h6 hc
  by_cases d6 : o.do_ = 6
  · exact run_6 h o d6 s t ba bm bc h6 hc
  by_cases d7 : o.do_ = 7
  · exact run_7 h o d7 s t ba bm bc h6 hc
  by_cases d8 : o.do_ = 8
  · exact run_8 h o d8 s t ba bm bc h6 hc
  exact run_o h o s t ba bm bc ⟨d0, d1, d3, d4, d6, d7, d8⟩

end Go.Proofs.Ytnfpceeacfdldaa

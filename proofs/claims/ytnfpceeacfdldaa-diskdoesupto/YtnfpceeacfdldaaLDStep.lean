/-
  DiskDoes: an operation, done with both disks: the law's 'step'.
-/
import Derived.Test.YtnfpceeacfdldaaRClone
import Derived.Test.YtnfpceeacfdldaaRApp2
import Derived.Test.YtnfpceeacfdldaaRNames
import Derived.Test.YtnfpceeacfdldaaLDNames
import Derived.Test.YtnfpceeacfdldaaLDStays
namespace Go.Proofs.Ytnfpceeacfdldaa
open Go.RowKit Go.Maps
set_option linter.unusedVariables false

/-- both disks, apart, above all that was there -/
structure DD (w0 w : World) (p q : Nat) (Sd Sr : Nat → Prop) (d r : K.DK) : Prop where
  dk : Dk Sd w p d
  rk : Rk Sr w q r
  ap : ∀ j, Sd j → ¬ Sr j
  ged : ∀ j, Sd j → w0.heap.size ≤ j
  ger : ∀ j, Sr j → w0.heap.size ≤ j
  fr : Fr (fun _ => False) w0 w
theorem DD.keptS {w0 w w' : World} {p q : Nat} {Sd Sr T : Nat → Prop} {d r : K.DK} (h : DD w0 w p q Sd Sr d r) (hf : Fr T w w') (h1 : ∀ j, T j → w0.heap.size ≤ j) (h2 : ∀ j, Sd j → ¬ T j) (h3 : ∀ j, Sr j → ¬ T j) : DD w0 w' p q Sd Sr d r :=
  ⟨h.dk.kept hf h2, h.rk.kept hf h3, h.ap, h.ged, h.ger, h.fr.trans hf (fun i hi ht => by have := h1 i ht; omega)⟩
theorem DD.kept {w0 w w' : World} {p q : Nat} {Sd Sr : Nat → Prop} {d r : K.DK} (h : DD w0 w p q Sd Sr d r) (hf : Fr (fun _ => False) w w') : DD w0 w' p q Sd Sr d r :=
  h.keptS hf (fun _ h => h.elim) (fun _ _ h => h) (fun _ _ h => h)
theorem DD.d {w0 w w' : World} {p q : Nat} {Sd Sr : Nat → Prop} {d r d' : K.DK} (h : DD w0 w p q Sd Sr d r) (ht : Td Sd w p d' w') : DD w0 w' p q (Nx Sd w w') Sr d' r := by
  have hz := h.fr.size
  refine ⟨ht.1, h.rk.kept ht.2 (fun k hk hs => h.ap k hs hk), fun j hj hr => ?_, fun j hj => ?_, h.ger, h.fr.trans ht.2 (fun i hi hs => by have := h.ged i hs; omega)⟩
  · rcases hj.1 with hs | hs
    · exact h.ap j hs hr
    · have := h.rk.1 j hr
      omega
  · rcases hj.1 with hs | hs
    · exact h.ged j hs
    · omega
theorem DD.r {w0 w w' : World} {p q : Nat} {Sd Sr : Nat → Prop} {d r r' : K.DK} (h : DD w0 w p q Sd Sr d r) (ht : Rt Sr w q r' w') : DD w0 w' p q Sd (Nx Sr w w') d r' := by
  have hz := h.fr.size
  refine ⟨h.dk.kept ht.2 (fun k hk hs => h.ap k hk hs), ht.1, fun j hj hr => ?_, h.ged, fun j hj => ?_, h.fr.trans ht.2 (fun i hi hs => by have := h.ger i hs; omega)⟩
  · rcases hr.1 with hs | hs
    · exact h.ap j hj hs
    · have := h.dk.1 j hj
      omega
  · rcases hj.1 with hs | hs
    · exact h.ger j hs
    · omega
theorem Rk.sp {S : Nat → Prop} {w : World} {p : Nat} {d : K.DK} (h : Rk S w p d) : S p := by
  obtain ⟨_, _, _, _, _, _, _, h4, _⟩ := h
  exact h4
/-- what a step leaves -/
def Sp (w0 : World) (q u : Nat) (e : Ending) (w' : World) : Prop :=
  ∃ p' Sd' Sr' d', e = .returned (.tuple #[.pointer (some ⟨p', 0, none⟩), .bool true]) ∧ DD w0 w' p' q Sd' Sr' d' d' ∧ d'.used ≤ u
set_option maxRecDepth 20000 in
set_option maxHeartbeats 3200000 in
theorem step_0 {w0 w : World} {p q : Nat} {Sd Sr : Nat → Prop} {d : K.DK} (h : DD w0 w p q Sd Sr d d) (o : K.Op) (hdo : o.do_ = 0) (s t : ByteArray) (ba : Option Addr) (bm bc : Nat) (h6 : O6 w0 o s t ba bm) (hc : d.used + bm ≤ K.cap) :
    Calls Try.prog 11 #[.pointer (some ⟨p, 0, none⟩), .pointer (some ⟨q, 0, none⟩), .agg #[.int .i64 o.do_, .string s, .string t, .slice ba bm bc, .int .i64 o.k, .int .i64 o.keep]] w fun e w' => Sp w0 q (d.used + o.b.length) e w' := by
  have e : K.run d o = K.app d o.nm o.b := by unfold K.run; rw [hdo]; simp
  have hu := K.run_used d h.dk.2.1.up o
  rw [e] at hu
  rw [hdo]
  have HC := hid hc
  have h6 := hid h6
  have HB := hid h
  have KC : Hid (∀ W, Fr (fun _ => False) w W → Calls Try.prog 26 #[.pointer (some ⟨p, 0, none⟩), .string s, .slice ba bm bc] W fun e w' => e = .returned (.int .i64 (K.app d o.nm o.b).1) ∧ ∃ Sd', DD w0 w' p q Sd' Sr (K.app d o.nm o.b).2 d ∧ Fr Sd W w') := hid (fun W hf => by
    have h0 := HB.out.kept hf
    have k := append_any h0.dk s h6.out.sz ba bm bc o.b (h6.out.b_.kept h0.fr (fun _ _ _ h => h)) (by have := h6.out.bl; omega) (fun _ => HC.out)
    rw [h6.out.s_] at k
    refine k.mono ?_
    rintro e w' ⟨rfl, ht⟩
    exact ⟨rfl, _, h0.d ht, ht.2⟩)
  have KR : Hid (∀ W Sd', DD w0 W p q Sd' Sr (K.app d o.nm o.b).2 d → Calls Try.prog 31 #[.pointer (some ⟨q, 0, none⟩), .string s, .slice ba bm bc] W fun e w' => e = .returned (.int .i64 (K.app d o.nm o.b).1) ∧ ∃ Sr', DD w0 w' p q Sd' Sr' (K.app d o.nm o.b).2 (K.app d o.nm o.b).2 ∧ Fr Sr W w') := hid (fun W Sd' h1 => by
    have k := rapp_any h1.rk s h6.out.sz ba bm bc o.b (h6.out.b_.kept h1.fr (fun _ _ _ h => h)) (fun hz k hk e => by have := h6.out.b_.lt hz k hk; have := h1.ger q h1.rk.sp; omega) (by have := h6.out.bl; omega) (fun _ => HC.out)
    rw [h6.out.s_] at k
    refine k.mono ?_
    rintro e w' ⟨rfl, hr⟩
    exact ⟨rfl, _, h1.r hr, hr.2⟩)
  obtain ⟨R, hR⟩ : ∃ R, K.app d o.nm o.b = R := ⟨_, rfl⟩
  obtain ⟨er, d'⟩ := R
  rw [hR] at KC KR hu
  simp only at KC KR hu
  have HU := hid hu
  have HNB : Hid (¬ Sd w.heap.size ∧ ¬ Sr w.heap.size) := hid ⟨fun hs => by have := h.dk.1 _ hs; omega, fun hs => by have := h.rk.1 _ hs; omega⟩
  clear hR e h hc hdo hu
  obtain ⟨ok, hok⟩ : ∃ x, o.k = x := ⟨_, rfl⟩
  obtain ⟨op, hop⟩ : ∃ x, o.keep = x := ⟨_, rfl⟩
  rw [hok, hop]
  skip
  clear hok hop
  go_enter Try.func11, Try.ntmps11
  go_wp2_with fail
  go_region_held3 (fun w' => w'.cell? ⟨w.heap.size, 1, none⟩ = some (.string s) ∧ w'.cell? ⟨w.heap.size, 3, none⟩ = some (.slice ba bm bc)) (first | exact ⟨by simp, by simp⟩ | go_keep | exact s1 | exact s2)
    (first
      | (go_at_call 26; refine (KC.out _ (by first | exact Fr.alloc (Fr.refl _ w) _ | exact Fr.drew (Fr.alloc (Fr.refl _ w) _))).mono ?_; rintro e w1 ⟨rfl, Sd1, hdd, hf⟩; have s1 : (fun w' : World => w'.cell? ⟨w.heap.size, 1, none⟩ = some (.string s) ∧ w'.cell? ⟨w.heap.size, 3, none⟩ = some (.slice ba bm bc)) w1 := ⟨cell_fr hf HNB.out.1 (by simp), cell_fr hf HNB.out.1 (by simp)⟩; have HD1 := hid hdd; clear hdd hf)
      | (go_at_call 31; refine (KR.out w1 Sd1 HD1.out).mono ?_; rintro e w2 ⟨rfl, Sr2, hdd, hf⟩; have s2 : (fun w' : World => w'.cell? ⟨w.heap.size, 1, none⟩ = some (.string s) ∧ w'.cell? ⟨w.heap.size, 3, none⟩ = some (.slice ba bm bc)) w2 := ⟨cell_fr hf HNB.out.2 s1.1, cell_fr hf HNB.out.2 s1.2⟩; have HD2 := hid hdd; clear hdd hf))
  go_wp2
  go_ret2
  exact ⟨p, Sd1, Sr2, d', by simp, HD2.out, HU.out⟩
set_option maxRecDepth 20000 in
set_option maxHeartbeats 3200000 in
theorem step_1 {w0 w : World} {p q : Nat} {Sd Sr : Nat → Prop} {d : K.DK} (h : DD w0 w p q Sd Sr d d) (o : K.Op) (hdo : o.do_ = 1) (s t : ByteArray) (ba : Option Addr) (bm bc : Nat) (h6 : O6 w0 o s t ba bm) (hc : d.used + bm ≤ K.cap) :
    Calls Try.prog 11 #[.pointer (some ⟨p, 0, none⟩), .pointer (some ⟨q, 0, none⟩), .agg #[.int .i64 o.do_, .string s, .string t, .slice ba bm bc, .int .i64 o.k, .int .i64 o.keep]] w fun e w' => Sp w0 q (d.used + o.b.length) e w' := by
  have e : K.run d o = K.syn d o.nm := by unfold K.run; rw [hdo]; simp
  have hu := K.run_used d h.dk.2.1.up o
  rw [e] at hu
  rw [hdo]
  have HC := hid hc
  have h6 := hid h6
  have HB := hid h
  have KC : Hid (∀ W, Fr (fun _ => False) w W → Calls Try.prog 27 #[.pointer (some ⟨p, 0, none⟩), .string s] W fun e w' => e = .returned (.int .i64 (K.syn d o.nm).1) ∧ ∃ Sd', DD w0 w' p q Sd' Sr (K.syn d o.nm).2 d ∧ Fr Sd W w') := hid (fun W hf => by
    have h0 := HB.out.kept hf
    have k := sync_any h0.dk s h6.out.sz
    rw [h6.out.s_] at k
    refine k.mono ?_
    rintro e w' ⟨rfl, ht⟩
    exact ⟨rfl, _, h0.d ht, ht.2⟩)
  have KR : Hid (∀ W Sd', DD w0 W p q Sd' Sr (K.syn d o.nm).2 d → Calls Try.prog 32 #[.pointer (some ⟨q, 0, none⟩), .string s] W fun e w' => e = .returned (.int .i64 (K.syn d o.nm).1) ∧ ∃ Sr', DD w0 w' p q Sd' Sr' (K.syn d o.nm).2 (K.syn d o.nm).2 ∧ Fr Sr W w') := hid (fun W Sd' h1 => by
    have k := rsync_any h1.rk s h6.out.sz
    rw [h6.out.s_] at k
    refine k.mono ?_
    rintro e w' ⟨rfl, hr⟩
    exact ⟨rfl, _, h1.r hr, hr.2⟩)
  obtain ⟨R, hR⟩ : ∃ R, K.syn d o.nm = R := ⟨_, rfl⟩
  obtain ⟨er, d'⟩ := R
  rw [hR] at KC KR hu
  simp only at KC KR hu
  have HU := hid hu
  have HNB : Hid (¬ Sd w.heap.size ∧ ¬ Sr w.heap.size) := hid ⟨fun hs => by have := h.dk.1 _ hs; omega, fun hs => by have := h.rk.1 _ hs; omega⟩
  clear hR e h hc hdo hu
  obtain ⟨ok, hok⟩ : ∃ x, o.k = x := ⟨_, rfl⟩
  obtain ⟨op, hop⟩ : ∃ x, o.keep = x := ⟨_, rfl⟩
  rw [hok, hop]
  skip
  clear hok hop
  go_enter Try.func11, Try.ntmps11
  go_wp2_with fail
  go_region_held3 (fun w' => w'.cell? ⟨w.heap.size, 1, none⟩ = some (.string s)) (first | exact by simp | go_keep | exact s1 | exact s2)
    (first
      | (go_at_call 27; refine (KC.out _ (by first | exact Fr.alloc (Fr.refl _ w) _ | exact Fr.drew (Fr.alloc (Fr.refl _ w) _))).mono ?_; rintro e w1 ⟨rfl, Sd1, hdd, hf⟩; have s1 : (fun w' : World => w'.cell? ⟨w.heap.size, 1, none⟩ = some (.string s)) w1 := cell_fr hf HNB.out.1 (by simp); have HD1 := hid hdd; clear hdd hf)
      | (go_at_call 32; refine (KR.out w1 Sd1 HD1.out).mono ?_; rintro e w2 ⟨rfl, Sr2, hdd, hf⟩; have s2 : (fun w' : World => w'.cell? ⟨w.heap.size, 1, none⟩ = some (.string s)) w2 := cell_fr hf HNB.out.2 s1; have HD2 := hid hdd; clear hdd hf))
  go_wp2
  go_ret2
  exact ⟨p, Sd1, Sr2, d', by simp, HD2.out, HU.out⟩
set_option maxRecDepth 20000 in
set_option maxHeartbeats 3200000 in
theorem step_3 {w0 w : World} {p q : Nat} {Sd Sr : Nat → Prop} {d : K.DK} (h : DD w0 w p q Sd Sr d d) (o : K.Op) (hdo : o.do_ = 3) (s t : ByteArray) (ba : Option Addr) (bm bc : Nat) (h6 : O6 w0 o s t ba bm) (hc : d.used + bm ≤ K.cap) :
    Calls Try.prog 11 #[.pointer (some ⟨p, 0, none⟩), .pointer (some ⟨q, 0, none⟩), .agg #[.int .i64 o.do_, .string s, .string t, .slice ba bm bc, .int .i64 o.k, .int .i64 o.keep]] w fun e w' => Sp w0 q (d.used + o.b.length) e w' := by
  have e : K.run d o = K.rem d o.nm := by unfold K.run; rw [hdo]; simp
  have hu := K.run_used d h.dk.2.1.up o
  rw [e] at hu
  rw [hdo]
  have HC := hid hc
  have h6 := hid h6
  have HB := hid h
  have KC : Hid (∀ W, Fr (fun _ => False) w W → Calls Try.prog 28 #[.pointer (some ⟨p, 0, none⟩), .string s] W fun e w' => e = .returned (.int .i64 (K.rem d o.nm).1) ∧ ∃ Sd', DD w0 w' p q Sd' Sr (K.rem d o.nm).2 d ∧ Fr Sd W w') := hid (fun W hf => by
    have h0 := HB.out.kept hf
    have k := remove_any h0.dk s h6.out.sz
    rw [h6.out.s_] at k
    refine k.mono ?_
    rintro e w' ⟨rfl, ht⟩
    exact ⟨rfl, _, h0.d ht, ht.2⟩)
  have KR : Hid (∀ W Sd', DD w0 W p q Sd' Sr (K.rem d o.nm).2 d → Calls Try.prog 34 #[.pointer (some ⟨q, 0, none⟩), .string s] W fun e w' => e = .returned (.int .i64 (K.rem d o.nm).1) ∧ ∃ Sr', DD w0 w' p q Sd' Sr' (K.rem d o.nm).2 (K.rem d o.nm).2 ∧ Fr Sr W w') := hid (fun W Sd' h1 => by
    have k := rremove_any h1.rk s h6.out.sz
    rw [h6.out.s_] at k
    refine k.mono ?_
    rintro e w' ⟨rfl, hr⟩
    exact ⟨rfl, _, h1.r hr, hr.2⟩)
  obtain ⟨R, hR⟩ : ∃ R, K.rem d o.nm = R := ⟨_, rfl⟩
  obtain ⟨er, d'⟩ := R
  rw [hR] at KC KR hu
  simp only at KC KR hu
  have HU := hid hu
  have HNB : Hid (¬ Sd w.heap.size ∧ ¬ Sr w.heap.size) := hid ⟨fun hs => by have := h.dk.1 _ hs; omega, fun hs => by have := h.rk.1 _ hs; omega⟩
  clear hR e h hc hdo hu
  obtain ⟨ok, hok⟩ : ∃ x, o.k = x := ⟨_, rfl⟩
  obtain ⟨op, hop⟩ : ∃ x, o.keep = x := ⟨_, rfl⟩
  rw [hok, hop]
  skip
  clear hok hop
  go_enter Try.func11, Try.ntmps11
  go_wp2_with fail
  go_region_held3 (fun w' => w'.cell? ⟨w.heap.size, 1, none⟩ = some (.string s)) (first | exact by simp | go_keep | exact s1 | exact s2)
    (first
      | (go_at_call 28; refine (KC.out _ (by first | exact Fr.alloc (Fr.refl _ w) _ | exact Fr.drew (Fr.alloc (Fr.refl _ w) _))).mono ?_; rintro e w1 ⟨rfl, Sd1, hdd, hf⟩; have s1 : (fun w' : World => w'.cell? ⟨w.heap.size, 1, none⟩ = some (.string s)) w1 := cell_fr hf HNB.out.1 (by simp); have HD1 := hid hdd; clear hdd hf)
      | (go_at_call 34; refine (KR.out w1 Sd1 HD1.out).mono ?_; rintro e w2 ⟨rfl, Sr2, hdd, hf⟩; have s2 : (fun w' : World => w'.cell? ⟨w.heap.size, 1, none⟩ = some (.string s)) w2 := cell_fr hf HNB.out.2 s1; have HD2 := hid hdd; clear hdd hf))
  go_wp2
  go_ret2
  exact ⟨p, Sd1, Sr2, d', by simp, HD2.out, HU.out⟩
set_option maxRecDepth 20000 in
set_option maxHeartbeats 3200000 in
theorem step_4 {w0 w : World} {p q : Nat} {Sd Sr : Nat → Prop} {d : K.DK} (h : DD w0 w p q Sd Sr d d) (o : K.Op) (hdo : o.do_ = 4) (s t : ByteArray) (ba : Option Addr) (bm bc : Nat) (h6 : O6 w0 o s t ba bm) (hc : d.used + bm ≤ K.cap) :
    Calls Try.prog 11 #[.pointer (some ⟨p, 0, none⟩), .pointer (some ⟨q, 0, none⟩), .agg #[.int .i64 o.do_, .string s, .string t, .slice ba bm bc, .int .i64 o.k, .int .i64 o.keep]] w fun e w' => Sp w0 q (d.used + o.b.length) e w' := by
  have e : K.run d o = K.ren d o.nm o.to := by unfold K.run; rw [hdo]; simp
  have hu := K.run_used d h.dk.2.1.up o
  rw [e] at hu
  rw [hdo]
  have HC := hid hc
  have h6 := hid h6
  have HB := hid h
  have KC : Hid (∀ W, Fr (fun _ => False) w W → Calls Try.prog 29 #[.pointer (some ⟨p, 0, none⟩), .string s, .string t] W fun e w' => e = .returned (.int .i64 (K.ren d o.nm o.to).1) ∧ ∃ Sd', DD w0 w' p q Sd' Sr (K.ren d o.nm o.to).2 d ∧ Fr Sd W w') := hid (fun W hf => by
    have h0 := HB.out.kept hf
    have k := rename_any h0.dk s t h6.out.sz h6.out.tz
    rw [h6.out.s_] at k
    rw [h6.out.t_] at k
    refine k.mono ?_
    rintro e w' ⟨rfl, ht⟩
    exact ⟨rfl, _, h0.d ht, ht.2⟩)
  have KR : Hid (∀ W Sd', DD w0 W p q Sd' Sr (K.ren d o.nm o.to).2 d → Calls Try.prog 35 #[.pointer (some ⟨q, 0, none⟩), .string s, .string t] W fun e w' => e = .returned (.int .i64 (K.ren d o.nm o.to).1) ∧ ∃ Sr', DD w0 w' p q Sd' Sr' (K.ren d o.nm o.to).2 (K.ren d o.nm o.to).2 ∧ Fr Sr W w') := hid (fun W Sd' h1 => by
    have k := rren_any h1.rk s t h6.out.sz h6.out.tz
    rw [h6.out.s_] at k
    rw [h6.out.t_] at k
    refine k.mono ?_
    rintro e w' ⟨rfl, hr⟩
    exact ⟨rfl, _, h1.r hr, hr.2⟩)
  obtain ⟨R, hR⟩ : ∃ R, K.ren d o.nm o.to = R := ⟨_, rfl⟩
  obtain ⟨er, d'⟩ := R
  rw [hR] at KC KR hu
  simp only at KC KR hu
  have HU := hid hu
  have HNB : Hid (¬ Sd w.heap.size ∧ ¬ Sr w.heap.size) := hid ⟨fun hs => by have := h.dk.1 _ hs; omega, fun hs => by have := h.rk.1 _ hs; omega⟩
  clear hR e h hc hdo hu
  obtain ⟨ok, hok⟩ : ∃ x, o.k = x := ⟨_, rfl⟩
  obtain ⟨op, hop⟩ : ∃ x, o.keep = x := ⟨_, rfl⟩
  rw [hok, hop]
  skip
  clear hok hop
  go_enter Try.func11, Try.ntmps11
  go_wp2_with fail
  go_region_held3 (fun w' => w'.cell? ⟨w.heap.size, 1, none⟩ = some (.string s) ∧ w'.cell? ⟨w.heap.size, 2, none⟩ = some (.string t)) (first | exact ⟨by simp, by simp⟩ | go_keep | exact s1 | exact s2)
    (first
      | (go_at_call 29; refine (KC.out _ (by first | exact Fr.alloc (Fr.refl _ w) _ | exact Fr.drew (Fr.alloc (Fr.refl _ w) _))).mono ?_; rintro e w1 ⟨rfl, Sd1, hdd, hf⟩; have s1 : (fun w' : World => w'.cell? ⟨w.heap.size, 1, none⟩ = some (.string s) ∧ w'.cell? ⟨w.heap.size, 2, none⟩ = some (.string t)) w1 := ⟨cell_fr hf HNB.out.1 (by simp), cell_fr hf HNB.out.1 (by simp)⟩; have HD1 := hid hdd; clear hdd hf)
      | (go_at_call 35; refine (KR.out w1 Sd1 HD1.out).mono ?_; rintro e w2 ⟨rfl, Sr2, hdd, hf⟩; have s2 : (fun w' : World => w'.cell? ⟨w.heap.size, 1, none⟩ = some (.string s) ∧ w'.cell? ⟨w.heap.size, 2, none⟩ = some (.string t)) w2 := ⟨cell_fr hf HNB.out.2 s1.1, cell_fr hf HNB.out.2 s1.2⟩; have HD2 := hid hdd; clear hdd hf))
  go_wp2
  go_ret2
  exact ⟨p, Sd1, Sr2, d', by simp, HD2.out, HU.out⟩
set_option maxRecDepth 20000 in
set_option maxHeartbeats 3200000 in
theorem step_6 {w0 w : World} {p q : Nat} {Sd Sr : Nat → Prop} {d : K.DK} (h : DD w0 w p q Sd Sr d d) (o : K.Op) (hdo : o.do_ = 6) (s t : ByteArray) (ba : Option Addr) (bm bc : Nat) (h6 : O6 w0 o s t ba bm) (hc : d.used + bm ≤ K.cap) :
    Calls Try.prog 11 #[.pointer (some ⟨p, 0, none⟩), .pointer (some ⟨q, 0, none⟩), .agg #[.int .i64 o.do_, .string s, .string t, .slice ba bm bc, .int .i64 o.k, .int .i64 o.keep]] w fun e w' => Sp w0 q (d.used + o.b.length) e w' := by
  have e : K.run d o = K.fuse d o.k o.keep := by unfold K.run; rw [hdo]; simp
  have hu := K.run_used d h.dk.2.1.up o
  rw [e] at hu
  rw [hdo]
  have HC := hid hc
  have h6 := hid h6
  have HB := hid h
  have KC : Hid (∀ W, Fr (fun _ => False) w W → Calls Try.prog 30 #[.pointer (some ⟨p, 0, none⟩), .int .i64 o.k, .int .i64 o.keep] W fun e w' => e = .returned (.int .i64 (K.fuse d o.k o.keep).1) ∧ ∃ Sd', DD w0 w' p q Sd' Sr (K.fuse d o.k o.keep).2 d ∧ Fr Sd W w') := hid (fun W hf => by
    have h0 := HB.out.kept hf
    have k := fuse_any h0.dk o.k o.keep h6.out.k1 h6.out.p1
    refine k.mono ?_
    rintro e w' ⟨rfl, ht⟩
    exact ⟨rfl, _, h0.d ht, ht.2⟩)
  have KR : Hid (∀ W Sd', DD w0 W p q Sd' Sr (K.fuse d o.k o.keep).2 d → Calls Try.prog 37 #[.pointer (some ⟨q, 0, none⟩), .int .i64 o.k, .int .i64 o.keep] W fun e w' => e = .returned (.int .i64 (K.fuse d o.k o.keep).1) ∧ ∃ Sr', DD w0 w' p q Sd' Sr' (K.fuse d o.k o.keep).2 (K.fuse d o.k o.keep).2 ∧ Fr Sr W w') := hid (fun W Sd' h1 => by
    have k := rfuse_any h1.rk o.k o.keep h6.out.k1 h6.out.p1
    refine k.mono ?_
    rintro e w' ⟨rfl, hr⟩
    exact ⟨rfl, _, h1.r hr, hr.2⟩)
  obtain ⟨R, hR⟩ : ∃ R, K.fuse d o.k o.keep = R := ⟨_, rfl⟩
  obtain ⟨er, d'⟩ := R
  rw [hR] at KC KR hu
  simp only at KC KR hu
  have HU := hid hu
  have HNB : Hid (¬ Sd w.heap.size ∧ ¬ Sr w.heap.size) := hid ⟨fun hs => by have := h.dk.1 _ hs; omega, fun hs => by have := h.rk.1 _ hs; omega⟩
  clear hR e h hc hdo hu
  obtain ⟨ok, hok⟩ : ∃ x, o.k = x := ⟨_, rfl⟩
  obtain ⟨op, hop⟩ : ∃ x, o.keep = x := ⟨_, rfl⟩
  rw [hok, hop]
  rw [hok, hop] at KC KR
  clear hok hop
  go_enter Try.func11, Try.ntmps11
  go_wp2_with fail
  go_region_held3 (fun w' => w'.cell? ⟨w.heap.size, 4, none⟩ = some (.int .i64 ok) ∧ w'.cell? ⟨w.heap.size, 5, none⟩ = some (.int .i64 op)) (first | exact ⟨by simp, by simp⟩ | go_keep | exact s1 | exact s2)
    (first
      | (go_at_call 30; refine (KC.out _ (by first | exact Fr.alloc (Fr.refl _ w) _ | exact Fr.drew (Fr.alloc (Fr.refl _ w) _))).mono ?_; rintro e w1 ⟨rfl, Sd1, hdd, hf⟩; have s1 : (fun w' : World => w'.cell? ⟨w.heap.size, 4, none⟩ = some (.int .i64 ok) ∧ w'.cell? ⟨w.heap.size, 5, none⟩ = some (.int .i64 op)) w1 := ⟨cell_fr hf HNB.out.1 (by simp), cell_fr hf HNB.out.1 (by simp)⟩; have HD1 := hid hdd; clear hdd hf)
      | (go_at_call 37; refine (KR.out w1 Sd1 HD1.out).mono ?_; rintro e w2 ⟨rfl, Sr2, hdd, hf⟩; have s2 : (fun w' : World => w'.cell? ⟨w.heap.size, 4, none⟩ = some (.int .i64 ok) ∧ w'.cell? ⟨w.heap.size, 5, none⟩ = some (.int .i64 op)) w2 := ⟨cell_fr hf HNB.out.2 s1.1, cell_fr hf HNB.out.2 s1.2⟩; have HD2 := hid hdd; clear hdd hf))
  go_wp2
  go_ret2
  exact ⟨p, Sd1, Sr2, d', by simp, HD2.out, HU.out⟩
set_option maxRecDepth 20000 in
set_option maxHeartbeats 3200000 in
theorem step_7 {w0 w : World} {p q : Nat} {Sd Sr : Nat → Prop} {d : K.DK} (h : DD w0 w p q Sd Sr d d) (o : K.Op) (hdo : o.do_ = 7) (s t : ByteArray) (ba : Option Addr) (bm bc : Nat) (h6 : O6 w0 o s t ba bm) (hc : d.used + bm ≤ K.cap) :
    Calls Try.prog 11 #[.pointer (some ⟨p, 0, none⟩), .pointer (some ⟨q, 0, none⟩), .agg #[.int .i64 o.do_, .string s, .string t, .slice ba bm bc, .int .i64 o.k, .int .i64 o.keep]] w fun e w' => Sp w0 q (d.used + o.b.length) e w' := by
  have e : K.run d o = K.crash d o.keep := by unfold K.run; rw [hdo]; simp
  have hu := K.run_used d h.dk.2.1.up o
  rw [e] at hu
  rw [hdo]
  have HC := hid hc
  have h6 := hid h6
  have HB := hid h
  have KC : Hid (∀ W, Fr (fun _ => False) w W → Calls Try.prog 20 #[.pointer (some ⟨p, 0, none⟩), .int .i64 o.keep] W fun e w' => e = .returned (.int .i64 (K.crash d o.keep).1) ∧ ∃ Sd', DD w0 w' p q Sd' Sr (K.crash d o.keep).2 d ∧ Fr Sd W w') := hid (fun W hf => by
    have h0 := HB.out.kept hf
    have k := crash_any h0.dk o.keep h6.out.p1
    refine k.mono ?_
    rintro e w' ⟨rfl, ht⟩
    exact ⟨rfl, _, h0.d ht, ht.2⟩)
  have KR : Hid (∀ W Sd', DD w0 W p q Sd' Sr (K.crash d o.keep).2 d → Calls Try.prog 38 #[.pointer (some ⟨q, 0, none⟩), .int .i64 o.keep] W fun e w' => e = .returned (.int .i64 (K.crash d o.keep).1) ∧ ∃ Sr', DD w0 w' p q Sd' Sr' (K.crash d o.keep).2 (K.crash d o.keep).2 ∧ Fr Sr W w') := hid (fun W Sd' h1 => by
    have k := rcrash_any h1.rk o.keep h6.out.p1
    refine k.mono ?_
    rintro e w' ⟨rfl, hr⟩
    exact ⟨rfl, _, h1.r hr, hr.2⟩)
  obtain ⟨R, hR⟩ : ∃ R, K.crash d o.keep = R := ⟨_, rfl⟩
  obtain ⟨er, d'⟩ := R
  rw [hR] at KC KR hu
  simp only at KC KR hu
  have HU := hid hu
  have HNB : Hid (¬ Sd w.heap.size ∧ ¬ Sr w.heap.size) := hid ⟨fun hs => by have := h.dk.1 _ hs; omega, fun hs => by have := h.rk.1 _ hs; omega⟩
  clear hR e h hc hdo hu
  obtain ⟨ok, hok⟩ : ∃ x, o.k = x := ⟨_, rfl⟩
  obtain ⟨op, hop⟩ : ∃ x, o.keep = x := ⟨_, rfl⟩
  rw [hok, hop]
  rw [hop] at KC KR
  clear hok hop
  go_enter Try.func11, Try.ntmps11
  go_wp2_with fail
  go_region_held3 (fun w' => w'.cell? ⟨w.heap.size, 5, none⟩ = some (.int .i64 op)) (first | exact by simp | go_keep | exact s1 | exact s2)
    (first
      | (go_at_call 20; refine (KC.out _ (by first | exact Fr.alloc (Fr.refl _ w) _ | exact Fr.drew (Fr.alloc (Fr.refl _ w) _))).mono ?_; rintro e w1 ⟨rfl, Sd1, hdd, hf⟩; have s1 : (fun w' : World => w'.cell? ⟨w.heap.size, 5, none⟩ = some (.int .i64 op)) w1 := cell_fr hf HNB.out.1 (by simp); have HD1 := hid hdd; clear hdd hf)
      | (go_at_call 38; refine (KR.out w1 Sd1 HD1.out).mono ?_; rintro e w2 ⟨rfl, Sr2, hdd, hf⟩; have s2 : (fun w' : World => w'.cell? ⟨w.heap.size, 5, none⟩ = some (.int .i64 op)) w2 := cell_fr hf HNB.out.2 s1; have HD2 := hid hdd; clear hdd hf))
  go_wp2
  go_ret2
  exact ⟨p, Sd1, Sr2, d', by simp, HD2.out, HU.out⟩
set_option maxRecDepth 20000 in
set_option maxHeartbeats 3200000 in
theorem step_8 {w0 w : World} {p q : Nat} {Sd Sr : Nat → Prop} {d : K.DK} (h : DD w0 w p q Sd Sr d d) (o : K.Op) (hdo : o.do_ = 8) (s t : ByteArray) (ba : Option Addr) (bm bc : Nat) (h6 : O6 w0 o s t ba bm) (hc : d.used + bm ≤ K.cap) :
    Calls Try.prog 11 #[.pointer (some ⟨p, 0, none⟩), .pointer (some ⟨q, 0, none⟩), .agg #[.int .i64 o.do_, .string s, .string t, .slice ba bm bc, .int .i64 o.k, .int .i64 o.keep]] w fun e w' => Sp w0 q (d.used + o.b.length) e w' := by
  have e : K.run d o = K.restart d := by unfold K.run; rw [hdo]; simp
  have hu := K.run_used d h.dk.2.1.up o
  rw [e] at hu
  rw [hdo]
  have HC := hid hc
  have h6 := hid h6
  have HB := hid h
  have KC : Hid (∀ W, Fr (fun _ => False) w W → Calls Try.prog 22 #[.pointer (some ⟨p, 0, none⟩)] W fun e w' => e = .returned (.int .i64 (K.restart d).1) ∧ ∃ Sd', DD w0 w' p q Sd' Sr (K.restart d).2 d ∧ Fr Sd W w') := hid (fun W hf => by
    have h0 := HB.out.kept hf
    have k := restart_any h0.dk
    refine k.mono ?_
    rintro e w' ⟨rfl, ht⟩
    exact ⟨rfl, _, h0.d ht, ht.2⟩)
  have KR : Hid (∀ W Sd', DD w0 W p q Sd' Sr (K.restart d).2 d → Calls Try.prog 39 #[.pointer (some ⟨q, 0, none⟩)] W fun e w' => e = .returned (.int .i64 (K.restart d).1) ∧ ∃ Sr', DD w0 w' p q Sd' Sr' (K.restart d).2 (K.restart d).2 ∧ Fr Sr W w') := hid (fun W Sd' h1 => by
    have k := rrestart_any h1.rk
    refine k.mono ?_
    rintro e w' ⟨rfl, hr⟩
    exact ⟨rfl, _, h1.r hr, hr.2⟩)
  obtain ⟨R, hR⟩ : ∃ R, K.restart d = R := ⟨_, rfl⟩
  obtain ⟨er, d'⟩ := R
  rw [hR] at KC KR hu
  simp only at KC KR hu
  have HU := hid hu
  have HNB : Hid (¬ Sd w.heap.size ∧ ¬ Sr w.heap.size) := hid ⟨fun hs => by have := h.dk.1 _ hs; omega, fun hs => by have := h.rk.1 _ hs; omega⟩
  clear hR e h hc hdo hu
  obtain ⟨ok, hok⟩ : ∃ x, o.k = x := ⟨_, rfl⟩
  obtain ⟨op, hop⟩ : ∃ x, o.keep = x := ⟨_, rfl⟩
  rw [hok, hop]
  skip
  clear hok hop
  go_enter Try.func11, Try.ntmps11
  skip
  go_wp2_with
    (first
      | (go_at_call 22; refine (KC.out _ (by first | exact Fr.alloc (Fr.refl _ w) _ | exact Fr.drew (Fr.alloc (Fr.refl _ w) _))).mono ?_; rintro e w1 ⟨rfl, Sd1, hdd, hf⟩; have s1 : (fun w' : World => True) w1 := trivial; have HD1 := hid hdd; clear hdd hf)
      | (go_at_call 39; refine (KR.out w1 Sd1 HD1.out).mono ?_; rintro e w2 ⟨rfl, Sr2, hdd, hf⟩; have s2 : (fun w' : World => True) w2 := trivial; have HD2 := hid hdd; clear hdd hf))
  skip
  go_ret2
  exact ⟨p, Sd1, Sr2, d', by simp, HD2.out, HU.out⟩

end Go.Proofs.Ytnfpceeacfdldaa

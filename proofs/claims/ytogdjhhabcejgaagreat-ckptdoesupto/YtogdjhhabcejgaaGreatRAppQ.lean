/-
  The document's disk: Append.
-/
import Derived.Test.YtogdjhhabcejgaaGreatRPut2Q
import Derived.Deep.RegionHeld3
namespace Go.Proofs.YtogdjhhabcejgaaGreat
open Go.RowKit Go.Maps
set_option linter.unusedVariables false

namespace K
theorem blow_put (d : DK) (fs : List (Nm × F)) : blow { d with fs := fs } = ((blow d).1, { (blow d).2 with fs := fs }) := by
  unfold blow
  simp only
  split <;> rfl
theorem ok_blow_fs {d : DK} {fs : List (Nm × F)} (h : Ok { d with fs := fs }) : Ok { (blow d).2 with fs := fs } := by
  have := ok_blow h
  rw [blow_put] at this
  exact this
end K

set_option maxHeartbeats 1600000 in
theorem rapp_A {S : Nat → Prop} {w : World} {p : Nat} {d : K.DK} (h : Rk S w p d) (s : ByteArray) (hz : s.size ≤ maxLen) (ba : Option Addr) (bm bc : Nat) (bs : List UInt8) (h0 : K.rdy d s.data.toList ≠ 0) :
    Calls Tryz.prog 26 #[.pointer (some ⟨p, 0, none⟩), .string s, .slice ba bm bc] w fun e w' => e = .returned (.int .i64 (K.app d s.data.toList bs).1) ∧ Rt S w p (K.app d s.data.toList bs).2 w' := by
  have HL := hid (fun W b bc hf hb => rlooks1 h s hz W b bc hf hb)
  have HK := hid h
  clear h
  rw [K.app_err h0]
  obtain ⟨R, hR⟩ : ∃ R, K.rdy d s.data.toList = R := ⟨_, rfl⟩
  rw [hR] at HL h0 ⊢
  have hb0 : (R == 0) = false := by simpa using h0
  clear hR
  go_enter Tryz.func26, Tryz.ntmps26
  go_wp2_with fail
  refine (HL.out _ _ _ (Fr.alloc (Fr.refl _ _) _) (by simp)).mono ?_
  rintro e w1 ⟨rfl, hw1⟩
  have F1 : Hid (Fr (fun _ => False) w w1) := hid (hw1 ▸ Fr.alloc (Fr.refl _ _) _)
  clear hw1
  go_wp2
  go_ret
  exact ⟨rfl, Rt.refl HK.out F1.out⟩

set_option maxHeartbeats 1600000 in
theorem rapp_B {S : Nat → Prop} {w : World} {p : Nat} {d : K.DK} (h : Rk S w p d) (s : ByteArray) (hz : s.size ≤ maxLen) (ba : Option Addr) (bm bc : Nat) (bs : List UInt8) (h0 : K.rdy d s.data.toList = 0) (h1 : K.get s.data.toList d.fs = none ∧ 1024 ≤ d.fs.length) :
    Calls Tryz.prog 26 #[.pointer (some ⟨p, 0, none⟩), .string s, .slice ba bm bc] w fun e w' => e = .returned (.int .i64 (K.app d s.data.toList bs).1) ∧ Rt S w p (K.app d s.data.toList bs).2 w' := by
  have HL := hid (fun W b bc hf hb => rlooks1 h s hz W b bc hf hb)
  have HK := hid h
  have HF := hid (fun (W : World) (hf : Fr (fun _ => False) w W) => rfind_any (h.kept hf (fun _ _ h => h)) s)
  obtain ⟨fa, fc, l, kp, hx⟩ := h.rx
  clear h
  rw [K.app_long h0 h1]
  unfold rfnd at HF
  rw [h1.1] at HF
  simp only [Option.isSome_none] at HF
  rw [h0] at HL
  generalize K.pos d.fs s.data.toList = ps at HF
  have hlen : (1024 : Int) ≤ l.length := by rw [hx.rm.len]; omega
  have c1 := hx.rm.c.2.1
  clear hx h0 h1
  go_enter Tryz.func26, Tryz.ntmps26
  go_wp2_with fail
  refine (HL.out _ _ _ (Fr.alloc (Fr.refl _ _) _) (by simp)).mono ?_
  rintro e w1 ⟨rfl, hw1⟩
  have f1 : Fr (fun _ => False) w w1 := hw1 ▸ Fr.alloc (Fr.refl _ _) _
  have KF := hid (HF.out w1 f1)
  have F1 := hid f1
  clear hw1 f1 HF
  go_wp2_with fail
  refine KF.out.mono ?_
  rintro e w2 ⟨rfl, n2, hw2⟩
  have f2 : Fr (fun _ => False) w w2 := F1.out.trans (hw2 ▸ Fr.drewN _ _) (fun _ _ h => h)
  have F2 := hid f2
  have c2 := cell_fr f2 (fun h => h) c1
  clear hw2 f2 c1 KF
  go_wp2
  go_ret
  exact ⟨rfl, Rt.refl HK.out F2.out⟩

set_option maxHeartbeats 3200000 in
set_option maxRecDepth 20000 in
theorem rapp_C {S : Nat → Prop} {w : World} {p : Nat} {d : K.DK} (h : Rk S w p d) (s : ByteArray) (hz : s.size ≤ maxLen) (ba : Option Addr) (bm bc : Nat) (bs : List UInt8) (hb : Sl w ba bm bs) (h0 : K.rdy d s.data.toList = 0) (h1 : ¬ (K.get s.data.toList d.fs = none ∧ 1024 ≤ d.fs.length)) (h2 : d.room < d.used + bs.length) (hbm : bm ≤ 9223372036854775807) :
    Calls Tryz.prog 26 #[.pointer (some ⟨p, 0, none⟩), .string s, .slice ba bm bc] w fun e w' => e = .returned (.int .i64 (K.app d s.data.toList bs).1) ∧ Rt S w p (K.app d s.data.toList bs).2 w' := by
  have HL := hid (fun W b bc hf hb => rlooks1 h s hz W b bc hf hb)
  have HK := hid h
  have HF := hid (fun (W : World) (hf : Fr (fun _ => False) w W) => rfind_any (h.kept hf (fun _ _ h => h)) s)
  have HU := hid (fun (W : World) (hf : Fr (fun _ => False) w W) => rused_any (h.kept hf (fun _ _ h => h)))
  obtain ⟨fa, fc, l, kp, hx⟩ := h.rx
  clear h
  rw [K.app_full h0 h1 h2]
  unfold rfnd at HF
  rw [h0] at HL
  generalize K.pos d.fs s.data.toList = ps at HF
  have hlen : (K.get s.data.toList d.fs).isSome = false → ¬ (1024 : Int) ≤ l.length := fun hg e => h1 ⟨by simpa using hg, by rw [hx.rm.len] at e; omega⟩
  obtain ⟨gb, hgb⟩ : ∃ gb, (K.get s.data.toList d.fs).isSome = gb := ⟨_, rfl⟩
  rw [hgb] at HF hlen
  have c1 := hx.rm.c.2.1
  have c0 := hx.rm.c.1
  have hur := hx.ok.ur
  have hr0 := hx.ok.r0
  have hr1 := hx.ok.r1
  have hlb := hb.1
  rw [hlb] at h2
  have hFF : d.room - (d.used : Int) < (bm : Int) := by omega
  have hw : IntKind.i64.wrap (d.room - (d.used : Int)) = d.room - (d.used : Int) := by rw [IntKind.wrap_i64]; omega
  clear hx h0 h1 h2 hgb hb hlb hur hr0 hr1
  cases gb
  all_goals
    try replace hlen := hlen rfl
    go_enter Tryz.func26, Tryz.ntmps26
    go_wp2_with fail
    refine (HL.out _ _ _ (Fr.alloc (Fr.refl _ _) _) (by simp)).mono ?_
    rintro e w1 ⟨rfl, hw1⟩
    have f1 : Fr (fun _ => False) w w1 := hw1 ▸ Fr.alloc (Fr.refl _ _) _
    have KF := hid (HF.out w1 f1)
    have F1 := hid f1
    clear hw1 f1 HF
    go_wp2_with fail
    refine KF.out.mono ?_
    rintro e w2 ⟨rfl, n2, hw2⟩
    have f2 : Fr (fun _ => False) w w2 := F1.out.trans (hw2 ▸ Fr.drewN _ _) (fun _ _ h => h)
    have F2 := hid f2
    have c2 := cell_fr f2 (fun h => h) c1
    have c3 := cell_fr f2 (fun h => h) c0
    clear hw2 f2 c1 c0 KF
    go_wp2
    go_region_held3 (fun w' => w'.cell? ⟨p, 0, none⟩ = some (.int .i64 d.room)) (first | go_keep)
      (first
        | (go_at_call 9; refine (HU.out _ (by first | exact F2.out | exact Fr.drew F2.out | exact F2.out.trans (Fr.drewN _ _) (fun _ _ h => h))).mono ?_; rintro e w3 ⟨rfl, rfl⟩))
    go_wp2
    go_ret
    exact ⟨rfl, Rt.refl HK.out (by first | exact F2.out | exact Fr.drew F2.out | exact F2.out.trans (Fr.drewN _ _) (fun _ _ h => h))⟩

end Go.Proofs.YtogdjhhabcejgaaGreat

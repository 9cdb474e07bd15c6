/-
  The document's disk: Used, find.
-/
import Derived.Test.YtnfpceeacfdldaaRFind
namespace Go.Proofs.Ytnfpceeacfdldaa
open Go.RowKit Go.Maps
set_option linter.unusedVariables false

/-- the bytes of the first k files -/
def K.totTo (d : K.DK) (k : Nat) : Nat := K.tot K.F.len (d.fs.take k)
theorem K.totTo_next {d : K.DK} {k : Nat} {q : K.Nm × K.F} (h : d.fs[k]? = some q) : K.totTo d (k + 1) = K.totTo d k + q.2.len := by
  unfold K.totTo K.tot
  rw [List.take_add_one, h]
  simp
theorem K.totTo_le (d : K.DK) (k : Nat) : K.totTo d k ≤ d.used := by
  unfold K.totTo K.DK.used K.tot
  conv => rhs; rw [← List.take_append_drop k d.fs]
  rw [List.map_append, List.sum_append]
  exact Nat.le_add_right _ _
theorem K.totTo_all (d : K.DK) : K.totTo d d.fs.length = d.used := by unfold K.totTo K.DK.used; rw [List.take_length]
set_option maxHeartbeats 1600000 in
theorem rused_any {S : Nat → Prop} {w : World} {p : Nat} {d : K.DK} (h : Rk S w p d) :
    Calls Try.prog 15 #[.pointer (some ⟨p, 0, none⟩)] w fun e w' => e = .returned (.int .i64 (d.used : Nat)) ∧ w = w' := by
  obtain ⟨h1, ho, fa, fc, l, kp, hm, h4, h5, h6⟩ := h
  obtain ⟨_, c1, _, _, _⟩ := hm.c
  have huc := ho.uc
  have HM := hid hm
  have hfl := ho.files
  rw [← hm.len] at hfl
  obtain ⟨ln, hln⟩ : ∃ ln, l.length = ln := ⟨_, rfl⟩
  rw [hln] at c1 hfl
  have HLN := hid hln
  have HTA := hid (K.totTo_all d)
  unfold K.cap at huc
  clear h1 ho hm h4 h5 h6 hln
  go_enter Try.func15, Try.ntmps15
  go_wp2
  go_loop [3, 4] (fun t i => ∃ k : Nat, k ≤ ln ∧ i = .int .i64 k ∧ t = .int .i64 (K.totTo d k : Nat)) (fun _ i => ln - (intOf i).toNat)
  case atStart => exact ⟨0, by omega, rfl, rfl⟩
  case round =>
    obtain ⟨k, hk, rfl, rfl⟩ := hrel
    have hle := K.totTo_le d k
    by_cases hlt : k < ln
    · obtain ⟨m, hlm, hdm, hmem⟩ := HM.out.getAt (i := k) (by rw [HLN.out]; exact hlt)
      obtain ⟨g, rfl, q0, q1, q2⟩ := HM.out.row.at hlm
      have hnx := K.totTo_next hdm
      have hle2 := K.totTo_le d (k + 1)
      rw [show m.kf.2.len = m.b.length from m.len] at hnx
      have HNX := hid hnx
      obtain ⟨bl, hbl⟩ : ∃ bl, m.b.length = bl := ⟨_, rfl⟩
      rw [hbl] at q1 HNX hnx
      obtain ⟨tk, htk⟩ : ∃ tk, K.totTo d k = tk := ⟨_, rfl⟩
      rw [htk] at hle hnx ⊢
      rw [hnx] at hle2
      have HTK := hid htk
      clear hlm hdm hmem q0 q2 hbl htk hnx
      go_wp2
      go_round
      case rel => exact ⟨k + 1, by omega, by go_num, by rw [HNX.out, HTK.out]; go_num⟩
      case measure => simp [intOf]; omega
    · obtain rfl : k = ln := by omega
      have e : K.totTo d k = d.used := by rw [← HTA.out, ← HM.out.len, HLN.out]
      rw [e]
      clear e
      go_wp2
      go_ret
      exact ⟨rfl, rfl⟩
theorem bl_eq : ∀ a b : List UInt8, Op.bytesLess a b = bytesBefore a b
  | [], [] => rfl
  | [], _ :: _ => rfl
  | _ :: _, [] => rfl
  | x :: r, y :: t => by simp [Op.bytesLess, bytesBefore, bl_eq r t]
/-- what find answers -/
def rfnd (d : K.DK) (n : K.Nm) : Ending := .returned (.tuple #[.int .i64 (K.pos d.fs n : Nat), .bool (K.get n d.fs).isSome])
set_option maxHeartbeats 3200000 in
theorem rfind_any {S : Nat → Prop} {w : World} {p : Nat} {d : K.DK} (h : Rk S w p d) (s : ByteArray) :
    Calls Try.prog 59 #[.pointer (some ⟨p, 0, none⟩), .string s] w fun e w' => e = rfnd d s.data.toList ∧ ∃ n, w' = w.drewN n := by
  obtain ⟨h1, ho, fa, fc, l, kp, hm, h4, h5, h6⟩ := h
  obtain ⟨_, c1, _, _, _⟩ := hm.c
  have HM := hid hm
  have HO := hid ho
  have hfl := ho.files
  rw [← hm.len] at hfl
  have hpl := K.pos_le d.fs s.data.toList
  rw [← hm.len] at hpl
  obtain ⟨ln, hln⟩ : ∃ ln, l.length = ln := ⟨_, rfl⟩
  rw [hln] at c1 hfl hpl
  have HLN := hid hln
  obtain ⟨ps, hps⟩ : ∃ ps, K.pos d.fs s.data.toList = ps := ⟨_, rfl⟩
  rw [hps] at hpl
  have HPS := hid hps
  clear h1 ho hm h4 h5 h6 hln hps
  go_enter Try.func59, Try.ntmps59
  go_wp2
  go_loop [6] (fun i => ∃ k : Nat, k ≤ ps ∧ i = .int .i64 k) (fun i => ps - (intOf i).toNat)
  case atStart => exact ⟨0, by omega, rfl⟩
  case round =>
    obtain ⟨k, hk, rfl⟩ := hrel
    by_cases hlt : k < ln
    · obtain ⟨m, hlm, hdm, hmem⟩ := HM.out.getAt (i := k) (by rw [HLN.out]; exact hlt)
      obtain ⟨g, rfl, q0, q1, q2⟩ := HM.out.row.at hlm
      by_cases hlp : k < ps
      · have hb := K.pos_lt (by rw [HPS.out]; exact hlp) hdm
        rw [← bl_eq, ← ByteArray.toList_eq] at hb
        have hb' : Op.bytesLess m.nm s.toList = true := hb
        clear q1 q2 hb hlm hdm hmem
        go_wp2
        go_round
        case rel => exact ⟨k + 1, by omega, by go_num⟩
        case measure => simp [intOf]; omega
      · obtain rfl : k = ps := by omega
        have hb := K.pos_at (by rw [HPS.out]; exact hdm)
        rw [← bl_eq, ← ByteArray.toList_eq] at hb
        have hb' : Op.bytesLess m.nm s.toList = false := hb
        have hd1 : decide ((k : Int) < (ln : Int)) = true := by simp; omega
        have hd2 : decide (k < ln) = true := by simp; omega
        by_cases e : m.nm = s.data.toList
        · have hg : (K.get s.data.toList d.fs).isSome = true := by
            have hm2 : (s.data.toList, m.f) ∈ d.fs := by rw [← e]; exact List.mem_of_getElem? hdm
            rw [K.get_of_mem HO.out.up hm2]
            rfl
          have HG := hid hg
          have he : (m.nm == s.toList) = true := by rw [ByteArray.toList_eq]; simpa using e
          clear q1 q2 hb hlm hdm hmem hg e
          go_wp2
          go_quiet (fail)
          go_wp2
          go_ret2
          exact ⟨by unfold rfnd; rw [HPS.out, HG.out]; rfl, _, rfl⟩
        · have hg : (K.get s.data.toList d.fs).isSome = false := by
            cases hx : K.get s.data.toList d.fs with
            | none => rfl
            | some f =>
              have h2 := K.pos_get HO.out.up hx
              rw [HPS.out, hdm] at h2
              simp only [Option.some.injEq, RM.kf, Prod.mk.injEq] at h2
              exact absurd h2.1 e
          have HG := hid hg
          have he : (m.nm == s.toList) = false := by rw [ByteArray.toList_eq]; simpa using e
          clear q1 q2 hb hlm hdm hmem hg e
          go_wp2
          go_quiet (fail)
          go_wp2
          go_ret2
          exact ⟨by unfold rfnd; rw [HPS.out, HG.out]; rfl, _, rfl⟩
    · obtain rfl : k = ln := by omega
      obtain rfl : k = ps := by omega
      have hg : (K.get s.data.toList d.fs).isSome = false := by
        cases hx : K.get s.data.toList d.fs with
        | none => rfl
        | some f =>
          have h2 := K.pos_get HO.out.up hx
          rw [HPS.out, ← HLN.out, HM.out.len, List.getElem?_eq_none (Nat.le_refl _)] at h2
          cases h2
      have HG := hid hg
      have hd1 : decide ((k : Int) < (k : Int)) = false := by simp
      clear hg
      go_wp2
      go_quiet (fail)
      go_wp2
      go_ret2
      exact ⟨by unfold rfnd; rw [HPS.out, HG.out]; rfl, _, rfl⟩

end Go.Proofs.Ytnfpceeacfdldaa

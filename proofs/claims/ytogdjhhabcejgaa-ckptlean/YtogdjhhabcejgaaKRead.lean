/-
  The contracts of a disk: Used, Read.
-/
import Derived.Test.YtogdjhhabcejgaaKOps3
namespace Go.Proofs.Ytogdjhhabcejgaa
open Go.RowKit Go.Maps
set_option linter.unusedVariables false

theorem used_dk {S : Nat → Prop} {w : World} {p : Nat} {d : K.DK} (h : Dk S w p d) :
    Calls Try.prog 18 #[.pointer (some ⟨p, 0, none⟩)] w fun e w' => e = .returned (.int .i64 (d.used : Nat)) ∧ Fr (fun _ => False) w w' := by
  obtain ⟨_, ho, c, mb, l, _, hd⟩ := h
  exact used_any c w p mb l d hd ho
theorem Ok_len {d : K.DK} (ho : K.Ok d) {n : K.Nm} {f : K.F} (h : (n, f) ∈ d.fs) : f.sf.length + f.tl.length ≤ K.cap := by
  have := K.tot_mem K.F.len h
  have := ho.uc
  unfold K.DK.used at this
  simp only [K.F.len] at *
  omega
/-- what Read answers -/
def Rr (d : K.DK) (n : K.Nm) (base : Nat) (e : Ending) (w' : World) : Prop :=
  (K.fnd d n ≠ 0 ∧ e = .returned (.tuple #[.slice none 0 0, .int .i64 (K.fnd d n)])) ∨ (K.fnd d n = 0 ∧ ∃ f a c, K.get n d.fs = some f ∧ e = .returned (.tuple #[.slice a f.all.length c, .int .i64 0]) ∧ Ow base w' a c f.all)
set_option maxHeartbeats 1600000 in
theorem read_any {S : Nat → Prop} {w : World} {p : Nat} {d : K.DK} (h : Dk S w p d) (s : ByteArray) (hz : s.size ≤ maxLen) :
    Calls Try.prog 47 #[.pointer (some ⟨p, 0, none⟩), .string s] w fun e w' => Rr d s.data.toList w.heap.size e w' ∧ Fr (fun _ => False) w w' := by
  obtain ⟨_, ho, c, mb, l, _, hd⟩ := h
  have HFi := hid (find_any c w p mb l d hd s hz)
  have hget := hid (hd.get s.data.toList).1
  have HD := hid hd
  have HO := hid ho
  clear hd ho hz
  go_enter Try.func47, Try.ntmps47
  go_wp2_with fail
  refine HFi.out.mono ?_
  rintro e w1 ⟨hfd | hfd, hf⟩
  · obtain ⟨hne, rfl⟩ := hfd
    have HN := hid hne
    have HF := hid hf
    have hb : (K.fnd d s.data.toList == 0) = false := by simpa using hne
    generalize hR : K.fnd d s.data.toList = R at hb ⊢
    have HR := hid hR
    clear hne hf hR
    go_wp2
    go_ret2
    exact ⟨.inl ⟨HN.out, by rw [HR.out]; rfl⟩, HF.out⟩
  · obtain ⟨h0, m, hm, rfl⟩ := hfd
    have H0 := hid h0
    have HF := hid hf
    have HM := hid hm
    have hmem := K.get_mem hm
    have hmf : (s.data.toList, m.f) ∈ d.fs := by rw [← HD.out.fs]; exact K.mem_mp.2 ⟨_, hmem, rfl⟩
    have HB := hid (fbytes_any c w1 m ((HD.out.fl _ hmem).kept hf (fun _ _ h => h)) (Ok_len HO.out hmf))
    clear h0 hm hmem hmf
    have HS := hid hf.size
    clear hf
    go_wp2_with (first | (go_at_call 74; refine HB.out.mono ?_; rintro e w2 ⟨a2, c2, rfl, ho2, hf2⟩; have HO2 := hid ho2; have HF2 := hid hf2; clear ho2 hf2))
    go_ret2
    refine ⟨.inr ⟨H0.out, m.f, a2, c2, by rw [hget.out, HM.out]; rfl, rfl, HO2.out.base (fun k hk => Nat.le_trans HS.out (HO2.out.lt k hk).1)⟩, HF.out.trans HF2.out (fun _ _ h => h)⟩

end Go.Proofs.Ytogdjhhabcejgaa

/-
  ClientsFrom's walk.
-/
import Derived.Test.YtffjekhlloippaaYRFrom
import Derived.Test.YtffjekhlloippaaYLive
import Derived.Test.YtffjekhlloippaaYTold
namespace Go.Proofs.Ytffjekhlloippaa
open Go.RowKit Go.Maps
set_option linter.unusedVariables false
set_option linter.unusedSimpArgs false
set_option maxRecDepth 100000
set_option maxHeartbeats 8000000 in
theorem clientsFrom_walk {w : World} {a : Option Addr} {c : Nat} {l : List (Int × Y.Rq)} (hl : Rw (fun g => g < w.heap.size) w 6 a l.length (Y.flat l)) (hwf : ∀ x ∈ l, (Lit.int .i64 x.1).wf = true) (hlen : l.length ≤ 4000000000000) :
    Calls Try.prog 4 #[.slice a l.length c] w fun e w' => e = .returned (.bool true) ∧ Fr (fun _ => False) w w' := by
  have KF := hid (yfrom_any (c := c) hl hwf hlen)
  have KR := hid (fun (W : World) (hf : Fr (fun _ => False) w W) => rfromY_any (c := c) (hl.kept hf (fun _ _ h => h)) hlen)
  have KL := hid (fun (W : World) => ylive_any W)
  obtain ⟨n, hn⟩ : ∃ n, l.length = n := ⟨_, rfl⟩
  rw [hn] at KF KR ⊢
  obtain ⟨res, hres⟩ : ∃ res, Y.from_ [] l = res := ⟨_, rfl⟩
  rw [hres] at KF KR
  obtain ⟨t, er⟩ := res
  dsimp only at KF KR
  clear hl hwf hlen hn hres
  go_enter Try.func4, Try.ntmps4
  go_wp2_with fail
  refine KF.out.mono ?_
  rintro e w1 ⟨hf1, hc1⟩
  have F1 := hid hf1
  rcases hc1 with ⟨rfl, p, mb, rfl, hm1, hlm⟩ | ⟨hne, rfl⟩
  · have HM1 := hid hm1
    clear hf1 hm1
    dsimp only
    go_wp2_with fail
    refine (KR.out _ F1.out).mono ?_
    rintro e w2 ⟨hf2, hc2⟩
    rcases hc2 with ⟨_, r, ra, rc, rfl, hd2⟩ | ⟨hne, _⟩
    · have F2 := hid (F1.out.trans hf2 (fun _ _ h => h))
      have HM2 := hid (HM1.out.kept hf2 (fun h => h) (fun h => h))
      have HD2 := hid hd2
      clear hf2 hd2
      dsimp only
      go_wp2_with (first
        | (go_at_call 10; refine (KL.out _).mono ?_; rintro e w3 ⟨rfl, hf3⟩; have F3 := hid hf3; have c0 := cellA (j := 0) (hf3.cells HD2.out.box (fun h => h)) rfl; clear hf3)
        | (go_at_call 18; refine (ytold_any (HM2.out.kept F3.out (fun h => h) (fun h => h)) (HD2.out.fr F3.out).row 0).mono ?_; rintro e w4 ⟨rfl, hf4⟩; have F4 := hid hf4; clear hf4))
      go_ret
      exact ⟨rfl, (F2.out.trans F3.out (fun _ _ h => h)).trans F4.out (fun _ _ h => h)⟩
    · exact absurd rfl hne
  · clear hf1
    dsimp only
    go_wp2_with fail
    refine (KR.out _ F1.out).mono ?_
    rintro e w2 ⟨hf2, hc2⟩
    rcases hc2 with ⟨h0, _⟩ | ⟨_, rfl⟩
    · exact absurd h0 hne
    · have hne2 : (er == 0) = false := by simpa using hne
      have F2 := hid (F1.out.trans hf2 (fun _ _ h => h))
      clear hf2
      dsimp only
      go_wp2_with (first
        | (go_at_call 10; refine (KL.out _).mono ?_; rintro e w3 ⟨rfl, hf3⟩; have F3 := hid hf3; clear hf3))
      go_ret
      exact ⟨rfl, F2.out.trans F3.out (fun _ _ h => h)⟩
end Go.Proofs.Ytffjekhlloippaa

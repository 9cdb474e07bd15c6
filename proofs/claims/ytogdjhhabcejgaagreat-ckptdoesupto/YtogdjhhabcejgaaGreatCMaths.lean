/-
  The checkpoint, plainly: its bytes, and what Save and Load do with a disk.
-/
import Derived.Test.YtogdjhhabcejgaaGreatWriter
import Derived.Test.YtogdjhhabcejgaaGreatMaths2
import Derived.Test.YtogdjhhabcejgaaGreatKDisk
namespace Go.Proofs.YtogdjhhabcejgaaGreat
set_option linter.unusedVariables false
namespace C

/-- the names of the files -/
abbrev nw : K.Nm := [99, 107, 112, 116, 46, 110, 101, 119]
abbrev ck : K.Nm := [99, 107, 112, 116]
/-- what is wrong with a checkpoint -/
def chk (s : Int) (n : Nat) : Int := if s < 0 ∨ 1099511627776 < s then 1 else if 524288 < n then 3 else 0
theorem chk_ok {s : Int} {n : Nat} (h : chk s n = 0) : 0 ≤ s ∧ s ≤ 1099511627776 ∧ n ≤ 524288 := by
  unfold chk at h
  split at h
  · cases h
  · split at h
    · cases h
    · omega
theorem chk_of {s : Int} {n : Nat} (h0 : 0 ≤ s) (h1 : s ≤ 1099511627776) (h2 : n ≤ 524288) : chk s n = 0 := by
  unfold chk
  rw [if_neg (by omega), if_neg (by omega)]
/-- what a frame holds -/
def body (s : Int) (b : List UInt8) : List UInt8 := M.enc (M.fd s) ++ encB b
/-- the bytes of a checkpoint, and what is wrong with it -/
def enc (s : Int) (b : List UInt8) : List UInt8 × Int := if chk s b.length ≠ 0 then ([], chk s b.length) else (M.frame (body s b), 0)
theorem enc_ok {s : Int} {b : List UInt8} (h : chk s b.length = 0) : enc s b = (M.frame (body s b), 0) := by unfold enc; rw [if_neg (by simp [h])]
theorem enc_err {s : Int} {b : List UInt8} (h : chk s b.length ≠ 0) : enc s b = ([], chk s b.length) := by unfold enc; rw [if_pos h]
theorem enc_snd (s : Int) (b : List UInt8) : (enc s b).2 = chk s b.length := by
  by_cases h : chk s b.length = 0
  · rw [enc_ok h, h]
  · rw [enc_err h]
theorem encB_length (b : List UInt8) (h : b.length ≤ 9223372036854775807) : (encB b).length ≤ 10 + b.length := by
  unfold encB
  rw [List.length_append]
  have := M.enc_ten (M.fd b.length) (M.fd_lt _ (by omega) (by omega))
  omega
theorem body_length {s : Int} {b : List UInt8} (h : chk s b.length = 0) : (body s b).length ≤ 524308 := by
  have := chk_ok h
  unfold body
  rw [List.length_append]
  have := M.enc_ten (M.fd s) (M.fd_lt _ (by omega) (by omega))
  have := encB_length b (by omega)
  omega
theorem frame_le (x : List UInt8) (h : x.length ≤ 524308) : (M.frame x).length ≤ 524322 := by
  rw [M.frame_length]
  have := M.enc_ten (M.fd x.length) (M.fd_lt _ (by omega) (by omega))
  omega
theorem enc_length (s : Int) (b : List UInt8) : (enc s b).1.length ≤ 524322 := by
  by_cases h : chk s b.length = 0
  · rw [enc_ok h]; exact frame_le _ (body_length h)
  · rw [enc_err h]; simp
/-- what a frame's bytes say as a checkpoint -/
def decB (x : List UInt8) : Int × List UInt8 × Int :=
  if (M.takeI x).2.2 ≠ 0 then (0, [], 60)
  else if (M.takeB (x.drop (M.takeI x).2.1)).2.2 ≠ 0 then (0, [], 60)
  else if (x.drop (M.takeI x).2.1).length ≠ (M.takeB (x.drop (M.takeI x).2.1)).2.1 then (0, [], 60)
  else if chk (M.takeI x).1 (M.takeB (x.drop (M.takeI x).2.1)).1.length ≠ 0 then (0, [], 60)
  else ((M.takeI x).1, (M.takeB (x.drop (M.takeI x).2.1)).1, 0)
/-- .. and any bytes -/
def dec (b : List UInt8) : Int × List UInt8 × Int :=
  if (M.unframe b).2.2 ≠ 0 then (0, [], 60) else if (M.unframe b).2.1 ≠ b.length then (0, [], 60) else decB (M.unframe b).1
theorem takeB_encB (b : List UInt8) (h : b.length ≤ 9223372036854775807) : M.takeB (encB b) = (b, (encB b).length, 0) := by
  have hL : M.takeL (encB b) = ((b.length : Int), (M.enc (M.fd b.length)).length, 0) := M.takeL_enc b.length b h
  unfold M.takeB
  rw [hL]
  have h2 : (encB b).length = (M.enc (M.fd b.length)).length + b.length := by unfold encB; rw [List.length_append]
  rw [if_neg (by simp), if_neg (by simp only; rw [h2]; omega)]
  simp only [h2, Int.toNat_natCast]
  have : ((encB b).drop (M.enc (M.fd b.length)).length).take b.length = b := by unfold encB; rw [List.drop_left, List.take_length]
  rw [this]
theorem dec_enc {s : Int} {b : List UInt8} (h : chk s b.length = 0) : dec (enc s b).1 = (s, b, 0) := by
  have hc := chk_ok h
  have hl := body_length h
  rw [enc_ok h]
  have hu := M.unframe_frame (body s b) [] (by omega)
  rw [List.append_nil] at hu
  unfold dec
  simp only
  rw [hu]
  rw [if_neg (by simp), if_neg (by simp)]
  have hI : M.takeI (body s b) = (s, (M.enc (M.fd s)).length, 0) := M.takeI_enc s (encB b) (by omega) (by omega)
  have hd : (body s b).drop (M.enc (M.fd s)).length = encB b := by unfold body; rw [List.drop_left]
  unfold decB
  rw [hI]
  simp only
  rw [hd, takeB_encB b (by omega)]
  simp only
  rw [if_neg (by simp), if_neg (by simp), if_neg (by simp), if_neg (by simp [h])]
theorem takeB_le (bs : List UInt8) : (M.takeB bs).1.length ≤ bs.length := by
  unfold M.takeB
  split
  · simp
  · split
    · simp
    · simp only [List.length_take, List.length_drop]; omega
theorem dec_length (b : List UInt8) : (dec b).2.1.length ≤ 524288 := by
  unfold dec
  split
  · simp
  · split
    · simp
    · unfold decB
      split
      · simp
      · split
        · simp
        · split
          · simp
          · split
            · simp
            · rename_i h
              exact (chk_ok (Classical.not_not.1 h)).2.2

/-- a file ckpt.new that is left over is removed -/
def tidy (d : K.DK) : Int × K.DK := if K.get nw d.fs = none then (0, d) else K.rem d nw
/-- Save, behind its check -/
def put (d : K.DK) (x : List UInt8) : Int × K.DK :=
  if (tidy d).1 ≠ 0 then tidy d
  else if (K.app (tidy d).2 nw x).1 ≠ 0 then K.app (tidy d).2 nw x
  else if (K.syn (K.app (tidy d).2 nw x).2 nw).1 ≠ 0 then K.syn (K.app (tidy d).2 nw x).2 nw
  else K.ren (K.syn (K.app (tidy d).2 nw x).2 nw).2 nw ck
def save (d : K.DK) (s : Int) (b : List UInt8) : Int × K.DK := if chk s b.length ≠ 0 then (chk s b.length, d) else put d (enc s b).1
/-- the bytes of a file -/
def file (d : K.DK) (n : K.Nm) : List UInt8 := match K.get n d.fs with | some f => f.all | none => []
def read (d : K.DK) : Int × List UInt8 × Int := if K.fnd d ck ≠ 0 then (0, [], K.fnd d ck) else dec (file d ck)
def load (d : K.DK) : (Int × List UInt8 × Int) × K.DK := if (tidy d).1 ≠ 0 then ((0, [], (tidy d).1), (tidy d).2) else (read (tidy d).2, (tidy d).2)

end C
end Go.Proofs.YtogdjhhabcejgaaGreat

/-
  The plain mathematics of wire: the check's step on a 32-bit number, its run over bytes; no text of the program is read here.
-/
import Derived.WalkKit
import Derived.Laws.BitsAllLaws
namespace Go.Proofs.YtfkddpcadgidgaaDoor
set_option linter.unusedVariables false
namespace M

/-- one bit's step of the check -/
def st (s : Nat) : Nat := if s % 2 = 1 then (s / 2) ^^^ 3988292384 else s / 2
/-- so many steps -/
def stN : Nat → Nat → Nat
  | 0, s => s
  | n + 1, s => st (stN n s)
/-- a byte's step -/
def crcB (s : Nat) (x : UInt8) : Nat := stN 8 (s ^^^ x.toNat)
/-- over bytes -/
def crcL (s : Nat) (l : List UInt8) : Nat := l.foldl crcB s
/-- the check of bytes -/
def crc (l : List UInt8) : Nat := 4294967295 ^^^ crcL 4294967295 l

theorem st_lt (s : Nat) (h : s < 4294967296) : st s < 4294967296 := by
  unfold st
  split
  · exact Nat.xor_lt_two_pow (n := 32) (by omega) (by omega)
  · omega
theorem stN_lt (n s : Nat) (h : s < 4294967296) : stN n s < 4294967296 := by
  induction n with
  | zero => exact h
  | succ n ih => exact st_lt _ ih
theorem xor_lt (a b : Nat) (ha : a < 4294967296) (hb : b < 4294967296) : a ^^^ b < 4294967296 :=
  Nat.xor_lt_two_pow (n := 32) ha hb
theorem crcB_lt (s : Nat) (x : UInt8) (h : s < 4294967296) : crcB s x < 4294967296 :=
  stN_lt _ _ (xor_lt _ _ h (by have := x.toNat_lt; omega))
theorem crcL_lt (l : List UInt8) : ∀ s, s < 4294967296 → crcL s l < 4294967296 := by
  induction l with
  | nil => intro s h; exact h
  | cons x l ih => intro s h; exact ih _ (crcB_lt s x h)
theorem crc_lt (l : List UInt8) : crc l < 4294967296 := xor_lt _ _ (by omega) (crcL_lt l _ (by omega))
theorem crcL_append (s : Nat) (a b : List UInt8) : crcL s (a ++ b) = crcL (crcL s a) b := by simp [crcL]
theorem crcL_snoc (s : Nat) (a : List UInt8) (x : UInt8) : crcL s (a ++ [x]) = crcB (crcL s a) x := by simp [crcL]

/-- the masked form of a step -/
theorem st_mask (s : Nat) (h : s < 4294967296) : (s / 2) ^^^ ((if s % 2 = 1 then 4294967295 else 0) &&& 3988292384) = st s := by
  unfold st
  split
  · rw [show (4294967295 : Nat) &&& 3988292384 = 3988292384 by decide]
  · simp

open Go in
/-- the masked form, in the walk's own terms -/
theorem st_bits (m : Nat) (h : m < 4294967296) :
    bits .xor .u32 ((m : Int) / 2) (bits .and .u32 (-bits .and .u32 (m : Int) 1 % 4294967296) 3988292384) = ((st m : Nat) : Int) := by
  have e1 : bits .and .u32 (m : Int) 1 = ((m % 2 : Nat) : Int) := by
    have := u32_and_nat m 1 h (by omega)
    rw [nat_mask1] at this
    simpa using this
  have e2 : (-bits .and .u32 (m : Int) 1 % 4294967296) = (((if m % 2 = 1 then 4294967295 else 0 : Nat)) : Int) := by
    rw [e1]; split <;> omega
  have e3 : bits .and .u32 (-bits .and .u32 (m : Int) 1 % 4294967296) 3988292384 = ((((if m % 2 = 1 then 4294967295 else 0 : Nat)) &&& 3988292384 : Nat) : Int) := by
    rw [e2]
    exact u32_and_nat _ 3988292384 (by split <;> omega) (by omega)
  rw [e3]
  have e4 : ((m : Int) / 2) = ((m / 2 : Nat) : Int) := by omega
  rw [e4, u32_xor_nat _ _ (by omega) (by split <;> decide), st_mask m h]

theorem not_eq (n x : Nat) (h : x < 2 ^ n) : (2 ^ n - 1) ^^^ x = 2 ^ n - (x + 1) := by
  apply Nat.eq_of_testBit_eq
  intro i
  rw [Nat.testBit_xor, Nat.testBit_two_pow_sub_succ h, Nat.testBit_two_pow_sub_one]
  by_cases hi : i < n
  · simp [hi]
  · have : x.testBit i = false := Nat.testBit_lt_two_pow (Nat.lt_of_lt_of_le h (Nat.pow_le_pow_right (by omega) (by omega)))
    simp [hi, this]
open Go in
theorem not_u64 (x : Nat) (h : x < 18446744073709551616) : bits .xor .u64 IntKind.u64.max (x : Int) = ((18446744073709551615 - x : Nat) : Int) := by
  have e : IntKind.u64.max = ((18446744073709551615 : Nat) : Int) := by simp [IntKind.max, IntKind.signed, IntKind.bits]
  rw [e, u64_xor_nat _ _ (by omega) h]
  have := not_eq 64 x (by omega)
  congr 1
  simp only [Nat.reducePow, Nat.reduceSub] at this
  rw [this]; omega

/-! ### ints as bytes -/
/-- an int as a number without a sign -/
def fd (n : Int) : Nat := if n < 0 then (-2 * n - 1).toNat else (2 * n).toNat
/-- and back -/
def unfd (u : Nat) : Int := if u % 2 = 1 then -((u / 2 : Nat) : Int) - 1 else ((u / 2 : Nat) : Int)
/-- seven bits a byte, the least first; all but the last with 128 on top -/
def enc (u : Nat) : List UInt8 := if h : u < 128 then [UInt8.ofNat u] else UInt8.ofNat (u % 128 + 128) :: enc (u / 128)
termination_by u
decreasing_by omega

theorem byte_of (k : Nat) (h : k < 256) : ((UInt8.ofNat k).toNat : Int) = (k : Int) := by
  rw [UInt8.toNat_ofNat']; omega
open Go in
theorem or128 (u : Nat) : bits .or .u8 ((u : Int) % 256) 128 = ((UInt8.ofNat (u % 128 + 128)).toNat : Int) := by
  rw [byte_of _ (by omega)]
  have e : ((u : Int) % 256) = ((u % 256 : Nat) : Int) := by omega
  rw [e]
  have h := u8_or_nat (u % 256) 128 (by omega) (by omega)
  have h2 : (u % 256) ||| 128 = u % 128 + 128 := by
    have h7 : u % 256 ||| 128 = 128 ||| u % 256 := Nat.or_comm _ _
    apply Nat.eq_of_testBit_eq
    intro i
    have h8 : u % 128 + 128 = 2 ^ 7 + u % 128 := by omega
    rw [h8, Nat.testBit_or]
    have hm : u % 256 = u % 2 ^ 8 := rfl
    have hn : u % 128 = u % 2 ^ 7 := rfl
    rw [hm, hn, Nat.testBit_mod_two_pow]
    have h128 : (128 : Nat) = 2 ^ 7 := rfl
    rw [h128, Nat.testBit_two_pow]
    rcases Nat.lt_trichotomy i 7 with hi | hi | hi
    · rw [Nat.testBit_two_pow_add_gt hi, Nat.testBit_mod_two_pow]
      have : ¬ 7 = i := by omega
      simp [hi, this]
      intro _; omega
    · subst hi
      rw [Nat.testBit_two_pow_add_eq, Nat.testBit_lt_two_pow (Nat.mod_lt u (show 2 ^ 7 > 0 by omega))]
      simp
    · have hlt : 2 ^ 7 + u % 2 ^ 7 < 2 ^ i := by
        have h1 := Nat.mod_lt u (show 2 ^ 7 > 0 by omega)
        have h2 : 2 ^ 8 ≤ 2 ^ i := Nat.pow_le_pow_right (by omega) hi
        omega
      rw [Nat.testBit_lt_two_pow hlt]
      have : ¬ i < 8 := by omega
      have h' : ¬ 7 = i := by omega
      simp [this, h']
  rw [← h2]
  exact h

theorem enc_small (u : Nat) (h : u < 128) : enc u = [UInt8.ofNat u] := by rw [enc, dif_pos h]
theorem enc_big (u : Nat) (h : ¬ u < 128) : enc u = UInt8.ofNat (u % 128 + 128) :: enc (u / 128) := by rw [enc, dif_neg h]
theorem enc_pos (u : Nat) : 0 < (enc u).length := by
  rw [enc]; split <;> simp
theorem enc_le (k : Nat) : ∀ u, u < 2 ^ (7 * k) → 0 < k → (enc u).length ≤ k := by
  induction k with
  | zero => intro u _ h; omega
  | succ k ih =>
    intro u hu _
    rw [enc]
    split
    · simp
    · rename_i h
      simp only [List.length_cons]
      have h7 : 2 ^ (7 * (k + 1)) = 2 ^ (7 * k) * 128 := by rw [Nat.mul_add, Nat.pow_add]
      by_cases hk : k = 0
      · subst hk; simp at hu; omega
      · have := ih (u / 128) (by omega) (by omega)
        omega
theorem enc_ten (u : Nat) (h : u < 18446744073709551616) : (enc u).length ≤ 10 := enc_le 10 u (by omega) (by omega)
theorem fd_lt (n : Int) (h1 : -9223372036854775808 ≤ n) (h2 : n ≤ 9223372036854775807) : fd n < 18446744073709551616 := by
  unfold fd; split <;> omega
open Go in
theorem fd_neg (n : Int) (h0 : n < 0) (h1 : -9223372036854775808 ≤ n) :
    bits .xor .u64 IntKind.u64.max (IntKind.u64.wrap (IntKind.u64.wrap n * 2)) = ((fd n : Nat) : Int) := by
  have e : IntKind.u64.wrap (IntKind.u64.wrap n * 2) = ((18446744073709551616 + 2 * n).toNat : Int) := by
    rw [IntKind.wrap_u64, IntKind.wrap_u64]; omega
  rw [e, not_u64 _ (by omega)]
  unfold fd
  rw [if_pos h0]
  omega
theorem fd_pos (n : Int) (h0 : ¬ n < 0) : n * 2 = ((fd n : Nat) : Int) := by
  unfold fd; rw [if_neg h0]; omega
theorem unfd_fd (n : Int) : unfd (fd n) = n := by
  unfold unfd fd; split <;> split <;> omega
theorem fd_unfd (u : Nat) : fd (unfd u) = u := by
  unfold unfd fd; split <;> split <;> omega
theorem unfd_lo (u : Nat) (h : u < 18446744073709551616) : -9223372036854775808 ≤ unfd u ∧ unfd u ≤ 9223372036854775807 := by
  unfold unfd; split <;> omega

/-! ### ints read -/
/-- what bytes say as an int, i bytes of it being read, which made u: the int, how many bytes it has, the error -/
def dec : List UInt8 → Nat → Nat → Int × Nat × Int
  | [], _, _ => (0, 0, 10)
  | x :: r, i, u =>
    if i = 9 ∧ 1 < x.toNat then (0, 0, 11)
    else if 128 ≤ x.toNat then dec r (i + 1) (u + x.toNat % 128 * 2 ^ (7 * i))
    else if x.toNat = 0 ∧ 0 < i then (0, 0, 11)
    else (unfd (u + x.toNat % 128 * 2 ^ (7 * i)), i + 1, 0)
def takeI (bs : List UInt8) : Int × Nat × Int := dec bs 0 0

theorem and127 (x : UInt8) : Go.bits .and .u8 (x.toNat : Int) 127 = ((x.toNat % 128 : Nat) : Int) := by
  have h := x.toNat_lt
  have := Go.u8_and_nat x.toNat 127 (by omega) (by omega)
  rw [Go.nat_mask7] at this
  exact this
/-- a byte's seven bits behind those that were read -/
theorem or_shl (u k : Nat) (x : UInt8) (hu : u < 2 ^ (7 * k)) (hk : k ≤ 9) (hx : k = 9 → x.toNat ≤ 1) :
    Go.bits .or .u64 (u : Int) (Go.IntKind.u64.wrap (Go.IntKind.u64.wrap (Go.bits .and .u8 (x.toNat : Int) 127) * 2 ^ (7 * k))) = ((u + x.toNat % 128 * 2 ^ (7 * k) : Nat) : Int) := by
  have hp : (2 : Int) ^ (7 * k) = ((2 ^ (7 * k) : Nat) : Int) := by simp
  have h1 := Nat.mod_lt x.toNat (show 128 > 0 by omega)
  obtain ⟨y, hy⟩ : ∃ y, y = x.toNat % 128 := ⟨_, rfl⟩
  have hpos : 0 < 2 ^ (7 * k) := Nat.pow_pos (by omega)
  have hlt : y * 2 ^ (7 * k) < 18446744073709551616 := by
    by_cases h9 : k = 9
    · have := hx h9
      subst h9
      have : y ≤ 1 := by omega
      have h2 := Nat.mul_le_mul_right (2 ^ (7 * 9)) this
      omega
    · have h2 : 2 ^ (7 * k) ≤ 2 ^ 56 := Nat.pow_le_pow_right (by omega) (by omega)
      have h3 : y * 2 ^ (7 * k) ≤ 127 * 2 ^ 56 := Nat.mul_le_mul (by omega) h2
      omega
  have hu' : u < 18446744073709551616 := by
    have h2 : 2 ^ (7 * k) ≤ 2 ^ 63 := Nat.pow_le_pow_right (by omega) (by omega)
    omega
  rw [and127, ← hy, hp, Go.IntKind.wrap_u64, Go.IntKind.wrap_u64]
  have e1 : ((y : Int) % 18446744073709551616) = (y : Int) := by omega
  rw [e1]
  have e2 : (y : Int) * ((2 ^ (7 * k) : Nat) : Int) = ((y * 2 ^ (7 * k) : Nat) : Int) := by rw [Int.natCast_mul]
  rw [e2]
  have e3 : ((y * 2 ^ (7 * k) : Nat) : Int) % 18446744073709551616 = ((y * 2 ^ (7 * k) : Nat) : Int) := by omega
  rw [e3, Go.u64_or_nat _ _ hu' hlt, Nat.or_comm, Go.nat_join (7 * k) _ _ (Nat.mul_mod_left _ _) hu, Nat.add_comm]
theorem add_shl (u k : Nat) (x : UInt8) (hu : u < 2 ^ (7 * k)) (hk : k ≤ 9) (hx : k = 9 → x.toNat ≤ 1) (hl : u + x.toNat % 128 * 2 ^ (7 * k) < 18446744073709551616) :
    Go.IntKind.u64.wrap ((u : Int) + Go.IntKind.u64.wrap ((x.toNat : Int) % 128 * 2 ^ (7 * k))) = ((u + x.toNat % 128 * 2 ^ (7 * k) : Nat) : Int) := by
  have hp : (2 : Int) ^ (7 * k) = ((2 ^ (7 * k) : Nat) : Int) := by simp
  have hy : ((x.toNat : Int) % 128) = ((x.toNat % 128 : Nat) : Int) := by omega
  obtain ⟨q, hq⟩ : ∃ q, q = x.toNat % 128 * 2 ^ (7 * k) := ⟨_, rfl⟩
  have e2 : ((x.toNat % 128 : Nat) : Int) * ((2 ^ (7 * k) : Nat) : Int) = (q : Int) := by rw [hq, Int.natCast_mul]
  rw [hy, hp, e2, ← hq, Go.IntKind.wrap_u64, Go.IntKind.wrap_u64]
  rw [← hq] at hl
  omega
theorem u_next (u k y : Nat) (hu : u < 2 ^ (7 * k)) (hy : y < 128) : u + y * 2 ^ (7 * k) < 2 ^ (7 * (k + 1)) := by
  have h7 : 2 ^ (7 * (k + 1)) = 2 ^ (7 * k) * 128 := by rw [Nat.mul_add, Nat.pow_add]
  rw [h7]
  have h2 : y * 2 ^ (7 * k) ≤ 127 * 2 ^ (7 * k) := Nat.mul_le_mul_right _ (by omega)
  omega
theorem dec_end (bs : List UInt8) (k u : Nat) (h : bs.length ≤ k) : dec (bs.drop k) k u = (0, 0, 10) := by
  rw [List.drop_of_length_le h]; rfl
theorem drop_at {bs : List UInt8} {k : Nat} {x : UInt8} (h : bs[k]? = some x) : bs.drop k = x :: bs.drop (k + 1) := by
  have hk := (List.getElem?_eq_some_iff.1 h).1
  have hx := (List.getElem?_eq_some_iff.1 h).2
  rw [List.drop_eq_getElem_cons hk, hx]
theorem dec_on {bs : List UInt8} {k u : Nat} {x : UInt8} (h : bs[k]? = some x) (h9 : ¬ k = 9) (hb : 127 < x.toNat) : dec (bs.drop k) k u = dec (bs.drop (k + 1)) (k + 1) (u + x.toNat % 128 * 2 ^ (7 * k)) := by
  rw [drop_at h, dec, if_neg (by omega), if_pos (by omega)]
theorem dec_big {bs : List UInt8} {k u : Nat} {x : UInt8} (h : bs[k]? = some x) (h9 : k = 9) (hb : 1 < x.toNat) : dec (bs.drop k) k u = (0, 0, 11) := by
  rw [drop_at h, dec, if_pos ⟨h9, hb⟩]
theorem dec_zero {bs : List UInt8} {k u : Nat} {x : UInt8} (h : bs[k]? = some x) (h0 : 0 < k) (hb : x.toNat = 0) : dec (bs.drop k) k u = (0, 0, 11) := by
  rw [drop_at h, dec, if_neg (by omega), if_neg (by omega), if_pos ⟨hb, h0⟩]
theorem dec_ok {bs : List UInt8} {k u : Nat} {x : UInt8} (h : bs[k]? = some x) (h9 : k = 9 → x.toNat ≤ 1) (hb : x.toNat ≤ 127) (h0 : x.toNat = 0 → k = 0) : dec (bs.drop k) k u = (unfd (u + x.toNat % 128 * 2 ^ (7 * k)), k + 1, 0) := by
  rw [drop_at h, dec, if_neg (by omega), if_neg (by omega), if_neg (by omega)]
theorem u_lt (u k y : Nat) (hk : k ≤ 9) (hu : u < 2 ^ (7 * k)) (hy : y < 128) (h9 : k = 9 → y ≤ 1) : u + y * 2 ^ (7 * k) < 18446744073709551616 := by
  by_cases h : k = 9
  · have := h9 h
    subst h
    have h2 : y * 2 ^ (7 * 9) ≤ 1 * 2 ^ (7 * 9) := Nat.mul_le_mul_right _ this
    omega
  · have h1 := u_next u k y hu hy
    have h2 : 2 ^ (7 * (k + 1)) ≤ 2 ^ 63 := Nat.pow_le_pow_right (by omega) (by omega)
    omega

theorem dec_size (bs : List UInt8) : ∀ i u, (dec bs i u).2.1 ≤ i + bs.length ∧ ((dec bs i u).2.2 = 0 → i < (dec bs i u).2.1) ∧ ((dec bs i u).2.2 ≠ 0 → (dec bs i u).1 = 0 ∧ (dec bs i u).2.1 = 0) ∧ ((dec bs i u).2.2 = 0 ∨ (dec bs i u).2.2 = 10 ∨ (dec bs i u).2.2 = 11) := by
  induction bs with
  | nil => intro i u; simp [dec]
  | cons x r ih =>
    intro i u
    rw [dec]
    split
    · simp
    · split
      · obtain ⟨h1, h2, h3, h4⟩ := ih (i + 1) (u + x.toNat % 128 * 2 ^ (7 * i))
        refine ⟨?_, fun h => ?_, h3, h4⟩
        · simp only [List.length_cons]; omega
        · have := h2 h; omega
      · split
        · simp
        · simp
theorem takeI_size (bs : List UInt8) : (takeI bs).2.1 ≤ bs.length := by have := (dec_size bs 0 0).1; unfold takeI; omega
theorem takeI_err (bs : List UInt8) (h : (takeI bs).2.2 ≠ 0) : (takeI bs).1 = 0 ∧ (takeI bs).2.1 = 0 := (dec_size bs 0 0).2.2.1 h
/-- what bytes say as a length -/
def takeL (bs : List UInt8) : Int × Nat × Int :=
  if (takeI bs).2.2 ≠ 0 then (0, 0, (takeI bs).2.2) else if (takeI bs).1 < 0 then (0, 0, 11) else takeI bs
theorem takeL_size (bs : List UInt8) : (takeL bs).2.1 ≤ bs.length := by
  have := takeI_size bs
  unfold takeL
  split
  · simp
  · split <;> simp_all
theorem takeL_err (bs : List UInt8) (h : (takeL bs).2.2 ≠ 0) : (takeL bs).1 = 0 ∧ (takeL bs).2.1 = 0 := by
  unfold takeL at h ⊢
  split
  · simp
  · split
    · simp
    · rename_i h1 h2
      rw [if_neg h1, if_neg h2] at h
      exact absurd h h1
theorem takeL_pos (bs : List UInt8) : 0 ≤ (takeL bs).1 := by
  unfold takeL
  split
  · simp
  · split
    · simp
    · omega
/-- what bytes say as a list: it, how many bytes, the error -/
def takeB (bs : List UInt8) : List UInt8 × Nat × Int :=
  if (takeL bs).2.2 ≠ 0 then ([], 0, (takeL bs).2.2) else if ((bs.length - (takeL bs).2.1 : Nat) : Int) < (takeL bs).1 then ([], 0, 10)
  else ((bs.drop (takeL bs).2.1).take (takeL bs).1.toNat, (takeL bs).2.1 + (takeL bs).1.toNat, 0)
/-- what bytes say as a flag -/
def takeF (bs : List UInt8) : Bool × Nat × Int :=
  if (takeI bs).2.2 ≠ 0 then (false, 0, (takeI bs).2.2) else if (takeI bs).1 ≠ 0 ∧ (takeI bs).1 ≠ 1 then (false, 0, 11)
  else ((takeI bs).1 == 1, (takeI bs).2.1, 0)
theorem takeB_size (bs : List UInt8) : (takeB bs).2.1 ≤ bs.length := by
  have := takeL_size bs
  have := takeL_pos bs
  unfold takeB
  split
  · simp
  · split
    · simp
    · simp only
      omega
theorem takeF_size (bs : List UInt8) : (takeF bs).2.1 ≤ bs.length := by
  have := takeI_size bs
  unfold takeF
  split
  · simp
  · split
    · simp
    · simpa using this


/-! ### the check behind a frame -/
/-- byte i of a check -/
def sumB (s i : Nat) : UInt8 := UInt8.ofNat (s / 2 ^ (8 * i) % 256)
/-- its four bytes, the least first -/
def le4 (s : Nat) : List UInt8 := (List.range 4).map (sumB s)
theorem le4_length (s : Nat) : (le4 s).length = 4 := by simp [le4]
theorem sumB_int (s i : Nat) : ((s : Int) / 2 ^ (8 * i)) % 256 = ((sumB s i).toNat : Int) := by
  unfold sumB
  rw [byte_of _ (Nat.mod_lt _ (by omega))]
  have hp : (2 : Int) ^ (8 * i) = ((2 ^ (8 * i) : Nat) : Int) := by simp
  rw [hp, ← Int.natCast_ediv]
  omega
/-- a frame -/
def frame (bs : List UInt8) : List UInt8 := enc (fd bs.length) ++ bs ++ le4 (crc bs)

/-- what bytes say as a frame: its bytes, its length, the error -/
def unframe (bs : List UInt8) : List UInt8 × Nat × Int :=
  if (takeL bs).2.2 ≠ 0 then ([], 0, (takeL bs).2.2) else if 1048576 < (takeL bs).1 then ([], 0, 3)
  else if bs.length < (takeL bs).2.1 + (takeL bs).1.toNat + 4 then ([], 0, 10)
  else if (bs.drop ((takeL bs).2.1 + (takeL bs).1.toNat)).take 4 ≠ le4 (crc ((bs.drop (takeL bs).2.1).take (takeL bs).1.toNat)) then ([], 0, 12)
  else ((bs.drop (takeL bs).2.1).take (takeL bs).1.toNat, (takeL bs).2.1 + (takeL bs).1.toNat + 4, 0)

end M
end Go.Proofs.YtfkddpcadgidgaaDoor

/-
  The plain mathematics of what was written and is read: there and back, beginnings, turned bits.
-/
import Derived.Test.YtogdjhhabcejgaaGreatMaths
namespace Go.Proofs.YtogdjhhabcejgaaGreat
set_option linter.unusedVariables false
namespace M

theorem ofNat_toNat (k : Nat) (h : k < 256) : (UInt8.ofNat k).toNat = k := by
  rw [UInt8.toNat_ofNat']; omega

/-- what was put is read -/
theorem dec_enc (r : List UInt8) (v : Nat) : ∀ i u, i ≤ 9 → v < 2 ^ (64 - 7 * i) → (v = 0 → i = 0) → dec (enc v ++ r) i u = (unfd (u + v * 2 ^ (7 * i)), i + (enc v).length, 0) := by
  induction v using Nat.strongRecOn with
  | _ v ih =>
    intro i u hi hv h0
    by_cases hs : v < 128
    · rw [enc_small v hs]
      simp only [List.cons_append, List.nil_append, dec, List.length_cons, List.length_nil]
      rw [ofNat_toNat v (by omega)]
      have h9 : ¬ (i = 9 ∧ 1 < v) := fun ⟨h, h'⟩ => by subst h; simp at hv; omega
      have hz : ¬ (v = 0 ∧ 0 < i) := fun ⟨h, h'⟩ => by have := h0 h; omega
      rw [if_neg h9, if_neg (by omega), if_neg hz, Nat.mod_eq_of_lt hs]
    · have hi8 : i ≤ 8 := by
        by_cases h : i = 9
        · subst h; simp at hv; omega
        · omega
      rw [enc_big v hs]
      simp only [List.cons_append, dec, List.length_cons]
      rw [ofNat_toNat _ (by omega)]
      rw [if_neg (by omega), if_pos (by omega)]
      have hv' : v / 128 < 2 ^ (64 - 7 * (i + 1)) := by
        have : 2 ^ (64 - 7 * i) = 2 ^ (64 - 7 * (i + 1)) * 128 := by
          rw [show 64 - 7 * i = (64 - 7 * (i + 1)) + 7 by omega, Nat.pow_add]
        rw [this] at hv
        exact Nat.div_lt_of_lt_mul (by rw [Nat.mul_comm]; exact hv)
      rw [ih (v / 128) (by omega) (i + 1) _ (by omega) hv' (by omega)]
      have e : u + (v % 128 + 128) % 128 * 2 ^ (7 * i) + v / 128 * 2 ^ (7 * (i + 1)) = u + v * 2 ^ (7 * i) := by
        have h7 : 2 ^ (7 * (i + 1)) = 128 * 2 ^ (7 * i) := by rw [Nat.mul_add, Nat.pow_add, Nat.mul_comm]
        have hm : (v % 128 + 128) % 128 = v % 128 := by omega
        rw [hm, h7, ← Nat.mul_assoc, Nat.add_assoc, ← Nat.add_mul]
        congr 2
        omega
      rw [e]
      congr 2
      omega

theorem takeI_enc (n : Int) (r : List UInt8) (h1 : -9223372036854775808 ≤ n) (h2 : n ≤ 9223372036854775807) : takeI (enc (fd n) ++ r) = (n, (enc (fd n)).length, 0) := by
  have hf := fd_lt n h1 h2
  unfold takeI
  rw [dec_enc r (fd n) 0 0 (by omega) (by omega) (fun _ => rfl)]
  simp [unfd_fd]
theorem takeL_enc (n : Nat) (r : List UInt8) (h : n ≤ 9223372036854775807) : takeL (enc (fd n) ++ r) = ((n : Int), (enc (fd n)).length, 0) := by
  unfold takeL
  rw [takeI_enc n r (by omega) (by omega)]
  simp only
  rw [if_neg (by simp), if_neg (by omega)]

/-- a beginning of an int ends too early -/
theorem dec_head (v : Nat) : ∀ i u k, i ≤ 9 → v < 2 ^ (64 - 7 * i) → k < (enc v).length → dec ((enc v).take k) i u = (0, 0, 10) := by
  induction v using Nat.strongRecOn with
  | _ v ih =>
    intro i u k hi hv hk
    match k with
    | 0 => rfl
    | k + 1 =>
      by_cases hs : v < 128
      · rw [enc_small v hs] at hk; simp at hk
      · have hi8 : i ≤ 8 := by
          by_cases h : i = 9
          · subst h; simp at hv; omega
          · omega
        rw [enc_big v hs] at hk ⊢
        simp only [List.take_succ_cons, dec]
        rw [ofNat_toNat _ (by omega)]
        rw [if_neg (by omega), if_pos (by omega)]
        have hv' : v / 128 < 2 ^ (64 - 7 * (i + 1)) := by
          have : 2 ^ (64 - 7 * i) = 2 ^ (64 - 7 * (i + 1)) * 128 := by
            rw [show 64 - 7 * i = (64 - 7 * (i + 1)) + 7 by omega, Nat.pow_add]
          rw [this] at hv
          exact Nat.div_lt_of_lt_mul (by rw [Nat.mul_comm]; exact hv)
        exact ih (v / 128) (by omega) (i + 1) _ k (by omega) hv' (by simpa using hk)
theorem takeI_head (n : Int) (k : Nat) (h1 : -9223372036854775808 ≤ n) (h2 : n ≤ 9223372036854775807) (hk : k < (enc (fd n)).length) : takeI ((enc (fd n)).take k) = (0, 0, 10) := by
  have hf := fd_lt n h1 h2
  exact dec_head (fd n) 0 0 k (by omega) (by omega) hk

/-! ### frames -/
theorem frame_length (bs : List UInt8) : (frame bs).length = (enc (fd bs.length)).length + bs.length + 4 := by
  unfold frame; rw [List.length_append, List.length_append, le4_length]
theorem take_drop_mid (a b c : List UInt8) : ((a ++ b ++ c).drop a.length).take b.length = b := by
  rw [List.append_assoc, List.drop_left]; simp
/-- what any bytes behind a length say as a frame -/
theorem unframe_parts (n : Nat) (body four r : List UInt8) (hb : body.length = n) (h4 : four.length = 4) (hn : n ≤ 1048576) :
    unframe (enc (fd n) ++ body ++ four ++ r) = if four ≠ le4 (crc body) then ([], 0, 12) else (body, (enc (fd n)).length + n + 4, 0) := by
  unfold unframe
  have e : enc (fd n) ++ body ++ four ++ r = enc (fd n) ++ (body ++ four ++ r) := by simp
  rw [e, takeL_enc n _ (by omega)]
  simp only [Int.toNat_natCast]
  rw [if_neg (by simp), if_neg (by omega), if_neg (by simp [hb, h4]; omega)]
  have e1 : ((enc (fd n) ++ (body ++ four ++ r)).drop (enc (fd n)).length).take n = body := by
    rw [List.drop_left, List.append_assoc, ← hb, List.take_left]
  have e2 : ((enc (fd n) ++ (body ++ four ++ r)).drop ((enc (fd n)).length + n)).take 4 = four := by
    rw [← List.drop_drop, List.drop_left, List.append_assoc, ← hb, List.drop_left, ← h4, List.take_left]
  rw [e1, e2]
theorem unframe_frame (bs r : List UInt8) (h : bs.length ≤ 1048576) : unframe (frame bs ++ r) = (bs, (frame bs).length, 0) := by
  rw [frame_length]
  unfold frame
  rw [unframe_parts bs.length bs (le4 (crc bs)) r rfl (le4_length _) h, if_neg (by simp)]
theorem unframe_head (bs : List UInt8) (k : Nat) (h : bs.length ≤ 1048576) (hk : k < (frame bs).length) : unframe ((frame bs).take k) = ([], 0, 10) := by
  rw [frame_length] at hk
  by_cases hs : k < (enc (fd bs.length)).length
  · have e : (frame bs).take k = (enc (fd bs.length)).take k := by
      unfold frame
      rw [List.append_assoc, List.take_append_of_le_length (by omega)]
    rw [e]
    have ht := takeI_head bs.length k (by omega) (by omega) hs
    unfold unframe takeL
    rw [ht]
    simp
  · have e : (frame bs).take k = enc (fd bs.length) ++ (bs ++ le4 (crc bs)).take (k - (enc (fd bs.length)).length) := by
      unfold frame
      rw [List.append_assoc, List.take_append, List.take_of_length_le (by omega)]
    have hl : ((frame bs).take k).length = k := by rw [List.length_take, frame_length]; omega
    unfold unframe
    rw [hl, e, takeL_enc bs.length _ (by omega)]
    simp only [Int.toNat_natCast]
    rw [if_neg (by simp), if_neg (by omega), if_pos (by omega)]

/-! ### a turned bit -/
theorem xor_left (a b c : Nat) (h : a ^^^ b = a ^^^ c) : b = c := by
  have : a ^^^ (a ^^^ b) = a ^^^ (a ^^^ c) := by rw [h]
  rw [← Nat.xor_assoc, ← Nat.xor_assoc, Nat.xor_self, Nat.zero_xor, Nat.zero_xor] at this
  exact this
theorem xor_right (a b c : Nat) (h : b ^^^ a = c ^^^ a) : b = c := by
  rw [Nat.xor_comm b a, Nat.xor_comm c a] at h
  exact xor_left a b c h
theorem st_inj (s t : Nat) (hs : s < 4294967296) (ht : t < 4294967296) (h : st s = st t) : s = t := by
  have key : ∀ a b : Nat, a < 2147483648 → b < 2147483648 → a ^^^ 3988292384 ≠ b := by
    intro a b ha hb e
    have h1 : (a ^^^ 3988292384).testBit 31 = true := by
      rw [Nat.testBit_xor, Nat.testBit_lt_two_pow (show a < 2 ^ 31 by omega)]
      decide
    rw [e, Nat.testBit_lt_two_pow (show b < 2 ^ 31 by omega)] at h1
    cases h1
  unfold st at h
  split at h <;> split at h
  · have := xor_right _ _ _ h
    omega
  · exact absurd h (key _ _ (by omega) (by omega))
  · exact absurd h.symm (key _ _ (by omega) (by omega))
  · omega
theorem stN_inj (n s t : Nat) (hs : s < 4294967296) (ht : t < 4294967296) (h : stN n s = stN n t) : s = t := by
  induction n with
  | zero => exact h
  | succ n ih => exact ih (st_inj _ _ (stN_lt n s hs) (stN_lt n t ht) h)
theorem crcB_inj (s t : Nat) (x : UInt8) (hs : s < 4294967296) (ht : t < 4294967296) (h : crcB s x = crcB t x) : s = t := by
  have hx := x.toNat_lt
  have := stN_inj 8 _ _ (xor_lt s x.toNat hs (by omega)) (xor_lt t x.toNat ht (by omega)) h
  exact xor_right _ _ _ this
theorem crcL_inj (l : List UInt8) : ∀ s t, s < 4294967296 → t < 4294967296 → crcL s l = crcL t l → s = t := by
  induction l with
  | nil => intro s t _ _ h; exact h
  | cons x l ih => intro s t hs ht h; exact crcB_inj s t x hs ht (ih _ _ (crcB_lt s x hs) (crcB_lt t x ht) h)
theorem crcB_byte (s : Nat) (x y : UInt8) (hs : s < 4294967296) (h : crcB s x = crcB s y) : x = y := by
  have hx := x.toNat_lt
  have hy := y.toNat_lt
  have := stN_inj 8 _ _ (xor_lt s x.toNat hs (by omega)) (xor_lt s y.toNat hs (by omega)) h
  exact UInt8.toNat_inj.1 (xor_left _ _ _ this)
theorem crc_turned (a b : List UInt8) (x y : UInt8) (h : crc (a ++ x :: b) = crc (a ++ y :: b)) : x = y := by
  unfold crc at h
  have h1 := xor_left _ _ _ h
  rw [crcL_append, crcL_append] at h1
  have hl := crcL_lt a 4294967295 (by omega)
  have h2 := crcL_inj b _ _ (crcB_lt _ x hl) (crcB_lt _ y hl) h1
  exact crcB_byte _ x y hl h2
theorem sumB_nat (s i : Nat) : (sumB s i).toNat = s / 2 ^ (8 * i) % 256 := by
  unfold sumB; exact ofNat_toNat _ (Nat.mod_lt _ (by omega))
theorem le4_inj (s t : Nat) (hs : s < 4294967296) (ht : t < 4294967296) (h : le4 s = le4 t) : s = t := by
  have hh : ∀ i, i < 4 → s / 2 ^ (8 * i) % 256 = t / 2 ^ (8 * i) % 256 := by
    intro i hi
    have h1 : (le4 s)[i]? = (le4 t)[i]? := by rw [h]
    simp [le4, hi] at h1
    rw [← sumB_nat, ← sumB_nat, h1]
  have h0 := hh 0 (by omega)
  have h1 := hh 1 (by omega)
  have h2 := hh 2 (by omega)
  have h3 := hh 3 (by omega)
  simp at h0 h1 h2 h3
  omega
/-- one byte of a frame's body or check is another one: it is found -/
theorem unframe_turned (bs : List UInt8) (k : Nat) (y : UInt8) (h : bs.length ≤ 1048576) (hk : k < bs.length + 4) (hy : (bs ++ le4 (crc bs))[k]? ≠ some y) :
    unframe ((frame bs).set ((enc (fd bs.length)).length + k) y) = ([], 0, 12) := by
  have e : (frame bs).set ((enc (fd bs.length)).length + k) y = enc (fd bs.length) ++ (bs ++ le4 (crc bs)).set k y := by
    unfold frame
    rw [List.append_assoc, List.set_append_right _ _ (by omega), Nat.add_sub_cancel_left]
  rw [e]
  by_cases hb : k < bs.length
  · rw [List.set_append_left _ _ hb]
    have := unframe_parts bs.length (bs.set k y) (le4 (crc bs)) [] (by simp) (le4_length _) h
    rw [List.append_nil] at this
    rw [← List.append_assoc, this, if_pos]
    intro hc
    have h1 := le4_inj _ _ (crc_lt _) (crc_lt _) hc
    have hsplit : bs = bs.take k ++ bs[k] :: bs.drop (k + 1) := by
      rw [List.getElem_cons_drop]; simp
    have hset : bs.set k y = bs.take k ++ y :: bs.drop (k + 1) := by
      rw [List.set_eq_take_append_cons_drop, if_pos hb]
    rw [hset] at h1
    have h2 : crc bs = crc (bs.take k ++ bs[k] :: bs.drop (k + 1)) := by rw [← hsplit]
    rw [h2] at h1
    have h3 := crc_turned _ _ _ _ h1
    apply hy
    rw [List.getElem?_append_left hb, List.getElem?_eq_getElem hb, h3]
  · rw [List.set_append_right _ _ (by omega)]
    have := unframe_parts bs.length bs ((le4 (crc bs)).set (k - bs.length) y) [] rfl (by rw [List.length_set]; exact le4_length _) h
    rw [List.append_nil] at this
    rw [← List.append_assoc, this, if_pos]
    intro hc
    apply hy
    rw [List.getElem?_append_right (by omega), ← hc, List.getElem?_set_self (by rw [le4_length]; omega)]

/-- a byte one of whose bits is turned is another one -/
theorem turn (x : UInt8) (m : Nat) (hm : m < 8) : ∃ y : UInt8, Go.bits .xor .u8 (x.toNat : Int) ((2 : Int) ^ m % 256) = (y.toNat : Int) ∧ y ≠ x := by
  have hx := x.toNat_lt
  have hp : (2 : Int) ^ m = ((2 ^ m : Nat) : Int) := by simp
  have hlt : 2 ^ m < 256 := by
    have : 2 ^ m < 2 ^ 8 := Nat.pow_lt_pow_right (by omega) hm
    omega
  have e : ((2 ^ m : Nat) : Int) % 256 = ((2 ^ m : Nat) : Int) := by
    obtain ⟨q, hq⟩ : ∃ q, 2 ^ m = q := ⟨_, rfl⟩
    rw [hq] at hlt ⊢
    omega
  have hxl : x.toNat ^^^ 2 ^ m < 256 := Nat.xor_lt_two_pow (n := 8) (by omega) (by omega)
  refine ⟨UInt8.ofNat (x.toNat ^^^ 2 ^ m), ?_, fun h => ?_⟩
  · rw [hp, e, Go.u8_xor_nat _ _ (by omega) hlt, byte_of _ hxl]
  · have h1 : (UInt8.ofNat (x.toNat ^^^ 2 ^ m)).toNat = x.toNat := by rw [h]
    rw [ofNat_toNat _ hxl] at h1
    have h2 : x.toNat ^^^ 2 ^ m = x.toNat ^^^ 0 := by rw [h1, Nat.xor_zero]
    have h3 := xor_left _ _ _ h2
    have : 0 < 2 ^ m := Nat.pow_pos (by omega)
    omega

end M
end Go.Proofs.YtogdjhhabcejgaaGreat

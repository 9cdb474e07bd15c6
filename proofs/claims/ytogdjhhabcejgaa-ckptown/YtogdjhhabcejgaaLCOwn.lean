/-
  CkptOwn's walk.
-/
import Derived.Test.YtogdjhhabcejgaaCBegun
import Derived.Test.YtogdjhhabcejgaaCRefCode
import Derived.Laws.DeepNot64
namespace Go.Proofs.Ytogdjhhabcejgaa
open Go.RowKit Go.Maps
set_option linter.unusedVariables false

/-- a row whose bytes are turned, one by one: whatever they are -/
def FlC (base : Nat) (W : World) (a : Option Addr) (c len : Nat) (wr : World) : Prop := (∃ bs, bs.length = len ∧ Ow base wr a c bs) ∧ Fr (fun j => blk a = some j) W wr
theorem FlC.at {base : Nat} {W : World} {a : Option Addr} {c len k : Nat} {wr : World} (h : FlC base W a c len wr) (hk : k < len) :
    ∃ g x, a = some ⟨g, 0, none⟩ ∧ wr.cell? ⟨g, k, none⟩ = some (.int .u8 ((x : UInt8).toNat : Int)) ∧ wr.frozen? ⟨g, k, none⟩ = false ∧ ∀ y : UInt8, FlC base W a c len (wr.setCell ⟨g, k, none⟩ (.int .u8 (y.toNat : Int))) := by
  obtain ⟨⟨bs, hl, ho⟩, hf⟩ := h
  obtain ⟨g, rfl, _, _⟩ := ho.some_of (by omega)
  refine ⟨g, bs[k], rfl, ?_, ho.frozen k, fun y => ⟨⟨bs.set k y, by simpa using hl, ho.set k y⟩, Fr.setCell (p := ⟨g, k, none⟩) hf (fun _ => rfl) _⟩⟩
  have := ho.cells k (B bs[k]) (by simp [hl, hk])
  rwa [Addr.add_lit, Nat.zero_add] at this
theorem xor85C (x : UInt8) : bits .xor .u8 (x.toNat : Int) 85 = ((UInt8.ofNat (x.toNat ^^^ 85)).toNat : Int) := by
  have hx := x.toNat_lt
  have hl : x.toNat ^^^ 85 < 256 := Nat.xor_lt_two_pow (n := 8) (by omega) (by omega)
  rw [M.byte_of _ hl]
  exact u8_xor_nat x.toNat 85 (by omega) (by omega)

set_option maxHeartbeats 3200000 in
set_option maxRecDepth 20000 in
theorem ckptOwn_walk (s : Int) (h1 : -9223372036854775808 ≤ s) (h2 : s ≤ 9223372036854775807) (a : Option Addr) (n c : Nat) (bs : List UInt8) (w : World) (h : Sl w a n bs) (hm : n ≤ 200000000000000) :
    Calls Try.prog 6 #[.int .i64 s, .slice a n c] w fun e w' => e = .returned (.bool true) ∧ Below w.heap.size w w' := by
  have hbl := h.1
  have KN := hid (new_any 16777216 (by omega) (by omega) w)
  have KB := hid (fun w1 => ckBegun_any w1)
  have HSL := hid (fun W (hf : Fr (fun _ => False) w W) => h.kept hf (fun _ _ _ h => h))
  have KR := hid (fun W (hf : Fr (fun _ => False) w W) => refEncode_any s h1 h2 a n c bs W (h.kept hf (fun _ _ _ h => h)))
  rw [C.enc_snd] at KR
  have KS := hid (fun (S : Nat → Prop) W p (hd : Dk S W p (K.mk 16777216)) xa xc (hs : Sl W xa n bs) => save_any hd s h1 h2 xa n xc bs hs (by show 0 + 524322 ≤ 200000000000000; omega))
  have hsv := C.save_ok (d := K.mk 16777216) (o := none) rfl rfl (.inl rfl) s bs (by show ((0 : Nat) : Int) + 524322 ≤ 16777216; omega)
  rw [hbl] at hsv KR
  clear h
  have hkk := hsv
  rcases hkk with ⟨hk, ek⟩ | ⟨hk, l, ek, hz⟩
  · rw [ek] at KS
    simp only at KS
    generalize C.chk s n = er at KS KR hk
    clear hsv ek
    go_enter Try.func6, Try.ntmps6
    go_wp2_with (first
      | (go_at_call 14; refine KN.out.mono ?_; rintro e w1 ⟨rfl, ht1⟩; have HT1 := hid ht1; clear ht1)
      | (go_at_call 12; refine (KB.out w1).mono ?_; rintro e w2 ⟨rfl, hf2⟩; have HD2 := hid (HT1.out.1.kept hf2 (fun _ _ h => h)); have F2 := hid (HT1.out.2.trans hf2 (fun _ _ h => h)); have HS2 := hid (HSL.out w2 F2.out); have HZ := hid hf2.size; clear hf2)
      | (at_builtin; refine wpList_append_b _ rfl _ _ rfl w2.heap.size none 0 0 [] rfl rfl (Ow.nil _ _) a n c bs rfl HS2.out (by omega) (Nat.le_refl _) ?_; intro ma mc w3 how hgb hat; have HM3 : Hid (Ow w2.heap.size w3 ma mc bs) := hid (by simpa using how); have HX3 : Hid (Sl w3 ma n bs) := hid (by have := HM3.out.sl; rw [hbl] at this; exact this); have F23 := hid ((Fr.of_grown hgb).mono (T := fun _ => False) (fun i _ e => by simp [blk] at e)); clear how hgb hat)
      | (go_at_call 15; refine (KS.out _ w3 _ (HD2.out.kept F23.out (fun _ _ h => h)) ma mc HX3.out).mono ?_; rintro e w4 ⟨rfl, ht4⟩; have F4 : Hid (Fr (fun _ => False) w w4) := hid ((F2.out.trans F23.out (fun _ _ h => h)).trans ht4.2 (fun i hi hn => by have := hn.1.resolve_left (fun h => h); omega)); clear ht4)
      | (go_at_call 9; refine (KR.out w4 F4.out).mono ?_; rintro e w5 ⟨xa, xc, rfl, ho5, hf5⟩; have F5 := hid (F4.out.trans hf5 (fun _ _ h => h)); clear ho5 hf5))
    go_ret
    exact ⟨rfl, F5.out.below (Nat.le_refl _) (fun _ _ h => h)⟩
  · have hl0 := hz rfl
    subst hl0
    rw [ek] at KS
    simp only at KS
    rw [hk] at KR
    have hdd : ({ K.mk 16777216 with fs := C.fsOf (some (C.enc s bs).1), left := 0 } : K.DK) = C.dk 16777216 (some (C.enc s bs).1) := rfl
    rw [hdd] at KS
    have hld : C.load (C.dk 16777216 (some (C.enc s bs).1)) = ((s, bs, 0), C.dk 16777216 (some (C.enc s bs).1)) := by
      rw [C.load_of (o := some (C.enc s bs).1) rfl rfl]
      have : C.say (some (C.enc s bs).1) = (s, bs, 0) := C.dec_enc (by rw [hbl]; exact hk)
      rw [this]
    have KL := hid (fun (S : Nat → Prop) W p (hd : Dk S W p (C.dk 16777216 (some (C.enc s bs).1))) => load_any hd)
    unfold Lr at KL
    rw [hld] at KL
    simp only at KL
    rw [hbl] at KL
    generalize C.dk 16777216 (some (C.enc s bs).1) = dd at KS KL
    clear hsv ek hdd hld hz hk
    go_enter Try.func6, Try.ntmps6
    go_wp2_with (first
      | (go_at_call 14; refine KN.out.mono ?_; rintro e w1 ⟨rfl, ht1⟩; have HT1 := hid ht1; clear ht1)
      | (go_at_call 12; refine (KB.out w1).mono ?_; rintro e w2 ⟨rfl, hf2⟩; have HD2 := hid (HT1.out.1.kept hf2 (fun _ _ h => h)); have F2 := hid (HT1.out.2.trans hf2 (fun _ _ h => h)); have HS2 := hid (HSL.out w2 F2.out); have HZ := hid hf2.size; clear hf2)
      | (at_builtin; refine wpList_append_b _ rfl _ _ rfl w2.heap.size none 0 0 [] rfl rfl (Ow.nil _ _) a n c bs rfl HS2.out (by omega) (Nat.le_refl _) ?_; intro ma mc w3 how hgb hat; have HM3 : Hid (Ow w2.heap.size w3 ma mc bs) := hid (by simpa using how); have HX3 : Hid (Sl w3 ma n bs) := hid (by have := HM3.out.sl; rw [hbl] at this; exact this); have F23 := hid ((Fr.of_grown hgb).mono (T := fun _ => False) (fun i _ e => by simp [blk] at e)); clear how hgb hat)
      | (go_at_call 15; refine (KS.out _ w3 _ (HD2.out.kept F23.out (fun _ _ h => h)) ma mc HX3.out).mono ?_; rintro e w4 ⟨rfl, ht4⟩; have HT4 := hid ht4; have F4 : Hid (Fr (fun _ => False) w w4) := hid ((F2.out.trans F23.out (fun _ _ h => h)).trans ht4.2 (fun i hi hn => by have := hn.1.resolve_left (fun h => h); omega)); clear ht4)
      | (go_at_call 9; refine (KR.out w4 F4.out).mono ?_; rintro e w5 ⟨xa, xc, rfl, ho5, hf5⟩; have F45 := hid hf5; have F5 := hid (F4.out.trans hf5 (fun _ _ h => h)); clear ho5 hf5))
    obtain ⟨p, hp⟩ : ∃ p, w.heap.size + 1 = p := ⟨_, rfl⟩
    rw [hp] at HT1 HD2 HT4 ⊢
    have HDS := hid HD2.out.1
    obtain ⟨S4, hd4, hS4, _, hn4⟩ := HT4.out.ge (b := w.heap.size) (fun k hk => hk.1.resolve_left (fun h => h)) (by have := F2.out.size; have := F23.out.size; omega)
    have HMX : Hid (∀ k, blk ma = some k → ¬ S4 k) := hid (fun k hk h4 => by
      have h5 := HM3.out.lt k hk
      rcases hn4 k h4 with h6 | h6
      · have := HDS.out k h6; omega
      · omega)
    have HM5 : Hid (Ow w2.heap.size w5 ma mc bs) := hid ((HM3.out.kept HT4.out.2 (fun k hk h6 => by have := (HM3.out.lt k hk).1; have := HDS.out k h6; omega)).kept F45.out (fun _ _ h => h))
    have HD5 := hid (hd4.kept F45.out (fun _ _ h => h))
    have HFW : Hid (FlC w2.heap.size w5 ma mc n w5) := hid ⟨⟨bs, hbl, HM5.out⟩, Fr.refl _ _⟩
    have hz2 := F2.out.size
    have HS4 := hid hS4
    clear hd4 hn4 hS4 HM3 HX3 HT4 HM5 HDS HD2 HT1 hp
    go_loopw [48] (fun i wr => ∃ k : Nat, k ≤ n ∧ i = .int .i64 k ∧ FlC w2.heap.size w5 ma mc n wr) (fun i _ => n - (intOf i).toNat)
    case atStart => exact ⟨0, by omega, rfl, HFW.out⟩
    case round =>
      obtain ⟨k, hk, rfl, hfl⟩ := hrel
      by_cases hlt : k < n
      · obtain ⟨g, x, rfl, hgc, hgf, hgn⟩ := hfl.at hlt
        have HGN := hid hgn
        clear hgn hfl
        obtain ⟨y, e1⟩ : ∃ y : UInt8, bits .xor .u8 (x.toNat : Int) 85 = (y.toNat : Int) := ⟨_, xor85C x⟩
        go_wp2
        go_roundw
        case rel => exact ⟨k + 1, by omega, by go_num, HGN.out y⟩
        case measure => simp [intOf]; omega
      · have HD6 := hid (HD5.out.kept hfl.2 (fun k h4 e => HMX.out k e h4))
        have F6 : Hid (Fr (fun _ => False) w wr) := hid (F5.out.trans hfl.2 (fun i hi e => by obtain ⟨⟨b5, _, o5⟩, _⟩ := hfl; have := (o5.lt i e).1; omega))
        clear hfl HFW HD5
        go_wp2_with (first
          | (go_at_call 21; refine (KL.out _ _ _ HD6.out).mono ?_; rintro e w8 ⟨w7, ya, yc, rfl, ht7, ho8, hf8⟩; have HT7 := hid ht7; have HO8 := hid ho8; have F78 := hid hf8; clear ht7 ho8 hf8))
        obtain ⟨S7, hd7, hS7, hf7, hn7⟩ := HT7.out.ge (b := w.heap.size) HS4.out F6.out.size
        have HD8 := hid (hd7.kept F78.out (fun _ _ h => h))
        have HYX : Hid (∀ k, blk ya = some k → ¬ S7 k ∧ w7.heap.size ≤ k) := hid (fun k hk => by have h5 := (HO8.out.lt k hk).1; exact ⟨fun h7 => by have := hd7.1 k h7; omega, h5⟩)
        have F7 : Hid (Fr (fun _ => False) w w7) := hid (F6.out.trans hf7 (fun i hi e => by have := HS4.out i e; omega))
        have F8 : Hid (Fr (fun _ => False) w w8) := hid (F7.out.trans F78.out (fun _ _ h => h))
        have HFY : Hid (FlC w7.heap.size w8 ya yc n w8) := hid ⟨⟨bs, hbl, HO8.out⟩, Fr.refl _ _⟩
        have hz7 := F7.out.size
        have HS7 := hid hS7
        clear hd7 hS7 hf7 hn7 HT7 HD6 F6 HO8 HMX
        go_loopw [66] (fun i wr => ∃ k : Nat, k ≤ n ∧ i = .int .i64 k ∧ FlC w7.heap.size w8 ya yc n wr) (fun i _ => n - (intOf i).toNat)
        case atStart => exact ⟨0, by omega, rfl, HFY.out⟩
        case round =>
          obtain ⟨k, hk, rfl, hfl⟩ := hrel
          by_cases hlt : k < n
          · obtain ⟨g, x, rfl, hgc, hgf, hgn⟩ := hfl.at hlt
            have HGN := hid hgn
            clear hgn hfl
            obtain ⟨y, e1⟩ : ∃ y : UInt8, bits .xor .u8 (x.toNat : Int) 85 = (y.toNat : Int) := ⟨_, xor85C x⟩
            go_wp2
            go_roundw
            case rel => exact ⟨k + 1, by omega, by go_num, HGN.out y⟩
            case measure => simp [intOf]; omega
          · have HD9 := hid (HD8.out.kept hfl.2 (fun k h4 e => (HYX.out k e).1 h4))
            have F9 : Hid (Fr (fun _ => False) w wr) := hid (F8.out.trans hfl.2 (fun i hi e => by have := (HYX.out i e).2; omega))
            clear hfl HFY HD8
            go_wp2_with (first
              | (go_at_call 21; refine (KL.out _ _ _ HD9.out).mono ?_; rintro e w11 ⟨w10, za, zc, rfl, ht10, ho11, hf11⟩; have HX11 := hid (show Sl w11 za n bs by have := ho11.sl; rw [hbl] at this; exact this); have F11 : Hid (Fr (fun _ => False) w w11) := hid ((F9.out.trans ht10.2 (fun i hi e => by have := HS7.out i e; omega)).trans hf11 (fun _ _ h => h)); have EQ := hid (equal_any za a n zc n c bs bs w11 HX11.out (HSL.out w11 F11.out)); rw [decide_eq_true (rfl : bs = bs)] at EQ; clear ht10 ho11 hf11)
              | (go_at_call 13; refine EQ.out.mono ?_; rintro e w' ⟨rfl, rfl⟩))
            go_ret
            exact ⟨rfl, F11.out.below (Nat.le_refl _) (fun _ _ h => h)⟩

end Go.Proofs.Ytogdjhhabcejgaa

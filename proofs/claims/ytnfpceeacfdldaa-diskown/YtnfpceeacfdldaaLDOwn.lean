/-
  DiskOwn, the walk: what is handed in is not kept, what is answered is nobody's else.
-/
import Derived.Test.YtnfpceeacfdldaaKScript
import Derived.Laws.DeepNot64
namespace Go.Proofs.Ytnfpceeacfdldaa
open Go.RowKit Go.Maps
set_option linter.unusedVariables false

/-- a row whose bytes are turned, one by one: whatever they are -/
def FlW (base : Nat) (W : World) (a : Option Addr) (c len : Nat) (wr : World) : Prop := (∃ bs, bs.length = len ∧ Ow base wr a c bs) ∧ Fr (fun j => blk a = some j) W wr
theorem FlW.at {base : Nat} {W : World} {a : Option Addr} {c len k : Nat} {wr : World} (h : FlW base W a c len wr) (hk : k < len) :
    ∃ g x, a = some ⟨g, 0, none⟩ ∧ wr.cell? ⟨g, k, none⟩ = some (.int .u8 ((x : UInt8).toNat : Int)) ∧ wr.frozen? ⟨g, k, none⟩ = false ∧ ∀ y : UInt8, FlW base W a c len (wr.setCell ⟨g, k, none⟩ (.int .u8 (y.toNat : Int))) := by
  obtain ⟨⟨bs, hl, ho⟩, hf⟩ := h
  obtain ⟨g, rfl, _, _⟩ := ho.some_of (by omega)
  refine ⟨g, bs[k], rfl, ?_, ho.frozen k, fun y => ⟨⟨bs.set k y, by simpa using hl, ho.set k y⟩, Fr.setCell (p := ⟨g, k, none⟩) hf (fun _ => rfl) _⟩⟩
  have := ho.cells k (B bs[k]) (by simp [hl, hk])
  rwa [Addr.add_lit, Nat.zero_add] at this
theorem xor85 (x : UInt8) : bits .xor .u8 (x.toNat : Int) 85 = ((UInt8.ofNat (x.toNat ^^^ 85)).toNat : Int) := by
  have hx := x.toNat_lt
  have hl : x.toNat ^^^ 85 < 256 := Nat.xor_lt_two_pow (n := 8) (by omega) (by omega)
  rw [M.byte_of _ hl]
  exact u8_xor_nat x.toNat 85 (by omega) (by omega)

def own3 : K.Nm := [111, 119, 110]
def dOwn (bs : List UInt8) : K.DK := { K.mk (bs.length : Nat) with fs := [(own3, ⟨[], bs⟩)] }
theorem app_own (bs : List UInt8) : K.app (K.mk (bs.length : Nat)) own3 bs = (0, dOwn bs) := by
  have h1 : K.rdy (K.mk (bs.length : Nat)) own3 = 0 := rfl
  have h2 : K.get own3 (K.mk (bs.length : Nat)).fs = none := rfl
  have h3 : (K.mk (bs.length : Nat)).used = 0 := rfl
  rw [K.app_ok h1 (fun h => by have : 1024 ≤ 0 := h.2; omega) (fun h => by rw [h3] at h; have h : ((bs.length : Nat) : Int) < ((0 : Nat) : Int) + (bs.length : Nat) := h; omega), h2]
  rfl
theorem fnd_own (bs : List UInt8) : K.fnd (dOwn bs) own3 = 0 := rfl
theorem get_own (bs : List UInt8) : K.get own3 (dOwn bs).fs = some ⟨[], bs⟩ := rfl

namespace K
theorem burn_room' (d : DK) : (burn d).2.room = d.room := burn_room d
theorem run_room (d : DK) (o : Op) : (run d o).2.room = d.room := by
  have ha : ∀ n b, (app d n b).2.room = d.room := fun n b => by unfold app; split; rfl; split; rfl; split; rfl; rw [burn_room]
  have hs : ∀ n, (syn d n).2.room = d.room := fun n => by unfold syn; split; rfl; split; exact burn_room d; exact burn_room d
  have hr : ∀ n, (rem d n).2.room = d.room := fun n => by unfold rem; split; rfl; split; exact burn_room d; exact burn_room d
  have hn : ∀ n m, (ren d n m).2.room = d.room := fun n m => by unfold ren; split; rfl; split; rfl; split; exact burn_room d; exact burn_room d
  have hf : ∀ k m, (fuse d k m).2.room = d.room := fun k m => by unfold fuse; split; rfl; split; rfl; rfl
  have hc : ∀ k, (crash d k).2.room = d.room := fun k => by unfold crash; split; rfl; split; rfl; rfl
  have ht : (restart d).2.room = d.room := by unfold restart; split; rfl; rfl
  unfold run
  split; exact ha _ _
  split; exact hs _
  split; exact hr _
  split; exact hn _ _
  split; exact hf _ _
  split; exact hc _
  split; exact ht
  rfl
end K

/-- what the script's loop keeps: the disk goes its way, its clone stays as it is -/
def OI (w : World) (p q : Nat) (S3 : Nat → Prop) (room : Int) (bs : List UInt8) (wr : World) : Prop :=
  ∃ Sd d, Dk Sd wr p d ∧ d.room = room ∧ (∀ k, Sd k → w.heap.size ≤ k) ∧ Dk S3 wr q (dOwn bs) ∧ (∀ k, Sd k → ¬ S3 k) ∧ Fr (fun _ => False) w wr
theorem OI.step {w wr w' : World} {p q : Nat} {S3 : Nat → Prop} {room : Int} {bs : List UInt8} {Sd : Nat → Prop} {d d' : K.DK} (h : Dk Sd wr p d) (hb : ∀ k, Sd k → w.heap.size ≤ k) (hc : Dk S3 wr q (dOwn bs)) (hx : ∀ k, Sd k → ¬ S3 k) (hf : Fr (fun _ => False) w wr) (ht : Td Sd wr p d' w') (hr : d'.room = room) : OI w p q S3 room bs w' :=
  ⟨Nx Sd wr w', d', ht.1, hr, fun k hk => hk.1.elim (hb k) (Nat.le_trans hf.size), hc.kept ht.2 (fun k h3 hs => hx k hs h3), fun k hk h3 => hk.1.elim (fun hs => hx k hs h3) (fun hs => by have := hc.1 k h3; omega), hf.trans ht.2 (fun i hi hs => by have := hb i hs; omega)⟩

set_option maxRecDepth 20000 in
set_option maxHeartbeats 3200000 in
theorem diskOwn_walk (a : Option Addr) (n cap : Nat) (bs : List UInt8) (sa : Option Addr) (sn sc : Nat) (ops : List K.Op) (w : World) (h : Sl w a n bs) (hl : n ≤ 140737488351232) (hs : Sc w sa sn ops) (hsl : sn ≤ 9223372036854775807) :
    Calls Try.prog 6 #[.slice a n cap, .slice sa sn sc] w fun e w' => e = .returned (.bool true) ∧ Below w.heap.size w w' := by
  have hbl := h.1
  go_enter Try.func6, Try.ntmps6
  go_wp2_with fail
  refine (new_any (n : Nat) (by omega) (by omega) w).mono ?_
  rintro e w1 ⟨rfl, ht1⟩
  obtain ⟨S1, hd1, hS1, hf1, _⟩ := ht1.ge (b := w.heap.size) (fun _ h => h.elim) (Nat.le_refl _)
  obtain ⟨p, hp⟩ : ∃ p, p = w.heap.size + 1 := ⟨_, rfl⟩
  rw [← hp] at hd1 ⊢
  have HD1 := hid hd1
  have F1 := hid hf1
  have HS1 := hid hS1
  clear hd1 hf1 hS1 ht1 hp
  go_wp2_with fail
  refine (begun_any _).mono ?_
  rintro e w2 ⟨rfl, hf2⟩
  have HD2 := hid (HD1.out.kept hf2 (fun _ _ h => h))
  have F2 := hid (F1.out.trans hf2 (fun _ _ h => h))
  have hs2 : Sl w2 a n bs := h.kept F2.out (fun _ _ _ h => h)
  clear hf2 HD1 F1
  go_wp2_with (first
    | (at_builtin; refine wpList_append_b _ rfl (.const (.slice none 0 0)) (.tmp 29) rfl w2.heap.size none 0 0 [] rfl rfl (Ow.nil _ _) a n cap bs rfl hs2 (by omega) (Nat.le_refl _) ?_; intro ma mc w3 how hgb hat; have HM3 : Hid (Ow w2.heap.size w3 ma mc bs) := hid (by simpa using how); have F23 := hid ((Fr.of_grown hgb).mono (T := fun _ => False) (fun i _ e => by simp [blk] at e)); clear how hgb hat))
  have eA : K.app (K.mk (n : Nat)) own3 bs = (0, dOwn bs) := by rw [← hbl]; exact app_own bs
  have hm3 : Sl w3 ma n bs := by have := HM3.out.sl; rw [hbl] at this; exact this
  have hz23 := F23.out.size
  have hz2 := F2.out.size
  have KA := append_any (HD2.out.kept F23.out (fun _ _ h => h)) ⟨#[111, 119, 110]⟩ (by decide) ma n mc bs hm3 (by omega) (fun _ => by show 0 + n ≤ 200000000000000; omega)
  rw [show (ByteArray.mk #[111, 119, 110]).data.toList = own3 from rfl, eA] at KA
  have HKA := hid KA
  clear KA eA hm3 hs2
  refine HKA.out.mono ?_
  rintro e w4 ⟨rfl, ht4⟩
  obtain ⟨S4, hd4, hS4, hf4, hn4⟩ := ht4.ge HS1.out (by omega)
  have hS1lt := HD2.out.1
  have HM4 := hid (HM3.out.kept hf4 (fun k hk h1 => by have := (HM3.out.lt k hk).1; have := hS1lt k h1; omega))
  have hmx : ∀ k, blk ma = some k → ¬ S4 k := fun k hk h4 => by
    have h5 := HM3.out.lt k hk
    rcases hn4 k h4 with h1 | h1
    · have := hS1lt k h1; omega
    · omega
  have HMX := hid hmx
  have F4 : Hid (Fr (fun _ => False) w w4) := hid ((F2.out.trans F23.out (fun _ _ h => h)).trans hf4 (fun i hi h1 => by have := HS1.out i h1; omega))
  have HD4 := hid hd4
  have HS4 := hid hS4
  have HFW : Hid (FlW w2.heap.size w4 ma mc n w4) := hid ⟨⟨bs, hbl, HM4.out⟩, Fr.refl _ _⟩
  clear ht4 hd4 hS4 hf4 hn4 hS1lt hmx HKA HM3 HM4 F23 HD2 F2 HS1
  go_wp2
  go_loopw [37] (fun i wr => ∃ k : Nat, k ≤ n ∧ i = .int .i64 k ∧ FlW w2.heap.size w4 ma mc n wr) (fun i _ => n - (intOf i).toNat)
  case atStart => exact ⟨0, by omega, rfl, HFW.out⟩
  case round =>
    obtain ⟨k, hk, rfl, hfl⟩ := hrel
    by_cases hlt : k < n
    · obtain ⟨g, x, rfl, hgc, hgf, hgn⟩ := hfl.at hlt
      have HGN := hid hgn
      clear hgn hfl
      obtain ⟨y, e1⟩ : ∃ y : UInt8, bits .xor .u8 (x.toNat : Int) 85 = (y.toNat : Int) := ⟨_, xor85 x⟩
      go_wp2
      go_roundw
      case rel => exact ⟨k + 1, by omega, by go_num, HGN.out y⟩
      case measure => simp [intOf]; omega
    · have HD5 := hid (HD4.out.kept hfl.2 (fun k h4 e => HMX.out k e h4))
      have F5 : Hid (Fr (fun _ => False) w wr) := hid (F4.out.trans hfl.2 (fun i hi e => by obtain ⟨⟨b5, _, o5⟩, _⟩ := hfl; have := (o5.lt i e).1; omega))
      clear hfl HFW HD4
      have KC := hid (clone_any HD5.out)
      go_wp2_with fail
      refine KC.out.mono ?_
      rintro e w5 ⟨q, rfl, ht5⟩
      obtain ⟨S3, hd3, hS3, hf3, hn3⟩ := ht5.ge (b := wr.heap.size) (fun _ h => h.elim) (Nat.le_refl _)
      have HC5 := hid hd3
      have HS3 := hid hS3
      have HP5 := hid (HD5.out.kept hf3 (fun _ _ h => h))
      have F6 := hid (F5.out.trans hf3 (fun _ _ h => h))
      have hlt5 := HD5.out.1
      have HX43 : Hid (∀ k, S4 k → ¬ S3 k) := hid (fun k h4 h3 => by have := hlt5 k h4; have := hS3 k h3; omega)
      clear KC ht5 hd3 hS3 hf3 hn3 hlt5
      have KR := read_any HP5.out ⟨#[111, 119, 110]⟩ (by decide)
      rw [show (ByteArray.mk #[111, 119, 110]).data.toList = own3 from rfl] at KR
      have HKR := hid KR
      clear KR
      go_wp2_with fail
      refine HKR.out.mono ?_
      rintro e w6 ⟨⟨hne, _⟩ | ⟨_, f, xa, xc, hg, rfl, ho⟩, hf6⟩
      · exact absurd (fnd_own bs) hne
      · rw [get_own] at hg
        cases hg
        have eL : (K.F.all ⟨[], bs⟩).length = n := hbl
        rw [eL]
        have HC6 := hid (HC5.out.kept hf6 (fun _ _ h => h))
        have HP6 := hid (HP5.out.kept hf6 (fun _ _ h => h))
        have F7 := hid (F6.out.trans hf6 (fun _ _ h => h))
        have hlt4 := HP5.out.1
        have hlt3 := HC5.out.1
        have HXX : Hid (∀ k, blk xa = some k → ¬ S4 k ∧ ¬ S3 k ∧ w5.heap.size ≤ k) := hid (fun k hk => by have h5 := (ho.lt k hk).1; exact ⟨fun h4 => by have := hlt4 k h4; omega, fun h3 => by have := hlt3 k h3; omega, h5⟩)
        have HFX : Hid (FlW w5.heap.size w6 xa xc n w6) := hid ⟨⟨bs, hbl, ho⟩, Fr.refl _ _⟩
        have hz5 := F6.out.size
        have hz56 := hf6.size
        clear ho hf6 eL hlt4 hlt3 HKR HC5 HP5 F6 HD5 F5
        go_wp2
        go_loopw [56] (fun i wr => ∃ k : Nat, k ≤ n ∧ i = .int .i64 k ∧ FlW w5.heap.size w6 xa xc n wr) (fun i _ => n - (intOf i).toNat)
        case atStart => exact ⟨0, by omega, rfl, HFX.out⟩
        case round =>
          obtain ⟨k, hk, rfl, hfl⟩ := hrel
          by_cases hlt : k < n
          · obtain ⟨g, x, rfl, hgc, hgf, hgn⟩ := hfl.at hlt
            have HGN := hid hgn
            clear hgn hfl
            obtain ⟨y, e1⟩ : ∃ y : UInt8, bits .xor .u8 (x.toNat : Int) 85 = (y.toNat : Int) := ⟨_, xor85 x⟩
            go_wp2
            go_roundw
            case rel => exact ⟨k + 1, by omega, by go_num, HGN.out y⟩
            case measure => simp [intOf]; omega
          · obtain ⟨⟨xb, hxl, hxo⟩, hxf⟩ := hfl
            have HC7 := hid (HC6.out.kept hxf (fun k h3 e => (HXX.out k e).2.1 h3))
            have HP7 := hid (HP6.out.kept hxf (fun k h4 e => (HXX.out k e).1 h4))
            have F8 : Hid (Fr (fun _ => False) w wr) := hid (F7.out.trans hxf (fun i hi e => by have := (HXX.out i e).2.2; omega))
            have hz6r := hxf.size
            have HXO := hid hxo
            have HXL := hid hxl
            clear hxl hxo hxf HFX HC6 HP6 F7
            have hb1 : Sl (wr.alloc (.cells #[.int .u8 1] 5)) (some ⟨wr.heap.size, 0, none⟩) 1 [1] := sl_lit wr [1] _ _
            have hxo1 : Ow w5.heap.size (wr.alloc (.cells #[.int .u8 1] 5)) xa xc xb := HXO.out.kept (Fr.alloc (Fr.refl (fun _ => False) _) _) (fun _ _ h => h)
            have hzr := F8.out.size
            have h57 : w5.heap.size ≤ wr.heap.size := by omega
            go_wp2_with (first
              | (at_builtin; refine wpList_append_b _ rfl (.tmp 66) (.tmp 67) rfl w5.heap.size xa n xc xb rfl HXL.out hxo1 (some ⟨wr.heap.size, 0, none⟩) 1 1 [1] rfl hb1 (by omega) (by simp; omega) ?_; intro ya yc w8 how hgb hat; have F9 := hid ((Fr.alloc (Fr.refl (fun k => blk xa = some k) wr) (.cells #[.int .u8 1] 5)).trans (Fr.of_grown hgb) (fun _ _ e => e.symm ▸ rfl)); clear how hgb hat))
            have h0 : OI w p q S3 (n : Nat) bs w8 := ⟨S4, dOwn bs, HP7.out.kept F9.out (fun k h4 e => (HXX.out k e).1 h4), by show ((bs.length : Nat) : Int) = _; rw [hbl], HS4.out, HC7.out.kept F9.out (fun k h3 e => (HXX.out k e).2.1 h3), HX43.out, F8.out.trans F9.out (fun i hi e => by have := (HXX.out i e).2.2; omega)⟩
            have H0 := hid h0
            clear h0 hb1 hxo1 HXO HXL HXX HP7 HC7 F8 F9 HX43 HS4 HS3 HMX F4
            go_loopw [71] (fun i wr => ∃ k : Nat, k ≤ sn ∧ i = .int .i64 k ∧ OI w p q S3 (n : Nat) bs wr) (fun i _ => sn - (intOf i).toNat)
            case atStart => exact ⟨0, by omega, rfl, H0.out⟩
            case round =>
              obtain ⟨k, hk, rfl, Sd, d, hdk, hroom, hge, hck, hxk, hfr⟩ := hrel
              by_cases hlt : k < sn
              · obtain ⟨b, off, o, rfl, _, s, t, A, L, C, c0, c1, c2, c3, c4, c5, h6⟩ := hs.at hfr hlt
                have fa : Fr (fun _ => False) wr (wr.alloc (.cells #[.int .i64 o.do_, .string s, .string t, .slice A L C, .int .i64 o.k, .int .i64 o.keep] 33)) := Fr.alloc (Fr.refl _ _) _
                have KR := hid (run_any (hdk.kept fa (fun _ _ h => h)) o s t A L C (h6.kept fa) (fun hu => by rw [hroom] at hu; show _ ≤ 200000000000000; omega))
                have HS := hid (fun (w' : World) (ht : Td Sd (wr.alloc (.cells #[.int .i64 o.do_, .string s, .string t, .slice A L C, .int .i64 o.k, .int .i64 o.keep] 33)) p (K.run d o).2 w') => OI.step hdk hge hck hxk hfr (Td.pre fa ht) ((K.run_room d o).trans hroom))
                clear hdk hroom hge hck hxk hfr h6 fa
                generalize K.run d o = R at KR HS
                generalize o.do_ = od at *
                generalize o.k = okk at *
                generalize o.keep = okp at *
                go_wp2_with (first | (go_at_call 18; refine KR.out.mono ?_; rintro e w9 ⟨rfl, ht⟩; have HT := hid (HS.out w9 ht); clear ht))
                go_roundw
                case rel => exact ⟨k + 1, by omega, by go_num, HT.out⟩
                case measure => simp [intOf]; omega
              · have KR := read_any hck ⟨#[111, 119, 110]⟩ (by decide)
                rw [show (ByteArray.mk #[111, 119, 110]).data.toList = own3 from rfl] at KR
                have HKR := hid KR
                have F10 := hid hfr
                clear KR hdk hroom hge hck hxk hfr
                go_wp2_with fail
                refine HKR.out.mono ?_
                rintro e w9 ⟨⟨hne, _⟩ | ⟨_, f, za, zc, hg, rfl, ho⟩, hf9⟩
                · exact absurd (fnd_own bs) hne
                · rw [get_own] at hg
                  cases hg
                  have eL : (K.F.all ⟨[], bs⟩).length = n := hbl
                  rw [eL]
                  have F11 := hid (F10.out.trans hf9 (fun _ _ h => h))
                  have cv1 := run_str w9 za n zc bs (by have := ho.sl; rw [eL] at this; exact this)
                  have cv2 := run_str w9 a n cap bs (h.kept F11.out (fun _ _ _ h => h))
                  clear ho hf9 eL
                  go_wp2
                  go_ret
                  exact ⟨by simp, F11.out.below (Nat.le_refl _) (fun _ _ h => h)⟩

end Go.Proofs.Ytnfpceeacfdldaa

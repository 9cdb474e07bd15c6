/-
  The contract of a disk: Append.
-/
import Derived.Test.YtogdjhhabcejgaaGreatMg15
namespace Go.Proofs.YtogdjhhabcejgaaGreat
open Go.RowKit Go.Maps
set_option linter.unusedVariables false
namespace K
theorem ok_add {d : DK} (h : Ok d) {n : Nm} {b : List UInt8} (h1 : rdy d n = 0) (h2 : ¬ (get n d.fs = none ∧ 1024 ≤ d.fs.length)) (h3 : ¬ (d.room < d.used + b.length)) (hc : d.used + b.length ≤ cap) : Ok { d with fs := put n (add (get n d.fs) b) d.fs } := by
  have hn := not_bad h1
  have ht := tot_add h.up n b
  unfold DK.used at h3 hc
  refine ok_fs h (h.up.put _ _) ?_ ?_ (by rw [ht]; omega) (by rw [ht]; exact hc)
  · rw [length_put h.up]
    have := h.files
    split
    · rename_i hg; simp only [hg, true_and] at h2; omega
    · exact this
  · intro p hp
    rcases mem_put.1 hp with rfl | ⟨hp, _⟩
    · exact hn.2
    · exact h.names p hp
theorem upd_put {α : Type} {l : List (Nm × α)} (h : Up l) (n : Nm) (u v : α) : upd n v (put n u l) = put n v l :=
  up_ext ((h.put n u).upd n v) (h.put n v) (fun p => by
    constructor
    · intro hp
      rcases mem_upd.1 hp with ⟨rfl, _⟩ | ⟨hp, hk⟩
      · exact mem_put.2 (.inl rfl)
      · rcases mem_put.1 hp with rfl | hp
        · exact absurd rfl hk
        · exact mem_put.2 (.inr hp)
    · intro hp
      rcases mem_put.1 hp with rfl | ⟨hp, hk⟩
      · exact mem_upd.2 (.inl ⟨rfl, u, mem_put.2 (.inl rfl)⟩)
      · exact mem_upd.2 (.inr ⟨mem_put.2 (.inr ⟨hp, hk⟩), hk⟩))
theorem app_err {d : DK} {n : Nm} {b : List UInt8} (h : rdy d n ≠ 0) : app d n b = (rdy d n, d) := by unfold app; rw [if_pos h]
theorem app_long {d : DK} {n : Nm} {b : List UInt8} (h : rdy d n = 0) (h2 : get n d.fs = none ∧ 1024 ≤ d.fs.length) : app d n b = (3, d) := by unfold app; rw [if_neg (by simp [h]), if_pos h2]
theorem app_full {d : DK} {n : Nm} {b : List UInt8} (h : rdy d n = 0) (h2 : ¬ (get n d.fs = none ∧ 1024 ≤ d.fs.length)) (h3 : d.room < d.used + b.length) : app d n b = (6, d) := by unfold app; rw [if_neg (by simp [h]), if_neg h2, if_pos h3]
theorem app_ok {d : DK} {n : Nm} {b : List UInt8} (h : rdy d n = 0) (h2 : ¬ (get n d.fs = none ∧ 1024 ≤ d.fs.length)) (h3 : ¬ (d.room < d.used + b.length)) : app d n b = burn { d with fs := put n (add (get n d.fs) b) d.fs } := by unfold app; rw [if_neg (by simp [h]), if_neg h2, if_neg h3]
end K

/-- a new file is in the map -/
theorem Du.newfile {c : Cl} {w w3 : World} {p mb : Nat} {l : List (K.Nm × FM)} {d : K.DK} {u : Int} (h : Du c w p mb l d u) (hu : K.Up l) {n : K.Nm} (hn : K.get n l = none) (hf : Fr (fun k => k = mb) (w.alloc (.cells #[.slice none 0 0, .slice none 0 0] 80)) w3) (hom : OM w3 mb (K.put n w.heap.size (K.mp FM.g l))) :
    Du (c.on (some ⟨w.heap.size, 0, none⟩) .file) w3 p mb (K.put n ⟨w.heap.size, none, 0, [], none, 0, []⟩ l) { d with fs := K.put n ⟨[], []⟩ d.fs } u := by
  have hle : Cl.Le c (c.on (some ⟨w.heap.size, 0, none⟩) .file) := fun k hk => Cl.on_other _ (by have := h.lt k hk; simp [blk]; omega) _
  have hmb := h.lt mb (by rw [h.cm]; simp)
  have hpm : p ≠ mb := fun e => by have := h.cm; rw [← e, h.cp] at this; simp at this
  have f0 : Fr (fun k => k = mb) w w3 := (Fr.alloc (Fr.refl _ _) _).trans hf (fun _ _ h => h)
  refine ⟨f0.cells h.at_ hpm, hle.some h.cp, hle.some h.cm, by rw [K.mp_put]; exact hom, ?_, ?_, by rw [K.mp_put, h.fs]; rfl, ?_⟩
  · intro q hq
    rcases K.mem_put.1 hq with rfl | ⟨hq, _⟩
    · exact ⟨hf.cells (Go.heap_alloc_new w _) (fun e => by simp only at e; omega), Ow.nil _ _, Ow.nil _ _, Cl.on_same _ rfl _, by simp [blk], by simp [blk]⟩
    · exact ((h.fl q hq).kept f0 (fun k hk e => (h.ne hq).2 (e ▸ hk))).le hle
  · intro q hq r hr e
    rcases K.mem_put.1 hq with rfl | ⟨hq, hqn⟩
    · rcases K.mem_put.1 hr with rfl | ⟨hr, hrn⟩
      · rfl
      · have := (h.fl r hr).lt
        simp only at e
        omega
    · rcases K.mem_put.1 hr with rfl | ⟨hr, hrn⟩
      · have := (h.fl q hq).lt
        simp only at e
        omega
      · exact h.inj q hq r hr e
  · intro k hk
    have := f0.size
    have h3 := hf.size
    by_cases e : blk (some ⟨w.heap.size, 0, none⟩) = some k
    · simp [blk] at e
      simp at h3
      omega
    · rw [Cl.on_other _ e] at hk
      have := h.lt k hk
      omega
theorem Sl.map {w w' : World} {a : Option Addr} {len : Nat} {bs : List UInt8} (h : Sl w a len bs) {mb : Nat} {l : List (K.Nm × Nat)} (hm : OM w mb l) (hf : Fr (fun k => k = mb) w w') : Sl w' a len bs := by
  refine h.kept hf (fun hl k hk e => ?_)
  subst e
  obtain ⟨b, off, x, rfl, _, hc⟩ := h.at hl
  simp [blk] at hk
  subst hk
  obtain ⟨es, clock, hb, _⟩ := hm
  simp [World.cell?, hb] at hc

set_option maxHeartbeats 1600000 in
set_option maxRecDepth 20000 in
theorem app_A {S : Nat → Prop} {w : World} {p : Nat} {d : K.DK} (h : Dk S w p d) (s : ByteArray) (hz : s.size ≤ maxLen) (ba : Option Addr) (bm bc : Nat) (bs : List UInt8) (hb : Sl w ba bm bs) (hA : K.rdy d s.data.toList ≠ 0) (hbm : bm ≤ 9223372036854775807) (hc : ((d.used + bm : Nat) : Int) ≤ d.room → d.used + bm ≤ K.cap) :
    Calls Tryz.prog 25 #[.pointer (some ⟨p, 0, none⟩), .string s, .slice ba bm bc] w fun e w' => e = .returned (.int .i64 (K.app d s.data.toList bs).1) ∧ Td S w p (K.app d s.data.toList bs).2 w' := by
  have HK := hid h
  obtain ⟨hS, ho, c, mb, l, hcS, hd⟩ := h
  obtain ⟨n, hn⟩ : ∃ n, s.data.toList = n := ⟨_, rfl⟩
  have HR := hid (ready1 hd s hz)
  have hgl := hd.get s.data.toList
  have hlen := hd.len
  have hblen := hb.1
  rw [hn] at HR hgl hA ⊢
  have hkey : keyOf Tryz.prog 9 (.string s) = some (.string n) := by rw [← hn]; exact WideMaps.keyOf_string_mk Tryz.underlying9 hz
  have hk' : ∀ W, Fr (fun _ => False) w W → W.cell? ⟨p, 2, none⟩ = some (.map (some mb)) := fun W hf => cell_fr hf (fun h => h) hd.k.2.1
  have hk0' : ∀ W, Fr (fun _ => False) w W → W.cell? ⟨p, 0, none⟩ = some (.int .i64 d.room) := fun W hf => cell_fr hf (fun h => h) hd.k.1
  have hsz := hd.mp.size_le
  have HOM := hid (fun W (hf : Fr (fun _ => False) w W) => hd.mp.kept hf (fun h => h))
  have HD := hid hd
  have HO := hid ho
  have HS := hid hS
  have HC := hid hcS
  have HZ := hid hz
  have HN := hid hn
  have HKEY := hid hkey
  have HCC := hid hc
  have HB := hid hb
  have HK1 := hid hk'
  have HK0 := hid hk0'
  have HKU := hid (fun W (hf : Fr (fun _ => False) w W) => cell_fr hf (fun h => h) hd.ku)
  have r0 := ho.r0
  have r1 := ho.r1
  have hur := ho.ur
  have HFI := hid ho.files
  clear hd ho hS hcS hz hn hkey hc hb hk' hk0' hsz
  rw [K.app_err hA]
  generalize K.rdy d n = R at HR hA ⊢
  have hne : (R == 0) = false := by simpa using hA
  go_enter Tryz.func25, Tryz.ntmps25
  go_wp2_with (first
    | (go_at_call 44; refine (HR.out _ _ _ (Fr.alloc (Fr.refl _ _) _) (by simp)).mono ?_; rintro e w1 ⟨rfl, hw1⟩; have f1 : Fr (fun _ => False) w w1 := hw1 ▸ Fr.alloc (Fr.refl _ _) _; clear hw1; have k11 := HK1.out _ f1; have k10 := HK0.out _ f1; have k1u := HKU.out _ f1; have hl1 := World.ownsMap.len (HOM.out _ f1) Tryz.underlying42 3; rw [K.toD_size, K.length_mp] at hl1; have F1 := hid f1; clear f1))
  go_ret
  exact ⟨rfl, Td.refl HK.out F1.out⟩

set_option maxHeartbeats 1600000 in
set_option maxRecDepth 20000 in
theorem app_B {S : Nat → Prop} {w : World} {p : Nat} {d : K.DK} (h : Dk S w p d) (s : ByteArray) (hz : s.size ≤ maxLen) (ba : Option Addr) (bm bc : Nat) (bs : List UInt8) (hb : Sl w ba bm bs) (hA : K.rdy d s.data.toList = 0) (hB : K.get s.data.toList d.fs = none ∧ 1024 ≤ d.fs.length) (hbm : bm ≤ 9223372036854775807) (hc : ((d.used + bm : Nat) : Int) ≤ d.room → d.used + bm ≤ K.cap) :
    Calls Tryz.prog 25 #[.pointer (some ⟨p, 0, none⟩), .string s, .slice ba bm bc] w fun e w' => e = .returned (.int .i64 (K.app d s.data.toList bs).1) ∧ Td S w p (K.app d s.data.toList bs).2 w' := by
  have HK := hid h
  obtain ⟨hS, ho, c, mb, l, hcS, hd⟩ := h
  obtain ⟨n, hn⟩ : ∃ n, s.data.toList = n := ⟨_, rfl⟩
  have HR := hid (ready1 hd s hz)
  have hgl := hd.get s.data.toList
  have hlen := hd.len
  have hblen := hb.1
  rw [hn] at HR hgl hA hB ⊢
  have hkey : keyOf Tryz.prog 9 (.string s) = some (.string n) := by rw [← hn]; exact WideMaps.keyOf_string_mk Tryz.underlying9 hz
  have hk' : ∀ W, Fr (fun _ => False) w W → W.cell? ⟨p, 2, none⟩ = some (.map (some mb)) := fun W hf => cell_fr hf (fun h => h) hd.k.2.1
  have hk0' : ∀ W, Fr (fun _ => False) w W → W.cell? ⟨p, 0, none⟩ = some (.int .i64 d.room) := fun W hf => cell_fr hf (fun h => h) hd.k.1
  have hsz := hd.mp.size_le
  have HOM := hid (fun W (hf : Fr (fun _ => False) w W) => hd.mp.kept hf (fun h => h))
  have HD := hid hd
  have HO := hid ho
  have HS := hid hS
  have HC := hid hcS
  have HZ := hid hz
  have HN := hid hn
  have HKEY := hid hkey
  have HCC := hid hc
  have HB := hid hb
  have HK1 := hid hk'
  have HK0 := hid hk0'
  have HKU := hid (fun W (hf : Fr (fun _ => False) w W) => cell_fr hf (fun h => h) hd.ku)
  have r0 := ho.r0
  have r1 := ho.r1
  have hur := ho.ur
  have HFI := hid ho.files
  clear hd ho hS hcS hz hn hkey hc hb hk' hk0' hsz
  rw [K.app_long hA hB]
  rw [hA] at HR
  have hg0 : K.get n l = none := by have h1 := hB.1; rw [hgl.1] at h1; simpa using h1
  have HGG := hid (show K.get n (K.mp FM.g l) = none by rw [hgl.2, hg0]; rfl)
  have hL : (1024 : Int) ≤ l.length := by have := hB.2; omega
  clear hgl hg0 hB hA
  go_enter Tryz.func25, Tryz.ntmps25
  go_wp2_with (first
    | (go_at_call 44; refine (HR.out _ _ _ (Fr.alloc (Fr.refl _ _) _) (by simp)).mono ?_; rintro e w1 ⟨rfl, hw1⟩; have f1 : Fr (fun _ => False) w w1 := hw1 ▸ Fr.alloc (Fr.refl _ _) _; clear hw1; have k11 := HK1.out _ f1; have k10 := HK0.out _ f1; have k1u := HKU.out _ f1; have hl1 := World.ownsMap.len (HOM.out _ f1) Tryz.underlying42 3; rw [K.toD_size, K.length_mp] at hl1; have F1 := hid f1; clear f1)
    | (at_lookup; refine wpList_lookup_file _ rfl _ _ rfl mb (K.mp FM.g l) rfl (HOM.out _ F1.out) s rfl HZ.out none (by rw [HN.out]; exact HGG.out) ?_))
  go_ret
  exact ⟨rfl, Td.refl HK.out F1.out⟩

set_option maxHeartbeats 1600000 in
set_option maxRecDepth 20000 in
theorem app_C {S : Nat → Prop} {w : World} {p : Nat} {d : K.DK} (h : Dk S w p d) (s : ByteArray) (hz : s.size ≤ maxLen) (ba : Option Addr) (bm bc : Nat) (bs : List UInt8) (hb : Sl w ba bm bs) (hA : K.rdy d s.data.toList = 0) (hB : ¬ (K.get s.data.toList d.fs = none ∧ 1024 ≤ d.fs.length)) (hF : d.room < d.used + bs.length) (hG : K.get s.data.toList d.fs = none) (hbm : bm ≤ 9223372036854775807) (hc : ((d.used + bm : Nat) : Int) ≤ d.room → d.used + bm ≤ K.cap) :
    Calls Tryz.prog 25 #[.pointer (some ⟨p, 0, none⟩), .string s, .slice ba bm bc] w fun e w' => e = .returned (.int .i64 (K.app d s.data.toList bs).1) ∧ Td S w p (K.app d s.data.toList bs).2 w' := by
  have HK := hid h
  obtain ⟨hS, ho, c, mb, l, hcS, hd⟩ := h
  obtain ⟨n, hn⟩ : ∃ n, s.data.toList = n := ⟨_, rfl⟩
  have HR := hid (ready1 hd s hz)
  have hgl := hd.get s.data.toList
  have hlen := hd.len
  have hblen := hb.1
  rw [hn] at HR hgl hA hB hG ⊢
  have hkey : keyOf Tryz.prog 9 (.string s) = some (.string n) := by rw [← hn]; exact WideMaps.keyOf_string_mk Tryz.underlying9 hz
  have hk' : ∀ W, Fr (fun _ => False) w W → W.cell? ⟨p, 2, none⟩ = some (.map (some mb)) := fun W hf => cell_fr hf (fun h => h) hd.k.2.1
  have hk0' : ∀ W, Fr (fun _ => False) w W → W.cell? ⟨p, 0, none⟩ = some (.int .i64 d.room) := fun W hf => cell_fr hf (fun h => h) hd.k.1
  have hsz := hd.mp.size_le
  have HOM := hid (fun W (hf : Fr (fun _ => False) w W) => hd.mp.kept hf (fun h => h))
  have HD := hid hd
  have HO := hid ho
  have HS := hid hS
  have HC := hid hcS
  have HZ := hid hz
  have HN := hid hn
  have HKEY := hid hkey
  have HCC := hid hc
  have HB := hid hb
  have HK1 := hid hk'
  have HK0 := hid hk0'
  have HKU := hid (fun W (hf : Fr (fun _ => False) w W) => cell_fr hf (fun h => h) hd.ku)
  have r0 := ho.r0
  have r1 := ho.r1
  have hur := ho.ur
  have HFI := hid ho.files
  clear hd ho hS hcS hz hn hkey hc hb hk' hk0' hsz
  rw [K.app_full hA hB hF]
  rw [hA] at HR
  have hg0 : K.get n l = none := by rw [hgl.1] at hG; simpa using hG
  have HGG := hid (show K.get n (K.mp FM.g l) = none by rw [hgl.2, hg0]; rfl)
  have hL : ¬ (1024 : Int) ≤ l.length := by have h1 : ¬ 1024 ≤ d.fs.length := fun h => hB ⟨hG, h⟩; omega
  rw [hblen] at hF
  have hFF : d.room - (d.used : Int) < (bm : Int) := by omega
  have hw : IntKind.i64.wrap (d.room - (d.used : Int)) = d.room - (d.used : Int) := by rw [IntKind.wrap_i64]; omega
  clear hgl hg0 hB hA hG hF
  go_enter Tryz.func25, Tryz.ntmps25
  go_wp2_with (first
    | (go_at_call 44; refine (HR.out _ _ _ (Fr.alloc (Fr.refl _ _) _) (by simp)).mono ?_; rintro e w1 ⟨rfl, hw1⟩; have f1 : Fr (fun _ => False) w w1 := hw1 ▸ Fr.alloc (Fr.refl _ _) _; clear hw1; have k11 := HK1.out _ f1; have k10 := HK0.out _ f1; have k1u := HKU.out _ f1; have hl1 := World.ownsMap.len (HOM.out _ f1) Tryz.underlying42 3; rw [K.toD_size, K.length_mp] at hl1; have F1 := hid f1; clear f1)
    | (at_lookup; refine wpList_lookup_file _ rfl _ _ rfl mb (K.mp FM.g l) rfl (HOM.out _ F1.out) s rfl HZ.out none (by rw [HN.out]; exact HGG.out) ?_))
  go_region_held3 (fun w' => w'.cell? ⟨p, 0, none⟩ = some (.int .i64 d.room) ∧ w'.cell? ⟨p, 1, none⟩ = some (.int .i64 (d.used : Nat))) (first | go_keep | exact ⟨k10, k1u⟩) (fail)
  go_wp2
  go_ret
  exact ⟨rfl, Td.refl HK.out (by first | exact F1.out | exact Fr.drew F1.out)⟩

set_option maxHeartbeats 1600000 in
set_option maxRecDepth 20000 in
theorem app_E {S : Nat → Prop} {w : World} {p : Nat} {d : K.DK} (h : Dk S w p d) (s : ByteArray) (hz : s.size ≤ maxLen) (ba : Option Addr) (bm bc : Nat) (bs : List UInt8) (hb : Sl w ba bm bs) (hA : K.rdy d s.data.toList = 0) (hB : ¬ (K.get s.data.toList d.fs = none ∧ 1024 ≤ d.fs.length)) (hF : d.room < d.used + bs.length) (hG : K.get s.data.toList d.fs ≠ none) (hbm : bm ≤ 9223372036854775807) (hc : ((d.used + bm : Nat) : Int) ≤ d.room → d.used + bm ≤ K.cap) :
    Calls Tryz.prog 25 #[.pointer (some ⟨p, 0, none⟩), .string s, .slice ba bm bc] w fun e w' => e = .returned (.int .i64 (K.app d s.data.toList bs).1) ∧ Td S w p (K.app d s.data.toList bs).2 w' := by
  have HK := hid h
  obtain ⟨hS, ho, c, mb, l, hcS, hd⟩ := h
  obtain ⟨n, hn⟩ : ∃ n, s.data.toList = n := ⟨_, rfl⟩
  have HR := hid (ready1 hd s hz)
  have hgl := hd.get s.data.toList
  have hlen := hd.len
  have hblen := hb.1
  rw [hn] at HR hgl hA hB hG ⊢
  have hkey : keyOf Tryz.prog 9 (.string s) = some (.string n) := by rw [← hn]; exact WideMaps.keyOf_string_mk Tryz.underlying9 hz
  have hk' : ∀ W, Fr (fun _ => False) w W → W.cell? ⟨p, 2, none⟩ = some (.map (some mb)) := fun W hf => cell_fr hf (fun h => h) hd.k.2.1
  have hk0' : ∀ W, Fr (fun _ => False) w W → W.cell? ⟨p, 0, none⟩ = some (.int .i64 d.room) := fun W hf => cell_fr hf (fun h => h) hd.k.1
  have hsz := hd.mp.size_le
  have HOM := hid (fun W (hf : Fr (fun _ => False) w W) => hd.mp.kept hf (fun h => h))
  have HD := hid hd
  have HO := hid ho
  have HS := hid hS
  have HC := hid hcS
  have HZ := hid hz
  have HN := hid hn
  have HKEY := hid hkey
  have HCC := hid hc
  have HB := hid hb
  have HK1 := hid hk'
  have HK0 := hid hk0'
  have HKU := hid (fun W (hf : Fr (fun _ => False) w W) => cell_fr hf (fun h => h) hd.ku)
  have r0 := ho.r0
  have r1 := ho.r1
  have hur := ho.ur
  have HFI := hid ho.files
  clear hd ho hS hcS hz hn hkey hc hb hk' hk0' hsz
  rw [K.app_full hA hB hF]
  rw [hA] at HR
  obtain ⟨m, hg0⟩ : ∃ m, K.get n l = some m := by
    cases e : K.get n l with
    | none => rw [hgl.1, e] at hG; exact absurd rfl hG
    | some m => exact ⟨m, rfl⟩
  have HGG := hid (show K.get n (K.mp FM.g l) = some m.g by rw [hgl.2, hg0]; rfl)
  rw [hblen] at hF
  have hFF : d.room - (d.used : Int) < (bm : Int) := by omega
  have hw : IntKind.i64.wrap (d.room - (d.used : Int)) = d.room - (d.used : Int) := by rw [IntKind.wrap_i64]; omega
  clear hgl hg0 hB hA hG hF
  go_enter Tryz.func25, Tryz.ntmps25
  go_wp2_with (first
    | (go_at_call 44; refine (HR.out _ _ _ (Fr.alloc (Fr.refl _ _) _) (by simp)).mono ?_; rintro e w1 ⟨rfl, hw1⟩; have f1 : Fr (fun _ => False) w w1 := hw1 ▸ Fr.alloc (Fr.refl _ _) _; clear hw1; have k11 := HK1.out _ f1; have k10 := HK0.out _ f1; have k1u := HKU.out _ f1; have hl1 := World.ownsMap.len (HOM.out _ f1) Tryz.underlying42 3; rw [K.toD_size, K.length_mp] at hl1; have F1 := hid f1; clear f1)
    | (at_lookup; refine wpList_lookup_file _ rfl _ _ rfl mb (K.mp FM.g l) rfl (HOM.out _ F1.out) s rfl HZ.out (some m.g) (by rw [HN.out]; exact HGG.out) ?_))
  go_region_held3 (fun w' => w'.cell? ⟨p, 0, none⟩ = some (.int .i64 d.room) ∧ w'.cell? ⟨p, 1, none⟩ = some (.int .i64 (d.used : Nat))) (first | go_keep | exact ⟨k10, k1u⟩) (fail)
  go_wp2
  go_ret
  exact ⟨rfl, Td.refl HK.out (by first | exact F1.out | exact Fr.drew F1.out)⟩

end Go.Proofs.YtogdjhhabcejgaaGreat

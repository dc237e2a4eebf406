/-
  The contract of the reference's Crop.
-/
import Derived.Test.YtmaldhjcdkidmaaRefAmp
import Derived.Test.YtmaldhjcdkidmaaBf
import Derived.Test.YtmaldhjcdkidmaaPCrp
import Derived.Laws.AppendOwnNone
namespace Go.Proofs.Ytmaldhjcdkidmaa
open Go.RowKit

set_option maxHeartbeats 1600000 in
theorem r_crop_bad (s : Sm.Smp) (p : Option Addr) (cap : Nat) (f t : Int) (w : World) (hm : s.name.size ≤ maxLen) (hd : DatAt w p s.dat) (hv : Sm.vld s = false)  :
    Calls Try.prog 29 #[SV s p cap, .int .i64 f, .int .i64 t] w fun x w' => x = .returned (.tuple #[SV zer none 0, .int .i64 1]) ∧ Below w.heap.size w w' := by
  have HVd := Lib.hid (rvalid_v s p cap ((w.alloc (.cells #[.string s.name, .slice p s.dat.length cap, .int .i64 s.bits, .int .i64 s.rate, .int .i64 s.vol, .int .i64 s.pan, .int .i64 s.fine, .int .i64 s.loop, .int .i64 s.start, .int .i64 s.fin, .int .i64 s.sus, .int .i64 s.sstart, .int .i64 s.sfin] 24)).alloc (.cells #[.string { data := #[] }, .slice none 0 0, .int .i64 0, .int .i64 0, .int .i64 0, .int .i64 0, .int .i64 0, .int .i64 0, .int .i64 0, .int .i64 0, .int .i64 0, .int .i64 0, .int .i64 0] 24)) hm (hd.below (((Below.refl w.heap.size w).alloc (Nat.le_refl _) (.cells #[.string s.name, .slice p s.dat.length cap, .int .i64 s.bits, .int .i64 s.rate, .int .i64 s.vol, .int .i64 s.pan, .int .i64 s.fine, .int .i64 s.loop, .int .i64 s.start, .int .i64 s.fin, .int .i64 s.sus, .int .i64 s.sstart, .int .i64 s.sfin] 24)).alloc (by simp) (.cells #[.string { data := #[] }, .slice none 0 0, .int .i64 0, .int .i64 0, .int .i64 0, .int .i64 0, .int .i64 0, .int .i64 0, .int .i64 0, .int .i64 0, .int .i64 0, .int .i64 0, .int .i64 0] 24))) hv)
  have HT0 := Lib.hid (two_new w s p cap)
  have HB0 := Lib.hid (((Below.refl w.heap.size w).alloc (Nat.le_refl _) (.cells #[.string s.name, .slice p s.dat.length cap, .int .i64 s.bits, .int .i64 s.rate, .int .i64 s.vol, .int .i64 s.pan, .int .i64 s.fine, .int .i64 s.loop, .int .i64 s.start, .int .i64 s.fin, .int .i64 s.sus, .int .i64 s.sstart, .int .i64 s.sfin] 24)).alloc (by simp) (.cells #[.string { data := #[] }, .slice none 0 0, .int .i64 0, .int .i64 0, .int .i64 0, .int .i64 0, .int .i64 0, .int .i64 0, .int .i64 0, .int .i64 0, .int .i64 0, .int .i64 0, .int .i64 0] 24))
  clear hm hd
  unfold SV at HVd
  unfold SV
  go_enter Try.func29, Try.ntmps29
  go_wp2_with (first | (go_at_call 14; ((with_reducible refine HVd.out.mono ?_); rintro z w1 ⟨rfl, hb1⟩; have HB1 := Lib.hid (stepB HB0.out hb1); have HT1 := Lib.hid (HT0.out.kept hb1 (by simp)); obtain ⟨⟨x0, x1, x2, x3, x4, x5, x6, x7, x8, x9, x10, x11, x12⟩, ⟨z0, z1, z2, z3, z4, z5, z6, z7, z8, z9, z10, z11, z12⟩, fz1, fz2⟩ := HT1.out)))
  refine bodyPost_ret (v := .tuple #[SV zer none 0, .int .i64 1]) ?_ rfl ⟨rfl, Below13 HB1.out (by omega)⟩
  simp [results, Try.results29, go_sem, SV, zer, z0, z1, z2, z3, z4, z5, z6, z7, z8, z9, z10, z11, z12] <;> rfl
set_option maxHeartbeats 1600000 in
theorem r_crop_r1 (s : Sm.Smp) (p : Option Addr) (cap : Nat) (f t : Int) (w : World) (hm : s.name.size ≤ maxLen) (hd : DatAt w p s.dat) (hv : Sm.vld s = true) (h1 : f < 0) :
    Calls Try.prog 29 #[SV s p cap, .int .i64 f, .int .i64 t] w fun x w' => x = .returned (.tuple #[SV zer none 0, .int .i64 5]) ∧ Below w.heap.size w w' := by
  have HVd := Lib.hid (rvalid_v s p cap ((w.alloc (.cells #[.string s.name, .slice p s.dat.length cap, .int .i64 s.bits, .int .i64 s.rate, .int .i64 s.vol, .int .i64 s.pan, .int .i64 s.fine, .int .i64 s.loop, .int .i64 s.start, .int .i64 s.fin, .int .i64 s.sus, .int .i64 s.sstart, .int .i64 s.sfin] 24)).alloc (.cells #[.string { data := #[] }, .slice none 0 0, .int .i64 0, .int .i64 0, .int .i64 0, .int .i64 0, .int .i64 0, .int .i64 0, .int .i64 0, .int .i64 0, .int .i64 0, .int .i64 0, .int .i64 0] 24)) hm (hd.below (((Below.refl w.heap.size w).alloc (Nat.le_refl _) (.cells #[.string s.name, .slice p s.dat.length cap, .int .i64 s.bits, .int .i64 s.rate, .int .i64 s.vol, .int .i64 s.pan, .int .i64 s.fine, .int .i64 s.loop, .int .i64 s.start, .int .i64 s.fin, .int .i64 s.sus, .int .i64 s.sstart, .int .i64 s.sfin] 24)).alloc (by simp) (.cells #[.string { data := #[] }, .slice none 0 0, .int .i64 0, .int .i64 0, .int .i64 0, .int .i64 0, .int .i64 0, .int .i64 0, .int .i64 0, .int .i64 0, .int .i64 0, .int .i64 0, .int .i64 0] 24))) hv)
  have HT0 := Lib.hid (two_new w s p cap)
  have HB0 := Lib.hid (((Below.refl w.heap.size w).alloc (Nat.le_refl _) (.cells #[.string s.name, .slice p s.dat.length cap, .int .i64 s.bits, .int .i64 s.rate, .int .i64 s.vol, .int .i64 s.pan, .int .i64 s.fine, .int .i64 s.loop, .int .i64 s.start, .int .i64 s.fin, .int .i64 s.sus, .int .i64 s.sstart, .int .i64 s.sfin] 24)).alloc (by simp) (.cells #[.string { data := #[] }, .slice none 0 0, .int .i64 0, .int .i64 0, .int .i64 0, .int .i64 0, .int .i64 0, .int .i64 0, .int .i64 0, .int .i64 0, .int .i64 0, .int .i64 0, .int .i64 0] 24))
  clear hm hd
  unfold SV at HVd
  unfold SV
  go_enter Try.func29, Try.ntmps29
  go_wp2_with (first | (go_at_call 14; ((with_reducible refine HVd.out.mono ?_); rintro z w1 ⟨rfl, hb1⟩; have HB1 := Lib.hid (stepB HB0.out hb1); have HT1 := Lib.hid (HT0.out.kept hb1 (by simp)); obtain ⟨⟨x0, x1, x2, x3, x4, x5, x6, x7, x8, x9, x10, x11, x12⟩, ⟨z0, z1, z2, z3, z4, z5, z6, z7, z8, z9, z10, z11, z12⟩, fz1, fz2⟩ := HT1.out)))
  refine bodyPost_ret (v := .tuple #[SV zer none 0, .int .i64 5]) ?_ rfl ⟨rfl, Below13 HB1.out (by omega)⟩
  simp [results, Try.results29, go_sem, SV, zer, z0, z1, z2, z3, z4, z5, z6, z7, z8, z9, z10, z11, z12] <;> rfl
set_option maxHeartbeats 1600000 in
theorem r_crop_r2 (s : Sm.Smp) (p : Option Addr) (cap : Nat) (f t : Int) (w : World) (hm : s.name.size ≤ maxLen) (hd : DatAt w p s.dat) (hv : Sm.vld s = true) (h1 : ¬ f < 0) (h2 : t < f) :
    Calls Try.prog 29 #[SV s p cap, .int .i64 f, .int .i64 t] w fun x w' => x = .returned (.tuple #[SV zer none 0, .int .i64 5]) ∧ Below w.heap.size w w' := by
  have HVd := Lib.hid (rvalid_v s p cap ((w.alloc (.cells #[.string s.name, .slice p s.dat.length cap, .int .i64 s.bits, .int .i64 s.rate, .int .i64 s.vol, .int .i64 s.pan, .int .i64 s.fine, .int .i64 s.loop, .int .i64 s.start, .int .i64 s.fin, .int .i64 s.sus, .int .i64 s.sstart, .int .i64 s.sfin] 24)).alloc (.cells #[.string { data := #[] }, .slice none 0 0, .int .i64 0, .int .i64 0, .int .i64 0, .int .i64 0, .int .i64 0, .int .i64 0, .int .i64 0, .int .i64 0, .int .i64 0, .int .i64 0, .int .i64 0] 24)) hm (hd.below (((Below.refl w.heap.size w).alloc (Nat.le_refl _) (.cells #[.string s.name, .slice p s.dat.length cap, .int .i64 s.bits, .int .i64 s.rate, .int .i64 s.vol, .int .i64 s.pan, .int .i64 s.fine, .int .i64 s.loop, .int .i64 s.start, .int .i64 s.fin, .int .i64 s.sus, .int .i64 s.sstart, .int .i64 s.sfin] 24)).alloc (by simp) (.cells #[.string { data := #[] }, .slice none 0 0, .int .i64 0, .int .i64 0, .int .i64 0, .int .i64 0, .int .i64 0, .int .i64 0, .int .i64 0, .int .i64 0, .int .i64 0, .int .i64 0, .int .i64 0] 24))) hv)
  have HT0 := Lib.hid (two_new w s p cap)
  have HB0 := Lib.hid (((Below.refl w.heap.size w).alloc (Nat.le_refl _) (.cells #[.string s.name, .slice p s.dat.length cap, .int .i64 s.bits, .int .i64 s.rate, .int .i64 s.vol, .int .i64 s.pan, .int .i64 s.fine, .int .i64 s.loop, .int .i64 s.start, .int .i64 s.fin, .int .i64 s.sus, .int .i64 s.sstart, .int .i64 s.sfin] 24)).alloc (by simp) (.cells #[.string { data := #[] }, .slice none 0 0, .int .i64 0, .int .i64 0, .int .i64 0, .int .i64 0, .int .i64 0, .int .i64 0, .int .i64 0, .int .i64 0, .int .i64 0, .int .i64 0, .int .i64 0] 24))
  clear hm hd
  unfold SV at HVd
  unfold SV
  go_enter Try.func29, Try.ntmps29
  go_wp2_with (first | (go_at_call 14; ((with_reducible refine HVd.out.mono ?_); rintro z w1 ⟨rfl, hb1⟩; have HB1 := Lib.hid (stepB HB0.out hb1); have HT1 := Lib.hid (HT0.out.kept hb1 (by simp)); obtain ⟨⟨x0, x1, x2, x3, x4, x5, x6, x7, x8, x9, x10, x11, x12⟩, ⟨z0, z1, z2, z3, z4, z5, z6, z7, z8, z9, z10, z11, z12⟩, fz1, fz2⟩ := HT1.out)))
  refine bodyPost_ret (v := .tuple #[SV zer none 0, .int .i64 5]) ?_ rfl ⟨rfl, Below13 HB1.out (by omega)⟩
  simp [results, Try.results29, go_sem, SV, zer, z0, z1, z2, z3, z4, z5, z6, z7, z8, z9, z10, z11, z12] <;> rfl
set_option maxHeartbeats 1600000 in
theorem r_crop_r3 (s : Sm.Smp) (p : Option Addr) (cap : Nat) (f t : Int) (w : World) (hm : s.name.size ≤ maxLen) (hd : DatAt w p s.dat) (hv : Sm.vld s = true) (h1 : ¬ f < 0) (h2 : ¬ t < f) (h3 : (s.dat.length : Int) < t) :
    Calls Try.prog 29 #[SV s p cap, .int .i64 f, .int .i64 t] w fun x w' => x = .returned (.tuple #[SV zer none 0, .int .i64 5]) ∧ Below w.heap.size w w' := by
  have HVd := Lib.hid (rvalid_v s p cap ((w.alloc (.cells #[.string s.name, .slice p s.dat.length cap, .int .i64 s.bits, .int .i64 s.rate, .int .i64 s.vol, .int .i64 s.pan, .int .i64 s.fine, .int .i64 s.loop, .int .i64 s.start, .int .i64 s.fin, .int .i64 s.sus, .int .i64 s.sstart, .int .i64 s.sfin] 24)).alloc (.cells #[.string { data := #[] }, .slice none 0 0, .int .i64 0, .int .i64 0, .int .i64 0, .int .i64 0, .int .i64 0, .int .i64 0, .int .i64 0, .int .i64 0, .int .i64 0, .int .i64 0, .int .i64 0] 24)) hm (hd.below (((Below.refl w.heap.size w).alloc (Nat.le_refl _) (.cells #[.string s.name, .slice p s.dat.length cap, .int .i64 s.bits, .int .i64 s.rate, .int .i64 s.vol, .int .i64 s.pan, .int .i64 s.fine, .int .i64 s.loop, .int .i64 s.start, .int .i64 s.fin, .int .i64 s.sus, .int .i64 s.sstart, .int .i64 s.sfin] 24)).alloc (by simp) (.cells #[.string { data := #[] }, .slice none 0 0, .int .i64 0, .int .i64 0, .int .i64 0, .int .i64 0, .int .i64 0, .int .i64 0, .int .i64 0, .int .i64 0, .int .i64 0, .int .i64 0, .int .i64 0] 24))) hv)
  have HT0 := Lib.hid (two_new w s p cap)
  have HB0 := Lib.hid (((Below.refl w.heap.size w).alloc (Nat.le_refl _) (.cells #[.string s.name, .slice p s.dat.length cap, .int .i64 s.bits, .int .i64 s.rate, .int .i64 s.vol, .int .i64 s.pan, .int .i64 s.fine, .int .i64 s.loop, .int .i64 s.start, .int .i64 s.fin, .int .i64 s.sus, .int .i64 s.sstart, .int .i64 s.sfin] 24)).alloc (by simp) (.cells #[.string { data := #[] }, .slice none 0 0, .int .i64 0, .int .i64 0, .int .i64 0, .int .i64 0, .int .i64 0, .int .i64 0, .int .i64 0, .int .i64 0, .int .i64 0, .int .i64 0, .int .i64 0] 24))
  clear hm hd
  unfold SV at HVd
  unfold SV
  go_enter Try.func29, Try.ntmps29
  go_wp2_with (first | (go_at_call 14; ((with_reducible refine HVd.out.mono ?_); rintro z w1 ⟨rfl, hb1⟩; have HB1 := Lib.hid (stepB HB0.out hb1); have HT1 := Lib.hid (HT0.out.kept hb1 (by simp)); obtain ⟨⟨x0, x1, x2, x3, x4, x5, x6, x7, x8, x9, x10, x11, x12⟩, ⟨z0, z1, z2, z3, z4, z5, z6, z7, z8, z9, z10, z11, z12⟩, fz1, fz2⟩ := HT1.out)))
  refine bodyPost_ret (v := .tuple #[SV zer none 0, .int .i64 5]) ?_ rfl ⟨rfl, Below13 HB1.out (by omega)⟩
  simp [results, Try.results29, go_sem, SV, zer, z0, z1, z2, z3, z4, z5, z6, z7, z8, z9, z10, z11, z12] <;> rfl
theorem BF.belowB {w w' : World} {b B : Nat} {s : Sm.Smp} {p : Option Addr} {cap : Nat} (h : BF w b s p cap) (hb : Below B w w') (hl : b < B) : BF w' b s p cap := by
  refine ⟨h.1.below hb hl, fun j => ?_⟩
  rw [hb.frozen (p := ⟨b, j, none⟩) hl]; exact h.2 j
theorem bf_new' (w : World) (s : Sm.Smp) (p : Option Addr) (cap : Nat) : BF (w.alloc (.cells #[.string s.name, .slice p s.dat.length cap, .int .i64 s.bits, .int .i64 s.rate, .int .i64 s.vol, .int .i64 s.pan, .int .i64 s.fine, .int .i64 s.loop, .int .i64 s.start, .int .i64 s.fin, .int .i64 s.sus, .int .i64 s.sstart, .int .i64 s.sfin] 24)) w.heap.size s p cap := bf_new w s p cap
set_option maxHeartbeats 1600000 in
theorem r_crop_ne (s : Sm.Smp) (ad : Addr) (cap F m : Nat) (w : World) (hm : s.name.size ≤ maxLen) (hd : DatAt w (some ad) s.dat) (hv : Sm.vld s = true) (hcap : s.dat.length ≤ cap) (hFm : F + m ≤ s.dat.length) (hne : ¬ cap = F) :
    Calls Try.prog 29 #[SV s (some ad) cap, .int .i64 (F : Int), .int .i64 ((F : Int) + m)] w fun x w' => RetR (Sm.crp s (F : Int) ((F : Int) + m)) w.heap.size x w' ∧ Below w.heap.size w w' := by
  have HVd := Lib.hid (rvalid_v s (some ad) cap ((w.alloc (.cells #[.string s.name, .slice (some ad) s.dat.length cap, .int .i64 s.bits, .int .i64 s.rate, .int .i64 s.vol, .int .i64 s.pan, .int .i64 s.fine, .int .i64 s.loop, .int .i64 s.start, .int .i64 s.fin, .int .i64 s.sus, .int .i64 s.sstart, .int .i64 s.sfin] 24)).alloc (.cells #[.string { data := #[] }, .slice none 0 0, .int .i64 0, .int .i64 0, .int .i64 0, .int .i64 0, .int .i64 0, .int .i64 0, .int .i64 0, .int .i64 0, .int .i64 0, .int .i64 0, .int .i64 0] 24)) hm (hd.below (((Below.refl w.heap.size w).alloc (Nat.le_refl _) (.cells #[.string s.name, .slice (some ad) s.dat.length cap, .int .i64 s.bits, .int .i64 s.rate, .int .i64 s.vol, .int .i64 s.pan, .int .i64 s.fine, .int .i64 s.loop, .int .i64 s.start, .int .i64 s.fin, .int .i64 s.sus, .int .i64 s.sstart, .int .i64 s.sfin] 24)).alloc (by simp) (.cells #[.string { data := #[] }, .slice none 0 0, .int .i64 0, .int .i64 0, .int .i64 0, .int .i64 0, .int .i64 0, .int .i64 0, .int .i64 0, .int .i64 0, .int .i64 0, .int .i64 0, .int .i64 0] 24))) hv)
  have HT0 := Lib.hid (two_new w s (some ad) cap)
  have HB0 := Lib.hid (((Below.refl w.heap.size w).alloc (Nat.le_refl _) (.cells #[.string s.name, .slice (some ad) s.dat.length cap, .int .i64 s.bits, .int .i64 s.rate, .int .i64 s.vol, .int .i64 s.pan, .int .i64 s.fine, .int .i64 s.loop, .int .i64 s.start, .int .i64 s.fin, .int .i64 s.sus, .int .i64 s.sstart, .int .i64 s.sfin] 24)).alloc (by simp) (.cells #[.string { data := #[] }, .slice none 0 0, .int .i64 0, .int .i64 0, .int .i64 0, .int .i64 0, .int .i64 0, .int .i64 0, .int .i64 0, .int .i64 0, .int .i64 0, .int .i64 0, .int .i64 0] 24))
  have hl : (s.dat.length : Int) ≤ 4096 := vld_len hv
  have hbnd := vld_bnd hv
  obtain ⟨⟨a1, a2⟩, ⟨b1, b2⟩, ⟨d1, d2⟩, ⟨e1, e2⟩, _, _⟩ := hbnd
  have HLN := Lib.hid (show ((s.dat.drop F).take m).length = m by rw [List.length_take, List.length_drop]; omega)
  have HK1 := Lib.hid (fun w' => r_kept s.loop s.start s.fin (F : Int) ((F : Int) + m) w' a1 a2 b1 b2 (by omega) (by omega))
  have HK2 := Lib.hid (fun w' => r_kept s.sus s.sstart s.sfin (F : Int) ((F : Int) + m) w' d1 d2 e1 e2 (by omega) (by omega))
  have HD0 := Lib.hid hd
  obtain ⟨i0, hinf, hz0, hz1, hz2⟩ := info_parts Try.infoInt
  clear hm hd hv
  unfold SV at HVd
  unfold SV
  go_enter Try.func29, Try.ntmps29
  go_wp2_with (first | (go_at_call 14; ((with_reducible refine HVd.out.mono ?_); rintro z w1 ⟨rfl, hb1⟩; have HB1 := Lib.hid (stepB HB0.out hb1); have HT1 := Lib.hid (HT0.out.kept hb1 (by simp)); have hz1' : w.heap.size + 2 ≤ w1.heap.size := (by have := hb1.size; simp at this; omega); obtain ⟨⟨x0, x1, x2, x3, x4, x5, x6, x7, x8, x9, x10, x11, x12⟩, ⟨z0, z1, z2, z3, z4, z5, z6, z7, z8, z9, z10, z11, z12⟩, fz1, fz2⟩ := HT1.out; have HTe := Lib.hid (show Two ((w1.alloc (.cells #[.string s.name, .slice (some ad) s.dat.length cap, .int .i64 s.bits, .int .i64 s.rate, .int .i64 s.vol, .int .i64 s.pan, .int .i64 s.fine, .int .i64 s.loop, .int .i64 s.start, .int .i64 s.fin, .int .i64 s.sus, .int .i64 s.sstart, .int .i64 s.sfin] 24)).alloc (.cells #[] 3)) w.heap.size s (some ad) cap from (HT1.out.kept (B := w1.heap.size) ((Below.refl w1.heap.size w1).alloc (Nat.le_refl _) (.cells #[.string s.name, .slice (some ad) s.dat.length cap, .int .i64 s.bits, .int .i64 s.rate, .int .i64 s.vol, .int .i64 s.pan, .int .i64 s.fine, .int .i64 s.loop, .int .i64 s.start, .int .i64 s.fin, .int .i64 s.sus, .int .i64 s.sstart, .int .i64 s.sfin] 24)) (by omega)).kept (B := w1.heap.size + 1) ((Below.refl _ _).alloc (by simp) _) (by omega)); obtain ⟨⟨e0, e1', e2', e3, e4, e5, e6, e7, e8, e9, e10, e11, e12⟩, _, _, _⟩ := HTe.out)) | (at_builtin; have HOE := Lib.hid (show ((w1.alloc (.cells #[.string s.name, .slice (some ad) s.dat.length cap, .int .i64 s.bits, .int .i64 s.rate, .int .i64 s.vol, .int .i64 s.pan, .int .i64 s.fine, .int .i64 s.loop, .int .i64 s.start, .int .i64 s.fin, .int .i64 s.sus, .int .i64 s.sstart, .int .i64 s.sfin] 24)).alloc (.cells #[] 3)).ownsRow (w1.heap.size + 1) 3 1 (.slice (some ⟨w1.heap.size + 1, 0, none⟩) 0 0) 0 [] by (have := own_empty (w1.alloc (.cells #[.string s.name, .slice (some ad) s.dat.length cap, .int .i64 s.bits, .int .i64 s.rate, .int .i64 s.vol, .int .i64 s.pan, .int .i64 s.fine, .int .i64 s.loop, .int .i64 s.start, .int .i64 s.fin, .int .i64 s.sus, .int .i64 s.sstart, .int .i64 s.sfin] 24)); simpa using this)); have HBE := Lib.hid (show Below w.heap.size w ((w1.alloc (.cells #[.string s.name, .slice (some ad) s.dat.length cap, .int .i64 s.bits, .int .i64 s.rate, .int .i64 s.vol, .int .i64 s.pan, .int .i64 s.fine, .int .i64 s.loop, .int .i64 s.start, .int .i64 s.fin, .int .i64 s.sus, .int .i64 s.sstart, .int .i64 s.sfin] 24)).alloc (.cells #[] 3)) from stepB (stepB HB1.out (below_box w1 (.cells #[.string s.name, .slice (some ad) s.dat.length cap, .int .i64 s.bits, .int .i64 s.rate, .int .i64 s.vol, .int .i64 s.pan, .int .i64 s.fine, .int .i64 s.loop, .int .i64 s.start, .int .i64 s.fin, .int .i64 s.sus, .int .i64 s.sstart, .int .i64 s.sfin] 24))) (below_box _ _)); refine wpList_append_own _ rfl (.tmp 31) (.tmp 36) 22 rfl (w1.heap.size + 1) 3 i0 (.int .i64 0) 1 8 Try.underlying22 hinf hz0 hz1 hz2 rfl (by decide) (.slice (some ⟨w1.heap.size + 1, 0, none⟩) 0 0) 0 [] rfl HOE.out (ad.add F) (F + m - F) (cap - F) (((s.dat.drop F).take m).map (Value.int .i64)) rfl (by have := HLN.out; rw [List.length_map, this]; omega) (fun j u hu => by (obtain ⟨ad', e, h⟩ := dat_src (dat_sub (HD0.out.below HBE.out) F m cap hFm hne) (by have := (List.getElem?_eq_some_iff.1 hu).1; omega); cases e; exact h j u hu)) (fun u hu => by (obtain ⟨z, _, rfl⟩ := List.mem_map.1 hu; rfl)) (by unfold maxLen; omega) (by omega) (by simp) ?_; intro v' w3 hown' hgrow hnil; have hb3 := grown_base (B := w1.heap.size + 1) hgrow (fun k hk => by (simp [Value.ownBlock] at hk; omega)) (by simp); clear hgrow; rw [show 0 + (F + m - F) = m by omega] at hown'; obtain ⟨g, c, hv'⟩ := own_some hown' (fun e => by (have := (hnil.1 e).1; simp at this)); subst hv'; have HO3 := Lib.hid hown'; clear hown' hnil; have HT3 := Lib.hid ((HT1.out.kept (B := w1.heap.size) ((Below.refl w1.heap.size w1).alloc (Nat.le_refl _) (.cells #[.string s.name, .slice (some ad) s.dat.length cap, .int .i64 s.bits, .int .i64 s.rate, .int .i64 s.vol, .int .i64 s.pan, .int .i64 s.fine, .int .i64 s.loop, .int .i64 s.start, .int .i64 s.fin, .int .i64 s.sus, .int .i64 s.sstart, .int .i64 s.sfin] 24)) (by omega)).kept (B := w1.heap.size + 1) (((Below.refl _ _).alloc (by simp) _).trans hb3) (by omega)); have HX3 := Lib.hid ((bf_new' w1 s (some ad) cap).belowB (B := w1.heap.size + 1) (((Below.refl _ _).alloc (by simp) _).trans hb3) (by omega)); have HB3 := Lib.hid (HBE.out.trans (hb3.mono (by omega))); obtain ⟨⟨x0, x1, x2, x3, x4, x5, x6, x7, x8, x9, x10, x11, x12⟩, ⟨z0, z1, z2, z3, z4, z5, z6, z7, z8, z9, z10, z11, z12⟩, fz1, fz2⟩ := HT3.out; obtain ⟨⟨y0, y1, y2, y3, y4, y5, y6, y7, y8, y9, y10, y11, y12⟩, fy⟩ := HX3.out) | (go_at_call 60; ((with_reducible refine (HK1.out _).mono ?_); rintro z w4 ⟨rfl, rfl⟩)) | (go_at_call 60; ((with_reducible refine (HK2.out _).mono ?_); rintro z w4 ⟨rfl, rfl⟩)))
  have hg : w1.heap.size + 1 ≤ g := (World.ownsRow.lt HO3.out g rfl).1
  have HDn := Lib.hid (show DatAt w3 (some ⟨g, 0, none⟩) ((s.dat.drop F).take m) by
    have h := HO3.out
    refine OwnC.dat (B := w1.heap.size + 1) (c := c) ?_
    unfold OwnC
    rw [HLN.out]
    simpa using h)
  have HX := Lib.hid (show Sm.crp s (F : Int) ((F : Int) + m) = Sm.pcr (Sm.wth s ((s.dat.drop F).take m)) (F : Int) ((F : Int) + m) by
    unfold Sm.crp
    rw [show (((F : Int) + m) - (F : Int)).toNat = m by omega, Int.toNat_natCast])
  have hln : (Sm.pcr (Sm.wth s ((s.dat.drop F).take m)) (F : Int) ((F : Int) + m)).dat.length = m := HLN.out
  rw [HX.out]
  refine bodyPost_ret (v := .tuple #[SV (Sm.pcr (Sm.wth s ((s.dat.drop F).take m)) (F : Int) ((F : Int) + m)) (some ⟨g, 0, none⟩) c, .int .i64 0]) ?_ rfl ⟨⟨g, c, rfl, ?_, by omega⟩, ?_⟩
  · simp only [SV, hln]
    simp [results, Try.results29, go_sem, Sm.pcr, Sm.wth, z0, z1, z2, z3, z4, z5, z6, z7, z8, z9, z10, z11, z12]
  · iterate 20 (refine dat_store ?_ (by omega) _ _)
    exact HDn.out
  · iterate 20 (refine Below.setCell ?_ (by first | (simp; done) | (simp; omega)) _)
    exact HB3.out
set_option maxHeartbeats 1600000 in
theorem r_crop_eq (s : Sm.Smp) (ad : Addr) (F : Nat) (w : World) (hm : s.name.size ≤ maxLen) (hd : DatAt w (some ad) s.dat) (hv : Sm.vld s = true) (hcap : s.dat.length ≤ F) (hFm : F ≤ s.dat.length) :
    Calls Try.prog 29 #[SV s (some ad) F, .int .i64 (F : Int), .int .i64 (F : Int)] w fun x w' => RetR (Sm.crp s (F : Int) (F : Int)) w.heap.size x w' ∧ Below w.heap.size w w' := by
  have HVd := Lib.hid (rvalid_v s (some ad) F ((w.alloc (.cells #[.string s.name, .slice (some ad) s.dat.length F, .int .i64 s.bits, .int .i64 s.rate, .int .i64 s.vol, .int .i64 s.pan, .int .i64 s.fine, .int .i64 s.loop, .int .i64 s.start, .int .i64 s.fin, .int .i64 s.sus, .int .i64 s.sstart, .int .i64 s.sfin] 24)).alloc (.cells #[.string { data := #[] }, .slice none 0 0, .int .i64 0, .int .i64 0, .int .i64 0, .int .i64 0, .int .i64 0, .int .i64 0, .int .i64 0, .int .i64 0, .int .i64 0, .int .i64 0, .int .i64 0] 24)) hm (hd.below (((Below.refl w.heap.size w).alloc (Nat.le_refl _) (.cells #[.string s.name, .slice (some ad) s.dat.length F, .int .i64 s.bits, .int .i64 s.rate, .int .i64 s.vol, .int .i64 s.pan, .int .i64 s.fine, .int .i64 s.loop, .int .i64 s.start, .int .i64 s.fin, .int .i64 s.sus, .int .i64 s.sstart, .int .i64 s.sfin] 24)).alloc (by simp) (.cells #[.string { data := #[] }, .slice none 0 0, .int .i64 0, .int .i64 0, .int .i64 0, .int .i64 0, .int .i64 0, .int .i64 0, .int .i64 0, .int .i64 0, .int .i64 0, .int .i64 0, .int .i64 0] 24))) hv)
  have HT0 := Lib.hid (two_new w s (some ad) F)
  have HB0 := Lib.hid (((Below.refl w.heap.size w).alloc (Nat.le_refl _) (.cells #[.string s.name, .slice (some ad) s.dat.length F, .int .i64 s.bits, .int .i64 s.rate, .int .i64 s.vol, .int .i64 s.pan, .int .i64 s.fine, .int .i64 s.loop, .int .i64 s.start, .int .i64 s.fin, .int .i64 s.sus, .int .i64 s.sstart, .int .i64 s.sfin] 24)).alloc (by simp) (.cells #[.string { data := #[] }, .slice none 0 0, .int .i64 0, .int .i64 0, .int .i64 0, .int .i64 0, .int .i64 0, .int .i64 0, .int .i64 0, .int .i64 0, .int .i64 0, .int .i64 0, .int .i64 0] 24))
  have hl : (s.dat.length : Int) ≤ 4096 := vld_len hv
  have hbnd := vld_bnd hv
  obtain ⟨⟨a1, a2⟩, ⟨b1, b2⟩, ⟨d1, d2⟩, ⟨e1, e2⟩, _, _⟩ := hbnd
  have HLN := Lib.hid (show ((s.dat.drop F).take 0).length = 0 by rw [List.length_take, List.length_drop]; omega)
  have HK1 := Lib.hid (fun w' => r_kept s.loop s.start s.fin (F : Int) (F : Int) w' a1 a2 b1 b2 (by omega) (by omega))
  have HK2 := Lib.hid (fun w' => r_kept s.sus s.sstart s.sfin (F : Int) (F : Int) w' d1 d2 e1 e2 (by omega) (by omega))
  have HD0 := Lib.hid hd
  obtain ⟨i0, hinf, hz0, hz1, hz2⟩ := info_parts Try.infoInt
  clear hm hd hv
  unfold SV at HVd
  unfold SV
  go_enter Try.func29, Try.ntmps29
  go_wp2_with (first | (go_at_call 14; ((with_reducible refine HVd.out.mono ?_); rintro z w1 ⟨rfl, hb1⟩; have HB1 := Lib.hid (stepB HB0.out hb1); have HT1 := Lib.hid (HT0.out.kept hb1 (by simp)); have hz1' : w.heap.size + 2 ≤ w1.heap.size := (by have := hb1.size; simp at this; omega); obtain ⟨⟨x0, x1, x2, x3, x4, x5, x6, x7, x8, x9, x10, x11, x12⟩, ⟨z0, z1, z2, z3, z4, z5, z6, z7, z8, z9, z10, z11, z12⟩, fz1, fz2⟩ := HT1.out; have HTe := Lib.hid (show Two ((w1.alloc (.cells #[.string s.name, .slice (some ad) s.dat.length F, .int .i64 s.bits, .int .i64 s.rate, .int .i64 s.vol, .int .i64 s.pan, .int .i64 s.fine, .int .i64 s.loop, .int .i64 s.start, .int .i64 s.fin, .int .i64 s.sus, .int .i64 s.sstart, .int .i64 s.sfin] 24)).alloc (.cells #[] 3)) w.heap.size s (some ad) F from (HT1.out.kept (B := w1.heap.size) ((Below.refl w1.heap.size w1).alloc (Nat.le_refl _) (.cells #[.string s.name, .slice (some ad) s.dat.length F, .int .i64 s.bits, .int .i64 s.rate, .int .i64 s.vol, .int .i64 s.pan, .int .i64 s.fine, .int .i64 s.loop, .int .i64 s.start, .int .i64 s.fin, .int .i64 s.sus, .int .i64 s.sstart, .int .i64 s.sfin] 24)) (by omega)).kept (B := w1.heap.size + 1) ((Below.refl _ _).alloc (by simp) _) (by omega)); obtain ⟨⟨e0, e1', e2', e3, e4, e5, e6, e7, e8, e9, e10, e11, e12⟩, _, _, _⟩ := HTe.out)) | (at_builtin; have HOE := Lib.hid (show ((w1.alloc (.cells #[.string s.name, .slice (some ad) s.dat.length F, .int .i64 s.bits, .int .i64 s.rate, .int .i64 s.vol, .int .i64 s.pan, .int .i64 s.fine, .int .i64 s.loop, .int .i64 s.start, .int .i64 s.fin, .int .i64 s.sus, .int .i64 s.sstart, .int .i64 s.sfin] 24)).alloc (.cells #[] 3)).ownsRow (w1.heap.size + 1) 3 1 (.slice (some ⟨w1.heap.size + 1, 0, none⟩) 0 0) 0 [] by (have := own_empty (w1.alloc (.cells #[.string s.name, .slice (some ad) s.dat.length F, .int .i64 s.bits, .int .i64 s.rate, .int .i64 s.vol, .int .i64 s.pan, .int .i64 s.fine, .int .i64 s.loop, .int .i64 s.start, .int .i64 s.fin, .int .i64 s.sus, .int .i64 s.sstart, .int .i64 s.sfin] 24)); simpa using this)); have HBE := Lib.hid (show Below w.heap.size w ((w1.alloc (.cells #[.string s.name, .slice (some ad) s.dat.length F, .int .i64 s.bits, .int .i64 s.rate, .int .i64 s.vol, .int .i64 s.pan, .int .i64 s.fine, .int .i64 s.loop, .int .i64 s.start, .int .i64 s.fin, .int .i64 s.sus, .int .i64 s.sstart, .int .i64 s.sfin] 24)).alloc (.cells #[] 3)) from stepB (stepB HB1.out (below_box w1 (.cells #[.string s.name, .slice (some ad) s.dat.length F, .int .i64 s.bits, .int .i64 s.rate, .int .i64 s.vol, .int .i64 s.pan, .int .i64 s.fine, .int .i64 s.loop, .int .i64 s.start, .int .i64 s.fin, .int .i64 s.sus, .int .i64 s.sstart, .int .i64 s.sfin] 24))) (below_box _ _)); refine wpList_append_own _ rfl (.tmp 31) (.tmp 36) 22 rfl (w1.heap.size + 1) 3 i0 (.int .i64 0) 1 8 Try.underlying22 hinf hz0 hz1 hz2 rfl (by decide) (.slice (some ⟨w1.heap.size + 1, 0, none⟩) 0 0) 0 [] rfl HOE.out ad 0 0 (((s.dat.drop F).take 0).map (Value.int .i64)) rfl (by simp) (fun j u hu => by simp at hu) (fun u hu => by (obtain ⟨z, _, rfl⟩ := List.mem_map.1 hu; rfl)) (by unfold maxLen; omega) (by omega) (by simp) ?_; intro v' w3 hown' hgrow hnil; have hb3 := grown_base (B := w1.heap.size + 1) hgrow (fun k hk => by (simp [Value.ownBlock] at hk; omega)) (by simp); clear hgrow; rw [show 0 + 0 = 0 by omega] at hown'; obtain ⟨g, c, hv'⟩ := own_some hown' (fun e => by (have := (hnil.1 e).1; simp at this)); subst hv'; have HO3 := Lib.hid hown'; clear hown' hnil; have HT3 := Lib.hid ((HT1.out.kept (B := w1.heap.size) ((Below.refl w1.heap.size w1).alloc (Nat.le_refl _) (.cells #[.string s.name, .slice (some ad) s.dat.length F, .int .i64 s.bits, .int .i64 s.rate, .int .i64 s.vol, .int .i64 s.pan, .int .i64 s.fine, .int .i64 s.loop, .int .i64 s.start, .int .i64 s.fin, .int .i64 s.sus, .int .i64 s.sstart, .int .i64 s.sfin] 24)) (by omega)).kept (B := w1.heap.size + 1) (((Below.refl _ _).alloc (by simp) _).trans hb3) (by omega)); have HX3 := Lib.hid ((bf_new' w1 s (some ad) F).belowB (B := w1.heap.size + 1) (((Below.refl _ _).alloc (by simp) _).trans hb3) (by omega)); have HB3 := Lib.hid (HBE.out.trans (hb3.mono (by omega))); obtain ⟨⟨x0, x1, x2, x3, x4, x5, x6, x7, x8, x9, x10, x11, x12⟩, ⟨z0, z1, z2, z3, z4, z5, z6, z7, z8, z9, z10, z11, z12⟩, fz1, fz2⟩ := HT3.out; obtain ⟨⟨y0, y1, y2, y3, y4, y5, y6, y7, y8, y9, y10, y11, y12⟩, fy⟩ := HX3.out) | (go_at_call 60; ((with_reducible refine (HK1.out _).mono ?_); rintro z w4 ⟨rfl, rfl⟩)) | (go_at_call 60; ((with_reducible refine (HK2.out _).mono ?_); rintro z w4 ⟨rfl, rfl⟩)))
  have hg : w1.heap.size + 1 ≤ g := (World.ownsRow.lt HO3.out g rfl).1
  have HDn := Lib.hid (show DatAt w3 (some ⟨g, 0, none⟩) ((s.dat.drop F).take 0) by
    have h := HO3.out
    refine OwnC.dat (B := w1.heap.size + 1) (c := c) ?_
    unfold OwnC
    rw [HLN.out]
    simpa using h)
  have HX := Lib.hid (show Sm.crp s (F : Int) (F : Int) = Sm.pcr (Sm.wth s ((s.dat.drop F).take 0)) (F : Int) (F : Int) by
    unfold Sm.crp
    rw [show ((F : Int) - (F : Int)).toNat = 0 by omega, Int.toNat_natCast])
  have hln : (Sm.pcr (Sm.wth s ((s.dat.drop F).take 0)) (F : Int) (F : Int)).dat.length = 0 := HLN.out
  rw [HX.out]
  refine bodyPost_ret (v := .tuple #[SV (Sm.pcr (Sm.wth s ((s.dat.drop F).take 0)) (F : Int) (F : Int)) (some ⟨g, 0, none⟩) c, .int .i64 0]) ?_ rfl ⟨⟨g, c, rfl, ?_, by omega⟩, ?_⟩
  · simp only [SV, hln]
    simp [results, Try.results29, go_sem, Sm.pcr, Sm.wth, z0, z1, z2, z3, z4, z5, z6, z7, z8, z9, z10, z11, z12]
  · iterate 20 (refine dat_store ?_ (by omega) _ _)
    exact HDn.out
  · iterate 20 (refine Below.setCell ?_ (by first | (simp; done) | (simp; omega)) _)
    exact HB3.out
set_option maxHeartbeats 1600000 in
theorem r_crop_none (s : Sm.Smp)  (w : World) (hm : s.name.size ≤ maxLen) (hd : DatAt w none s.dat) (hv : Sm.vld s = true)  :
    Calls Try.prog 29 #[SV s none 0, .int .i64 0, .int .i64 0] w fun x w' => RetR (Sm.crp s 0 0) w.heap.size x w' ∧ Below w.heap.size w w' := by
  have HVd := Lib.hid (rvalid_v s none 0 ((w.alloc (.cells #[.string s.name, .slice none s.dat.length 0, .int .i64 s.bits, .int .i64 s.rate, .int .i64 s.vol, .int .i64 s.pan, .int .i64 s.fine, .int .i64 s.loop, .int .i64 s.start, .int .i64 s.fin, .int .i64 s.sus, .int .i64 s.sstart, .int .i64 s.sfin] 24)).alloc (.cells #[.string { data := #[] }, .slice none 0 0, .int .i64 0, .int .i64 0, .int .i64 0, .int .i64 0, .int .i64 0, .int .i64 0, .int .i64 0, .int .i64 0, .int .i64 0, .int .i64 0, .int .i64 0] 24)) hm (hd.below (((Below.refl w.heap.size w).alloc (Nat.le_refl _) (.cells #[.string s.name, .slice none s.dat.length 0, .int .i64 s.bits, .int .i64 s.rate, .int .i64 s.vol, .int .i64 s.pan, .int .i64 s.fine, .int .i64 s.loop, .int .i64 s.start, .int .i64 s.fin, .int .i64 s.sus, .int .i64 s.sstart, .int .i64 s.sfin] 24)).alloc (by simp) (.cells #[.string { data := #[] }, .slice none 0 0, .int .i64 0, .int .i64 0, .int .i64 0, .int .i64 0, .int .i64 0, .int .i64 0, .int .i64 0, .int .i64 0, .int .i64 0, .int .i64 0, .int .i64 0] 24))) hv)
  have HT0 := Lib.hid (two_new w s none 0)
  have HB0 := Lib.hid (((Below.refl w.heap.size w).alloc (Nat.le_refl _) (.cells #[.string s.name, .slice none s.dat.length 0, .int .i64 s.bits, .int .i64 s.rate, .int .i64 s.vol, .int .i64 s.pan, .int .i64 s.fine, .int .i64 s.loop, .int .i64 s.start, .int .i64 s.fin, .int .i64 s.sus, .int .i64 s.sstart, .int .i64 s.sfin] 24)).alloc (by simp) (.cells #[.string { data := #[] }, .slice none 0 0, .int .i64 0, .int .i64 0, .int .i64 0, .int .i64 0, .int .i64 0, .int .i64 0, .int .i64 0, .int .i64 0, .int .i64 0, .int .i64 0, .int .i64 0] 24))
  have hl : (s.dat.length : Int) ≤ 4096 := vld_len hv
  have hbnd := vld_bnd hv
  obtain ⟨⟨a1, a2⟩, ⟨b1, b2⟩, ⟨d1, d2⟩, ⟨e1, e2⟩, _, _⟩ := hbnd
  have HLN := Lib.hid (show ((s.dat.drop 0).take 0).length = 0 by rw [List.length_take, List.length_drop]; omega)
  have HK1 := Lib.hid (fun w' => r_kept s.loop s.start s.fin 0 0 w' a1 a2 b1 b2 (by omega) (by omega))
  have HK2 := Lib.hid (fun w' => r_kept s.sus s.sstart s.sfin 0 0 w' d1 d2 e1 e2 (by omega) (by omega))
  have HD0 := Lib.hid hd
  obtain ⟨i0, hinf, hz0, hz1, hz2⟩ := info_parts Try.infoInt
  clear hm hd hv
  unfold SV at HVd
  unfold SV
  go_enter Try.func29, Try.ntmps29
  go_wp2_with (first | (go_at_call 14; ((with_reducible refine HVd.out.mono ?_); rintro z w1 ⟨rfl, hb1⟩; have HB1 := Lib.hid (stepB HB0.out hb1); have HT1 := Lib.hid (HT0.out.kept hb1 (by simp)); have hz1' : w.heap.size + 2 ≤ w1.heap.size := (by have := hb1.size; simp at this; omega); obtain ⟨⟨x0, x1, x2, x3, x4, x5, x6, x7, x8, x9, x10, x11, x12⟩, ⟨z0, z1, z2, z3, z4, z5, z6, z7, z8, z9, z10, z11, z12⟩, fz1, fz2⟩ := HT1.out; have HTe := Lib.hid (show ∀ X, Two ((w1.alloc X).alloc (.cells #[] 3)) w.heap.size s none 0 from fun X => (HT1.out.kept (B := w1.heap.size) ((Below.refl w1.heap.size w1).alloc (Nat.le_refl _) X) (by omega)).kept (B := w1.heap.size + 1) ((Below.refl _ _).alloc (by simp) _) (by omega)); have q0 := fun X => (HTe.out X).1.1; have q1 := fun X => (HTe.out X).1.2.1; have q2 := fun X => (HTe.out X).1.2.2.1; have q3 := fun X => (HTe.out X).1.2.2.2.1; have q4 := fun X => (HTe.out X).1.2.2.2.2.1; have q5 := fun X => (HTe.out X).1.2.2.2.2.2.1; have q6 := fun X => (HTe.out X).1.2.2.2.2.2.2.1; have q7 := fun X => (HTe.out X).1.2.2.2.2.2.2.2.1; have q8 := fun X => (HTe.out X).1.2.2.2.2.2.2.2.2.1; have q9 := fun X => (HTe.out X).1.2.2.2.2.2.2.2.2.2.1; have q10 := fun X => (HTe.out X).1.2.2.2.2.2.2.2.2.2.2.1; have q11 := fun X => (HTe.out X).1.2.2.2.2.2.2.2.2.2.2.2.1; have q12 := fun X => (HTe.out X).1.2.2.2.2.2.2.2.2.2.2.2.2; have v0 := fun X => (HTe.out X).2.1.1; have v1 := fun X => (HTe.out X).2.1.2.1; have v2 := fun X => (HTe.out X).2.1.2.2.1; have v3 := fun X => (HTe.out X).2.1.2.2.2.1; have v4 := fun X => (HTe.out X).2.1.2.2.2.2.1; have v5 := fun X => (HTe.out X).2.1.2.2.2.2.2.1; have v6 := fun X => (HTe.out X).2.1.2.2.2.2.2.2.1; have v7 := fun X => (HTe.out X).2.1.2.2.2.2.2.2.2.1; have v8 := fun X => (HTe.out X).2.1.2.2.2.2.2.2.2.2.1; have v9 := fun X => (HTe.out X).2.1.2.2.2.2.2.2.2.2.2.1; have v10 := fun X => (HTe.out X).2.1.2.2.2.2.2.2.2.2.2.2.1; have v11 := fun X => (HTe.out X).2.1.2.2.2.2.2.2.2.2.2.2.2.1; have v12 := fun X => (HTe.out X).2.1.2.2.2.2.2.2.2.2.2.2.2.2; have vf1 := fun X => (HTe.out X).2.2.1; have vf2 := fun X => (HTe.out X).2.2.2)) | (at_builtin; have HOE := Lib.hid (show ((w1.alloc (.cells #[.string s.name, .slice none s.dat.length 0, .int .i64 s.bits, .int .i64 s.rate, .int .i64 s.vol, .int .i64 s.pan, .int .i64 s.fine, .int .i64 s.loop, .int .i64 s.start, .int .i64 s.fin, .int .i64 s.sus, .int .i64 s.sstart, .int .i64 s.sfin] 24)).alloc (.cells #[] 3)).ownsRow (w1.heap.size + 1) 3 1 (.slice (some ⟨w1.heap.size + 1, 0, none⟩) 0 0) 0 [] by (have := own_empty (w1.alloc (.cells #[.string s.name, .slice none s.dat.length 0, .int .i64 s.bits, .int .i64 s.rate, .int .i64 s.vol, .int .i64 s.pan, .int .i64 s.fine, .int .i64 s.loop, .int .i64 s.start, .int .i64 s.fin, .int .i64 s.sus, .int .i64 s.sstart, .int .i64 s.sfin] 24)); simpa using this)); have HBE := Lib.hid (show Below w.heap.size w ((w1.alloc (.cells #[.string s.name, .slice none s.dat.length 0, .int .i64 s.bits, .int .i64 s.rate, .int .i64 s.vol, .int .i64 s.pan, .int .i64 s.fine, .int .i64 s.loop, .int .i64 s.start, .int .i64 s.fin, .int .i64 s.sus, .int .i64 s.sstart, .int .i64 s.sfin] 24)).alloc (.cells #[] 3)) from stepB (stepB HB1.out (below_box w1 (.cells #[.string s.name, .slice none s.dat.length 0, .int .i64 s.bits, .int .i64 s.rate, .int .i64 s.vol, .int .i64 s.pan, .int .i64 s.fine, .int .i64 s.loop, .int .i64 s.start, .int .i64 s.fin, .int .i64 s.sus, .int .i64 s.sstart, .int .i64 s.sfin] 24))) (below_box _ _)); refine wpList_append_own_none rfl (.tmp 31) (.tmp 36) 22 rfl (w1.heap.size + 1) 3 i0 1 Try.underlying22 hinf (.slice (some ⟨w1.heap.size + 1, 0, none⟩) 0 0) 0 [] rfl HOE.out rfl ?_) | (go_at_call 60; ((with_reducible refine (HK1.out _).mono ?_); rintro z w4 ⟨rfl, rfl⟩)) | (go_at_call 60; ((with_reducible refine (HK2.out _).mono ?_); rintro z w4 ⟨rfl, rfl⟩)))
  have HX := Lib.hid (show Sm.crp s 0 0 = Sm.pcr (Sm.wth s []) 0 0 by
    unfold Sm.crp
    simp)
  rw [HX.out]
  refine bodyPost_ret (v := .tuple #[SV (Sm.pcr (Sm.wth s []) 0 0) (some ⟨w1.heap.size + 1, 0, none⟩) 0, .int .i64 0]) ?_ rfl ⟨⟨w1.heap.size + 1, 0, rfl, .inl rfl, by omega⟩, ?_⟩
  · simp [results, Try.results29, go_sem, SV, Sm.pcr, Sm.wth, v0, v1, v2, v3, v4, v5, v6, v7, v8, v9, v10, v11, v12]
  · iterate 13 (refine Below.setCell ?_ (by first | (simp; done) | (simp; omega)) _)
    exact stepB (stepB HB1.out (below_box w1 _)) (below_box _ _)
/-- The contract of the reference's Crop of a valid sample and a range within it. -/
theorem r_crop_ok (s : Sm.Smp) (p : Option Addr) (cap : Nat) (f t : Int) (w : World) (hm : s.name.size ≤ maxLen) (hd : DatAt w p s.dat) (hv : Sm.vld s = true) (hcap : s.dat.length ≤ cap) (hnil : p = none → cap = 0) (h0 : 0 ≤ f) (h1 : f ≤ t) (h2 : t ≤ s.dat.length) :
    Calls Try.prog 29 #[SV s p cap, .int .i64 f, .int .i64 t] w fun x w' => RetR (Sm.crp s f t) w.heap.size x w' ∧ Below w.heap.size w w' := by
  obtain ⟨F, rfl⟩ : ∃ F : Nat, f = F := ⟨f.toNat, by omega⟩
  obtain ⟨m, rfl⟩ : ∃ m : Nat, t = (F : Int) + m := ⟨(t - F).toNat, by omega⟩
  cases p with
  | none =>
    have hc := hnil rfl
    subst hc
    obtain rfl : F = 0 := by omega
    obtain rfl : m = 0 := by omega
    exact r_crop_none s w hm hd hv
  | some ad =>
    by_cases hne : cap = F
    · obtain rfl : m = 0 := by omega
      subst hne
      rw [show (cap : Int) + ((0 : Nat) : Int) = cap by omega]
      exact r_crop_eq s ad cap w hm hd hv hcap (by omega)
    · exact r_crop_ne s ad cap F m w hm hd hv hcap (by omega) hne
end Go.Proofs.Ytmaldhjcdkidmaa

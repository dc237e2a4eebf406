/-
  The contract of the reference's Convert.
-/
import Derived.Test.YtmaldhjcdkidmaaRefAmp
import Derived.Test.YtmaldhjcdkidmaaRefCur
namespace Go.Proofs.Ytmaldhjcdkidmaa
open Go.RowKit

set_option maxHeartbeats 1600000 in
theorem r_convert_bad (s : Sm.Smp) (p : Option Addr) (cap : Nat) (b : Int) (w : World) (hm : s.name.size ≤ maxLen) (hd : DatAt w p s.dat) (hv : Sm.vld s = false)  :
    Calls Try.prog 33 #[SV s p cap, .int .i64 b] w fun x w' => x = .returned (.tuple #[SV zer none 0, .int .i64 1]) ∧ Below w.heap.size w w' := by
  have HVd := Lib.hid (rvalid_v s p cap ((w.alloc (.cells #[.string s.name, .slice p s.dat.length cap, .int .i64 s.bits, .int .i64 s.rate, .int .i64 s.vol, .int .i64 s.pan, .int .i64 s.fine, .int .i64 s.loop, .int .i64 s.start, .int .i64 s.fin, .int .i64 s.sus, .int .i64 s.sstart, .int .i64 s.sfin] 24)).alloc (.cells #[.string { data := #[] }, .slice none 0 0, .int .i64 0, .int .i64 0, .int .i64 0, .int .i64 0, .int .i64 0, .int .i64 0, .int .i64 0, .int .i64 0, .int .i64 0, .int .i64 0, .int .i64 0] 24)) hm (hd.below (((Below.refl w.heap.size w).alloc (Nat.le_refl _) (.cells #[.string s.name, .slice p s.dat.length cap, .int .i64 s.bits, .int .i64 s.rate, .int .i64 s.vol, .int .i64 s.pan, .int .i64 s.fine, .int .i64 s.loop, .int .i64 s.start, .int .i64 s.fin, .int .i64 s.sus, .int .i64 s.sstart, .int .i64 s.sfin] 24)).alloc (by simp) (.cells #[.string { data := #[] }, .slice none 0 0, .int .i64 0, .int .i64 0, .int .i64 0, .int .i64 0, .int .i64 0, .int .i64 0, .int .i64 0, .int .i64 0, .int .i64 0, .int .i64 0, .int .i64 0] 24))) hv)
  have HT0 := Lib.hid (two_new w s p cap)
  have HB0 := Lib.hid (((Below.refl w.heap.size w).alloc (Nat.le_refl _) (.cells #[.string s.name, .slice p s.dat.length cap, .int .i64 s.bits, .int .i64 s.rate, .int .i64 s.vol, .int .i64 s.pan, .int .i64 s.fine, .int .i64 s.loop, .int .i64 s.start, .int .i64 s.fin, .int .i64 s.sus, .int .i64 s.sstart, .int .i64 s.sfin] 24)).alloc (by simp) (.cells #[.string { data := #[] }, .slice none 0 0, .int .i64 0, .int .i64 0, .int .i64 0, .int .i64 0, .int .i64 0, .int .i64 0, .int .i64 0, .int .i64 0, .int .i64 0, .int .i64 0, .int .i64 0] 24))
  clear hm hd
  unfold SV at HVd
  unfold SV
  go_enter Try.func33, Try.ntmps33
  go_wp2_with (first | (go_at_call 14; ((with_reducible refine HVd.out.mono ?_); rintro z w1 ⟨rfl, hb1⟩; have HB1 := Lib.hid (stepB HB0.out hb1); have HT1 := Lib.hid (HT0.out.kept hb1 (by simp)); obtain ⟨⟨x0, x1, x2, x3, x4, x5, x6, x7, x8, x9, x10, x11, x12⟩, ⟨z0, z1, z2, z3, z4, z5, z6, z7, z8, z9, z10, z11, z12⟩, fz1, fz2⟩ := HT1.out)))
  refine bodyPost_ret (v := .tuple #[SV zer none 0, .int .i64 1]) ?_ rfl ⟨rfl, Below13 HB1.out (by omega)⟩
  simp [results, Try.results33, go_sem, SV, zer, z0, z1, z2, z3, z4, z5, z6, z7, z8, z9, z10, z11, z12] <;> rfl
set_option maxHeartbeats 1600000 in
theorem r_convert_r1 (s : Sm.Smp) (p : Option Addr) (cap : Nat) (b : Int) (w : World) (hm : s.name.size ≤ maxLen) (hd : DatAt w p s.dat) (hv : Sm.vld s = true) (h1 : (b != 8) = true) (h2 : (b != 16) = true) :
    Calls Try.prog 33 #[SV s p cap, .int .i64 b] w fun x w' => x = .returned (.tuple #[SV zer none 0, .int .i64 5]) ∧ Below w.heap.size w w' := by
  have HVd := Lib.hid (rvalid_v s p cap ((w.alloc (.cells #[.string s.name, .slice p s.dat.length cap, .int .i64 s.bits, .int .i64 s.rate, .int .i64 s.vol, .int .i64 s.pan, .int .i64 s.fine, .int .i64 s.loop, .int .i64 s.start, .int .i64 s.fin, .int .i64 s.sus, .int .i64 s.sstart, .int .i64 s.sfin] 24)).alloc (.cells #[.string { data := #[] }, .slice none 0 0, .int .i64 0, .int .i64 0, .int .i64 0, .int .i64 0, .int .i64 0, .int .i64 0, .int .i64 0, .int .i64 0, .int .i64 0, .int .i64 0, .int .i64 0] 24)) hm (hd.below (((Below.refl w.heap.size w).alloc (Nat.le_refl _) (.cells #[.string s.name, .slice p s.dat.length cap, .int .i64 s.bits, .int .i64 s.rate, .int .i64 s.vol, .int .i64 s.pan, .int .i64 s.fine, .int .i64 s.loop, .int .i64 s.start, .int .i64 s.fin, .int .i64 s.sus, .int .i64 s.sstart, .int .i64 s.sfin] 24)).alloc (by simp) (.cells #[.string { data := #[] }, .slice none 0 0, .int .i64 0, .int .i64 0, .int .i64 0, .int .i64 0, .int .i64 0, .int .i64 0, .int .i64 0, .int .i64 0, .int .i64 0, .int .i64 0, .int .i64 0] 24))) hv)
  have HT0 := Lib.hid (two_new w s p cap)
  have HB0 := Lib.hid (((Below.refl w.heap.size w).alloc (Nat.le_refl _) (.cells #[.string s.name, .slice p s.dat.length cap, .int .i64 s.bits, .int .i64 s.rate, .int .i64 s.vol, .int .i64 s.pan, .int .i64 s.fine, .int .i64 s.loop, .int .i64 s.start, .int .i64 s.fin, .int .i64 s.sus, .int .i64 s.sstart, .int .i64 s.sfin] 24)).alloc (by simp) (.cells #[.string { data := #[] }, .slice none 0 0, .int .i64 0, .int .i64 0, .int .i64 0, .int .i64 0, .int .i64 0, .int .i64 0, .int .i64 0, .int .i64 0, .int .i64 0, .int .i64 0, .int .i64 0] 24))
  clear hm hd
  unfold SV at HVd
  unfold SV
  go_enter Try.func33, Try.ntmps33
  go_wp2_with (first | (go_at_call 14; ((with_reducible refine HVd.out.mono ?_); rintro z w1 ⟨rfl, hb1⟩; have HB1 := Lib.hid (stepB HB0.out hb1); have HT1 := Lib.hid (HT0.out.kept hb1 (by simp)); obtain ⟨⟨x0, x1, x2, x3, x4, x5, x6, x7, x8, x9, x10, x11, x12⟩, ⟨z0, z1, z2, z3, z4, z5, z6, z7, z8, z9, z10, z11, z12⟩, fz1, fz2⟩ := HT1.out)))
  refine bodyPost_ret (v := .tuple #[SV zer none 0, .int .i64 5]) ?_ rfl ⟨rfl, Below13 HB1.out (by omega)⟩
  simp [results, Try.results33, go_sem, SV, zer, z0, z1, z2, z3, z4, z5, z6, z7, z8, z9, z10, z11, z12] <;> rfl
/-- What the loop keeps. -/
structure CR (w : World) (s s' : Sm.Smp) (p : Option Addr) (cap b o g c B : Nat) (f : Nat → Int) (i : Value) (wr : World) : Prop where
  out : ∃ k : Nat, k ≤ s.dat.length ∧ i = .int .i64 k ∧ Hid (Two wr b s p cap) ∧ Hid (Boxed wr o s' (some ⟨g, 0, none⟩) c) ∧ Hid (wr.ownsRow B 3 1 (.slice (some ⟨g, 0, none⟩) s.dat.length c) s.dat.length (mrow f (fun i => s.dat.getD i 0) s.dat.length k)) ∧ Hid (Below w.heap.size w wr)
theorem mrow_same (f g : Nat → Int) {n k : Nat} (h : f k = g k) : mrow f g n k = mrow f g n (k + 1) := by
  apply List.ext_getElem?
  intro i
  simp only [mrow, List.getElem?_map]
  by_cases hi : i < n
  · have e : (if i < k then f i else g i) = if i < k + 1 then f i else g i := by
      by_cases e : i = k
      · subst e; rw [if_neg (by omega), if_pos (by omega), h]
      · by_cases h1 : i < k
        · rw [if_pos h1, if_pos (by omega)]
        · rw [if_neg h1, if_neg (by omega)]
    simp only [List.getElem?_range hi, Option.map_some]
    rw [e]
  · simp [hi]
set_option maxHeartbeats 1600000 in
theorem r_convert_eq8 (s : Sm.Smp) (p : Option Addr) (cap : Nat) (b : Int) (w : World) (hm : s.name.size ≤ maxLen) (hd : DatAt w p s.dat) (hv : Sm.vld s = true) (hnil : p = none → cap = 0) (he : s.bits = b) (hbv : b = 8) :
    Calls Try.prog 33 #[SV s p cap, .int .i64 b] w fun x w' => RetR (Sm.cvt s b) w.heap.size x w' ∧ Below w.heap.size w w' := by
  have HVd := Lib.hid (rvalid_v s p cap ((w.alloc (.cells #[.string s.name, .slice p s.dat.length cap, .int .i64 s.bits, .int .i64 s.rate, .int .i64 s.vol, .int .i64 s.pan, .int .i64 s.fine, .int .i64 s.loop, .int .i64 s.start, .int .i64 s.fin, .int .i64 s.sus, .int .i64 s.sstart, .int .i64 s.sfin] 24)).alloc (.cells #[.string { data := #[] }, .slice none 0 0, .int .i64 0, .int .i64 0, .int .i64 0, .int .i64 0, .int .i64 0, .int .i64 0, .int .i64 0, .int .i64 0, .int .i64 0, .int .i64 0, .int .i64 0] 24)) hm (hd.below (((Below.refl w.heap.size w).alloc (Nat.le_refl _) (.cells #[.string s.name, .slice p s.dat.length cap, .int .i64 s.bits, .int .i64 s.rate, .int .i64 s.vol, .int .i64 s.pan, .int .i64 s.fine, .int .i64 s.loop, .int .i64 s.start, .int .i64 s.fin, .int .i64 s.sus, .int .i64 s.sstart, .int .i64 s.sfin] 24)).alloc (by simp) (.cells #[.string { data := #[] }, .slice none 0 0, .int .i64 0, .int .i64 0, .int .i64 0, .int .i64 0, .int .i64 0, .int .i64 0, .int .i64 0, .int .i64 0, .int .i64 0, .int .i64 0, .int .i64 0] 24))) hv)
  have HT0 := Lib.hid (two_new w s p cap)
  have HB0 := Lib.hid (((Below.refl w.heap.size w).alloc (Nat.le_refl _) (.cells #[.string s.name, .slice p s.dat.length cap, .int .i64 s.bits, .int .i64 s.rate, .int .i64 s.vol, .int .i64 s.pan, .int .i64 s.fine, .int .i64 s.loop, .int .i64 s.start, .int .i64 s.fin, .int .i64 s.sus, .int .i64 s.sstart, .int .i64 s.sfin] 24)).alloc (by simp) (.cells #[.string { data := #[] }, .slice none 0 0, .int .i64 0, .int .i64 0, .int .i64 0, .int .i64 0, .int .i64 0, .int .i64 0, .int .i64 0, .int .i64 0, .int .i64 0, .int .i64 0, .int .i64 0] 24))
  have hl : (s.dat.length : Int) ≤ 4096 := vld_len hv
  have HSM := Lib.hid (vld_small hv)
  have HFr := Lib.hid (fun w' hd => r_fresh s p cap w' hd hl hnil)
  have hbe : (s.bits == b) = true := by simpa using he
  have HCF := Lib.hid (show ∀ y, y = Sm.cvtF s.bits b y from fun y => by unfold Sm.cvtF; rw [if_neg (by omega), if_neg (by omega)])
  have hb8 : (b != 8) = false := by simp [hbv]
  clear he hbv
  have HD0 := Lib.hid hd
  clear hm hd hv hnil
  unfold SV at HVd HFr
  unfold RetF SV at HFr
  unfold SV
  go_enter Try.func33, Try.ntmps33
  go_wp2_with (first | (go_at_call 14; ((with_reducible refine HVd.out.mono ?_); rintro z w1 ⟨rfl, hb1⟩; have HB1 := Lib.hid (stepB HB0.out hb1); have HT1 := Lib.hid (HT0.out.kept hb1 (by simp)); obtain ⟨⟨x0, x1, x2, x3, x4, x5, x6, x7, x8, x9, x10, x11, x12⟩, ⟨z0, z1, z2, z3, z4, z5, z6, z7, z8, z9, z10, z11, z12⟩, fz1, fz2⟩ := HT1.out)) | (go_at_call 65; ((with_reducible refine (HFr.out _ (HD0.out.below HB1.out)).mono ?_); rintro z w2 ⟨⟨g, c, rfl, hown⟩, hb2⟩; have HO2 := Lib.hid hown; clear hown)))
  have hgo : g < w2.heap.size := HO2.out.lt
  have hgb : w1.heap.size ≤ g := HO2.out.ge
  have z1 : w.heap.size + 2 ≤ w1.heap.size := by have := hb1.size; simp at this; omega
  have HTW := Lib.hid ((HT1.out.kept hb2 (by omega)).kept (below_box w2 (.cells #[.string s.name, .slice (some ⟨g, 0, none⟩) s.dat.length c, .int .i64 b, .int .i64 s.rate, .int .i64 s.vol, .int .i64 s.pan, .int .i64 s.fine, .int .i64 s.loop, .int .i64 s.start, .int .i64 s.fin, .int .i64 s.sus, .int .i64 s.sstart, .int .i64 s.sfin] 24)) (by have := hb2.size; omega))
  have HXW := Lib.hid (show Boxed (w2.alloc (.cells #[.string s.name, .slice (some ⟨g, 0, none⟩) s.dat.length c, .int .i64 b, .int .i64 s.rate, .int .i64 s.vol, .int .i64 s.pan, .int .i64 s.fine, .int .i64 s.loop, .int .i64 s.start, .int .i64 s.fin, .int .i64 s.sus, .int .i64 s.sstart, .int .i64 s.sfin] 24)) w2.heap.size { s with bits := b } (some ⟨g, 0, none⟩) c from boxed_new w2 { s with bits := b } (some ⟨g, 0, none⟩) c 24)
  have HRW := Lib.hid (show (w2.alloc (.cells #[.string s.name, .slice (some ⟨g, 0, none⟩) s.dat.length c, .int .i64 b, .int .i64 s.rate, .int .i64 s.vol, .int .i64 s.pan, .int .i64 s.fine, .int .i64 s.loop, .int .i64 s.start, .int .i64 s.fin, .int .i64 s.sus, .int .i64 s.sstart, .int .i64 s.sfin] 24)).ownsRow w1.heap.size 3 1 (.slice (some ⟨g, 0, none⟩) s.dat.length c) s.dat.length (mrow (fun i => Sm.cvtF s.bits b (s.dat.getD i 0)) (fun i => s.dat.getD i 0) s.dat.length 0) by
    rw [mrow_zero (fun i => Sm.cvtF s.bits b (s.dat.getD i 0)) (fun i => s.dat.getD i 0) (l := s.dat) rfl (fun _ _ => rfl)]
    exact HO2.out.kept (below_box w2 (.cells #[.string s.name, .slice (some ⟨g, 0, none⟩) s.dat.length c, .int .i64 b, .int .i64 s.rate, .int .i64 s.vol, .int .i64 s.pan, .int .i64 s.fine, .int .i64 s.loop, .int .i64 s.start, .int .i64 s.fin, .int .i64 s.sus, .int .i64 s.sstart, .int .i64 s.sfin] 24)))
  have HBW := Lib.hid (stepB (stepB HB1.out hb2) (below_box w2 (.cells #[.string s.name, .slice (some ⟨g, 0, none⟩) s.dat.length c, .int .i64 b, .int .i64 s.rate, .int .i64 s.vol, .int .i64 s.pan, .int .i64 s.fine, .int .i64 s.loop, .int .i64 s.start, .int .i64 s.fin, .int .i64 s.sus, .int .i64 s.sstart, .int .i64 s.sfin] 24)))
  obtain ⟨W, hW⟩ : ∃ W, W = w2.alloc (.cells #[.string s.name, .slice (some ⟨g, 0, none⟩) s.dat.length c, .int .i64 b, .int .i64 s.rate, .int .i64 s.vol, .int .i64 s.pan, .int .i64 s.fine, .int .i64 s.loop, .int .i64 s.start, .int .i64 s.fin, .int .i64 s.sus, .int .i64 s.sstart, .int .i64 s.sfin] 24) := ⟨_, rfl⟩
  obtain ⟨o, hoe⟩ : ∃ o, o = w2.heap.size := ⟨_, rfl⟩
  obtain ⟨B, hBe⟩ : ∃ B, B = w1.heap.size := ⟨_, rfl⟩
  have nbg : w.heap.size ≠ g := by omega
  have nbg1 : w.heap.size + 1 ≠ g := by omega
  have nog : o ≠ g := by omega
  have hwg : w.heap.size ≤ g := by omega
  rw [← hW] at HTW HXW HRW HBW ⊢
  rw [← hoe] at HXW ⊢
  rw [← hBe] at HRW
  clear x0 x1 x2 x3 x4 x5 x6 x7 x8 x9 x10 x11 x12 z0 z1 z2 z3 z4 z5 z6 z7 z8 z9 z10 z11 z12 fz1 fz2
  clear HO2
  clear hW
  clear hoe
  clear hgo hgb z1 hBe
  clear HT1 HT0
  clear HB1 HB0
  clear HVd HFr
  go_loopw [28] (fun i wr => CR w s { s with bits := b } p cap w.heap.size o g c B (fun i => Sm.cvtF s.bits b (s.dat.getD i 0)) i wr) (fun i _ => s.dat.length - (intOf i).toNat)
  case atStart => exact ⟨⟨0, by omega, rfl, HTW.out, HXW.out, HRW.out, HBW.out⟩⟩
  case round =>
    clear HTW HXW HRW HBW
    obtain ⟨k, hk, rfl, HT, HX, HR, hbw⟩ := hrel.out
    clear hrel
    by_cases hlt : k < s.dat.length
    · obtain ⟨y, hy⟩ : ∃ y, s.dat.getD k 0 = y := ⟨_, rfl⟩
      have hq := HSM.out k hlt
      rw [hy] at hq
      obtain ⟨y0, y1, y2, y3, y4, y5, y6, y7, y8, y9, y10, y11, y12⟩ := HX.out
      obtain ⟨⟨x0, x1, x2, x3, x4, x5, x6, x7, x8, x9, x10, x11, x12⟩, ⟨z0, z1, z2, z3, z4, z5, z6, z7, z8, z9, z10, z11, z12⟩, fz1, fz2⟩ := HT.out
      clear hq
      go_wp2
      go_roundw
      case rel => exact ⟨⟨k + 1, by omega, by go_num, HT.out, HX.out, (congrArg _ (mrow_same (fun i => Sm.cvtF s.bits b (s.dat.getD i 0)) (fun i => s.dat.getD i 0) (k := k) (HCF.out (s.dat.getD k 0)).symm)).mp HR.out, hbw.out⟩⟩
      case measure => simp [intOf]; omega
    · have HE := Lib.hid (show mrow (fun i => Sm.cvtF s.bits b (s.dat.getD i 0)) (fun i => s.dat.getD i 0) s.dat.length k = (s.dat.map (Sm.cvtF s.bits b)).map (Value.int .i64) by
        rw [show k = s.dat.length by omega]
        exact mrow_full _ _ (by simp) fun i hi => by simp [List.getD_eq_getElem?_getD, hi])
      have HOd := Lib.hid (show OwnC wr B g (s.dat.map (Sm.cvtF s.bits b)) c by
        unfold OwnC
        rw [List.length_map, ← HE.out]
        exact HR.out)
      obtain ⟨y0, y1, y2, y3, y4, y5, y6, y7, y8, y9, y10, y11, y12⟩ := HX.out
      obtain ⟨⟨x0, x1, x2, x3, x4, x5, x6, x7, x8, x9, x10, x11, x12⟩, ⟨z0, z1, z2, z3, z4, z5, z6, z7, z8, z9, z10, z11, z12⟩, fz1, fz2⟩ := HT.out
      go_wp2
      refine bodyPost_ret (v := .tuple #[SV (Sm.cvt s b) (some ⟨g, 0, none⟩) c, .int .i64 0]) ?_ rfl ⟨⟨g, c, rfl, ?_, hwg⟩, Below13 hbw.out (by omega)⟩
      · simp [results, Try.results33, go_sem, SV, Sm.cvt, Sm.mpp, z0, z1, z2, z3, z4, z5, z6, z7, z8, z9, z10, z11, z12]
      · iterate 13 (refine dat_store ?_ (Ne.symm nbg1) _ _)
        exact HOd.out.dat
set_option maxHeartbeats 1600000 in
theorem r_convert_eq16 (s : Sm.Smp) (p : Option Addr) (cap : Nat) (b : Int) (w : World) (hm : s.name.size ≤ maxLen) (hd : DatAt w p s.dat) (hv : Sm.vld s = true) (hnil : p = none → cap = 0) (he : s.bits = b) (hbv : b = 16) :
    Calls Try.prog 33 #[SV s p cap, .int .i64 b] w fun x w' => RetR (Sm.cvt s b) w.heap.size x w' ∧ Below w.heap.size w w' := by
  have HVd := Lib.hid (rvalid_v s p cap ((w.alloc (.cells #[.string s.name, .slice p s.dat.length cap, .int .i64 s.bits, .int .i64 s.rate, .int .i64 s.vol, .int .i64 s.pan, .int .i64 s.fine, .int .i64 s.loop, .int .i64 s.start, .int .i64 s.fin, .int .i64 s.sus, .int .i64 s.sstart, .int .i64 s.sfin] 24)).alloc (.cells #[.string { data := #[] }, .slice none 0 0, .int .i64 0, .int .i64 0, .int .i64 0, .int .i64 0, .int .i64 0, .int .i64 0, .int .i64 0, .int .i64 0, .int .i64 0, .int .i64 0, .int .i64 0] 24)) hm (hd.below (((Below.refl w.heap.size w).alloc (Nat.le_refl _) (.cells #[.string s.name, .slice p s.dat.length cap, .int .i64 s.bits, .int .i64 s.rate, .int .i64 s.vol, .int .i64 s.pan, .int .i64 s.fine, .int .i64 s.loop, .int .i64 s.start, .int .i64 s.fin, .int .i64 s.sus, .int .i64 s.sstart, .int .i64 s.sfin] 24)).alloc (by simp) (.cells #[.string { data := #[] }, .slice none 0 0, .int .i64 0, .int .i64 0, .int .i64 0, .int .i64 0, .int .i64 0, .int .i64 0, .int .i64 0, .int .i64 0, .int .i64 0, .int .i64 0, .int .i64 0] 24))) hv)
  have HT0 := Lib.hid (two_new w s p cap)
  have HB0 := Lib.hid (((Below.refl w.heap.size w).alloc (Nat.le_refl _) (.cells #[.string s.name, .slice p s.dat.length cap, .int .i64 s.bits, .int .i64 s.rate, .int .i64 s.vol, .int .i64 s.pan, .int .i64 s.fine, .int .i64 s.loop, .int .i64 s.start, .int .i64 s.fin, .int .i64 s.sus, .int .i64 s.sstart, .int .i64 s.sfin] 24)).alloc (by simp) (.cells #[.string { data := #[] }, .slice none 0 0, .int .i64 0, .int .i64 0, .int .i64 0, .int .i64 0, .int .i64 0, .int .i64 0, .int .i64 0, .int .i64 0, .int .i64 0, .int .i64 0, .int .i64 0] 24))
  have hl : (s.dat.length : Int) ≤ 4096 := vld_len hv
  have HSM := Lib.hid (vld_small hv)
  have HFr := Lib.hid (fun w' hd => r_fresh s p cap w' hd hl hnil)
  have hbe : (s.bits == b) = true := by simpa using he
  have HCF := Lib.hid (show ∀ y, y = Sm.cvtF s.bits b y from fun y => by unfold Sm.cvtF; rw [if_neg (by omega), if_neg (by omega)])
  have hb8 : (b != 8) = true := by simp [hbv]
  have hb16 : (b != 16) = false := by simp [hbv]
  clear he hbv
  have HD0 := Lib.hid hd
  clear hm hd hv hnil
  unfold SV at HVd HFr
  unfold RetF SV at HFr
  unfold SV
  go_enter Try.func33, Try.ntmps33
  go_wp2_with (first | (go_at_call 14; ((with_reducible refine HVd.out.mono ?_); rintro z w1 ⟨rfl, hb1⟩; have HB1 := Lib.hid (stepB HB0.out hb1); have HT1 := Lib.hid (HT0.out.kept hb1 (by simp)); obtain ⟨⟨x0, x1, x2, x3, x4, x5, x6, x7, x8, x9, x10, x11, x12⟩, ⟨z0, z1, z2, z3, z4, z5, z6, z7, z8, z9, z10, z11, z12⟩, fz1, fz2⟩ := HT1.out)) | (go_at_call 65; ((with_reducible refine (HFr.out _ (HD0.out.below HB1.out)).mono ?_); rintro z w2 ⟨⟨g, c, rfl, hown⟩, hb2⟩; have HO2 := Lib.hid hown; clear hown)))
  have hgo : g < w2.heap.size := HO2.out.lt
  have hgb : w1.heap.size ≤ g := HO2.out.ge
  have z1 : w.heap.size + 2 ≤ w1.heap.size := by have := hb1.size; simp at this; omega
  have HTW := Lib.hid ((HT1.out.kept hb2 (by omega)).kept (below_box w2 (.cells #[.string s.name, .slice (some ⟨g, 0, none⟩) s.dat.length c, .int .i64 b, .int .i64 s.rate, .int .i64 s.vol, .int .i64 s.pan, .int .i64 s.fine, .int .i64 s.loop, .int .i64 s.start, .int .i64 s.fin, .int .i64 s.sus, .int .i64 s.sstart, .int .i64 s.sfin] 24)) (by have := hb2.size; omega))
  have HXW := Lib.hid (show Boxed (w2.alloc (.cells #[.string s.name, .slice (some ⟨g, 0, none⟩) s.dat.length c, .int .i64 b, .int .i64 s.rate, .int .i64 s.vol, .int .i64 s.pan, .int .i64 s.fine, .int .i64 s.loop, .int .i64 s.start, .int .i64 s.fin, .int .i64 s.sus, .int .i64 s.sstart, .int .i64 s.sfin] 24)) w2.heap.size { s with bits := b } (some ⟨g, 0, none⟩) c from boxed_new w2 { s with bits := b } (some ⟨g, 0, none⟩) c 24)
  have HRW := Lib.hid (show (w2.alloc (.cells #[.string s.name, .slice (some ⟨g, 0, none⟩) s.dat.length c, .int .i64 b, .int .i64 s.rate, .int .i64 s.vol, .int .i64 s.pan, .int .i64 s.fine, .int .i64 s.loop, .int .i64 s.start, .int .i64 s.fin, .int .i64 s.sus, .int .i64 s.sstart, .int .i64 s.sfin] 24)).ownsRow w1.heap.size 3 1 (.slice (some ⟨g, 0, none⟩) s.dat.length c) s.dat.length (mrow (fun i => Sm.cvtF s.bits b (s.dat.getD i 0)) (fun i => s.dat.getD i 0) s.dat.length 0) by
    rw [mrow_zero (fun i => Sm.cvtF s.bits b (s.dat.getD i 0)) (fun i => s.dat.getD i 0) (l := s.dat) rfl (fun _ _ => rfl)]
    exact HO2.out.kept (below_box w2 (.cells #[.string s.name, .slice (some ⟨g, 0, none⟩) s.dat.length c, .int .i64 b, .int .i64 s.rate, .int .i64 s.vol, .int .i64 s.pan, .int .i64 s.fine, .int .i64 s.loop, .int .i64 s.start, .int .i64 s.fin, .int .i64 s.sus, .int .i64 s.sstart, .int .i64 s.sfin] 24)))
  have HBW := Lib.hid (stepB (stepB HB1.out hb2) (below_box w2 (.cells #[.string s.name, .slice (some ⟨g, 0, none⟩) s.dat.length c, .int .i64 b, .int .i64 s.rate, .int .i64 s.vol, .int .i64 s.pan, .int .i64 s.fine, .int .i64 s.loop, .int .i64 s.start, .int .i64 s.fin, .int .i64 s.sus, .int .i64 s.sstart, .int .i64 s.sfin] 24)))
  obtain ⟨W, hW⟩ : ∃ W, W = w2.alloc (.cells #[.string s.name, .slice (some ⟨g, 0, none⟩) s.dat.length c, .int .i64 b, .int .i64 s.rate, .int .i64 s.vol, .int .i64 s.pan, .int .i64 s.fine, .int .i64 s.loop, .int .i64 s.start, .int .i64 s.fin, .int .i64 s.sus, .int .i64 s.sstart, .int .i64 s.sfin] 24) := ⟨_, rfl⟩
  obtain ⟨o, hoe⟩ : ∃ o, o = w2.heap.size := ⟨_, rfl⟩
  obtain ⟨B, hBe⟩ : ∃ B, B = w1.heap.size := ⟨_, rfl⟩
  have nbg : w.heap.size ≠ g := by omega
  have nbg1 : w.heap.size + 1 ≠ g := by omega
  have nog : o ≠ g := by omega
  have hwg : w.heap.size ≤ g := by omega
  rw [← hW] at HTW HXW HRW HBW ⊢
  rw [← hoe] at HXW ⊢
  rw [← hBe] at HRW
  clear x0 x1 x2 x3 x4 x5 x6 x7 x8 x9 x10 x11 x12 z0 z1 z2 z3 z4 z5 z6 z7 z8 z9 z10 z11 z12 fz1 fz2
  clear HO2
  clear hW
  clear hoe
  clear hgo hgb z1 hBe
  clear HT1 HT0
  clear HB1 HB0
  clear HVd HFr
  go_loopw [28] (fun i wr => CR w s { s with bits := b } p cap w.heap.size o g c B (fun i => Sm.cvtF s.bits b (s.dat.getD i 0)) i wr) (fun i _ => s.dat.length - (intOf i).toNat)
  case atStart => exact ⟨⟨0, by omega, rfl, HTW.out, HXW.out, HRW.out, HBW.out⟩⟩
  case round =>
    clear HTW HXW HRW HBW
    obtain ⟨k, hk, rfl, HT, HX, HR, hbw⟩ := hrel.out
    clear hrel
    by_cases hlt : k < s.dat.length
    · obtain ⟨y, hy⟩ : ∃ y, s.dat.getD k 0 = y := ⟨_, rfl⟩
      have hq := HSM.out k hlt
      rw [hy] at hq
      obtain ⟨y0, y1, y2, y3, y4, y5, y6, y7, y8, y9, y10, y11, y12⟩ := HX.out
      obtain ⟨⟨x0, x1, x2, x3, x4, x5, x6, x7, x8, x9, x10, x11, x12⟩, ⟨z0, z1, z2, z3, z4, z5, z6, z7, z8, z9, z10, z11, z12⟩, fz1, fz2⟩ := HT.out
      clear hq
      go_wp2
      go_roundw
      case rel => exact ⟨⟨k + 1, by omega, by go_num, HT.out, HX.out, (congrArg _ (mrow_same (fun i => Sm.cvtF s.bits b (s.dat.getD i 0)) (fun i => s.dat.getD i 0) (k := k) (HCF.out (s.dat.getD k 0)).symm)).mp HR.out, hbw.out⟩⟩
      case measure => simp [intOf]; omega
    · have HE := Lib.hid (show mrow (fun i => Sm.cvtF s.bits b (s.dat.getD i 0)) (fun i => s.dat.getD i 0) s.dat.length k = (s.dat.map (Sm.cvtF s.bits b)).map (Value.int .i64) by
        rw [show k = s.dat.length by omega]
        exact mrow_full _ _ (by simp) fun i hi => by simp [List.getD_eq_getElem?_getD, hi])
      have HOd := Lib.hid (show OwnC wr B g (s.dat.map (Sm.cvtF s.bits b)) c by
        unfold OwnC
        rw [List.length_map, ← HE.out]
        exact HR.out)
      obtain ⟨y0, y1, y2, y3, y4, y5, y6, y7, y8, y9, y10, y11, y12⟩ := HX.out
      obtain ⟨⟨x0, x1, x2, x3, x4, x5, x6, x7, x8, x9, x10, x11, x12⟩, ⟨z0, z1, z2, z3, z4, z5, z6, z7, z8, z9, z10, z11, z12⟩, fz1, fz2⟩ := HT.out
      go_wp2
      refine bodyPost_ret (v := .tuple #[SV (Sm.cvt s b) (some ⟨g, 0, none⟩) c, .int .i64 0]) ?_ rfl ⟨⟨g, c, rfl, ?_, hwg⟩, Below13 hbw.out (by omega)⟩
      · simp [results, Try.results33, go_sem, SV, Sm.cvt, Sm.mpp, z0, z1, z2, z3, z4, z5, z6, z7, z8, z9, z10, z11, z12]
      · iterate 13 (refine dat_store ?_ (Ne.symm nbg1) _ _)
        exact HOd.out.dat
set_option maxHeartbeats 1600000 in
theorem r_convert_up (s : Sm.Smp) (p : Option Addr) (cap : Nat) (b : Int) (w : World) (hm : s.name.size ≤ maxLen) (hd : DatAt w p s.dat) (hv : Sm.vld s = true) (hnil : p = none → cap = 0) (he : s.bits = 8) (h16 : b = 16) :
    Calls Try.prog 33 #[SV s p cap, .int .i64 b] w fun x w' => RetR (Sm.cvt s b) w.heap.size x w' ∧ Below w.heap.size w w' := by
  have HVd := Lib.hid (rvalid_v s p cap ((w.alloc (.cells #[.string s.name, .slice p s.dat.length cap, .int .i64 s.bits, .int .i64 s.rate, .int .i64 s.vol, .int .i64 s.pan, .int .i64 s.fine, .int .i64 s.loop, .int .i64 s.start, .int .i64 s.fin, .int .i64 s.sus, .int .i64 s.sstart, .int .i64 s.sfin] 24)).alloc (.cells #[.string { data := #[] }, .slice none 0 0, .int .i64 0, .int .i64 0, .int .i64 0, .int .i64 0, .int .i64 0, .int .i64 0, .int .i64 0, .int .i64 0, .int .i64 0, .int .i64 0, .int .i64 0] 24)) hm (hd.below (((Below.refl w.heap.size w).alloc (Nat.le_refl _) (.cells #[.string s.name, .slice p s.dat.length cap, .int .i64 s.bits, .int .i64 s.rate, .int .i64 s.vol, .int .i64 s.pan, .int .i64 s.fine, .int .i64 s.loop, .int .i64 s.start, .int .i64 s.fin, .int .i64 s.sus, .int .i64 s.sstart, .int .i64 s.sfin] 24)).alloc (by simp) (.cells #[.string { data := #[] }, .slice none 0 0, .int .i64 0, .int .i64 0, .int .i64 0, .int .i64 0, .int .i64 0, .int .i64 0, .int .i64 0, .int .i64 0, .int .i64 0, .int .i64 0, .int .i64 0] 24))) hv)
  have HT0 := Lib.hid (two_new w s p cap)
  have HB0 := Lib.hid (((Below.refl w.heap.size w).alloc (Nat.le_refl _) (.cells #[.string s.name, .slice p s.dat.length cap, .int .i64 s.bits, .int .i64 s.rate, .int .i64 s.vol, .int .i64 s.pan, .int .i64 s.fine, .int .i64 s.loop, .int .i64 s.start, .int .i64 s.fin, .int .i64 s.sus, .int .i64 s.sstart, .int .i64 s.sfin] 24)).alloc (by simp) (.cells #[.string { data := #[] }, .slice none 0 0, .int .i64 0, .int .i64 0, .int .i64 0, .int .i64 0, .int .i64 0, .int .i64 0, .int .i64 0, .int .i64 0, .int .i64 0, .int .i64 0, .int .i64 0] 24))
  have hl : (s.dat.length : Int) ≤ 4096 := vld_len hv
  have HSM := Lib.hid (vld_small hv)
  have HFr := Lib.hid (fun w' hd => r_fresh s p cap w' hd hl hnil)
  have hbe : (s.bits == b) = false := by simp [he, h16]
  have hb16 : (b == 16) = true := by simp [h16]
  have hn8 : (b != 8) = true := by simp [h16]
  have hn16 : (b != 16) = false := by simp [h16]
  have HCF := Lib.hid (show ∀ y, y * 256 = Sm.cvtF s.bits b y from fun y => by unfold Sm.cvtF; rw [if_pos (by omega), Int.mul_comm])
  clear he h16
  have HD0 := Lib.hid hd
  clear hm hd hv hnil
  unfold SV at HVd HFr
  unfold RetF SV at HFr
  unfold SV
  go_enter Try.func33, Try.ntmps33
  go_wp2_with (first | (go_at_call 14; ((with_reducible refine HVd.out.mono ?_); rintro z w1 ⟨rfl, hb1⟩; have HB1 := Lib.hid (stepB HB0.out hb1); have HT1 := Lib.hid (HT0.out.kept hb1 (by simp)); obtain ⟨⟨x0, x1, x2, x3, x4, x5, x6, x7, x8, x9, x10, x11, x12⟩, ⟨z0, z1, z2, z3, z4, z5, z6, z7, z8, z9, z10, z11, z12⟩, fz1, fz2⟩ := HT1.out)) | (go_at_call 65; ((with_reducible refine (HFr.out _ (HD0.out.below HB1.out)).mono ?_); rintro z w2 ⟨⟨g, c, rfl, hown⟩, hb2⟩; have HO2 := Lib.hid hown; clear hown)))
  have hgo : g < w2.heap.size := HO2.out.lt
  have hgb : w1.heap.size ≤ g := HO2.out.ge
  have z1 : w.heap.size + 2 ≤ w1.heap.size := by have := hb1.size; simp at this; omega
  have HTW := Lib.hid ((HT1.out.kept hb2 (by omega)).kept (below_box w2 (.cells #[.string s.name, .slice (some ⟨g, 0, none⟩) s.dat.length c, .int .i64 b, .int .i64 s.rate, .int .i64 s.vol, .int .i64 s.pan, .int .i64 s.fine, .int .i64 s.loop, .int .i64 s.start, .int .i64 s.fin, .int .i64 s.sus, .int .i64 s.sstart, .int .i64 s.sfin] 24)) (by have := hb2.size; omega))
  have HXW := Lib.hid (show Boxed (w2.alloc (.cells #[.string s.name, .slice (some ⟨g, 0, none⟩) s.dat.length c, .int .i64 b, .int .i64 s.rate, .int .i64 s.vol, .int .i64 s.pan, .int .i64 s.fine, .int .i64 s.loop, .int .i64 s.start, .int .i64 s.fin, .int .i64 s.sus, .int .i64 s.sstart, .int .i64 s.sfin] 24)) w2.heap.size { s with bits := b } (some ⟨g, 0, none⟩) c from boxed_new w2 { s with bits := b } (some ⟨g, 0, none⟩) c 24)
  have HRW := Lib.hid (show (w2.alloc (.cells #[.string s.name, .slice (some ⟨g, 0, none⟩) s.dat.length c, .int .i64 b, .int .i64 s.rate, .int .i64 s.vol, .int .i64 s.pan, .int .i64 s.fine, .int .i64 s.loop, .int .i64 s.start, .int .i64 s.fin, .int .i64 s.sus, .int .i64 s.sstart, .int .i64 s.sfin] 24)).ownsRow w1.heap.size 3 1 (.slice (some ⟨g, 0, none⟩) s.dat.length c) s.dat.length (mrow (fun i => Sm.cvtF s.bits b (s.dat.getD i 0)) (fun i => s.dat.getD i 0) s.dat.length 0) by
    rw [mrow_zero (fun i => Sm.cvtF s.bits b (s.dat.getD i 0)) (fun i => s.dat.getD i 0) (l := s.dat) rfl (fun _ _ => rfl)]
    exact HO2.out.kept (below_box w2 (.cells #[.string s.name, .slice (some ⟨g, 0, none⟩) s.dat.length c, .int .i64 b, .int .i64 s.rate, .int .i64 s.vol, .int .i64 s.pan, .int .i64 s.fine, .int .i64 s.loop, .int .i64 s.start, .int .i64 s.fin, .int .i64 s.sus, .int .i64 s.sstart, .int .i64 s.sfin] 24)))
  have HBW := Lib.hid (stepB (stepB HB1.out hb2) (below_box w2 (.cells #[.string s.name, .slice (some ⟨g, 0, none⟩) s.dat.length c, .int .i64 b, .int .i64 s.rate, .int .i64 s.vol, .int .i64 s.pan, .int .i64 s.fine, .int .i64 s.loop, .int .i64 s.start, .int .i64 s.fin, .int .i64 s.sus, .int .i64 s.sstart, .int .i64 s.sfin] 24)))
  obtain ⟨W, hW⟩ : ∃ W, W = w2.alloc (.cells #[.string s.name, .slice (some ⟨g, 0, none⟩) s.dat.length c, .int .i64 b, .int .i64 s.rate, .int .i64 s.vol, .int .i64 s.pan, .int .i64 s.fine, .int .i64 s.loop, .int .i64 s.start, .int .i64 s.fin, .int .i64 s.sus, .int .i64 s.sstart, .int .i64 s.sfin] 24) := ⟨_, rfl⟩
  obtain ⟨o, hoe⟩ : ∃ o, o = w2.heap.size := ⟨_, rfl⟩
  obtain ⟨B, hBe⟩ : ∃ B, B = w1.heap.size := ⟨_, rfl⟩
  have nbg : w.heap.size ≠ g := by omega
  have nbg1 : w.heap.size + 1 ≠ g := by omega
  have nog : o ≠ g := by omega
  have hwg : w.heap.size ≤ g := by omega
  rw [← hW] at HTW HXW HRW HBW ⊢
  rw [← hoe] at HXW ⊢
  rw [← hBe] at HRW
  clear x0 x1 x2 x3 x4 x5 x6 x7 x8 x9 x10 x11 x12 z0 z1 z2 z3 z4 z5 z6 z7 z8 z9 z10 z11 z12 fz1 fz2
  clear HO2
  clear hW
  clear hoe
  clear hgo hgb z1 hBe
  clear HT1 HT0
  clear HB1 HB0
  clear HVd HFr
  go_loopw [28] (fun i wr => CR w s { s with bits := b } p cap w.heap.size o g c B (fun i => Sm.cvtF s.bits b (s.dat.getD i 0)) i wr) (fun i _ => s.dat.length - (intOf i).toNat)
  case atStart => exact ⟨⟨0, by omega, rfl, HTW.out, HXW.out, HRW.out, HBW.out⟩⟩
  case round =>
    clear HTW HXW HRW HBW
    obtain ⟨k, hk, rfl, HT, HX, HR, hbw⟩ := hrel.out
    clear hrel
    by_cases hlt : k < s.dat.length
    · obtain ⟨y, hy⟩ : ∃ y, s.dat.getD k 0 = y := ⟨_, rfl⟩
      have hq := HSM.out k hlt
      rw [hy] at hq
      have HV := Lib.hid (show y * 256 = (fun i => Sm.cvtF s.bits b (s.dat.getD i 0)) k by rw [← hy]; exact HCF.out _)
      have a0 : wr.cell? ⟨g, k, none⟩ = some (.int .i64 y) := (HR.out.cellAt k (by omega)).trans ((mrow_at _ _ hlt).trans (by rw [← hy]))
      have a1 := HR.out.frozenAt k
      obtain ⟨y0, y1, y2, y3, y4, y5, y6, y7, y8, y9, y10, y11, y12⟩ := HX.out
      obtain ⟨⟨x0, x1, x2, x3, x4, x5, x6, x7, x8, x9, x10, x11, x12⟩, ⟨z0, z1, z2, z3, z4, z5, z6, z7, z8, z9, z10, z11, z12⟩, fz1, fz2⟩ := HT.out
      go_wp2
      go_roundw
      case rel => exact ⟨⟨k + 1, by omega, by go_num, HT.out.store nbg nbg1 _ _, HX.out.store nog _ _, (congrArg _ (mrow_set (fun i => Sm.cvtF s.bits b (s.dat.getD i 0)) (fun i => s.dat.getD i 0) hlt HV.out)).mp (HR.out.stored k (.int .i64 (y * 256))).1, hbw.out.setCell hwg _⟩⟩
      case measure => simp [intOf]; omega
    · have HE := Lib.hid (show mrow (fun i => Sm.cvtF s.bits b (s.dat.getD i 0)) (fun i => s.dat.getD i 0) s.dat.length k = (s.dat.map (Sm.cvtF s.bits b)).map (Value.int .i64) by
        rw [show k = s.dat.length by omega]
        exact mrow_full _ _ (by simp) fun i hi => by simp [List.getD_eq_getElem?_getD, hi])
      have HOd := Lib.hid (show OwnC wr B g (s.dat.map (Sm.cvtF s.bits b)) c by
        unfold OwnC
        rw [List.length_map, ← HE.out]
        exact HR.out)
      obtain ⟨y0, y1, y2, y3, y4, y5, y6, y7, y8, y9, y10, y11, y12⟩ := HX.out
      obtain ⟨⟨x0, x1, x2, x3, x4, x5, x6, x7, x8, x9, x10, x11, x12⟩, ⟨z0, z1, z2, z3, z4, z5, z6, z7, z8, z9, z10, z11, z12⟩, fz1, fz2⟩ := HT.out
      go_wp2
      refine bodyPost_ret (v := .tuple #[SV (Sm.cvt s b) (some ⟨g, 0, none⟩) c, .int .i64 0]) ?_ rfl ⟨⟨g, c, rfl, ?_, hwg⟩, Below13 hbw.out (by omega)⟩
      · simp [results, Try.results33, go_sem, SV, Sm.cvt, Sm.mpp, z0, z1, z2, z3, z4, z5, z6, z7, z8, z9, z10, z11, z12]
      · iterate 13 (refine dat_store ?_ (Ne.symm nbg1) _ _)
        exact HOd.out.dat
set_option maxHeartbeats 1600000 in
theorem r_convert_dn (s : Sm.Smp) (p : Option Addr) (cap : Nat) (b : Int) (w : World) (hm : s.name.size ≤ maxLen) (hd : DatAt w p s.dat) (hv : Sm.vld s = true) (hnil : p = none → cap = 0) (he : s.bits = 16) (h8 : b = 8) :
    Calls Try.prog 33 #[SV s p cap, .int .i64 b] w fun x w' => RetR (Sm.cvt s b) w.heap.size x w' ∧ Below w.heap.size w w' := by
  have HVd := Lib.hid (rvalid_v s p cap ((w.alloc (.cells #[.string s.name, .slice p s.dat.length cap, .int .i64 s.bits, .int .i64 s.rate, .int .i64 s.vol, .int .i64 s.pan, .int .i64 s.fine, .int .i64 s.loop, .int .i64 s.start, .int .i64 s.fin, .int .i64 s.sus, .int .i64 s.sstart, .int .i64 s.sfin] 24)).alloc (.cells #[.string { data := #[] }, .slice none 0 0, .int .i64 0, .int .i64 0, .int .i64 0, .int .i64 0, .int .i64 0, .int .i64 0, .int .i64 0, .int .i64 0, .int .i64 0, .int .i64 0, .int .i64 0] 24)) hm (hd.below (((Below.refl w.heap.size w).alloc (Nat.le_refl _) (.cells #[.string s.name, .slice p s.dat.length cap, .int .i64 s.bits, .int .i64 s.rate, .int .i64 s.vol, .int .i64 s.pan, .int .i64 s.fine, .int .i64 s.loop, .int .i64 s.start, .int .i64 s.fin, .int .i64 s.sus, .int .i64 s.sstart, .int .i64 s.sfin] 24)).alloc (by simp) (.cells #[.string { data := #[] }, .slice none 0 0, .int .i64 0, .int .i64 0, .int .i64 0, .int .i64 0, .int .i64 0, .int .i64 0, .int .i64 0, .int .i64 0, .int .i64 0, .int .i64 0, .int .i64 0] 24))) hv)
  have HT0 := Lib.hid (two_new w s p cap)
  have HB0 := Lib.hid (((Below.refl w.heap.size w).alloc (Nat.le_refl _) (.cells #[.string s.name, .slice p s.dat.length cap, .int .i64 s.bits, .int .i64 s.rate, .int .i64 s.vol, .int .i64 s.pan, .int .i64 s.fine, .int .i64 s.loop, .int .i64 s.start, .int .i64 s.fin, .int .i64 s.sus, .int .i64 s.sstart, .int .i64 s.sfin] 24)).alloc (by simp) (.cells #[.string { data := #[] }, .slice none 0 0, .int .i64 0, .int .i64 0, .int .i64 0, .int .i64 0, .int .i64 0, .int .i64 0, .int .i64 0, .int .i64 0, .int .i64 0, .int .i64 0, .int .i64 0] 24))
  have hl : (s.dat.length : Int) ≤ 4096 := vld_len hv
  have HSM := Lib.hid (vld_small hv)
  have HFr := Lib.hid (fun w' hd => r_fresh s p cap w' hd hl hnil)
  have hbe : (s.bits == b) = false := by simp [he, h8]
  have hb16 : (b == 16) = false := by simp [h8]
  have hn8 : (b != 8) = false := by simp [h8]
  have HCF := Lib.hid (show ∀ y, y / 256 = Sm.cvtF s.bits b y from fun y => by unfold Sm.cvtF; rw [if_neg (by omega), if_pos (by omega)])
  clear he h8
  have HD0 := Lib.hid hd
  clear hm hd hv hnil
  unfold SV at HVd HFr
  unfold RetF SV at HFr
  unfold SV
  go_enter Try.func33, Try.ntmps33
  go_wp2_with (first | (go_at_call 14; ((with_reducible refine HVd.out.mono ?_); rintro z w1 ⟨rfl, hb1⟩; have HB1 := Lib.hid (stepB HB0.out hb1); have HT1 := Lib.hid (HT0.out.kept hb1 (by simp)); obtain ⟨⟨x0, x1, x2, x3, x4, x5, x6, x7, x8, x9, x10, x11, x12⟩, ⟨z0, z1, z2, z3, z4, z5, z6, z7, z8, z9, z10, z11, z12⟩, fz1, fz2⟩ := HT1.out)) | (go_at_call 65; ((with_reducible refine (HFr.out _ (HD0.out.below HB1.out)).mono ?_); rintro z w2 ⟨⟨g, c, rfl, hown⟩, hb2⟩; have HO2 := Lib.hid hown; clear hown)))
  have hgo : g < w2.heap.size := HO2.out.lt
  have hgb : w1.heap.size ≤ g := HO2.out.ge
  have z1 : w.heap.size + 2 ≤ w1.heap.size := by have := hb1.size; simp at this; omega
  have HTW := Lib.hid ((HT1.out.kept hb2 (by omega)).kept (below_box w2 (.cells #[.string s.name, .slice (some ⟨g, 0, none⟩) s.dat.length c, .int .i64 b, .int .i64 s.rate, .int .i64 s.vol, .int .i64 s.pan, .int .i64 s.fine, .int .i64 s.loop, .int .i64 s.start, .int .i64 s.fin, .int .i64 s.sus, .int .i64 s.sstart, .int .i64 s.sfin] 24)) (by have := hb2.size; omega))
  have HXW := Lib.hid (show Boxed (w2.alloc (.cells #[.string s.name, .slice (some ⟨g, 0, none⟩) s.dat.length c, .int .i64 b, .int .i64 s.rate, .int .i64 s.vol, .int .i64 s.pan, .int .i64 s.fine, .int .i64 s.loop, .int .i64 s.start, .int .i64 s.fin, .int .i64 s.sus, .int .i64 s.sstart, .int .i64 s.sfin] 24)) w2.heap.size { s with bits := b } (some ⟨g, 0, none⟩) c from boxed_new w2 { s with bits := b } (some ⟨g, 0, none⟩) c 24)
  have HRW := Lib.hid (show (w2.alloc (.cells #[.string s.name, .slice (some ⟨g, 0, none⟩) s.dat.length c, .int .i64 b, .int .i64 s.rate, .int .i64 s.vol, .int .i64 s.pan, .int .i64 s.fine, .int .i64 s.loop, .int .i64 s.start, .int .i64 s.fin, .int .i64 s.sus, .int .i64 s.sstart, .int .i64 s.sfin] 24)).ownsRow w1.heap.size 3 1 (.slice (some ⟨g, 0, none⟩) s.dat.length c) s.dat.length (mrow (fun i => Sm.cvtF s.bits b (s.dat.getD i 0)) (fun i => s.dat.getD i 0) s.dat.length 0) by
    rw [mrow_zero (fun i => Sm.cvtF s.bits b (s.dat.getD i 0)) (fun i => s.dat.getD i 0) (l := s.dat) rfl (fun _ _ => rfl)]
    exact HO2.out.kept (below_box w2 (.cells #[.string s.name, .slice (some ⟨g, 0, none⟩) s.dat.length c, .int .i64 b, .int .i64 s.rate, .int .i64 s.vol, .int .i64 s.pan, .int .i64 s.fine, .int .i64 s.loop, .int .i64 s.start, .int .i64 s.fin, .int .i64 s.sus, .int .i64 s.sstart, .int .i64 s.sfin] 24)))
  have HBW := Lib.hid (stepB (stepB HB1.out hb2) (below_box w2 (.cells #[.string s.name, .slice (some ⟨g, 0, none⟩) s.dat.length c, .int .i64 b, .int .i64 s.rate, .int .i64 s.vol, .int .i64 s.pan, .int .i64 s.fine, .int .i64 s.loop, .int .i64 s.start, .int .i64 s.fin, .int .i64 s.sus, .int .i64 s.sstart, .int .i64 s.sfin] 24)))
  obtain ⟨W, hW⟩ : ∃ W, W = w2.alloc (.cells #[.string s.name, .slice (some ⟨g, 0, none⟩) s.dat.length c, .int .i64 b, .int .i64 s.rate, .int .i64 s.vol, .int .i64 s.pan, .int .i64 s.fine, .int .i64 s.loop, .int .i64 s.start, .int .i64 s.fin, .int .i64 s.sus, .int .i64 s.sstart, .int .i64 s.sfin] 24) := ⟨_, rfl⟩
  obtain ⟨o, hoe⟩ : ∃ o, o = w2.heap.size := ⟨_, rfl⟩
  obtain ⟨B, hBe⟩ : ∃ B, B = w1.heap.size := ⟨_, rfl⟩
  have nbg : w.heap.size ≠ g := by omega
  have nbg1 : w.heap.size + 1 ≠ g := by omega
  have nog : o ≠ g := by omega
  have hwg : w.heap.size ≤ g := by omega
  rw [← hW] at HTW HXW HRW HBW ⊢
  rw [← hoe] at HXW ⊢
  rw [← hBe] at HRW
  clear x0 x1 x2 x3 x4 x5 x6 x7 x8 x9 x10 x11 x12 z0 z1 z2 z3 z4 z5 z6 z7 z8 z9 z10 z11 z12 fz1 fz2
  clear HO2
  clear hW
  clear hoe
  clear hgo hgb z1 hBe
  clear HT1 HT0
  clear HB1 HB0
  clear HVd HFr
  go_loopw [28] (fun i wr => CR w s { s with bits := b } p cap w.heap.size o g c B (fun i => Sm.cvtF s.bits b (s.dat.getD i 0)) i wr) (fun i _ => s.dat.length - (intOf i).toNat)
  case atStart => exact ⟨⟨0, by omega, rfl, HTW.out, HXW.out, HRW.out, HBW.out⟩⟩
  case round =>
    clear HTW HXW HRW HBW
    obtain ⟨k, hk, rfl, HT, HX, HR, hbw⟩ := hrel.out
    clear hrel
    by_cases hlt : k < s.dat.length
    · obtain ⟨y, hy⟩ : ∃ y, s.dat.getD k 0 = y := ⟨_, rfl⟩
      have hq := HSM.out k hlt
      rw [hy] at hq
      have HV := Lib.hid (show y / 256 = (fun i => Sm.cvtF s.bits b (s.dat.getD i 0)) k by rw [← hy]; exact HCF.out _)
      have HT' := Lib.hid (show Two wr.drew w.heap.size s p cap from HT.out)
      have HX' := Lib.hid (show Boxed wr.drew o { s with bits := b } (some ⟨g, 0, none⟩) c from HX.out)
      have HR' := Lib.hid (show wr.drew.ownsRow B 3 1 (.slice (some ⟨g, 0, none⟩) s.dat.length c) s.dat.length (mrow (fun i => Sm.cvtF s.bits b (s.dat.getD i 0)) (fun i => s.dat.getD i 0) s.dat.length k) from HR.out)
      have HB' := Lib.hid (show Below w.heap.size w wr.drew from hbw.out.drew)
      have HFl := Lib.hid (fun w' => (rfloor y 256 w' (by omega) (by omega) (by omega) (by omega)).mono (R' := fun z w'' => z = .returned (.int .i64 (y / 256)) ∧ w'' = w') fun _ _ ⟨h1, h2⟩ => ⟨h1, h2.symm⟩)
      obtain ⟨y0, y1, y2, y3, y4, y5, y6, y7, y8, y9, y10, y11, y12⟩ := HX.out
      obtain ⟨⟨x0, x1, x2, x3, x4, x5, x6, x7, x8, x9, x10, x11, x12⟩, ⟨z0, z1, z2, z3, z4, z5, z6, z7, z8, z9, z10, z11, z12⟩, fz1, fz2⟩ := HT.out
      go_upto_region 10 with fail
      refine wp_region_still_tail 10 (by kernel_rfl) (by kernel_rfl) ?_
      obtain ⟨W', hW'⟩ : ∃ W', W' = wr.drew := ⟨_, rfl⟩
      rw [show ({ wr with drawn := wr.drawn + 1 } : World) = W' from hW'.symm]
      rw [← hW'] at HT' HX' HR' HB'
      have a0 : W'.cell? ⟨g, k, none⟩ = some (.int .i64 y) := (HR'.out.cellAt k (by omega)).trans ((mrow_at _ _ hlt).trans (by rw [← hy]))
      have a1 := HR'.out.frozenAt k
      clear y0 y1 y2 y3 y4 y5 y6 y7 y8 y9 y10 y11 y12 x0 x1 x2 x3 x4 x5 x6 x7 x8 x9 x10 x11 x12 z0 z1 z2 z3 z4 z5 z6 z7 z8 z9 z10 z11 z12 fz1 fz2 hq hy hW'
      obtain ⟨y0, y1, y2, y3, y4, y5, y6, y7, y8, y9, y10, y11, y12⟩ := HX'.out
      simp only [List.take_succ_cons, List.take_zero, List.drop_succ_cons, List.drop_zero]
      repeat still_step
      still_call (HFl.out _)
      repeat still_step
      refine wpStill_nil ?_
      go_wp2
      go_roundw
      case rel => exact ⟨⟨k + 1, by omega, by go_num, HT'.out.store nbg nbg1 _ _, HX'.out.store nog _ _, (congrArg _ (mrow_set (fun i => Sm.cvtF s.bits b (s.dat.getD i 0)) (fun i => s.dat.getD i 0) hlt HV.out)).mp (HR'.out.stored k (.int .i64 (y / 256))).1, HB'.out.setCell hwg _⟩⟩
      case measure => simp [intOf]; omega
    · have HE := Lib.hid (show mrow (fun i => Sm.cvtF s.bits b (s.dat.getD i 0)) (fun i => s.dat.getD i 0) s.dat.length k = (s.dat.map (Sm.cvtF s.bits b)).map (Value.int .i64) by
        rw [show k = s.dat.length by omega]
        exact mrow_full _ _ (by simp) fun i hi => by simp [List.getD_eq_getElem?_getD, hi])
      have HOd := Lib.hid (show OwnC wr B g (s.dat.map (Sm.cvtF s.bits b)) c by
        unfold OwnC
        rw [List.length_map, ← HE.out]
        exact HR.out)
      obtain ⟨y0, y1, y2, y3, y4, y5, y6, y7, y8, y9, y10, y11, y12⟩ := HX.out
      obtain ⟨⟨x0, x1, x2, x3, x4, x5, x6, x7, x8, x9, x10, x11, x12⟩, ⟨z0, z1, z2, z3, z4, z5, z6, z7, z8, z9, z10, z11, z12⟩, fz1, fz2⟩ := HT.out
      go_wp2
      refine bodyPost_ret (v := .tuple #[SV (Sm.cvt s b) (some ⟨g, 0, none⟩) c, .int .i64 0]) ?_ rfl ⟨⟨g, c, rfl, ?_, hwg⟩, Below13 hbw.out (by omega)⟩
      · simp [results, Try.results33, go_sem, SV, Sm.cvt, Sm.mpp, z0, z1, z2, z3, z4, z5, z6, z7, z8, z9, z10, z11, z12]
      · iterate 13 (refine dat_store ?_ (Ne.symm nbg1) _ _)
        exact HOd.out.dat
theorem r_convert_ok (s : Sm.Smp) (p : Option Addr) (cap : Nat) (b : Int) (w : World) (hm : s.name.size ≤ maxLen) (hd : DatAt w p s.dat) (hv : Sm.vld s = true) (hnil : p = none → cap = 0) (hb : b = 8 ∨ b = 16) :
    Calls Try.prog 33 #[SV s p cap, .int .i64 b] w fun x w' => RetR (Sm.cvt s b) w.heap.size x w' ∧ Below w.heap.size w w' := by
  rcases Sm.vld_bits hv with h | h
  · rcases hb with h2 | h2
    · exact r_convert_eq8 s p cap b w hm hd hv hnil (by omega) h2
    · exact r_convert_up s p cap b w hm hd hv hnil h h2
  · rcases hb with h2 | h2
    · exact r_convert_dn s p cap b w hm hd hv hnil h h2
    · exact r_convert_eq16 s p cap b w hm hd hv hnil (by omega) h2
end Go.Proofs.Ytmaldhjcdkidmaa

/-
  The contract of the reference's Reverse.
-/
import Derived.Test.YtmaldhjcdkidmaaRefAmp
import Derived.Test.YtmaldhjcdkidmaaBf
import Derived.Test.YtmaldhjcdkidmaaPRev
import Derived.RegionTactic
namespace Go.Proofs.Ytmaldhjcdkidmaa
open Go.RowKit

set_option maxHeartbeats 1600000 in
theorem r_reverse_bad (s : Sm.Smp) (p : Option Addr) (cap : Nat)  (w : World) (hm : s.name.size ≤ maxLen) (hd : DatAt w p s.dat) (hv : Sm.vld s = false)  :
    Calls Try.prog 27 #[SV s p cap] w fun x w' => x = .returned (.tuple #[SV zer none 0, .int .i64 1]) ∧ Below w.heap.size w w' := by
  have HVd := Lib.hid (rvalid_v s p cap ((w.alloc (.cells #[.string s.name, .slice p s.dat.length cap, .int .i64 s.bits, .int .i64 s.rate, .int .i64 s.vol, .int .i64 s.pan, .int .i64 s.fine, .int .i64 s.loop, .int .i64 s.start, .int .i64 s.fin, .int .i64 s.sus, .int .i64 s.sstart, .int .i64 s.sfin] 24)).alloc (.cells #[.string { data := #[] }, .slice none 0 0, .int .i64 0, .int .i64 0, .int .i64 0, .int .i64 0, .int .i64 0, .int .i64 0, .int .i64 0, .int .i64 0, .int .i64 0, .int .i64 0, .int .i64 0] 24)) hm (hd.below (((Below.refl w.heap.size w).alloc (Nat.le_refl _) (.cells #[.string s.name, .slice p s.dat.length cap, .int .i64 s.bits, .int .i64 s.rate, .int .i64 s.vol, .int .i64 s.pan, .int .i64 s.fine, .int .i64 s.loop, .int .i64 s.start, .int .i64 s.fin, .int .i64 s.sus, .int .i64 s.sstart, .int .i64 s.sfin] 24)).alloc (by simp) (.cells #[.string { data := #[] }, .slice none 0 0, .int .i64 0, .int .i64 0, .int .i64 0, .int .i64 0, .int .i64 0, .int .i64 0, .int .i64 0, .int .i64 0, .int .i64 0, .int .i64 0, .int .i64 0] 24))) hv)
  have HT0 := Lib.hid (two_new w s p cap)
  have HB0 := Lib.hid (((Below.refl w.heap.size w).alloc (Nat.le_refl _) (.cells #[.string s.name, .slice p s.dat.length cap, .int .i64 s.bits, .int .i64 s.rate, .int .i64 s.vol, .int .i64 s.pan, .int .i64 s.fine, .int .i64 s.loop, .int .i64 s.start, .int .i64 s.fin, .int .i64 s.sus, .int .i64 s.sstart, .int .i64 s.sfin] 24)).alloc (by simp) (.cells #[.string { data := #[] }, .slice none 0 0, .int .i64 0, .int .i64 0, .int .i64 0, .int .i64 0, .int .i64 0, .int .i64 0, .int .i64 0, .int .i64 0, .int .i64 0, .int .i64 0, .int .i64 0] 24))
  clear hm hd
  unfold SV at HVd
  unfold SV
  go_enter Try.func27, Try.ntmps27
  go_wp2_with (first | (go_at_call 14; ((with_reducible refine HVd.out.mono ?_); rintro z w1 ⟨rfl, hb1⟩; have HB1 := Lib.hid (stepB HB0.out hb1); have HT1 := Lib.hid (HT0.out.kept hb1 (by simp)); obtain ⟨⟨x0, x1, x2, x3, x4, x5, x6, x7, x8, x9, x10, x11, x12⟩, ⟨z0, z1, z2, z3, z4, z5, z6, z7, z8, z9, z10, z11, z12⟩, fz1, fz2⟩ := HT1.out)))
  refine bodyPost_ret (v := .tuple #[SV zer none 0, .int .i64 1]) ?_ rfl ⟨rfl, Below13 HB1.out (by omega)⟩
  simp [results, Try.results27, go_sem, SV, zer, z0, z1, z2, z3, z4, z5, z6, z7, z8, z9, z10, z11, z12] <;> rfl
/-- What the loop keeps. -/
structure RR (w : World) (s : Sm.Smp) (p : Option Addr) (cap b o g B : Nat) (f : Nat → Int) (i : Value) (wr : World) : Prop where
  out : ∃ k : Nat, k ≤ s.dat.length ∧ i = .int .i64 k ∧ Hid (Two wr b s p cap) ∧ Hid (BF wr o s (some ⟨g, 0, none⟩) s.dat.length) ∧ Hid (wr.ownsRow B 3 1 (.slice (some ⟨g, 0, none⟩) s.dat.length s.dat.length) s.dat.length (brow f s.dat.length k)) ∧ Hid (Below w.heap.size w wr)
set_option maxHeartbeats 1600000 in
theorem r_reverse_ok11 (s : Sm.Smp) (p : Option Addr) (cap : Nat)  (w : World) (hm : s.name.size ≤ maxLen) (hd : DatAt w p s.dat) (hv : Sm.vld s = true) (t1 : (s.loop != 0) = true) (t2 : (s.sus != 0) = true) :
    Calls Try.prog 27 #[SV s p cap] w fun x w' => RetR (Sm.rev s) w.heap.size x w' ∧ Below w.heap.size w w' := by
  have HVd := Lib.hid (rvalid_v s p cap ((w.alloc (.cells #[.string s.name, .slice p s.dat.length cap, .int .i64 s.bits, .int .i64 s.rate, .int .i64 s.vol, .int .i64 s.pan, .int .i64 s.fine, .int .i64 s.loop, .int .i64 s.start, .int .i64 s.fin, .int .i64 s.sus, .int .i64 s.sstart, .int .i64 s.sfin] 24)).alloc (.cells #[.string { data := #[] }, .slice none 0 0, .int .i64 0, .int .i64 0, .int .i64 0, .int .i64 0, .int .i64 0, .int .i64 0, .int .i64 0, .int .i64 0, .int .i64 0, .int .i64 0, .int .i64 0] 24)) hm (hd.below (((Below.refl w.heap.size w).alloc (Nat.le_refl _) (.cells #[.string s.name, .slice p s.dat.length cap, .int .i64 s.bits, .int .i64 s.rate, .int .i64 s.vol, .int .i64 s.pan, .int .i64 s.fine, .int .i64 s.loop, .int .i64 s.start, .int .i64 s.fin, .int .i64 s.sus, .int .i64 s.sstart, .int .i64 s.sfin] 24)).alloc (by simp) (.cells #[.string { data := #[] }, .slice none 0 0, .int .i64 0, .int .i64 0, .int .i64 0, .int .i64 0, .int .i64 0, .int .i64 0, .int .i64 0, .int .i64 0, .int .i64 0, .int .i64 0, .int .i64 0] 24))) hv)
  have HT0 := Lib.hid (two_new w s p cap)
  have HB0 := Lib.hid (((Below.refl w.heap.size w).alloc (Nat.le_refl _) (.cells #[.string s.name, .slice p s.dat.length cap, .int .i64 s.bits, .int .i64 s.rate, .int .i64 s.vol, .int .i64 s.pan, .int .i64 s.fine, .int .i64 s.loop, .int .i64 s.start, .int .i64 s.fin, .int .i64 s.sus, .int .i64 s.sstart, .int .i64 s.sfin] 24)).alloc (by simp) (.cells #[.string { data := #[] }, .slice none 0 0, .int .i64 0, .int .i64 0, .int .i64 0, .int .i64 0, .int .i64 0, .int .i64 0, .int .i64 0, .int .i64 0, .int .i64 0, .int .i64 0, .int .i64 0] 24))
  have hl : (s.dat.length : Int) ≤ 4096 := vld_len hv
  have hbnd := vld_bnd hv
  obtain ⟨⟨a1, a2⟩, ⟨b1, b2⟩, ⟨d1, d2⟩, ⟨e1, e2⟩, _, _⟩ := hbnd
  have HD0 := Lib.hid hd
  obtain ⟨i0, hinf, hz0, hz1, hz2⟩ := info_parts Try.infoInt
  clear hm hd hv
  unfold SV at HVd
  unfold SV
  go_enter Try.func27, Try.ntmps27
  go_wp2_with (first | (go_at_call 14; ((with_reducible refine HVd.out.mono ?_); rintro z w1 ⟨rfl, hb1⟩; have HB1 := Lib.hid (stepB HB0.out hb1); have HT1 := Lib.hid (HT0.out.kept hb1 (by simp)); obtain ⟨⟨x0, x1, x2, x3, x4, x5, x6, x7, x8, x9, x10, x11, x12⟩, ⟨z0, z1, z2, z3, z4, z5, z6, z7, z8, z9, z10, z11, z12⟩, fz1, fz2⟩ := HT1.out)) | (at_make; refine wpList_make_full _ rfl _ _ 22 rfl w1.heap.size 3 i0 (.int .i64 0) 1 Try.underlying22 hinf hz0 hz1 .i64 .i64 _ _ s.dat.length rfl rfl rfl rfl (by rw [hz2]; omega) (by unfold maxLen; omega) (by simp) ?_; intro w3 hown3 hgrow3; have HOWN := Lib.hid hown3; have hb3 := grown_below hgrow3; clear hown3 hgrow3; have HT3 := Lib.hid ((HT1.out.kept (below_box w1 (.cells #[.string s.name, .slice p s.dat.length cap, .int .i64 s.bits, .int .i64 s.rate, .int .i64 s.vol, .int .i64 s.pan, .int .i64 s.fine, .int .i64 s.loop, .int .i64 s.start, .int .i64 s.fin, .int .i64 s.sus, .int .i64 s.sstart, .int .i64 s.sfin] 24)) (by have := hb1.size; simp at this; omega)).kept hb3 (by have := hb1.size; simp at this ⊢; omega)); have HX3 := Lib.hid ((bf_new w1 s p cap).kept hb3); have HB3 := Lib.hid (stepB (stepB HB1.out (below_box w1 (.cells #[.string s.name, .slice p s.dat.length cap, .int .i64 s.bits, .int .i64 s.rate, .int .i64 s.vol, .int .i64 s.pan, .int .i64 s.fine, .int .i64 s.loop, .int .i64 s.start, .int .i64 s.fin, .int .i64 s.sus, .int .i64 s.sstart, .int .i64 s.sfin] 24))) hb3); obtain ⟨⟨x0, x1, x2, x3, x4, x5, x6, x7, x8, x9, x10, x11, x12⟩, ⟨z0, z1, z2, z3, z4, z5, z6, z7, z8, z9, z10, z11, z12⟩, fz1, fz2⟩ := HT3.out; obtain ⟨⟨y0, y1, y2, y3, y4, y5, y6, y7, y8, y9, y10, y11, y12⟩, fy⟩ := HX3.out))
  have z1 : w.heap.size + 2 ≤ w1.heap.size := by have := hb1.size; simp at this; omega
  have hg3 : w1.heap.size + 1 < w3.heap.size := by have := World.ownsRow.lt HOWN.out (w1.heap.size + 1) (by simp [Value.ownBlock]); simpa using this.2
  have HTW := Lib.hid (show Two (w3.setCell ⟨w1.heap.size, 1, none⟩ (.slice (some ⟨w1.heap.size + 1, 0, none⟩) s.dat.length s.dat.length)) w.heap.size s p cap from HT3.out.store (by omega) (by omega) _ _)
  have HXW := Lib.hid (show BF (w3.setCell ⟨w1.heap.size, 1, none⟩ (.slice (some ⟨w1.heap.size + 1, 0, none⟩) s.dat.length s.dat.length)) w1.heap.size s (some ⟨w1.heap.size + 1, 0, none⟩) s.dat.length from by
    obtain ⟨⟨x0, x1, x2, x3, x4, x5, x6, x7, x8, x9, x10, x11, x12⟩, fx⟩ := HX3.out
    have ne : ∀ (x y : Nat), x ≠ y → (⟨w1.heap.size, x, none⟩ : Addr) ≠ ⟨w1.heap.size, y, none⟩ := fun x y hxy e => hxy (congrArg Addr.off e)
    have eo : ∀ i, i ≠ 1 → (w3.setCell ⟨w1.heap.size, 1, none⟩ (.slice (some ⟨w1.heap.size + 1, 0, none⟩) s.dat.length s.dat.length)).cell? ⟨w1.heap.size, i, none⟩ = w3.cell? ⟨w1.heap.size, i, none⟩ := fun i h => World.cell?_setCell_other _ _ _ _ (ne 1 i h.symm)
    exact ⟨⟨(eo 0 (by omega)).trans x0, World.cell?_setCell_same _ _ _ x1, (eo 2 (by omega)).trans x2, (eo 3 (by omega)).trans x3, (eo 4 (by omega)).trans x4, (eo 5 (by omega)).trans x5, (eo 6 (by omega)).trans x6, (eo 7 (by omega)).trans x7, (eo 8 (by omega)).trans x8, (eo 9 (by omega)).trans x9, (eo 10 (by omega)).trans x10, (eo 11 (by omega)).trans x11, (eo 12 (by omega)).trans x12⟩, by simpa using fx⟩)
  have HRW := Lib.hid (show (w3.setCell ⟨w1.heap.size, 1, none⟩ (.slice (some ⟨w1.heap.size + 1, 0, none⟩) s.dat.length s.dat.length)).ownsRow w1.heap.size 3 1 (.slice (some ⟨w1.heap.size + 1, 0, none⟩) s.dat.length s.dat.length) s.dat.length (brow (fun i => s.dat.getD i 0) s.dat.length 0) by
    have e : (madeCells (Value.int .i64 0).cells (s.dat.length * 1)).toList = brow (fun i => s.dat.getD i 0) s.dat.length 0 := by rw [brow_zero, Nat.mul_one]; exact toList_madeCells_one _ s.dat.length
    have h := HOWN.out
    rw [e] at h
    refine ownsRow_setCell_other (by simpa using h) (by simp [Value.ownBlock]) _)
  have HBW := Lib.hid (show Below w.heap.size w (w3.setCell ⟨w1.heap.size, 1, none⟩ (.slice (some ⟨w1.heap.size + 1, 0, none⟩) s.dat.length s.dat.length)) from HB3.out.setCell (by simp; omega) _)
  obtain ⟨W, hW⟩ : ∃ W, W = (w3.setCell ⟨w1.heap.size, 1, none⟩ (.slice (some ⟨w1.heap.size + 1, 0, none⟩) s.dat.length s.dat.length)) := ⟨_, rfl⟩
  obtain ⟨o, hoe⟩ : ∃ o, o = w1.heap.size := ⟨_, rfl⟩
  obtain ⟨B, hBe⟩ : ∃ B, B = w1.heap.size := ⟨_, rfl⟩
  obtain ⟨g, hge⟩ : ∃ g, g = w1.heap.size + 1 := ⟨_, rfl⟩
  have nbg : w.heap.size ≠ g := by omega
  have nbg1 : w.heap.size + 1 ≠ g := by omega
  have nbo : w.heap.size ≠ o := by omega
  have nbo1 : w.heap.size + 1 ≠ o := by omega
  have nog : o ≠ g := by omega
  have hwg : w.heap.size ≤ g := by omega
  have hwo : w.heap.size ≤ o := by omega
  rw [← hW] at HTW HXW HRW HBW ⊢
  rw [← hge] at HXW HRW ⊢
  rw [← hoe] at HXW ⊢
  rw [← hBe] at HRW
  clear x0 x1 x2 x3 x4 x5 x6 x7 x8 x9 x10 x11 x12 z0 z1 z2 z3 z4 z5 z6 z7 z8 z9 z10 z11 z12 y0 y1 y2 y3 y4 y5 y6 y7 y8 y9 y10 y11 y12 fz1 fz2 fy
  clear HOWN hg3
  clear hW
  clear hge
  clear hoe
  clear z1 hBe
  clear HT3 HX3 HB3
  clear HT1 HT0
  clear HB1 HB0
  clear HVd
  go_loopw [6] (fun i wr => RR w s p cap w.heap.size o g B (fun i => s.dat.getD i 0) i wr) (fun i _ => s.dat.length - (intOf i).toNat)
  case atStart => exact ⟨⟨0, by omega, rfl, HTW.out, HXW.out, HRW.out, HBW.out⟩⟩
  case round =>
    clear HTW HXW HRW HBW
    obtain ⟨k, hk, rfl, HT, HX, HR, hbw⟩ := hrel.out
    clear hrel
    by_cases hlt : k < s.dat.length
    · obtain ⟨bd, od, hp1, hc1⟩ := (HD0.out.below hbw.out).at (k := k) hlt
      obtain ⟨y, hy⟩ : ∃ y, s.dat.getD k 0 = y := ⟨_, rfl⟩
      rw [hy] at hc1
      have HY := Lib.hid hy
      clear hy
      subst hp1
      obtain ⟨j, hj, hjn, hjk⟩ : ∃ j : Nat, ((s.dat.length : Int) - 1 - (k : Int) = (j : Int)) ∧ j < s.dat.length ∧ s.dat.length - 1 - k = j := ⟨s.dat.length - 1 - k, by omega, by omega, rfl⟩
      have HR1 := Lib.hid ((congrArg _ (hjk ▸ brow_set (fun i => s.dat.getD i 0) hlt (v := y) HY.out.symm)).mp (HR.out.stored j (.int .i64 y)).1)
      have a0 := (HR.out.cellAt j (by omega)).trans (hjk ▸ brow_at (fun i => s.dat.getD i 0) hlt)
      have a1 := HR.out.frozenAt j
      obtain ⟨⟨x0, x1, x2, x3, x4, x5, x6, x7, x8, x9, x10, x11, x12⟩, ⟨z0, z1, z2, z3, z4, z5, z6, z7, z8, z9, z10, z11, z12⟩, fz1, fz2⟩ := HT.out
      obtain ⟨⟨y0, y1, y2, y3, y4, y5, y6, y7, y8, y9, y10, y11, y12⟩, fy⟩ := HX.out
      clear hjk
      go_wp2
      go_region
      go_wp2
      go_roundw
      case rel => exact ⟨⟨k + 1, by omega, by go_num, HT.out.store nbg nbg1 _ _, HX.out.store nog _ _, HR1.out, (hbw.out.setCell hwg _).drew⟩⟩
      case measure => simp [intOf]; omega
    · have HE := Lib.hid (show brow (fun i => s.dat.getD i 0) s.dat.length k = s.dat.reverse.map (Value.int .i64) by
        rw [show k = s.dat.length by omega]
        exact brow_full _ (by simp) fun i hi => by simp [List.getD_eq_getElem?_getD, List.getElem?_reverse hi])
      have HO := Lib.hid (OwnS.of (l := s.dat.reverse) (HE.out ▸ HR.out) (by simp))
      obtain ⟨⟨x0, x1, x2, x3, x4, x5, x6, x7, x8, x9, x10, x11, x12⟩, ⟨z0, z1, z2, z3, z4, z5, z6, z7, z8, z9, z10, z11, z12⟩, fz1, fz2⟩ := HT.out
      obtain ⟨⟨y0, y1, y2, y3, y4, y5, y6, y7, y8, y9, y10, y11, y12⟩, fy⟩ := HX.out
      go_wp2
      go_region
      have HTq := Lib.hid (show Two (((wr.setCell ⟨o, 8, none⟩ (.int .i64 ((s.dat.length : Int) - s.fin))).setCell ⟨o, 9, none⟩ (.int .i64 ((s.dat.length : Int) - s.start))).drew) w.heap.size s p cap from (HT.out.store nbo nbo1 _ _).store nbo nbo1 _ _)
      have HXq := Lib.hid (show BF (((wr.setCell ⟨o, 8, none⟩ (.int .i64 ((s.dat.length : Int) - s.fin))).setCell ⟨o, 9, none⟩ (.int .i64 ((s.dat.length : Int) - s.start))).drew) o { s with start := ((s.dat.length : Int) - s.fin), fin := ((s.dat.length : Int) - s.start) } (some ⟨g, 0, none⟩) s.dat.length from HX.out.loop1 _ _)
      have HBq := Lib.hid (show Below w.heap.size w (((wr.setCell ⟨o, 8, none⟩ (.int .i64 ((s.dat.length : Int) - s.fin))).setCell ⟨o, 9, none⟩ (.int .i64 ((s.dat.length : Int) - s.start))).drew) from ((hbw.out.setCell hwo _).setCell hwo _).drew)
      have HOq := Lib.hid (show OwnS (((wr.setCell ⟨o, 8, none⟩ (.int .i64 ((s.dat.length : Int) - s.fin))).setCell ⟨o, 9, none⟩ (.int .i64 ((s.dat.length : Int) - s.start))).drew) B g s.dat.reverse from (HO.out.store (Ne.symm nog) _ _).store (Ne.symm nog) _ _)
      obtain ⟨W0, hW0⟩ : ∃ W0, W0 = (((wr.setCell ⟨o, 8, none⟩ (.int .i64 ((s.dat.length : Int) - s.fin))).setCell ⟨o, 9, none⟩ (.int .i64 ((s.dat.length : Int) - s.start))).drew) := ⟨_, rfl⟩
      rw [← hW0] at HTq HXq HBq HOq ⊢
      clear x0 x1 x2 x3 x4 x5 x6 x7 x8 x9 x10 x11 x12 z0 z1 z2 z3 z4 z5 z6 z7 z8 z9 z10 z11 z12 y0 y1 y2 y3 y4 y5 y6 y7 y8 y9 y10 y11 y12 fz1 fz2 fy
      clear hW0
      obtain ⟨⟨x0, x1, x2, x3, x4, x5, x6, x7, x8, x9, x10, x11, x12⟩, ⟨z0, z1, z2, z3, z4, z5, z6, z7, z8, z9, z10, z11, z12⟩, fz1, fz2⟩ := HTq.out
      obtain ⟨⟨y0, y1, y2, y3, y4, y5, y6, y7, y8, y9, y10, y11, y12⟩, fy⟩ := HXq.out
      have HT0' := HTq
      have HX0' := HXq
      have HB0' := HBq
      have HO0' := HOq
      clear HTq HXq HBq HOq
      go_wp2
      go_region
      have HTq := Lib.hid (show Two (((W0.setCell ⟨o, 11, none⟩ (.int .i64 ((s.dat.length : Int) - s.sfin))).setCell ⟨o, 12, none⟩ (.int .i64 ((s.dat.length : Int) - s.sstart))).drew) w.heap.size s p cap from (HT0'.out.store nbo nbo1 _ _).store nbo nbo1 _ _)
      have HXq := Lib.hid (show BF (((W0.setCell ⟨o, 11, none⟩ (.int .i64 ((s.dat.length : Int) - s.sfin))).setCell ⟨o, 12, none⟩ (.int .i64 ((s.dat.length : Int) - s.sstart))).drew) o { s with start := ((s.dat.length : Int) - s.fin), fin := ((s.dat.length : Int) - s.start), sstart := ((s.dat.length : Int) - s.sfin), sfin := ((s.dat.length : Int) - s.sstart) } (some ⟨g, 0, none⟩) s.dat.length from HX0'.out.loop2 _ _)
      have HBq := Lib.hid (show Below w.heap.size w (((W0.setCell ⟨o, 11, none⟩ (.int .i64 ((s.dat.length : Int) - s.sfin))).setCell ⟨o, 12, none⟩ (.int .i64 ((s.dat.length : Int) - s.sstart))).drew) from ((HB0'.out.setCell hwo _).setCell hwo _).drew)
      have HOq := Lib.hid (show OwnS (((W0.setCell ⟨o, 11, none⟩ (.int .i64 ((s.dat.length : Int) - s.sfin))).setCell ⟨o, 12, none⟩ (.int .i64 ((s.dat.length : Int) - s.sstart))).drew) B g s.dat.reverse from (HO0'.out.store (Ne.symm nog) _ _).store (Ne.symm nog) _ _)
      obtain ⟨W1, hW1⟩ : ∃ W1, W1 = (((W0.setCell ⟨o, 11, none⟩ (.int .i64 ((s.dat.length : Int) - s.sfin))).setCell ⟨o, 12, none⟩ (.int .i64 ((s.dat.length : Int) - s.sstart))).drew) := ⟨_, rfl⟩
      rw [← hW1] at HTq HXq HBq HOq ⊢
      clear x0 x1 x2 x3 x4 x5 x6 x7 x8 x9 x10 x11 x12 z0 z1 z2 z3 z4 z5 z6 z7 z8 z9 z10 z11 z12 y0 y1 y2 y3 y4 y5 y6 y7 y8 y9 y10 y11 y12 fz1 fz2 fy
      clear hW1
      obtain ⟨⟨x0, x1, x2, x3, x4, x5, x6, x7, x8, x9, x10, x11, x12⟩, ⟨z0, z1, z2, z3, z4, z5, z6, z7, z8, z9, z10, z11, z12⟩, fz1, fz2⟩ := HTq.out
      obtain ⟨⟨y0, y1, y2, y3, y4, y5, y6, y7, y8, y9, y10, y11, y12⟩, fy⟩ := HXq.out
      have HT1' := HTq
      have HX1' := HXq
      have HB1' := HBq
      have HO1' := HOq
      clear HTq HXq HBq HOq
      go_wp2
      have HQ := Lib.hid (show Sm.rev s = Sm.wth { s with start := ((s.dat.length : Int) - s.fin), fin := ((s.dat.length : Int) - s.start), sstart := ((s.dat.length : Int) - s.sfin), sfin := ((s.dat.length : Int) - s.sstart) } s.dat.reverse by
        unfold Sm.rev Sm.prv Sm.mirS Sm.mirE
        rw [if_neg (show ¬ (Sm.wth s s.dat.reverse).loop = 0 from (show ¬ s.loop = 0 by simpa using t1)), if_neg (show ¬ (Sm.wth s s.dat.reverse).loop = 0 from (show ¬ s.loop = 0 by simpa using t1)), if_neg (show ¬ (Sm.wth s s.dat.reverse).sus = 0 from (show ¬ s.sus = 0 by simpa using t2)), if_neg (show ¬ (Sm.wth s s.dat.reverse).sus = 0 from (show ¬ s.sus = 0 by simpa using t2))]
        rfl)
      rw [HQ.out]
      refine bodyPost_ret (v := .tuple #[SV (Sm.wth { s with start := ((s.dat.length : Int) - s.fin), fin := ((s.dat.length : Int) - s.start), sstart := ((s.dat.length : Int) - s.sfin), sfin := ((s.dat.length : Int) - s.sstart) } s.dat.reverse) (some ⟨g, 0, none⟩) s.dat.length, .int .i64 0]) ?_ rfl ⟨⟨g, s.dat.length, rfl, ?_, hwg⟩, Below13 HB1'.out (by omega)⟩
      · simp [results, Try.results27, go_sem, SV, Sm.wth, z0, z1, z2, z3, z4, z5, z6, z7, z8, z9, z10, z11, z12]
      · iterate 13 (refine dat_store ?_ (Ne.symm nbg1) _ _)
        exact HO1'.out.dat
set_option maxHeartbeats 1600000 in
theorem r_reverse_ok10 (s : Sm.Smp) (p : Option Addr) (cap : Nat)  (w : World) (hm : s.name.size ≤ maxLen) (hd : DatAt w p s.dat) (hv : Sm.vld s = true) (t1 : (s.loop != 0) = true) (t2 : (s.sus != 0) = false) :
    Calls Try.prog 27 #[SV s p cap] w fun x w' => RetR (Sm.rev s) w.heap.size x w' ∧ Below w.heap.size w w' := by
  have HVd := Lib.hid (rvalid_v s p cap ((w.alloc (.cells #[.string s.name, .slice p s.dat.length cap, .int .i64 s.bits, .int .i64 s.rate, .int .i64 s.vol, .int .i64 s.pan, .int .i64 s.fine, .int .i64 s.loop, .int .i64 s.start, .int .i64 s.fin, .int .i64 s.sus, .int .i64 s.sstart, .int .i64 s.sfin] 24)).alloc (.cells #[.string { data := #[] }, .slice none 0 0, .int .i64 0, .int .i64 0, .int .i64 0, .int .i64 0, .int .i64 0, .int .i64 0, .int .i64 0, .int .i64 0, .int .i64 0, .int .i64 0, .int .i64 0] 24)) hm (hd.below (((Below.refl w.heap.size w).alloc (Nat.le_refl _) (.cells #[.string s.name, .slice p s.dat.length cap, .int .i64 s.bits, .int .i64 s.rate, .int .i64 s.vol, .int .i64 s.pan, .int .i64 s.fine, .int .i64 s.loop, .int .i64 s.start, .int .i64 s.fin, .int .i64 s.sus, .int .i64 s.sstart, .int .i64 s.sfin] 24)).alloc (by simp) (.cells #[.string { data := #[] }, .slice none 0 0, .int .i64 0, .int .i64 0, .int .i64 0, .int .i64 0, .int .i64 0, .int .i64 0, .int .i64 0, .int .i64 0, .int .i64 0, .int .i64 0, .int .i64 0] 24))) hv)
  have HT0 := Lib.hid (two_new w s p cap)
  have HB0 := Lib.hid (((Below.refl w.heap.size w).alloc (Nat.le_refl _) (.cells #[.string s.name, .slice p s.dat.length cap, .int .i64 s.bits, .int .i64 s.rate, .int .i64 s.vol, .int .i64 s.pan, .int .i64 s.fine, .int .i64 s.loop, .int .i64 s.start, .int .i64 s.fin, .int .i64 s.sus, .int .i64 s.sstart, .int .i64 s.sfin] 24)).alloc (by simp) (.cells #[.string { data := #[] }, .slice none 0 0, .int .i64 0, .int .i64 0, .int .i64 0, .int .i64 0, .int .i64 0, .int .i64 0, .int .i64 0, .int .i64 0, .int .i64 0, .int .i64 0, .int .i64 0] 24))
  have hl : (s.dat.length : Int) ≤ 4096 := vld_len hv
  have hbnd := vld_bnd hv
  obtain ⟨⟨a1, a2⟩, ⟨b1, b2⟩, ⟨d1, d2⟩, ⟨e1, e2⟩, _, _⟩ := hbnd
  have HD0 := Lib.hid hd
  obtain ⟨i0, hinf, hz0, hz1, hz2⟩ := info_parts Try.infoInt
  clear hm hd hv
  unfold SV at HVd
  unfold SV
  go_enter Try.func27, Try.ntmps27
  go_wp2_with (first | (go_at_call 14; ((with_reducible refine HVd.out.mono ?_); rintro z w1 ⟨rfl, hb1⟩; have HB1 := Lib.hid (stepB HB0.out hb1); have HT1 := Lib.hid (HT0.out.kept hb1 (by simp)); obtain ⟨⟨x0, x1, x2, x3, x4, x5, x6, x7, x8, x9, x10, x11, x12⟩, ⟨z0, z1, z2, z3, z4, z5, z6, z7, z8, z9, z10, z11, z12⟩, fz1, fz2⟩ := HT1.out)) | (at_make; refine wpList_make_full _ rfl _ _ 22 rfl w1.heap.size 3 i0 (.int .i64 0) 1 Try.underlying22 hinf hz0 hz1 .i64 .i64 _ _ s.dat.length rfl rfl rfl rfl (by rw [hz2]; omega) (by unfold maxLen; omega) (by simp) ?_; intro w3 hown3 hgrow3; have HOWN := Lib.hid hown3; have hb3 := grown_below hgrow3; clear hown3 hgrow3; have HT3 := Lib.hid ((HT1.out.kept (below_box w1 (.cells #[.string s.name, .slice p s.dat.length cap, .int .i64 s.bits, .int .i64 s.rate, .int .i64 s.vol, .int .i64 s.pan, .int .i64 s.fine, .int .i64 s.loop, .int .i64 s.start, .int .i64 s.fin, .int .i64 s.sus, .int .i64 s.sstart, .int .i64 s.sfin] 24)) (by have := hb1.size; simp at this; omega)).kept hb3 (by have := hb1.size; simp at this ⊢; omega)); have HX3 := Lib.hid ((bf_new w1 s p cap).kept hb3); have HB3 := Lib.hid (stepB (stepB HB1.out (below_box w1 (.cells #[.string s.name, .slice p s.dat.length cap, .int .i64 s.bits, .int .i64 s.rate, .int .i64 s.vol, .int .i64 s.pan, .int .i64 s.fine, .int .i64 s.loop, .int .i64 s.start, .int .i64 s.fin, .int .i64 s.sus, .int .i64 s.sstart, .int .i64 s.sfin] 24))) hb3); obtain ⟨⟨x0, x1, x2, x3, x4, x5, x6, x7, x8, x9, x10, x11, x12⟩, ⟨z0, z1, z2, z3, z4, z5, z6, z7, z8, z9, z10, z11, z12⟩, fz1, fz2⟩ := HT3.out; obtain ⟨⟨y0, y1, y2, y3, y4, y5, y6, y7, y8, y9, y10, y11, y12⟩, fy⟩ := HX3.out))
  have z1 : w.heap.size + 2 ≤ w1.heap.size := by have := hb1.size; simp at this; omega
  have hg3 : w1.heap.size + 1 < w3.heap.size := by have := World.ownsRow.lt HOWN.out (w1.heap.size + 1) (by simp [Value.ownBlock]); simpa using this.2
  have HTW := Lib.hid (show Two (w3.setCell ⟨w1.heap.size, 1, none⟩ (.slice (some ⟨w1.heap.size + 1, 0, none⟩) s.dat.length s.dat.length)) w.heap.size s p cap from HT3.out.store (by omega) (by omega) _ _)
  have HXW := Lib.hid (show BF (w3.setCell ⟨w1.heap.size, 1, none⟩ (.slice (some ⟨w1.heap.size + 1, 0, none⟩) s.dat.length s.dat.length)) w1.heap.size s (some ⟨w1.heap.size + 1, 0, none⟩) s.dat.length from by
    obtain ⟨⟨x0, x1, x2, x3, x4, x5, x6, x7, x8, x9, x10, x11, x12⟩, fx⟩ := HX3.out
    have ne : ∀ (x y : Nat), x ≠ y → (⟨w1.heap.size, x, none⟩ : Addr) ≠ ⟨w1.heap.size, y, none⟩ := fun x y hxy e => hxy (congrArg Addr.off e)
    have eo : ∀ i, i ≠ 1 → (w3.setCell ⟨w1.heap.size, 1, none⟩ (.slice (some ⟨w1.heap.size + 1, 0, none⟩) s.dat.length s.dat.length)).cell? ⟨w1.heap.size, i, none⟩ = w3.cell? ⟨w1.heap.size, i, none⟩ := fun i h => World.cell?_setCell_other _ _ _ _ (ne 1 i h.symm)
    exact ⟨⟨(eo 0 (by omega)).trans x0, World.cell?_setCell_same _ _ _ x1, (eo 2 (by omega)).trans x2, (eo 3 (by omega)).trans x3, (eo 4 (by omega)).trans x4, (eo 5 (by omega)).trans x5, (eo 6 (by omega)).trans x6, (eo 7 (by omega)).trans x7, (eo 8 (by omega)).trans x8, (eo 9 (by omega)).trans x9, (eo 10 (by omega)).trans x10, (eo 11 (by omega)).trans x11, (eo 12 (by omega)).trans x12⟩, by simpa using fx⟩)
  have HRW := Lib.hid (show (w3.setCell ⟨w1.heap.size, 1, none⟩ (.slice (some ⟨w1.heap.size + 1, 0, none⟩) s.dat.length s.dat.length)).ownsRow w1.heap.size 3 1 (.slice (some ⟨w1.heap.size + 1, 0, none⟩) s.dat.length s.dat.length) s.dat.length (brow (fun i => s.dat.getD i 0) s.dat.length 0) by
    have e : (madeCells (Value.int .i64 0).cells (s.dat.length * 1)).toList = brow (fun i => s.dat.getD i 0) s.dat.length 0 := by rw [brow_zero, Nat.mul_one]; exact toList_madeCells_one _ s.dat.length
    have h := HOWN.out
    rw [e] at h
    refine ownsRow_setCell_other (by simpa using h) (by simp [Value.ownBlock]) _)
  have HBW := Lib.hid (show Below w.heap.size w (w3.setCell ⟨w1.heap.size, 1, none⟩ (.slice (some ⟨w1.heap.size + 1, 0, none⟩) s.dat.length s.dat.length)) from HB3.out.setCell (by simp; omega) _)
  obtain ⟨W, hW⟩ : ∃ W, W = (w3.setCell ⟨w1.heap.size, 1, none⟩ (.slice (some ⟨w1.heap.size + 1, 0, none⟩) s.dat.length s.dat.length)) := ⟨_, rfl⟩
  obtain ⟨o, hoe⟩ : ∃ o, o = w1.heap.size := ⟨_, rfl⟩
  obtain ⟨B, hBe⟩ : ∃ B, B = w1.heap.size := ⟨_, rfl⟩
  obtain ⟨g, hge⟩ : ∃ g, g = w1.heap.size + 1 := ⟨_, rfl⟩
  have nbg : w.heap.size ≠ g := by omega
  have nbg1 : w.heap.size + 1 ≠ g := by omega
  have nbo : w.heap.size ≠ o := by omega
  have nbo1 : w.heap.size + 1 ≠ o := by omega
  have nog : o ≠ g := by omega
  have hwg : w.heap.size ≤ g := by omega
  have hwo : w.heap.size ≤ o := by omega
  rw [← hW] at HTW HXW HRW HBW ⊢
  rw [← hge] at HXW HRW ⊢
  rw [← hoe] at HXW ⊢
  rw [← hBe] at HRW
  clear x0 x1 x2 x3 x4 x5 x6 x7 x8 x9 x10 x11 x12 z0 z1 z2 z3 z4 z5 z6 z7 z8 z9 z10 z11 z12 y0 y1 y2 y3 y4 y5 y6 y7 y8 y9 y10 y11 y12 fz1 fz2 fy
  clear HOWN hg3
  clear hW
  clear hge
  clear hoe
  clear z1 hBe
  clear HT3 HX3 HB3
  clear HT1 HT0
  clear HB1 HB0
  clear HVd
  go_loopw [6] (fun i wr => RR w s p cap w.heap.size o g B (fun i => s.dat.getD i 0) i wr) (fun i _ => s.dat.length - (intOf i).toNat)
  case atStart => exact ⟨⟨0, by omega, rfl, HTW.out, HXW.out, HRW.out, HBW.out⟩⟩
  case round =>
    clear HTW HXW HRW HBW
    obtain ⟨k, hk, rfl, HT, HX, HR, hbw⟩ := hrel.out
    clear hrel
    by_cases hlt : k < s.dat.length
    · obtain ⟨bd, od, hp1, hc1⟩ := (HD0.out.below hbw.out).at (k := k) hlt
      obtain ⟨y, hy⟩ : ∃ y, s.dat.getD k 0 = y := ⟨_, rfl⟩
      rw [hy] at hc1
      have HY := Lib.hid hy
      clear hy
      subst hp1
      obtain ⟨j, hj, hjn, hjk⟩ : ∃ j : Nat, ((s.dat.length : Int) - 1 - (k : Int) = (j : Int)) ∧ j < s.dat.length ∧ s.dat.length - 1 - k = j := ⟨s.dat.length - 1 - k, by omega, by omega, rfl⟩
      have HR1 := Lib.hid ((congrArg _ (hjk ▸ brow_set (fun i => s.dat.getD i 0) hlt (v := y) HY.out.symm)).mp (HR.out.stored j (.int .i64 y)).1)
      have a0 := (HR.out.cellAt j (by omega)).trans (hjk ▸ brow_at (fun i => s.dat.getD i 0) hlt)
      have a1 := HR.out.frozenAt j
      obtain ⟨⟨x0, x1, x2, x3, x4, x5, x6, x7, x8, x9, x10, x11, x12⟩, ⟨z0, z1, z2, z3, z4, z5, z6, z7, z8, z9, z10, z11, z12⟩, fz1, fz2⟩ := HT.out
      obtain ⟨⟨y0, y1, y2, y3, y4, y5, y6, y7, y8, y9, y10, y11, y12⟩, fy⟩ := HX.out
      clear hjk
      go_wp2
      go_region
      go_wp2
      go_roundw
      case rel => exact ⟨⟨k + 1, by omega, by go_num, HT.out.store nbg nbg1 _ _, HX.out.store nog _ _, HR1.out, (hbw.out.setCell hwg _).drew⟩⟩
      case measure => simp [intOf]; omega
    · have HE := Lib.hid (show brow (fun i => s.dat.getD i 0) s.dat.length k = s.dat.reverse.map (Value.int .i64) by
        rw [show k = s.dat.length by omega]
        exact brow_full _ (by simp) fun i hi => by simp [List.getD_eq_getElem?_getD, List.getElem?_reverse hi])
      have HO := Lib.hid (OwnS.of (l := s.dat.reverse) (HE.out ▸ HR.out) (by simp))
      obtain ⟨⟨x0, x1, x2, x3, x4, x5, x6, x7, x8, x9, x10, x11, x12⟩, ⟨z0, z1, z2, z3, z4, z5, z6, z7, z8, z9, z10, z11, z12⟩, fz1, fz2⟩ := HT.out
      obtain ⟨⟨y0, y1, y2, y3, y4, y5, y6, y7, y8, y9, y10, y11, y12⟩, fy⟩ := HX.out
      go_wp2
      go_region
      have HTq := Lib.hid (show Two (((wr.setCell ⟨o, 8, none⟩ (.int .i64 ((s.dat.length : Int) - s.fin))).setCell ⟨o, 9, none⟩ (.int .i64 ((s.dat.length : Int) - s.start))).drew) w.heap.size s p cap from (HT.out.store nbo nbo1 _ _).store nbo nbo1 _ _)
      have HXq := Lib.hid (show BF (((wr.setCell ⟨o, 8, none⟩ (.int .i64 ((s.dat.length : Int) - s.fin))).setCell ⟨o, 9, none⟩ (.int .i64 ((s.dat.length : Int) - s.start))).drew) o { s with start := ((s.dat.length : Int) - s.fin), fin := ((s.dat.length : Int) - s.start) } (some ⟨g, 0, none⟩) s.dat.length from HX.out.loop1 _ _)
      have HBq := Lib.hid (show Below w.heap.size w (((wr.setCell ⟨o, 8, none⟩ (.int .i64 ((s.dat.length : Int) - s.fin))).setCell ⟨o, 9, none⟩ (.int .i64 ((s.dat.length : Int) - s.start))).drew) from ((hbw.out.setCell hwo _).setCell hwo _).drew)
      have HOq := Lib.hid (show OwnS (((wr.setCell ⟨o, 8, none⟩ (.int .i64 ((s.dat.length : Int) - s.fin))).setCell ⟨o, 9, none⟩ (.int .i64 ((s.dat.length : Int) - s.start))).drew) B g s.dat.reverse from (HO.out.store (Ne.symm nog) _ _).store (Ne.symm nog) _ _)
      obtain ⟨W0, hW0⟩ : ∃ W0, W0 = (((wr.setCell ⟨o, 8, none⟩ (.int .i64 ((s.dat.length : Int) - s.fin))).setCell ⟨o, 9, none⟩ (.int .i64 ((s.dat.length : Int) - s.start))).drew) := ⟨_, rfl⟩
      rw [← hW0] at HTq HXq HBq HOq ⊢
      clear x0 x1 x2 x3 x4 x5 x6 x7 x8 x9 x10 x11 x12 z0 z1 z2 z3 z4 z5 z6 z7 z8 z9 z10 z11 z12 y0 y1 y2 y3 y4 y5 y6 y7 y8 y9 y10 y11 y12 fz1 fz2 fy
      clear hW0
      obtain ⟨⟨x0, x1, x2, x3, x4, x5, x6, x7, x8, x9, x10, x11, x12⟩, ⟨z0, z1, z2, z3, z4, z5, z6, z7, z8, z9, z10, z11, z12⟩, fz1, fz2⟩ := HTq.out
      obtain ⟨⟨y0, y1, y2, y3, y4, y5, y6, y7, y8, y9, y10, y11, y12⟩, fy⟩ := HXq.out
      have HT0' := HTq
      have HX0' := HXq
      have HB0' := HBq
      have HO0' := HOq
      clear HTq HXq HBq HOq
      go_wp2
      have HQ := Lib.hid (show Sm.rev s = Sm.wth { s with start := ((s.dat.length : Int) - s.fin), fin := ((s.dat.length : Int) - s.start) } s.dat.reverse by
        unfold Sm.rev Sm.prv Sm.mirS Sm.mirE
        rw [if_neg (show ¬ (Sm.wth s s.dat.reverse).loop = 0 from (show ¬ s.loop = 0 by simpa using t1)), if_neg (show ¬ (Sm.wth s s.dat.reverse).loop = 0 from (show ¬ s.loop = 0 by simpa using t1)), if_pos (show (Sm.wth s s.dat.reverse).sus = 0 from (show s.sus = 0 by simpa using t2)), if_pos (show (Sm.wth s s.dat.reverse).sus = 0 from (show s.sus = 0 by simpa using t2))]
        rfl)
      rw [HQ.out]
      refine bodyPost_ret (v := .tuple #[SV (Sm.wth { s with start := ((s.dat.length : Int) - s.fin), fin := ((s.dat.length : Int) - s.start) } s.dat.reverse) (some ⟨g, 0, none⟩) s.dat.length, .int .i64 0]) ?_ rfl ⟨⟨g, s.dat.length, rfl, ?_, hwg⟩, Below13 HB0'.out (by omega)⟩
      · simp [results, Try.results27, go_sem, SV, Sm.wth, z0, z1, z2, z3, z4, z5, z6, z7, z8, z9, z10, z11, z12]
      · iterate 13 (refine dat_store ?_ (Ne.symm nbg1) _ _)
        exact HO0'.out.dat
set_option maxHeartbeats 1600000 in
theorem r_reverse_ok01 (s : Sm.Smp) (p : Option Addr) (cap : Nat)  (w : World) (hm : s.name.size ≤ maxLen) (hd : DatAt w p s.dat) (hv : Sm.vld s = true) (t1 : (s.loop != 0) = false) (t2 : (s.sus != 0) = true) :
    Calls Try.prog 27 #[SV s p cap] w fun x w' => RetR (Sm.rev s) w.heap.size x w' ∧ Below w.heap.size w w' := by
  have HVd := Lib.hid (rvalid_v s p cap ((w.alloc (.cells #[.string s.name, .slice p s.dat.length cap, .int .i64 s.bits, .int .i64 s.rate, .int .i64 s.vol, .int .i64 s.pan, .int .i64 s.fine, .int .i64 s.loop, .int .i64 s.start, .int .i64 s.fin, .int .i64 s.sus, .int .i64 s.sstart, .int .i64 s.sfin] 24)).alloc (.cells #[.string { data := #[] }, .slice none 0 0, .int .i64 0, .int .i64 0, .int .i64 0, .int .i64 0, .int .i64 0, .int .i64 0, .int .i64 0, .int .i64 0, .int .i64 0, .int .i64 0, .int .i64 0] 24)) hm (hd.below (((Below.refl w.heap.size w).alloc (Nat.le_refl _) (.cells #[.string s.name, .slice p s.dat.length cap, .int .i64 s.bits, .int .i64 s.rate, .int .i64 s.vol, .int .i64 s.pan, .int .i64 s.fine, .int .i64 s.loop, .int .i64 s.start, .int .i64 s.fin, .int .i64 s.sus, .int .i64 s.sstart, .int .i64 s.sfin] 24)).alloc (by simp) (.cells #[.string { data := #[] }, .slice none 0 0, .int .i64 0, .int .i64 0, .int .i64 0, .int .i64 0, .int .i64 0, .int .i64 0, .int .i64 0, .int .i64 0, .int .i64 0, .int .i64 0, .int .i64 0] 24))) hv)
  have HT0 := Lib.hid (two_new w s p cap)
  have HB0 := Lib.hid (((Below.refl w.heap.size w).alloc (Nat.le_refl _) (.cells #[.string s.name, .slice p s.dat.length cap, .int .i64 s.bits, .int .i64 s.rate, .int .i64 s.vol, .int .i64 s.pan, .int .i64 s.fine, .int .i64 s.loop, .int .i64 s.start, .int .i64 s.fin, .int .i64 s.sus, .int .i64 s.sstart, .int .i64 s.sfin] 24)).alloc (by simp) (.cells #[.string { data := #[] }, .slice none 0 0, .int .i64 0, .int .i64 0, .int .i64 0, .int .i64 0, .int .i64 0, .int .i64 0, .int .i64 0, .int .i64 0, .int .i64 0, .int .i64 0, .int .i64 0] 24))
  have hl : (s.dat.length : Int) ≤ 4096 := vld_len hv
  have hbnd := vld_bnd hv
  obtain ⟨⟨a1, a2⟩, ⟨b1, b2⟩, ⟨d1, d2⟩, ⟨e1, e2⟩, _, _⟩ := hbnd
  have HD0 := Lib.hid hd
  obtain ⟨i0, hinf, hz0, hz1, hz2⟩ := info_parts Try.infoInt
  clear hm hd hv
  unfold SV at HVd
  unfold SV
  go_enter Try.func27, Try.ntmps27
  go_wp2_with (first | (go_at_call 14; ((with_reducible refine HVd.out.mono ?_); rintro z w1 ⟨rfl, hb1⟩; have HB1 := Lib.hid (stepB HB0.out hb1); have HT1 := Lib.hid (HT0.out.kept hb1 (by simp)); obtain ⟨⟨x0, x1, x2, x3, x4, x5, x6, x7, x8, x9, x10, x11, x12⟩, ⟨z0, z1, z2, z3, z4, z5, z6, z7, z8, z9, z10, z11, z12⟩, fz1, fz2⟩ := HT1.out)) | (at_make; refine wpList_make_full _ rfl _ _ 22 rfl w1.heap.size 3 i0 (.int .i64 0) 1 Try.underlying22 hinf hz0 hz1 .i64 .i64 _ _ s.dat.length rfl rfl rfl rfl (by rw [hz2]; omega) (by unfold maxLen; omega) (by simp) ?_; intro w3 hown3 hgrow3; have HOWN := Lib.hid hown3; have hb3 := grown_below hgrow3; clear hown3 hgrow3; have HT3 := Lib.hid ((HT1.out.kept (below_box w1 (.cells #[.string s.name, .slice p s.dat.length cap, .int .i64 s.bits, .int .i64 s.rate, .int .i64 s.vol, .int .i64 s.pan, .int .i64 s.fine, .int .i64 s.loop, .int .i64 s.start, .int .i64 s.fin, .int .i64 s.sus, .int .i64 s.sstart, .int .i64 s.sfin] 24)) (by have := hb1.size; simp at this; omega)).kept hb3 (by have := hb1.size; simp at this ⊢; omega)); have HX3 := Lib.hid ((bf_new w1 s p cap).kept hb3); have HB3 := Lib.hid (stepB (stepB HB1.out (below_box w1 (.cells #[.string s.name, .slice p s.dat.length cap, .int .i64 s.bits, .int .i64 s.rate, .int .i64 s.vol, .int .i64 s.pan, .int .i64 s.fine, .int .i64 s.loop, .int .i64 s.start, .int .i64 s.fin, .int .i64 s.sus, .int .i64 s.sstart, .int .i64 s.sfin] 24))) hb3); obtain ⟨⟨x0, x1, x2, x3, x4, x5, x6, x7, x8, x9, x10, x11, x12⟩, ⟨z0, z1, z2, z3, z4, z5, z6, z7, z8, z9, z10, z11, z12⟩, fz1, fz2⟩ := HT3.out; obtain ⟨⟨y0, y1, y2, y3, y4, y5, y6, y7, y8, y9, y10, y11, y12⟩, fy⟩ := HX3.out))
  have z1 : w.heap.size + 2 ≤ w1.heap.size := by have := hb1.size; simp at this; omega
  have hg3 : w1.heap.size + 1 < w3.heap.size := by have := World.ownsRow.lt HOWN.out (w1.heap.size + 1) (by simp [Value.ownBlock]); simpa using this.2
  have HTW := Lib.hid (show Two (w3.setCell ⟨w1.heap.size, 1, none⟩ (.slice (some ⟨w1.heap.size + 1, 0, none⟩) s.dat.length s.dat.length)) w.heap.size s p cap from HT3.out.store (by omega) (by omega) _ _)
  have HXW := Lib.hid (show BF (w3.setCell ⟨w1.heap.size, 1, none⟩ (.slice (some ⟨w1.heap.size + 1, 0, none⟩) s.dat.length s.dat.length)) w1.heap.size s (some ⟨w1.heap.size + 1, 0, none⟩) s.dat.length from by
    obtain ⟨⟨x0, x1, x2, x3, x4, x5, x6, x7, x8, x9, x10, x11, x12⟩, fx⟩ := HX3.out
    have ne : ∀ (x y : Nat), x ≠ y → (⟨w1.heap.size, x, none⟩ : Addr) ≠ ⟨w1.heap.size, y, none⟩ := fun x y hxy e => hxy (congrArg Addr.off e)
    have eo : ∀ i, i ≠ 1 → (w3.setCell ⟨w1.heap.size, 1, none⟩ (.slice (some ⟨w1.heap.size + 1, 0, none⟩) s.dat.length s.dat.length)).cell? ⟨w1.heap.size, i, none⟩ = w3.cell? ⟨w1.heap.size, i, none⟩ := fun i h => World.cell?_setCell_other _ _ _ _ (ne 1 i h.symm)
    exact ⟨⟨(eo 0 (by omega)).trans x0, World.cell?_setCell_same _ _ _ x1, (eo 2 (by omega)).trans x2, (eo 3 (by omega)).trans x3, (eo 4 (by omega)).trans x4, (eo 5 (by omega)).trans x5, (eo 6 (by omega)).trans x6, (eo 7 (by omega)).trans x7, (eo 8 (by omega)).trans x8, (eo 9 (by omega)).trans x9, (eo 10 (by omega)).trans x10, (eo 11 (by omega)).trans x11, (eo 12 (by omega)).trans x12⟩, by simpa using fx⟩)
  have HRW := Lib.hid (show (w3.setCell ⟨w1.heap.size, 1, none⟩ (.slice (some ⟨w1.heap.size + 1, 0, none⟩) s.dat.length s.dat.length)).ownsRow w1.heap.size 3 1 (.slice (some ⟨w1.heap.size + 1, 0, none⟩) s.dat.length s.dat.length) s.dat.length (brow (fun i => s.dat.getD i 0) s.dat.length 0) by
    have e : (madeCells (Value.int .i64 0).cells (s.dat.length * 1)).toList = brow (fun i => s.dat.getD i 0) s.dat.length 0 := by rw [brow_zero, Nat.mul_one]; exact toList_madeCells_one _ s.dat.length
    have h := HOWN.out
    rw [e] at h
    refine ownsRow_setCell_other (by simpa using h) (by simp [Value.ownBlock]) _)
  have HBW := Lib.hid (show Below w.heap.size w (w3.setCell ⟨w1.heap.size, 1, none⟩ (.slice (some ⟨w1.heap.size + 1, 0, none⟩) s.dat.length s.dat.length)) from HB3.out.setCell (by simp; omega) _)
  obtain ⟨W, hW⟩ : ∃ W, W = (w3.setCell ⟨w1.heap.size, 1, none⟩ (.slice (some ⟨w1.heap.size + 1, 0, none⟩) s.dat.length s.dat.length)) := ⟨_, rfl⟩
  obtain ⟨o, hoe⟩ : ∃ o, o = w1.heap.size := ⟨_, rfl⟩
  obtain ⟨B, hBe⟩ : ∃ B, B = w1.heap.size := ⟨_, rfl⟩
  obtain ⟨g, hge⟩ : ∃ g, g = w1.heap.size + 1 := ⟨_, rfl⟩
  have nbg : w.heap.size ≠ g := by omega
  have nbg1 : w.heap.size + 1 ≠ g := by omega
  have nbo : w.heap.size ≠ o := by omega
  have nbo1 : w.heap.size + 1 ≠ o := by omega
  have nog : o ≠ g := by omega
  have hwg : w.heap.size ≤ g := by omega
  have hwo : w.heap.size ≤ o := by omega
  rw [← hW] at HTW HXW HRW HBW ⊢
  rw [← hge] at HXW HRW ⊢
  rw [← hoe] at HXW ⊢
  rw [← hBe] at HRW
  clear x0 x1 x2 x3 x4 x5 x6 x7 x8 x9 x10 x11 x12 z0 z1 z2 z3 z4 z5 z6 z7 z8 z9 z10 z11 z12 y0 y1 y2 y3 y4 y5 y6 y7 y8 y9 y10 y11 y12 fz1 fz2 fy
  clear HOWN hg3
  clear hW
  clear hge
  clear hoe
  clear z1 hBe
  clear HT3 HX3 HB3
  clear HT1 HT0
  clear HB1 HB0
  clear HVd
  go_loopw [6] (fun i wr => RR w s p cap w.heap.size o g B (fun i => s.dat.getD i 0) i wr) (fun i _ => s.dat.length - (intOf i).toNat)
  case atStart => exact ⟨⟨0, by omega, rfl, HTW.out, HXW.out, HRW.out, HBW.out⟩⟩
  case round =>
    clear HTW HXW HRW HBW
    obtain ⟨k, hk, rfl, HT, HX, HR, hbw⟩ := hrel.out
    clear hrel
    by_cases hlt : k < s.dat.length
    · obtain ⟨bd, od, hp1, hc1⟩ := (HD0.out.below hbw.out).at (k := k) hlt
      obtain ⟨y, hy⟩ : ∃ y, s.dat.getD k 0 = y := ⟨_, rfl⟩
      rw [hy] at hc1
      have HY := Lib.hid hy
      clear hy
      subst hp1
      obtain ⟨j, hj, hjn, hjk⟩ : ∃ j : Nat, ((s.dat.length : Int) - 1 - (k : Int) = (j : Int)) ∧ j < s.dat.length ∧ s.dat.length - 1 - k = j := ⟨s.dat.length - 1 - k, by omega, by omega, rfl⟩
      have HR1 := Lib.hid ((congrArg _ (hjk ▸ brow_set (fun i => s.dat.getD i 0) hlt (v := y) HY.out.symm)).mp (HR.out.stored j (.int .i64 y)).1)
      have a0 := (HR.out.cellAt j (by omega)).trans (hjk ▸ brow_at (fun i => s.dat.getD i 0) hlt)
      have a1 := HR.out.frozenAt j
      obtain ⟨⟨x0, x1, x2, x3, x4, x5, x6, x7, x8, x9, x10, x11, x12⟩, ⟨z0, z1, z2, z3, z4, z5, z6, z7, z8, z9, z10, z11, z12⟩, fz1, fz2⟩ := HT.out
      obtain ⟨⟨y0, y1, y2, y3, y4, y5, y6, y7, y8, y9, y10, y11, y12⟩, fy⟩ := HX.out
      clear hjk
      go_wp2
      go_region
      go_wp2
      go_roundw
      case rel => exact ⟨⟨k + 1, by omega, by go_num, HT.out.store nbg nbg1 _ _, HX.out.store nog _ _, HR1.out, (hbw.out.setCell hwg _).drew⟩⟩
      case measure => simp [intOf]; omega
    · have HE := Lib.hid (show brow (fun i => s.dat.getD i 0) s.dat.length k = s.dat.reverse.map (Value.int .i64) by
        rw [show k = s.dat.length by omega]
        exact brow_full _ (by simp) fun i hi => by simp [List.getD_eq_getElem?_getD, List.getElem?_reverse hi])
      have HO := Lib.hid (OwnS.of (l := s.dat.reverse) (HE.out ▸ HR.out) (by simp))
      obtain ⟨⟨x0, x1, x2, x3, x4, x5, x6, x7, x8, x9, x10, x11, x12⟩, ⟨z0, z1, z2, z3, z4, z5, z6, z7, z8, z9, z10, z11, z12⟩, fz1, fz2⟩ := HT.out
      obtain ⟨⟨y0, y1, y2, y3, y4, y5, y6, y7, y8, y9, y10, y11, y12⟩, fy⟩ := HX.out
      go_wp2
      go_region
      have HTq := Lib.hid (show Two (((wr.setCell ⟨o, 11, none⟩ (.int .i64 ((s.dat.length : Int) - s.sfin))).setCell ⟨o, 12, none⟩ (.int .i64 ((s.dat.length : Int) - s.sstart))).drew) w.heap.size s p cap from (HT.out.store nbo nbo1 _ _).store nbo nbo1 _ _)
      have HXq := Lib.hid (show BF (((wr.setCell ⟨o, 11, none⟩ (.int .i64 ((s.dat.length : Int) - s.sfin))).setCell ⟨o, 12, none⟩ (.int .i64 ((s.dat.length : Int) - s.sstart))).drew) o { s with sstart := ((s.dat.length : Int) - s.sfin), sfin := ((s.dat.length : Int) - s.sstart) } (some ⟨g, 0, none⟩) s.dat.length from HX.out.loop2 _ _)
      have HBq := Lib.hid (show Below w.heap.size w (((wr.setCell ⟨o, 11, none⟩ (.int .i64 ((s.dat.length : Int) - s.sfin))).setCell ⟨o, 12, none⟩ (.int .i64 ((s.dat.length : Int) - s.sstart))).drew) from ((hbw.out.setCell hwo _).setCell hwo _).drew)
      have HOq := Lib.hid (show OwnS (((wr.setCell ⟨o, 11, none⟩ (.int .i64 ((s.dat.length : Int) - s.sfin))).setCell ⟨o, 12, none⟩ (.int .i64 ((s.dat.length : Int) - s.sstart))).drew) B g s.dat.reverse from (HO.out.store (Ne.symm nog) _ _).store (Ne.symm nog) _ _)
      obtain ⟨W0, hW0⟩ : ∃ W0, W0 = (((wr.setCell ⟨o, 11, none⟩ (.int .i64 ((s.dat.length : Int) - s.sfin))).setCell ⟨o, 12, none⟩ (.int .i64 ((s.dat.length : Int) - s.sstart))).drew) := ⟨_, rfl⟩
      rw [← hW0] at HTq HXq HBq HOq ⊢
      clear x0 x1 x2 x3 x4 x5 x6 x7 x8 x9 x10 x11 x12 z0 z1 z2 z3 z4 z5 z6 z7 z8 z9 z10 z11 z12 y0 y1 y2 y3 y4 y5 y6 y7 y8 y9 y10 y11 y12 fz1 fz2 fy
      clear hW0
      obtain ⟨⟨x0, x1, x2, x3, x4, x5, x6, x7, x8, x9, x10, x11, x12⟩, ⟨z0, z1, z2, z3, z4, z5, z6, z7, z8, z9, z10, z11, z12⟩, fz1, fz2⟩ := HTq.out
      obtain ⟨⟨y0, y1, y2, y3, y4, y5, y6, y7, y8, y9, y10, y11, y12⟩, fy⟩ := HXq.out
      have HT0' := HTq
      have HX0' := HXq
      have HB0' := HBq
      have HO0' := HOq
      clear HTq HXq HBq HOq
      go_wp2
      have HQ := Lib.hid (show Sm.rev s = Sm.wth { s with sstart := ((s.dat.length : Int) - s.sfin), sfin := ((s.dat.length : Int) - s.sstart) } s.dat.reverse by
        unfold Sm.rev Sm.prv Sm.mirS Sm.mirE
        rw [if_pos (show (Sm.wth s s.dat.reverse).loop = 0 from (show s.loop = 0 by simpa using t1)), if_pos (show (Sm.wth s s.dat.reverse).loop = 0 from (show s.loop = 0 by simpa using t1)), if_neg (show ¬ (Sm.wth s s.dat.reverse).sus = 0 from (show ¬ s.sus = 0 by simpa using t2)), if_neg (show ¬ (Sm.wth s s.dat.reverse).sus = 0 from (show ¬ s.sus = 0 by simpa using t2))]
        rfl)
      rw [HQ.out]
      refine bodyPost_ret (v := .tuple #[SV (Sm.wth { s with sstart := ((s.dat.length : Int) - s.sfin), sfin := ((s.dat.length : Int) - s.sstart) } s.dat.reverse) (some ⟨g, 0, none⟩) s.dat.length, .int .i64 0]) ?_ rfl ⟨⟨g, s.dat.length, rfl, ?_, hwg⟩, Below13 HB0'.out (by omega)⟩
      · simp [results, Try.results27, go_sem, SV, Sm.wth, z0, z1, z2, z3, z4, z5, z6, z7, z8, z9, z10, z11, z12]
      · iterate 13 (refine dat_store ?_ (Ne.symm nbg1) _ _)
        exact HO0'.out.dat
set_option maxHeartbeats 1600000 in
theorem r_reverse_ok00 (s : Sm.Smp) (p : Option Addr) (cap : Nat)  (w : World) (hm : s.name.size ≤ maxLen) (hd : DatAt w p s.dat) (hv : Sm.vld s = true) (t1 : (s.loop != 0) = false) (t2 : (s.sus != 0) = false) :
    Calls Try.prog 27 #[SV s p cap] w fun x w' => RetR (Sm.rev s) w.heap.size x w' ∧ Below w.heap.size w w' := by
  have HVd := Lib.hid (rvalid_v s p cap ((w.alloc (.cells #[.string s.name, .slice p s.dat.length cap, .int .i64 s.bits, .int .i64 s.rate, .int .i64 s.vol, .int .i64 s.pan, .int .i64 s.fine, .int .i64 s.loop, .int .i64 s.start, .int .i64 s.fin, .int .i64 s.sus, .int .i64 s.sstart, .int .i64 s.sfin] 24)).alloc (.cells #[.string { data := #[] }, .slice none 0 0, .int .i64 0, .int .i64 0, .int .i64 0, .int .i64 0, .int .i64 0, .int .i64 0, .int .i64 0, .int .i64 0, .int .i64 0, .int .i64 0, .int .i64 0] 24)) hm (hd.below (((Below.refl w.heap.size w).alloc (Nat.le_refl _) (.cells #[.string s.name, .slice p s.dat.length cap, .int .i64 s.bits, .int .i64 s.rate, .int .i64 s.vol, .int .i64 s.pan, .int .i64 s.fine, .int .i64 s.loop, .int .i64 s.start, .int .i64 s.fin, .int .i64 s.sus, .int .i64 s.sstart, .int .i64 s.sfin] 24)).alloc (by simp) (.cells #[.string { data := #[] }, .slice none 0 0, .int .i64 0, .int .i64 0, .int .i64 0, .int .i64 0, .int .i64 0, .int .i64 0, .int .i64 0, .int .i64 0, .int .i64 0, .int .i64 0, .int .i64 0] 24))) hv)
  have HT0 := Lib.hid (two_new w s p cap)
  have HB0 := Lib.hid (((Below.refl w.heap.size w).alloc (Nat.le_refl _) (.cells #[.string s.name, .slice p s.dat.length cap, .int .i64 s.bits, .int .i64 s.rate, .int .i64 s.vol, .int .i64 s.pan, .int .i64 s.fine, .int .i64 s.loop, .int .i64 s.start, .int .i64 s.fin, .int .i64 s.sus, .int .i64 s.sstart, .int .i64 s.sfin] 24)).alloc (by simp) (.cells #[.string { data := #[] }, .slice none 0 0, .int .i64 0, .int .i64 0, .int .i64 0, .int .i64 0, .int .i64 0, .int .i64 0, .int .i64 0, .int .i64 0, .int .i64 0, .int .i64 0, .int .i64 0] 24))
  have hl : (s.dat.length : Int) ≤ 4096 := vld_len hv
  have hbnd := vld_bnd hv
  obtain ⟨⟨a1, a2⟩, ⟨b1, b2⟩, ⟨d1, d2⟩, ⟨e1, e2⟩, _, _⟩ := hbnd
  have HD0 := Lib.hid hd
  obtain ⟨i0, hinf, hz0, hz1, hz2⟩ := info_parts Try.infoInt
  clear hm hd hv
  unfold SV at HVd
  unfold SV
  go_enter Try.func27, Try.ntmps27
  go_wp2_with (first | (go_at_call 14; ((with_reducible refine HVd.out.mono ?_); rintro z w1 ⟨rfl, hb1⟩; have HB1 := Lib.hid (stepB HB0.out hb1); have HT1 := Lib.hid (HT0.out.kept hb1 (by simp)); obtain ⟨⟨x0, x1, x2, x3, x4, x5, x6, x7, x8, x9, x10, x11, x12⟩, ⟨z0, z1, z2, z3, z4, z5, z6, z7, z8, z9, z10, z11, z12⟩, fz1, fz2⟩ := HT1.out)) | (at_make; refine wpList_make_full _ rfl _ _ 22 rfl w1.heap.size 3 i0 (.int .i64 0) 1 Try.underlying22 hinf hz0 hz1 .i64 .i64 _ _ s.dat.length rfl rfl rfl rfl (by rw [hz2]; omega) (by unfold maxLen; omega) (by simp) ?_; intro w3 hown3 hgrow3; have HOWN := Lib.hid hown3; have hb3 := grown_below hgrow3; clear hown3 hgrow3; have HT3 := Lib.hid ((HT1.out.kept (below_box w1 (.cells #[.string s.name, .slice p s.dat.length cap, .int .i64 s.bits, .int .i64 s.rate, .int .i64 s.vol, .int .i64 s.pan, .int .i64 s.fine, .int .i64 s.loop, .int .i64 s.start, .int .i64 s.fin, .int .i64 s.sus, .int .i64 s.sstart, .int .i64 s.sfin] 24)) (by have := hb1.size; simp at this; omega)).kept hb3 (by have := hb1.size; simp at this ⊢; omega)); have HX3 := Lib.hid ((bf_new w1 s p cap).kept hb3); have HB3 := Lib.hid (stepB (stepB HB1.out (below_box w1 (.cells #[.string s.name, .slice p s.dat.length cap, .int .i64 s.bits, .int .i64 s.rate, .int .i64 s.vol, .int .i64 s.pan, .int .i64 s.fine, .int .i64 s.loop, .int .i64 s.start, .int .i64 s.fin, .int .i64 s.sus, .int .i64 s.sstart, .int .i64 s.sfin] 24))) hb3); obtain ⟨⟨x0, x1, x2, x3, x4, x5, x6, x7, x8, x9, x10, x11, x12⟩, ⟨z0, z1, z2, z3, z4, z5, z6, z7, z8, z9, z10, z11, z12⟩, fz1, fz2⟩ := HT3.out; obtain ⟨⟨y0, y1, y2, y3, y4, y5, y6, y7, y8, y9, y10, y11, y12⟩, fy⟩ := HX3.out))
  have z1 : w.heap.size + 2 ≤ w1.heap.size := by have := hb1.size; simp at this; omega
  have hg3 : w1.heap.size + 1 < w3.heap.size := by have := World.ownsRow.lt HOWN.out (w1.heap.size + 1) (by simp [Value.ownBlock]); simpa using this.2
  have HTW := Lib.hid (show Two (w3.setCell ⟨w1.heap.size, 1, none⟩ (.slice (some ⟨w1.heap.size + 1, 0, none⟩) s.dat.length s.dat.length)) w.heap.size s p cap from HT3.out.store (by omega) (by omega) _ _)
  have HXW := Lib.hid (show BF (w3.setCell ⟨w1.heap.size, 1, none⟩ (.slice (some ⟨w1.heap.size + 1, 0, none⟩) s.dat.length s.dat.length)) w1.heap.size s (some ⟨w1.heap.size + 1, 0, none⟩) s.dat.length from by
    obtain ⟨⟨x0, x1, x2, x3, x4, x5, x6, x7, x8, x9, x10, x11, x12⟩, fx⟩ := HX3.out
    have ne : ∀ (x y : Nat), x ≠ y → (⟨w1.heap.size, x, none⟩ : Addr) ≠ ⟨w1.heap.size, y, none⟩ := fun x y hxy e => hxy (congrArg Addr.off e)
    have eo : ∀ i, i ≠ 1 → (w3.setCell ⟨w1.heap.size, 1, none⟩ (.slice (some ⟨w1.heap.size + 1, 0, none⟩) s.dat.length s.dat.length)).cell? ⟨w1.heap.size, i, none⟩ = w3.cell? ⟨w1.heap.size, i, none⟩ := fun i h => World.cell?_setCell_other _ _ _ _ (ne 1 i h.symm)
    exact ⟨⟨(eo 0 (by omega)).trans x0, World.cell?_setCell_same _ _ _ x1, (eo 2 (by omega)).trans x2, (eo 3 (by omega)).trans x3, (eo 4 (by omega)).trans x4, (eo 5 (by omega)).trans x5, (eo 6 (by omega)).trans x6, (eo 7 (by omega)).trans x7, (eo 8 (by omega)).trans x8, (eo 9 (by omega)).trans x9, (eo 10 (by omega)).trans x10, (eo 11 (by omega)).trans x11, (eo 12 (by omega)).trans x12⟩, by simpa using fx⟩)
  have HRW := Lib.hid (show (w3.setCell ⟨w1.heap.size, 1, none⟩ (.slice (some ⟨w1.heap.size + 1, 0, none⟩) s.dat.length s.dat.length)).ownsRow w1.heap.size 3 1 (.slice (some ⟨w1.heap.size + 1, 0, none⟩) s.dat.length s.dat.length) s.dat.length (brow (fun i => s.dat.getD i 0) s.dat.length 0) by
    have e : (madeCells (Value.int .i64 0).cells (s.dat.length * 1)).toList = brow (fun i => s.dat.getD i 0) s.dat.length 0 := by rw [brow_zero, Nat.mul_one]; exact toList_madeCells_one _ s.dat.length
    have h := HOWN.out
    rw [e] at h
    refine ownsRow_setCell_other (by simpa using h) (by simp [Value.ownBlock]) _)
  have HBW := Lib.hid (show Below w.heap.size w (w3.setCell ⟨w1.heap.size, 1, none⟩ (.slice (some ⟨w1.heap.size + 1, 0, none⟩) s.dat.length s.dat.length)) from HB3.out.setCell (by simp; omega) _)
  obtain ⟨W, hW⟩ : ∃ W, W = (w3.setCell ⟨w1.heap.size, 1, none⟩ (.slice (some ⟨w1.heap.size + 1, 0, none⟩) s.dat.length s.dat.length)) := ⟨_, rfl⟩
  obtain ⟨o, hoe⟩ : ∃ o, o = w1.heap.size := ⟨_, rfl⟩
  obtain ⟨B, hBe⟩ : ∃ B, B = w1.heap.size := ⟨_, rfl⟩
  obtain ⟨g, hge⟩ : ∃ g, g = w1.heap.size + 1 := ⟨_, rfl⟩
  have nbg : w.heap.size ≠ g := by omega
  have nbg1 : w.heap.size + 1 ≠ g := by omega
  have nbo : w.heap.size ≠ o := by omega
  have nbo1 : w.heap.size + 1 ≠ o := by omega
  have nog : o ≠ g := by omega
  have hwg : w.heap.size ≤ g := by omega
  have hwo : w.heap.size ≤ o := by omega
  rw [← hW] at HTW HXW HRW HBW ⊢
  rw [← hge] at HXW HRW ⊢
  rw [← hoe] at HXW ⊢
  rw [← hBe] at HRW
  clear x0 x1 x2 x3 x4 x5 x6 x7 x8 x9 x10 x11 x12 z0 z1 z2 z3 z4 z5 z6 z7 z8 z9 z10 z11 z12 y0 y1 y2 y3 y4 y5 y6 y7 y8 y9 y10 y11 y12 fz1 fz2 fy
  clear HOWN hg3
  clear hW
  clear hge
  clear hoe
  clear z1 hBe
  clear HT3 HX3 HB3
  clear HT1 HT0
  clear HB1 HB0
  clear HVd
  go_loopw [6] (fun i wr => RR w s p cap w.heap.size o g B (fun i => s.dat.getD i 0) i wr) (fun i _ => s.dat.length - (intOf i).toNat)
  case atStart => exact ⟨⟨0, by omega, rfl, HTW.out, HXW.out, HRW.out, HBW.out⟩⟩
  case round =>
    clear HTW HXW HRW HBW
    obtain ⟨k, hk, rfl, HT, HX, HR, hbw⟩ := hrel.out
    clear hrel
    by_cases hlt : k < s.dat.length
    · obtain ⟨bd, od, hp1, hc1⟩ := (HD0.out.below hbw.out).at (k := k) hlt
      obtain ⟨y, hy⟩ : ∃ y, s.dat.getD k 0 = y := ⟨_, rfl⟩
      rw [hy] at hc1
      have HY := Lib.hid hy
      clear hy
      subst hp1
      obtain ⟨j, hj, hjn, hjk⟩ : ∃ j : Nat, ((s.dat.length : Int) - 1 - (k : Int) = (j : Int)) ∧ j < s.dat.length ∧ s.dat.length - 1 - k = j := ⟨s.dat.length - 1 - k, by omega, by omega, rfl⟩
      have HR1 := Lib.hid ((congrArg _ (hjk ▸ brow_set (fun i => s.dat.getD i 0) hlt (v := y) HY.out.symm)).mp (HR.out.stored j (.int .i64 y)).1)
      have a0 := (HR.out.cellAt j (by omega)).trans (hjk ▸ brow_at (fun i => s.dat.getD i 0) hlt)
      have a1 := HR.out.frozenAt j
      obtain ⟨⟨x0, x1, x2, x3, x4, x5, x6, x7, x8, x9, x10, x11, x12⟩, ⟨z0, z1, z2, z3, z4, z5, z6, z7, z8, z9, z10, z11, z12⟩, fz1, fz2⟩ := HT.out
      obtain ⟨⟨y0, y1, y2, y3, y4, y5, y6, y7, y8, y9, y10, y11, y12⟩, fy⟩ := HX.out
      clear hjk
      go_wp2
      go_region
      go_wp2
      go_roundw
      case rel => exact ⟨⟨k + 1, by omega, by go_num, HT.out.store nbg nbg1 _ _, HX.out.store nog _ _, HR1.out, (hbw.out.setCell hwg _).drew⟩⟩
      case measure => simp [intOf]; omega
    · have HE := Lib.hid (show brow (fun i => s.dat.getD i 0) s.dat.length k = s.dat.reverse.map (Value.int .i64) by
        rw [show k = s.dat.length by omega]
        exact brow_full _ (by simp) fun i hi => by simp [List.getD_eq_getElem?_getD, List.getElem?_reverse hi])
      have HO := Lib.hid (OwnS.of (l := s.dat.reverse) (HE.out ▸ HR.out) (by simp))
      obtain ⟨⟨x0, x1, x2, x3, x4, x5, x6, x7, x8, x9, x10, x11, x12⟩, ⟨z0, z1, z2, z3, z4, z5, z6, z7, z8, z9, z10, z11, z12⟩, fz1, fz2⟩ := HT.out
      obtain ⟨⟨y0, y1, y2, y3, y4, y5, y6, y7, y8, y9, y10, y11, y12⟩, fy⟩ := HX.out
      go_wp2
      have HQ := Lib.hid (show Sm.rev s = Sm.wth s s.dat.reverse by
        unfold Sm.rev Sm.prv Sm.mirS Sm.mirE
        rw [if_pos (show (Sm.wth s s.dat.reverse).loop = 0 from (show s.loop = 0 by simpa using t1)), if_pos (show (Sm.wth s s.dat.reverse).loop = 0 from (show s.loop = 0 by simpa using t1)), if_pos (show (Sm.wth s s.dat.reverse).sus = 0 from (show s.sus = 0 by simpa using t2)), if_pos (show (Sm.wth s s.dat.reverse).sus = 0 from (show s.sus = 0 by simpa using t2))])
      rw [HQ.out]
      refine bodyPost_ret (v := .tuple #[SV (Sm.wth s s.dat.reverse) (some ⟨g, 0, none⟩) s.dat.length, .int .i64 0]) ?_ rfl ⟨⟨g, s.dat.length, rfl, ?_, hwg⟩, Below13 hbw.out (by omega)⟩
      · simp [results, Try.results27, go_sem, SV, Sm.wth, z0, z1, z2, z3, z4, z5, z6, z7, z8, z9, z10, z11, z12]
      · iterate 13 (refine dat_store ?_ (Ne.symm nbg1) _ _)
        exact HO.out.dat
theorem r_reverse_ok (s : Sm.Smp) (p : Option Addr) (cap : Nat) (w : World) (hm : s.name.size ≤ maxLen) (hd : DatAt w p s.dat) (hv : Sm.vld s = true) :
    Calls Try.prog 27 #[SV s p cap] w fun x w' => RetR (Sm.rev s) w.heap.size x w' ∧ Below w.heap.size w w' := by
  cases t1 : (s.loop != 0)
  · cases t2 : (s.sus != 0)
    · exact r_reverse_ok00 s p cap w hm hd hv t1 t2
    · exact r_reverse_ok01 s p cap w hm hd hv t1 t2
  · cases t2 : (s.sus != 0)
    · exact r_reverse_ok10 s p cap w hm hd hv t1 t2
    · exact r_reverse_ok11 s p cap w hm hd hv t1 t2
end Go.Proofs.Ytmaldhjcdkidmaa

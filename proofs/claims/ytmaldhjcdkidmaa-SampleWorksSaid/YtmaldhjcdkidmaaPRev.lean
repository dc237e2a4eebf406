/-
  The contract of package sample's Reverse.
-/
import Derived.Test.YtmaldhjcdkidmaaPChgR
import Derived.Test.YtmaldhjcdkidmaaPCvt
namespace Go.Proofs.Ytmaldhjcdkidmaa
open Go.RowKit

theorem vld_bnd {s : Sm.Smp} (hv : Sm.vld s = true) : (0 ≤ s.start ∧ s.start ≤ 4096) ∧ (0 ≤ s.fin ∧ s.fin ≤ 4096) ∧ (0 ≤ s.sstart ∧ s.sstart ≤ 4096) ∧ (0 ≤ s.sfin ∧ s.sfin ≤ 4096) ∧ (s.loop = 0 → s.start = 0 ∧ s.fin = 0) ∧ (s.sus = 0 → s.sstart = 0 ∧ s.sfin = 0) := by
  have hn := vld_len hv
  have hh := (Sm.vld_iff s).1 hv
  have h3 := (Sm.lpd_iff _ _ _ _).1 hh.2.2.1
  have h4 := (Sm.lpd_iff _ _ _ _).1 hh.2.2.2
  omega
set_option maxHeartbeats 1600000 in
theorem p_reverse_bad (s : Sm.Smp) (p : Option Addr) (cap : Nat) (w : World) (hm : s.name.size ≤ maxLen) (hd : DatAt w p s.dat) (hv : Sm.vld s = false)  :
    Calls Try.prog 26 #[SV s p cap] w fun x w' => x = .returned (.tuple #[SV zer none 0, .int .i64 1]) ∧ Below w.heap.size w w' := by
  have HVd := Lib.hid (p_valid_v s p cap ((w.alloc (.cells #[.string s.name, .slice p s.dat.length cap, .int .i64 s.bits, .int .i64 s.rate, .int .i64 s.vol, .int .i64 s.pan, .int .i64 s.fine, .int .i64 s.loop, .int .i64 s.start, .int .i64 s.fin, .int .i64 s.sus, .int .i64 s.sstart, .int .i64 s.sfin] 24)).alloc (.cells #[.string { data := #[] }, .slice none 0 0, .int .i64 0, .int .i64 0, .int .i64 0, .int .i64 0, .int .i64 0, .int .i64 0, .int .i64 0, .int .i64 0, .int .i64 0, .int .i64 0, .int .i64 0] 24)) hm (hd.below (((Below.refl w.heap.size w).alloc (Nat.le_refl _) (.cells #[.string s.name, .slice p s.dat.length cap, .int .i64 s.bits, .int .i64 s.rate, .int .i64 s.vol, .int .i64 s.pan, .int .i64 s.fine, .int .i64 s.loop, .int .i64 s.start, .int .i64 s.fin, .int .i64 s.sus, .int .i64 s.sstart, .int .i64 s.sfin] 24)).alloc (by simp) (.cells #[.string { data := #[] }, .slice none 0 0, .int .i64 0, .int .i64 0, .int .i64 0, .int .i64 0, .int .i64 0, .int .i64 0, .int .i64 0, .int .i64 0, .int .i64 0, .int .i64 0, .int .i64 0] 24))) hv)
  have HT0 := Lib.hid (two_new w s p cap)
  have HB0 := Lib.hid (((Below.refl w.heap.size w).alloc (Nat.le_refl _) (.cells #[.string s.name, .slice p s.dat.length cap, .int .i64 s.bits, .int .i64 s.rate, .int .i64 s.vol, .int .i64 s.pan, .int .i64 s.fine, .int .i64 s.loop, .int .i64 s.start, .int .i64 s.fin, .int .i64 s.sus, .int .i64 s.sstart, .int .i64 s.sfin] 24)).alloc (by simp) (.cells #[.string { data := #[] }, .slice none 0 0, .int .i64 0, .int .i64 0, .int .i64 0, .int .i64 0, .int .i64 0, .int .i64 0, .int .i64 0, .int .i64 0, .int .i64 0, .int .i64 0, .int .i64 0] 24))
  clear hm hd
  unfold SV at HVd
  unfold SV
  go_enter Try.func26, Try.ntmps26
  go_wp2_with (first | (go_at_call 13; ((with_reducible refine HVd.out.mono ?_); rintro z w1 ⟨rfl, hb1⟩; have HB1 := Lib.hid (stepB HB0.out hb1); have HT1 := Lib.hid (HT0.out.kept hb1 (by simp)); obtain ⟨⟨x0, x1, x2, x3, x4, x5, x6, x7, x8, x9, x10, x11, x12⟩, ⟨z0, z1, z2, z3, z4, z5, z6, z7, z8, z9, z10, z11, z12⟩, fz1, fz2⟩ := HT1.out)))
  refine bodyPost_ret (v := .tuple #[SV zer none 0, .int .i64 1]) ?_ rfl ⟨rfl, Below13 HB1.out (by omega)⟩
  simp [results, Try.results26, go_sem, SV, zer, z0, z1, z2, z3, z4, z5, z6, z7, z8, z9, z10, z11, z12] <;> rfl
set_option maxHeartbeats 1600000 in
theorem p_reverse_ok (s : Sm.Smp) (p : Option Addr) (cap : Nat) (w : World) (hm : s.name.size ≤ maxLen) (hd : DatAt w p s.dat) (hv : Sm.vld s = true)  :
    Calls Try.prog 26 #[SV s p cap] w fun x w' => RetS (Sm.rev s) w.heap.size x w' ∧ Below w.heap.size w w' := by
  have HVd := Lib.hid (p_valid_v s p cap ((w.alloc (.cells #[.string s.name, .slice p s.dat.length cap, .int .i64 s.bits, .int .i64 s.rate, .int .i64 s.vol, .int .i64 s.pan, .int .i64 s.fine, .int .i64 s.loop, .int .i64 s.start, .int .i64 s.fin, .int .i64 s.sus, .int .i64 s.sstart, .int .i64 s.sfin] 24)).alloc (.cells #[.string { data := #[] }, .slice none 0 0, .int .i64 0, .int .i64 0, .int .i64 0, .int .i64 0, .int .i64 0, .int .i64 0, .int .i64 0, .int .i64 0, .int .i64 0, .int .i64 0, .int .i64 0] 24)) hm (hd.below (((Below.refl w.heap.size w).alloc (Nat.le_refl _) (.cells #[.string s.name, .slice p s.dat.length cap, .int .i64 s.bits, .int .i64 s.rate, .int .i64 s.vol, .int .i64 s.pan, .int .i64 s.fine, .int .i64 s.loop, .int .i64 s.start, .int .i64 s.fin, .int .i64 s.sus, .int .i64 s.sstart, .int .i64 s.sfin] 24)).alloc (by simp) (.cells #[.string { data := #[] }, .slice none 0 0, .int .i64 0, .int .i64 0, .int .i64 0, .int .i64 0, .int .i64 0, .int .i64 0, .int .i64 0, .int .i64 0, .int .i64 0, .int .i64 0, .int .i64 0] 24))) hv)
  have HT0 := Lib.hid (two_new w s p cap)
  have HB0 := Lib.hid (((Below.refl w.heap.size w).alloc (Nat.le_refl _) (.cells #[.string s.name, .slice p s.dat.length cap, .int .i64 s.bits, .int .i64 s.rate, .int .i64 s.vol, .int .i64 s.pan, .int .i64 s.fine, .int .i64 s.loop, .int .i64 s.start, .int .i64 s.fin, .int .i64 s.sus, .int .i64 s.sstart, .int .i64 s.sfin] 24)).alloc (by simp) (.cells #[.string { data := #[] }, .slice none 0 0, .int .i64 0, .int .i64 0, .int .i64 0, .int .i64 0, .int .i64 0, .int .i64 0, .int .i64 0, .int .i64 0, .int .i64 0, .int .i64 0, .int .i64 0] 24))
  have hl : (s.dat.length : Int) ≤ 4096 := vld_len hv
  have hbnd := vld_bnd hv
  have HPl := Lib.hid (fun g c w' hc => p_place_rev (Sm.wth s s.dat.reverse) (some ⟨g, 0, none⟩) s.dat.length s.dat.length c w' hc (by omega) (by omega) (show _ ≤ s.start by omega) (show s.start ≤ _ by omega) (show _ ≤ s.fin by omega) (show s.fin ≤ _ by omega) (show _ ≤ s.sstart by omega) (show s.sstart ≤ _ by omega) (show _ ≤ s.sfin by omega) (show s.sfin ≤ _ by omega))
  have HD0 := Lib.hid hd
  obtain ⟨i0, hinf, hz0, hz1, hz2⟩ := info_parts Try.infoInt
  clear hm hd hbnd hv
  unfold SV at HVd HPl
  unfold Sm.prv Sm.wth at HPl
  simp only [List.length_reverse] at HPl
  unfold SV
  go_enter Try.func26, Try.ntmps26
  go_wp2_with (first | (go_at_call 13; ((with_reducible refine HVd.out.mono ?_); rintro z w1 ⟨rfl, hb1⟩; have HB1 := Lib.hid (stepB HB0.out hb1); have HT1 := Lib.hid (HT0.out.kept hb1 (by simp)); obtain ⟨⟨x0, x1, x2, x3, x4, x5, x6, x7, x8, x9, x10, x11, x12⟩, ⟨z0, z1, z2, z3, z4, z5, z6, z7, z8, z9, z10, z11, z12⟩, fz1, fz2⟩ := HT1.out)) | (at_make; refine wpList_make_full _ rfl _ _ 22 rfl w.heap.size 3 i0 (.int .i64 0) 1 Try.underlying22 hinf hz0 hz1 .i64 .i64 _ _ s.dat.length rfl rfl rfl rfl (by rw [hz2]; omega) (by unfold maxLen; omega) (by have := hb1.size; simp at this ⊢; omega) ?_; intro w3 hown3 hgrow3; have HOWN := Lib.hid hown3; have hb3 := grown_below hgrow3; clear hown3 hgrow3; have HT3 := Lib.hid ((HT1.out.kept (below_box w1 (.cells #[.int .i64 s.dat.length] 3)) (by have := hb1.size; simp at this; omega)).kept hb3 (by have := hb1.size; simp at this ⊢; omega)); have HB3 := Lib.hid (stepB (stepB HB1.out (below_box w1 (.cells #[.int .i64 s.dat.length] 3))) hb3); have HC3 := Lib.hid (show w3.cell? ⟨w1.heap.size, 0, none⟩ = some (.int .i64 s.dat.length) from kept_cell hb3 (by simp [World.cell?_alloc_new])); have hc3 := HC3.out; obtain ⟨⟨x0, x1, x2, x3, x4, x5, x6, x7, x8, x9, x10, x11, x12⟩, ⟨z0, z1, z2, z3, z4, z5, z6, z7, z8, z9, z10, z11, z12⟩, fz1, fz2⟩ := HT3.out))
  have HOW : w3.ownsRow w.heap.size 3 1 (.slice (some ⟨w1.heap.size + 1, 0, none⟩) s.dat.length s.dat.length) s.dat.length (brow (fun i => s.dat.getD i 0) s.dat.length 0) := by
    have e : (madeCells (Value.int .i64 0).cells (s.dat.length * 1)).toList = brow (fun i => s.dat.getD i 0) s.dat.length 0 := by rw [brow_zero, Nat.mul_one]; exact toList_madeCells_one _ s.dat.length
    have := HOWN.out
    rw [e] at this
    simpa using this
  have HST := Lib.hid (show MB w3 w.heap.size (w1.heap.size + 1) s.dat.length s p cap w.heap.size (brow (fun i => s.dat.getD i 0) s.dat.length 0) from ⟨HT3.out, HOW⟩)
  have z1 : w.heap.size + 2 ≤ w1.heap.size := by have := hb1.size; simp at this; omega
  obtain ⟨c, hce⟩ : ∃ c, c = w1.heap.size := ⟨_, rfl⟩
  have ncg : c ≠ c + 1 := by omega
  rw [← hce] at HST HC3 ⊢
  have nbc : w.heap.size ≠ c := by omega
  have nb1c : w.heap.size + 1 ≠ c := by omega
  obtain ⟨g, hge⟩ : ∃ g, g = c + 1 := ⟨_, rfl⟩
  rw [← hge] at HST ncg ⊢
  have hlg : w.heap.size ≤ g := by omega
  have nbg : w.heap.size ≠ g := by omega
  have nbg1 : w.heap.size + 1 ≠ g := by omega
  clear x0 x1 x2 x3 x4 x5 x6 x7 x8 x9 x10 x11 x12 z0 z1 z2 z3 z4 z5 z6 z7 z8 z9 z10 z11 z12 fz1 fz2 hc3
  clear HOW HOWN HT3
  clear HT1 HT0
  clear hge
  clear hce
  clear z1 HB1
  clear HB0 HVd
  go_loopw [20] (fun i wr => ∃ k : Nat, k ≤ s.dat.length ∧ i = .int .i64 k ∧ Hid (MB wr w.heap.size g s.dat.length s p cap w.heap.size (brow (fun i => s.dat.getD i 0) s.dat.length k)) ∧ Hid (wr.cell? ⟨c, 0, none⟩ = some (.int .i64 s.dat.length)) ∧ Hid (Below w.heap.size w wr)) (fun i _ => s.dat.length - (intOf i).toNat)
  case atStart => exact ⟨0, by omega, rfl, HST.out, HC3.out, HB3.out⟩
  case round =>
    clear HST HB3 HC3
    obtain ⟨k, hk, rfl, HU, HC, hbw⟩ := hrel
    by_cases hlt : k < s.dat.length
    · obtain ⟨bd, od, hp1, hc1⟩ := (HD0.out.below hbw.out).at (k := k) hlt
      obtain ⟨y, hy⟩ : ∃ y, s.dat.getD k 0 = y := ⟨_, rfl⟩
      rw [hy] at hc1
      have HY := Lib.hid hy
      clear hy
      subst hp1
      obtain ⟨j, hj, hjn, hjk⟩ : ∃ j : Nat, ((s.dat.length : Int) - 1 - (k : Int) = (j : Int)) ∧ j < s.dat.length ∧ s.dat.length - 1 - k = j := ⟨s.dat.length - 1 - k, by omega, by omega, rfl⟩
      have HU1 := Lib.hid ((congrArg _ (hjk ▸ brow_set (fun i => s.dat.getD i 0) hlt (v := y) HY.out.symm)).mp (HU.out.put nbg nbg1 j (.int .i64 y)))
      have HC1 := Lib.hid (show (wr.setCell ⟨g, j, none⟩ (.int .i64 y)).cell? ⟨c, 0, none⟩ = some (.int .i64 s.dat.length) from (cell_set ncg _ _ _).trans HC.out)
      have a0 := (HU.out.2.cellAt j (by omega)).trans (hjk ▸ brow_at (fun i => s.dat.getD i 0) hlt)
      have a1 := HU.out.2.frozenAt j
      have hc := HC.out
      obtain ⟨⟨⟨x0, x1, x2, x3, x4, x5, x6, x7, x8, x9, x10, x11, x12⟩, ⟨z0, z1, z2, z3, z4, z5, z6, z7, z8, z9, z10, z11, z12⟩, fz1, fz2⟩, ho⟩ := HU.out
      clear ho hjk
      go_wp2
      go_roundw
      case rel => exact ⟨k + 1, by omega, by go_num, HU1.out, HC1.out, hbw.out.setCell hlg _⟩
      case measure => simp [intOf]; omega
    · have HE := Lib.hid (show brow (fun i => s.dat.getD i 0) s.dat.length k = s.dat.reverse.map (Value.int .i64) by
        rw [show k = s.dat.length by omega]
        exact brow_full _ (by simp) fun i hi => by simp [List.getD_eq_getElem?_getD, List.getElem?_reverse hi])
      have HO := Lib.hid (OwnS.of (l := s.dat.reverse) (HE.out ▸ HU.out.2) (by simp))
      have hc := HC.out
      have HCc := Lib.hid (show (wr.setCell ⟨w.heap.size, 1, none⟩ (.slice (some ⟨g, 0, none⟩) s.dat.length s.dat.length)).cell? ⟨c, 0, none⟩ = some (.int .i64 s.dat.length) from (cell_set nbc.symm _ _ _).trans HC.out)
      have HTc := Lib.hid (show Tw (wr.setCell ⟨w.heap.size, 1, none⟩ (.slice (some ⟨g, 0, none⟩) s.dat.length s.dat.length)) w.heap.size (w.heap.size + 1) (Sm.wth s s.dat.reverse) (some ⟨g, 0, none⟩) s.dat.length from (tw_of HU.out.1).slice (by omega) s.dat.reverse _ s.dat.length s.dat.length (by simp))
      have HOc := Lib.hid (HO.out.store (b := w.heap.size) (Ne.symm nbg) 1 (.slice (some ⟨g, 0, none⟩) s.dat.length s.dat.length))
      have HBc := Lib.hid (hbw.out.setCell (p := ⟨w.heap.size, 1, none⟩) (Nat.le_refl _) (.slice (some ⟨g, 0, none⟩) s.dat.length s.dat.length))
      obtain ⟨⟨⟨x0, x1, x2, x3, x4, x5, x6, x7, x8, x9, x10, x11, x12⟩, ⟨z0, z1, z2, z3, z4, z5, z6, z7, z8, z9, z10, z11, z12⟩, fz1, fz2⟩, ho⟩ := HU.out
      clear ho
      go_wp2_with (first | (go_at_call 57; ((with_reducible refine (HPl.out _ _ _ HCc.out).mono ?_); rintro z w4 ⟨rfl, hb4⟩; have HB4 := Lib.hid (stepB HBc.out hb4); have HO4 := Lib.hid (HOc.out.kept hb4); obtain ⟨⟨x0, x1, x2, x3, x4, x5, x6, x7, x8, x9, x10, x11, x12⟩, ⟨z0, z1, z2, z3, z4, z5, z6, z7, z8, z9, z10, z11, z12⟩, fz1, fz2⟩ := HTc.out.kept hb4)))
      refine bodyPost_ret (v := .tuple #[SV (Sm.rev s) (some ⟨g, 0, none⟩) s.dat.length, .int .i64 0]) ?_ rfl ⟨⟨g, by simp [Sm.rev, Sm.prv, Sm.wth], ?_⟩, Below13 HB4.out (by omega)⟩
      · simp [results, Try.results26, go_sem, SV, Sm.rev, Sm.prv, Sm.wth, z0, z1, z2, z3, z4, z5, z6, z7, z8, z9, z10, z11, z12]
      · iterate 13 (refine OwnS.store ?_ (Ne.symm nbg1) _ _)
        exact HO4.out
end Go.Proofs.Ytmaldhjcdkidmaa

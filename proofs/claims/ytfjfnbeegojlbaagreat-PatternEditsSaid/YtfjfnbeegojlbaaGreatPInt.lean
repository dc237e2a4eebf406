/-
  Package pattern's Interpolate.
-/
import Derived.Test.YtfjfnbeegojlbaaGreatGd
import Derived.Test.YtfjfnbeegojlbaaGreatRIt
import Derived.BigRegion
namespace Go.Proofs.YtfjfnbeegojlbaaGreat
open Go.RowKit

set_option maxRecDepth 100000 in
set_option maxHeartbeats 1600000 in
theorem p_Int_bad (r : Int) (l : List Pt.Cl) (p : Option Addr) (cap : Nat) (ch c f t : Int) (w : World) (hd : CellsAt w p l) {e : Int} (he : Pt.eInt r l ch c f t = e) (h0 : e ≠ 0) :
    Calls Tryz.prog 25 #[PV r p l.length cap, .int .i64 ch, .int .i64 c, .int .i64 f, .int .i64 t] w fun x w' => RetPE 0 [] e w.heap.size x w' ∧ Below w.heap.size w w' := by
  obtain ⟨W, hW, hB, hs, hp, hr⟩ := two_new' w r (.slice p l.length cap)
  have HB := Lib.hid hB
  obtain ⟨e', he'⟩ : ∃ e', Pt.ePlace r l ch f c = e' := ⟨_, rfl⟩
  have C1 := Lib.hid (p_askPlace r l p cap ch f c W (hd.below hB))
  rw [he'] at C1
  have HR := Lib.hid hr
  have HP := Lib.hid hp
  unfold PV at C1 ⊢
  obtain ⟨b, hb⟩ : ∃ b, b = w.heap.size := ⟨_, rfl⟩
  rw [← hb] at hp hs HR HP
  have HS := Lib.hid hs
  have HBE := Lib.hid hb
  by_cases hz : e' = 0
  · rw [hz] at he'
    obtain ⟨R, C, y, x, rfl, rfl, rfl, rfl, g1, g2, g3, g4, g5, g6, g7, g8⟩ := place_nx he'
    have hbad : ¬ ((y : Int) < t ∧ t < (R : Int)) := fun hc => by
      unfold Pt.eInt at he
      rw [if_pos he', if_pos hc] at he
      exact h0 he.symm
    obtain rfl : e = 5 := by
      unfold Pt.eInt at he
      rw [if_pos he', if_neg hbad] at he
      exact he.symm
    have C2 := Lib.hid (fun u => p_within_v t ((y : Int) + 1) ((R : Int) - 1) u (v := false) (by unfold Pt.wth; exact decide_eq_false (by omega)))
    subst hz
    have m1 : (R : Int) ≤ 64 := by omega
    have m2 : (y : Int) < (R : Int) := by omega
    have ⟨k0, k1, _, _⟩ := hp.cells
    clear hd hp hr h0 he hB hs he' hbad g1 g2 g3 g4 g5 g6 g7 g8
    go_enter Tryz.func25, Tryz.ntmps25
    go_upto_region 1 with fail
    rw [← hW, ← hb]
    clear hW hb
    go_wp2_with (first | (refine ld_pat (by rfl) (.tmp 5) rfl rfl HP.out.1 ?_) | (go_at_call 35; ((with_reducible refine (C1.out).mono ?_); rintro x' w1 ⟨rfl, hb1⟩; have HB1 := Lib.hid hb1; clear hb1 k0 k1; obtain ⟨k0, k1⟩ := two_cells HP.out HB1.out)) | (go_at_call 53; ((with_reducible refine (C2.out _).mono ?_); rintro x' w2 ⟨rfl, rfl⟩)) | ((refine st_pat (by rfl) (.tmp 10) _ rfl rfl rfl (HR.out.kept HB1.out).2 ?_); intro w2 h2 g2; have H2 := Lib.hid h2; have G2 := Lib.hid g2; clear h2 g2))
    have e1 := HBE.out
    have e2 := HS.out
    have e3 := HB1.out.size
    exact bodyPost_ret (res_pe rfl rfl H2.out.1 rfl) rfl ⟨⟨none, 0, rfl, Nat.le_refl _, .inl rfl⟩, grown_at (stepB HB.out HB1.out) (by omega) (by omega) G2.out⟩
  · obtain rfl : e' = e := by
      unfold Pt.eInt at he
      rw [he', if_neg hz] at he
      exact he
    have hne : (e' != 0) = true := by simpa using h0
    have ⟨k0, k1, _, _⟩ := hp.cells
    clear hd hp hr h0 he hB hs he' hz
    go_enter Tryz.func25, Tryz.ntmps25
    go_upto_region 1 with fail
    rw [← hW, ← hb]
    clear hW hb
    go_wp2_with (first | (refine ld_pat (by rfl) (.tmp 5) rfl rfl HP.out.1 ?_) | (go_at_call 35; ((with_reducible refine (C1.out).mono ?_); rintro x' w1 ⟨rfl, hb1⟩; have HB1 := Lib.hid hb1; clear hb1)) | ((refine st_pat (by rfl) (.tmp 10) _ rfl rfl rfl (HR.out.kept HB1.out).2 ?_); intro w2 h2 g2; have H2 := Lib.hid h2; have G2 := Lib.hid g2; clear h2 g2))
    have e1 := HBE.out
    have e2 := HS.out
    have e3 := HB1.out.size
    exact bodyPost_ret (res_pe rfl rfl H2.out.1 rfl) rfl ⟨⟨none, 0, rfl, Nat.le_refl _, .inl rfl⟩, grown_at (stepB HB.out HB1.out) (by omega) (by omega) G2.out⟩
set_option maxRecDepth 100000 in
set_option maxHeartbeats 6400000 in
theorem p_Int_ok (R C c f t : Nat) (l : List Pt.Cl) (p : Option Addr) (cap : Nat) (w : World) (hd : CellsAt w p l) (he0 : Pt.ePlace R l C f c = 0) (g2 : R ≤ 64) (g4 : C ≤ 16) (hl : l.length = R * C) (q1 : c < C) (q2 : f < t) (q3 : t < R) (hall : Pt.all l = true) :
    Calls Tryz.prog 25 #[PV R p l.length cap, .int .i64 C, .int .i64 c, .int .i64 f, .int .i64 t] w fun x w' => RetPE R (Pt.intL l C c f t) 0 w.heap.size x w' ∧ Below w.heap.size w w' := by
  have hpos : 0 < l.length := by rw [hl]; exact Nat.mul_pos (by omega) (by omega)
  obtain ⟨b0, off, rfl, hb0, hr0⟩ := cells_pos hd hpos
  have HBB := Lib.hid (show b0 < w.heap.size ∧ w.rangeAt b0 off (cc l) from ⟨hb0, hr0⟩)
  have HC := Lib.hid (show c < C ∧ f < t ∧ t < R from ⟨q1, q2, q3⟩)
  have HAL := Lib.hid hall
  have m1 : (R : Int) ≤ 64 := by omega
  have m2 : (C : Int) ≤ 16 := by omega
  have m3 : (t : Int) ≤ 64 := by omega
  have m4 : (f : Int) ≤ 64 := by omega
  have m5 : (c : Int) ≤ 16 := by omega
  obtain ⟨M1, hM1⟩ : ∃ M1, f * C = M1 := ⟨_, rfl⟩
  obtain ⟨F1, hF1⟩ : ∃ F1, M1 + c = F1 := ⟨_, rfl⟩
  obtain ⟨M2, hM2⟩ : ∃ M2, t * C = M2 := ⟨_, rfl⟩
  obtain ⟨F2, hF2⟩ : ∃ F2, M2 + c = F2 := ⟨_, rfl⟩
  have a1 : (f : Int) * (C : Int) = (M1 : Int) := by rw [← hM1, Int.natCast_mul]
  have a2 : (M1 : Int) + (c : Int) = (F1 : Int) := by omega
  have a3 : (t : Int) * (C : Int) = (M2 : Int) := by rw [← hM2, Int.natCast_mul]
  have a4 : (M2 : Int) + (c : Int) = (F2 : Int) := by omega
  have hF1l : F1 < l.length := by have := Pt.rc_in (R := R) (C := C) (y := f) (x := c) (by omega) q1; rw [hl]; omega
  have hF2l : F2 < l.length := by have := Pt.rc_in (R := R) (C := C) (y := t) (x := c) (by omega) q1; rw [hl]; omega
  have hln : l.length ≤ 1024 := by rw [hl]; exact Pt.rc_bound g2 g4
  have a5 : (M1 : Int) ≤ 1024 := by omega
  have a6 : (M2 : Int) ≤ 1024 := by omega
  have HFF := Lib.hid (show F1 < l.length ∧ F2 < l.length ∧ f * C + c = F1 ∧ t * C + c = F2 from ⟨hF1l, hF2l, by omega, by omega⟩)
  clear hb0 hr0 hM1 hF1 hM2 hF2 hF1l hF2l hln hall
  obtain ⟨W, hW, hB, hs, hp, hr⟩ := two_new' w R (.slice (some ⟨b0, off, none⟩) l.length cap)
  have HB := Lib.hid hB
  have HP := Lib.hid hp
  have HR := Lib.hid hr
  have HS := Lib.hid hs
  have hn1 : l.length ≤ 1024 := by rw [hl]; exact Pt.rc_bound g2 g4
  have C1 := Lib.hid (p_askPlace R l (some ⟨b0, off, none⟩) cap C f c W (hd.below hB))
  rw [he0] at C1
  have C2 := Lib.hid (fun u => p_within_v (t : Int) ((f : Int) + 1) ((R : Int) - 1) u (v := true) (by unfold Pt.wth; exact decide_eq_true (by omega)))
  have C3 := Lib.hid (fun u (hu : Below W.heap.size W u) => p_clone R l (some ⟨b0, off, none⟩) cap u ((hd.below hB).below hu) (by omega))
  obtain ⟨n, hnn⟩ : ∃ n, l.length = n := ⟨_, rfl⟩
  unfold RetP at C3
  simp only [hnn] at C3
  obtain ⟨b, hb⟩ : ∃ b, b = w.heap.size := ⟨_, rfl⟩
  rw [← hb] at hp HP HR HS
  have HBE := Lib.hid hb
  have HBc := Lib.hid (Below.refl W.heap.size W)
  unfold PV at C1 C3 ⊢
  have HN := Lib.hid (show l.length = n ∧ l.length = R * C ∧ n ≤ 1024 ∧ R ≤ 64 ∧ C ≤ 16 ∧ 0 < n from ⟨hnn, hl, by rw [← hnn]; exact hn1, g2, g4, by rw [← hnn]; exact hpos⟩)
  rw [hnn] at hW HP C1 hp ⊢
  obtain ⟨k0, k1⟩ := two_cells hp (Below.refl _ W)
  clear hd hB hs hp hr he0 hl hn1 hnn hpos g2 g4
  go_enter Tryz.func25, Tryz.ntmps25
  go_upto_region 1 with fail
  rw [← hW, ← hb]
  clear hW hb
  go_upto_region 7 with (first | (refine ld_pat (by rfl) (.tmp 5) rfl rfl (HP.out.kept HBc.out).1 ?_) | (go_at_call 35; ((with_reducible refine (C1.out).mono ?_); rintro x' w1 ⟨rfl, hb1⟩; have HBn := Lib.hid (stepB HBc.out hb1); clear HBc k0 k1 hb1; have HBc := HBn; clear HBn; obtain ⟨k0, k1⟩ := two_cells HP.out HBc.out)) | (go_at_call 53; ((with_reducible refine (C2.out _).mono ?_); rintro x' w2 ⟨rfl, rfl⟩)) | (go_at_call 46; ((with_reducible refine (C3.out _ HBc.out).mono ?_); rintro x' w3 ⟨⟨q, cp, rfl, hcp, ho⟩, hb3⟩; have HO := Lib.hid ho; have HCP := Lib.hid hcp; have HB2 := HBc; have HBn := Lib.hid (stepB HBc.out hb3); clear HBc k0 k1 hb3 ho hcp; have HBc := HBn; clear HBn)) | ((refine st_pat (by rfl) (.tmp 13) _ rfl rfl rfl (pb_box _ _ _ _).2 ?_); intro w4 h4 g4; have H4 := Lib.hid h4; have G4 := Lib.hid g4; clear h4 g4))
  obtain ⟨g, rfl, hg, hk⟩ := own_some HO.out (by rw [HN.out.1]; exact HN.out.2.2.2.2.2)
  obtain ⟨b9, hb9⟩ : ∃ b9, b9 = w3.heap.size := ⟨_, rfl⟩
  have HK4 := Lib.hid (show Kr w4 g l from (hk.kept (below_box _ _)).grown G4.out (by have := hk.1; omega))
  have HB4 := Lib.hid (show Below W.heap.size W w4 from grown_at (stepB HBc.out (below_box _ (.cells #[.int .i64 0, .slice none 0 0] 24))) HBc.out.size (by simp; exact Nat.le_succ_of_le HBc.out.size) G4.out)
  have HGE := Lib.hid (show W.heap.size ≤ g ∧ g < b9 ∧ b9 < w4.heap.size ∧ b + 2 = W.heap.size ∧ w.heap.size = b ∧ W.heap.size ≤ w4.heap.size from ⟨Nat.le_trans HB2.out.size hg, by rw [hb9]; exact hk.1, by rw [hb9]; exact H4.out.lt, HS.out.symm, HBE.out.symm, HB4.out.size⟩)
  rw [← hb9] at H4 ⊢
  clear hg hk hb9 HO
  have HS4 := Lib.hid (show b0 < W.heap.size ∧ w4.rangeAt b0 off (cc l) from ⟨Nat.lt_of_lt_of_le HBB.out.1 HB.out.size, range_below (range_below HBB.out.2 HB.out HBB.out.1) HB4.out (Nat.lt_of_lt_of_le HBB.out.1 HB.out.size)⟩)
  obtain ⟨k0, k1⟩ := two_cells HP.out HB4.out
  obtain ⟨ca, hca⟩ : ∃ ca, Pt.at' l F1 = ca := ⟨_, rfl⟩
  obtain ⟨cb, hcb⟩ : ∃ cb, Pt.at' l F2 = cb := ⟨_, rfl⟩
  have r1 := rng_of HS4.out.2 (i := F1) HFF.out.1
  have r2 := rng_of HS4.out.2 (i := F2) HFF.out.2.1
  rw [hca] at r1
  rw [hcb] at r2
  obtain ⟨s0, s1, s2, s3, s4, s5⟩ := rng_cells r1
  obtain ⟨t0, t1, t2, t3, t4, t5⟩ := rng_cells r2
  have n1 : (F1 : Int) < (n : Int) := by have := HFF.out; have := HN.out; omega
  have n2 : (F2 : Int) < (n : Int) := by have := HFF.out; have := HN.out; omega
  have n3 : (n : Int) ≤ 1024 := by have := HN.out; omega
  have HCA := Lib.hid hca
  have HCB := Lib.hid hcb
  have hz1 : ∀ A : Obj, Below w4.heap.size w4 (w4.alloc A) := fun A => below_box _ _
  have hz2 : ∀ A A' : Obj, Below w4.heap.size w4 ((w4.alloc A).alloc A') := fun A A' => stepB (hz1 A) (below_box _ _)
  have k1a := fun A => kept_cell (hz1 A) k1
  have k1b := fun A A' => kept_cell (hz2 A A') k1
  have s0a := fun A => kept_cell (hz1 A) s0
  have s0b := fun A A' => kept_cell (hz2 A A') s0
  have s1a := fun A => kept_cell (hz1 A) s1
  have s1b := fun A A' => kept_cell (hz2 A A') s1
  have s2a := fun A => kept_cell (hz1 A) s2
  have s2b := fun A A' => kept_cell (hz2 A A') s2
  have s3a := fun A => kept_cell (hz1 A) s3
  have s3b := fun A A' => kept_cell (hz2 A A') s3
  have s4a := fun A => kept_cell (hz1 A) s4
  have s4b := fun A A' => kept_cell (hz2 A A') s4
  have s5a := fun A => kept_cell (hz1 A) s5
  have s5b := fun A A' => kept_cell (hz2 A A') s5
  have t0a := fun A => kept_cell (hz1 A) t0
  have t0b := fun A A' => kept_cell (hz2 A A') t0
  have t1a := fun A => kept_cell (hz1 A) t1
  have t1b := fun A A' => kept_cell (hz2 A A') t1
  have t2a := fun A => kept_cell (hz1 A) t2
  have t2b := fun A A' => kept_cell (hz2 A A') t2
  have t3a := fun A => kept_cell (hz1 A) t3
  have t3b := fun A A' => kept_cell (hz2 A A') t3
  have t4a := fun A => kept_cell (hz1 A) t4
  have t4b := fun A A' => kept_cell (hz2 A A') t4
  have t5a := fun A => kept_cell (hz1 A) t5
  have t5b := fun A A' => kept_cell (hz2 A A') t5
  clear r1 r2 q1 q2 q3 hca hcb hz1 hz2
  go_simp
  go_cut [14, 15] (fun t14x t15x wx => ∃ x1 x2, t14x = .pointer (some ⟨x1, 0, none⟩) ∧ t15x = .pointer (some ⟨x2, 0, none⟩) ∧ Hid (Below w4.heap.size w4 wx ∧ wx.rangeAt x1 0 (CL ca) ∧ wx.rangeAt x2 0 (CL cb) ∧ w4.heap.size ≤ x1 ∧ w4.heap.size ≤ x2))
  case first =>
    go_region
    · have hf := two_cb w4 ca cb
      rw [cl_arr ca, cl_arr cb] at hf
      have HF := Lib.hid hf
      clear hf
      go_wp2_with fail
      go_meet
      case rel => exact ⟨_, _, rfl, rfl, HF.out.1, HF.out.2.1, HF.out.2.2, Nat.le_refl _, Nat.le_succ _⟩
    · have hf := two_cb w4 cb ca
      rw [cl_arr ca, cl_arr cb] at hf
      have HF := Lib.hid hf
      clear hf
      go_wp2_with fail
      go_meet
      case rel => exact ⟨_, _, rfl, rfl, HF.out.1, HF.out.2.2, HF.out.2.1, Nat.le_succ _, Nat.le_refl _⟩
  case rest =>
    obtain ⟨x1, x2, rfl, rfl, HF⟩ := hcut
    have HKx := Lib.hid (HK4.out.kept HF.out.1)
    have HU := Lib.hid (show ∀ u : World, wc.grownBy u (some g) → Pb u b9 R (.slice (some ⟨g, 0, none⟩) n cp) ∧ Pb u (b + 1) 0 (.slice none 0 0) ∧ u.rangeAt x1 0 (CL ca) ∧ u.rangeAt x2 0 (CL cb) from fun u hu => by
      obtain ⟨e1, e2, e3, e4, e5, e6⟩ := HGE.out
      obtain ⟨f1, f2, f3, f4, f5⟩ := HF.out
      exact ⟨(H4.out.kept f1).grown hu (by omega), ((HR.out.kept HB4.out).kept f1).grown hu (by omega), range_grown f2 hu (by omega) (cell_lt (f2 0 _ rfl)), range_grown f3 hu (by omega) (cell_lt (f3 0 _ rfl))⟩)
    have HIL := Lib.hid (show (Pt.intL l C c f t).length = n from (Pt.mk_len _ _).trans HN.out.1)
    obtain ⟨v1, v2⟩ := vcl_pa (show Pt.vcl ca = true by rw [← HCA.out]; exact Pt.all_at HAL.out HFF.out.1)
    obtain ⟨v3, v4⟩ := vcl_pa (show Pt.vcl cb = true by rw [← HCB.out]; exact Pt.all_at HAL.out HFF.out.2.1)
    clear k0 k1 k1a k1b s0 s0a s0b s1 s1a s1b s2 s2a s2b s3 s3a s3b s4 s4a s4b s5 s5a s5b t0 t0a t0b t1 t1a t1b t2 t2a t2b t3 t3a t3b t4 t4a t4b t5 t5a t5b
    by_cases he : ca.ef = cb.ef ∧ ca.ef ≠ 0
    · have HHE := Lib.hid he
      have hq1 : (ca.ef != cb.ef) = false := by simp [he.1]
      have hq2 : (ca.ef == 0) = false := by simp [he.2]
      clear he
      obtain ⟨N, hNt⟩ : ∃ N : Nat, t = f + N := ⟨t - f, by have := HC.out; omega⟩
      have HNT := Lib.hid (show t = f + N ∧ 0 < N ∧ N ≤ 64 from ⟨hNt, by have := HC.out; omega, by omega⟩)
      have hk2 : (t : Int) - (f : Int) = (N : Int) := by omega
      have hk4 : (N : Int) ≤ 64 := by omega
      obtain ⟨h9, hr', hx1, hx2⟩ := HU.out _ (grownBy_refl _ _)
      have y4 : wc.cell? ⟨x1, 4, none⟩ = some (.int .i64 ca.ef) := hx1 4 _ rfl
      have z4 : wc.cell? ⟨x2, 4, none⟩ = some (.int .i64 cb.ef) := hx2 4 _ rfl
      clear h9 hr' hx1 hx2 hNt
      go_wp2
      go_loopw [17, 18] (fun i _ wr => ∃ K : Nat, 1 ≤ K ∧ K ≤ N ∧ i = .int .i64 (K : Int) ∧ Hid (wc.grownBy wr (some g)) ∧ Hid (∃ L, Up l C (f + 1) c 1 (intF l C c f t) (f + K - (f + 1)) 0 L ∧ Kr wr g L)) (fun i _ _ => N - (intOf i).toNat)
      case atStart => exact ⟨1, Nat.le_refl _, HNT.out.2.1, by go_num, grownBy_refl _ _, _, by rw [Nat.sub_self]; exact up_start _ _ _ _ _ _, HKx.out⟩
      case round =>
        obtain ⟨K, hK1, hK2, rfl, HG, HL⟩ := hrel
        obtain ⟨h9, hr', hx1, hx2⟩ := HU.out _ HG.out
        clear y4 z4
        have y4 : wr.cell? ⟨x1, 4, none⟩ = some (.int .i64 ca.ef) := hx1 4 _ rfl
        have y5 : wr.cell? ⟨x1, 5, none⟩ = some (.int .i64 ca.pa) := hx1 5 _ rfl
        have z5 : wr.cell? ⟨x2, 5, none⟩ = some (.int .i64 cb.pa) := hx2 5 _ rfl
        clear hx1 hx2
        by_cases hlt : K < N
        · have hlt' : (K : Int) < (N : Int) := by omega
          have k9 := h9.1 1 _ rfl
          obtain ⟨L, hL, hK⟩ := HL.out
          obtain ⟨c1, c2, c3⟩ := HC.out
          obtain ⟨f1, f2, f3, f4, f5, f6⟩ := HN.out
          obtain ⟨n1', n2', n3'⟩ := HNT.out
          obtain ⟨M, hM⟩ : ∃ M, (f + K) * C = M := ⟨_, rfl⟩
          obtain ⟨I, hI⟩ : ∃ I, M + c = I := ⟨_, rfl⟩
          have hIn : I < n := by
            have := Pt.rc_in (R := R) (C := C) (y := f + K) (x := c) (by omega) c1
            rw [hM, hI] at this
            omega
          have hM' : ((f : Int) + (K : Int)) * (C : Int) = (M : Int) := by rw [← hM, Int.natCast_mul, Int.natCast_add]
          have hI' : (M : Int) + (c : Int) = (I : Int) := by omega
          have i1 : (I : Int) < (n : Int) := by omega
          have i5 : (M : Int) ≤ 1024 := by omega
          have hIl : I < l.length := by rw [f1]; exact hIn
          have hIC : (f + K) * C + c = I := by rw [hM]; exact hI
          obtain ⟨hnow, hst⟩ := int_step hL c1 (by omega) hIC hIl
          have hfi := int_at (l := l) (f := f) (t := t) c1 hIC
          rw [HFF.out.2.2.1, HFF.out.2.2.2, HCA.out, HCB.out] at hfi
          obtain ⟨ci, hci⟩ : ∃ ci, Pt.at' l I = ci := ⟨_, rfl⟩
          rw [hci] at hfi hnow
          have hrow := hK.one (i := I) (by rw [hL.1]; exact hIl)
          have hth := hK.th (i := I) (by rw [hL.1]; exact hIl)
          rw [hnow] at hrow
          obtain ⟨-, -, -, -, d4, d5⟩ := rng_cells hrow
          have w4f := (hth 4 (by decide)).2
          have w5f := (hth 5 (by decide)).2
          have HST := Lib.hid hst
          have HFI := Lib.hid hfi
          have HKN := Lib.hid (show ((f + K : Nat) : Int) - f = (K : Int) ∧ (t : Int) - f = (N : Int) ∧ K < N ∧ 0 < N ∧ N ≤ 64 ∧ 1 ≤ K from ⟨by omega, by omega, by omega, by omega, by omega, hK1⟩)
          have HKR := Lib.hid (show Kr wr g L ∧ I < L.length ∧ Pt.at' L I = ci from ⟨hK, by rw [hL.1]; exact hIl, hnow⟩)
          have hk3 : (K : Int) ≤ 64 := by omega
          clear h9 hr' hL hK c1 c2 c3 f1 f2 f3 f4 f5 f6 n1' n2' n3' hM hI hIn hIl hIC hnow hst hfi hci hrow hth hK1 hK2 hlt
          by_cases hev : ci.ef = 0
          · have hev1 : (ci.ef == 0) = true := by simp [hev]
            have HEV := Lib.hid hev
            clear hev
            obtain ⟨⟨p1, p2⟩, ⟨p3, p4⟩, p5, p6⟩ := ip_bound (n := N) (k := K) ⟨v1, v2⟩ ⟨v3, v4⟩ HKN.out.2.2.1
            obtain ⟨V, hV⟩ : ∃ V, (ca.pa * ((N : Int) - K) + cb.pa * (K : Int)) / (N : Int) = V := ⟨_, rfl⟩
            rw [hV] at p5 p6
            have HVV := Lib.hid (show intF l C c f t I = { ci with ef := ca.ef, pa := V } by
              rw [HFI.out]
              unfold Pt.intC
              rw [if_pos ⟨HHE.out.1, HHE.out.2, HEV.out⟩, HKN.out.1, HKN.out.2.1, hV])
            obtain ⟨D, hD⟩ : ∃ D, (N : Int) - (K : Int) = D := ⟨_, rfl⟩
            rw [hD] at p1 p2 hV
            obtain ⟨P1, hP1⟩ : ∃ P1, ca.pa * D = P1 := ⟨_, rfl⟩
            obtain ⟨P2, hP2⟩ : ∃ P2, cb.pa * (K : Int) = P2 := ⟨_, rfl⟩
            obtain ⟨X, hX⟩ : ∃ X, P1 + P2 = X := ⟨_, rfl⟩
            rw [hP1] at p1 p2
            rw [hP2] at p3 p4
            rw [hP1, hP2, hX] at hV
            have hT : Int.tdiv X (N : Int) = V := by rw [Int.tdiv_eq_ediv_of_nonneg (by omega)]; exact hV
            have wD : IntKind.i64.wrap D = D := by rw [IntKind.wrap_i64]; omega
            have wK : IntKind.i64.wrap (K : Int) = (K : Int) := by rw [IntKind.wrap_i64]; omega
            have wN : IntKind.i64.wrap (N : Int) = (N : Int) := by rw [IntKind.wrap_i64]; omega
            have w1' : IntKind.i64.wrap P1 = P1 := by rw [IntKind.wrap_i64]; omega
            have w2' : IntKind.i64.wrap P2 = P2 := by rw [IntKind.wrap_i64]; omega
            have w3' : IntKind.i64.wrap X = X := by rw [IntKind.wrap_i64]; omega
            have wV : IntKind.i64.wrap V = V := by rw [IntKind.wrap_i64]; omega
            have wN0 : (0 : Int) < (N : Int) := by have := HKN.out; omega
            have wN1 : ((N : Int) == 0) = false := by simp; have := HKN.out; omega
            have wN2 : ¬ N = 0 := by have := HKN.out; omega
            clear hV p1 p2 p3 p4
            go_upto_region 16 with fail
            have hne1 : ¬ x1 = g := by have := HF.out.2.2.2.1; have := HGE.out; omega
            have hne2 : ¬ x2 = g := by have := HF.out.2.2.2.2; have := HGE.out; omega
            have hne3 : ¬ g = x1 := fun h => hne1 h.symm
            have hne4 : ¬ g = x2 := fun h => hne2 h.symm
            go_region
            all_goals
              change Exit.inBlock _ _ _ _ ((wr.setCell ⟨g, I * 6 + 4, none⟩ (.int .i64 ca.ef)).setCell ⟨g, I * 6 + 5, none⟩ (.int .i64 V)).drew
              go_wp2
              go_roundw
              case rel =>
                refine ⟨K + 1, by omega, HKN.out.2.2.1, by go_num, grown_drew' (grownBy_trans (grownBy_trans HG.out (grown_set _ _ _ _)) (grown_set _ _ _ _)), _, HST.out, ?_⟩
                rw [HVV.out]
                exact (kr_two HKR.out.1 HKR.out.2.1 HKR.out.2.2).kept (Below.refl _ _).drew
              case measure => simp [intOf]; have := HKN.out; omega
          · have hev1 : (ci.ef == 0) = false := by simp [hev]
            have HVV := Lib.hid (show intF l C c f t I = ci by
              rw [HFI.out]
              unfold Pt.intC
              rw [if_neg (fun h => hev h.2.2)])
            clear hev
            go_wp2
            go_roundw
            case rel =>
              refine ⟨K + 1, by omega, HKN.out.2.2.1, by go_num, HG.out, _, HST.out, ?_⟩
              rw [HVV.out, set_same HKR.out.2.1 HKR.out.2.2]
              exact HKR.out.1
            case measure => simp [intOf]; have := HKN.out; omega
        · obtain rfl : K = N := by omega
          have hlt' : ¬ (K : Int) < (K : Int) := by omega
          have HH9 := Lib.hid h9
          have HRw := Lib.hid hr'
          have HLF := Lib.hid (show ∃ L, L = Pt.intL l C c f t ∧ Kr wr g L from by
            obtain ⟨L, hL, hK⟩ := HL.out
            exact ⟨L, int_done HC.out.1 HN.out.2.1 HC.out.2.1 (by rw [HNT.out.1]; rw [HNT.out.1] at hL; exact hL), hK⟩)
          clear h9 hr' hK1 hK2 hlt
          go_wp2_with (first | (refine ld_pat (by rfl) (.tmp 13) rfl rfl HH9.out.1 ?_) | ((refine st_pat (by rfl) (.tmp 10) _ rfl rfl rfl HRw.out.2 ?_); intro w5 h5 g5; have H5 := Lib.hid h5; have G5 := Lib.hid g5; clear h5 g5))
          obtain ⟨e1, e2, e3, e4, e5, e6⟩ := HGE.out
          have e7 := HG.out.size
          have e8 := HF.out.1.size
          refine bodyPost_ret (res_pe rfl rfl H5.out.1 rfl) rfl ⟨⟨some ⟨g, 0, none⟩, cp, ?_, ?_, .inr ⟨g, rfl, ?_, ?_⟩⟩, ?_⟩
          · rw [HIL.out]; rfl
          · rw [HIL.out]; exact HCP.out
          · omega
          · obtain ⟨L, hL, hK⟩ := HLF.out
            rw [← hL]
            exact hK.grown G5.out (by omega)
          · exact grown_at (grown_at (stepB HB.out (stepB HB4.out HF.out.1)) (by omega) (by omega) HG.out) (by omega) (by omega) G5.out
    · have HNE := Lib.hid (show ¬ ((Pt.at' l (f * C + c)).ef = (Pt.at' l (t * C + c)).ef ∧ (Pt.at' l (f * C + c)).ef ≠ 0) by
        rw [HFF.out.2.2.1, HFF.out.2.2.2, HCA.out, HCB.out]
        exact he)
      obtain ⟨h9, hr', hx1, hx2⟩ := HU.out _ (grownBy_refl _ _)
      have y4 : wc.cell? ⟨x1, 4, none⟩ = some (.int .i64 ca.ef) := hx1 4 _ rfl
      have z4 : wc.cell? ⟨x2, 4, none⟩ = some (.int .i64 cb.ef) := hx2 4 _ rfl
      have HH9 := Lib.hid h9
      have HRw := Lib.hid hr'
      have HG := Lib.hid (grownBy_refl wc (some g))
      have HLF := Lib.hid (show ∃ L, L = Pt.intL l C c f t ∧ Kr wc g L from ⟨l, (int_none HNE.out).symm, HKx.out⟩)
      clear hx1 hx2 h9 hr'
      by_cases g3 : ca.ef = cb.ef
      · have g5 : ca.ef = 0 := by
          by_cases h : ca.ef = 0
          · exact h
          · exact absurd ⟨g3, h⟩ he
        have hq1 : (ca.ef != cb.ef) = false := by simp [g3]
        have hq2 : (ca.ef == 0) = true := by simp [g5]
        clear g3 g5 he
        go_wp2_with (first | (refine ld_pat (by rfl) (.tmp 13) rfl rfl HH9.out.1 ?_) | ((refine st_pat (by rfl) (.tmp 10) _ rfl rfl rfl HRw.out.2 ?_); intro w5 h5 g5; have H5 := Lib.hid h5; have G5 := Lib.hid g5; clear h5 g5))
        obtain ⟨e1, e2, e3, e4, e5, e6⟩ := HGE.out
        have e7 := HG.out.size
        have e8 := HF.out.1.size
        refine bodyPost_ret (res_pe rfl rfl H5.out.1 rfl) rfl ⟨⟨some ⟨g, 0, none⟩, cp, ?_, ?_, .inr ⟨g, rfl, ?_, ?_⟩⟩, ?_⟩
        · rw [HIL.out]; rfl
        · rw [HIL.out]; exact HCP.out
        · omega
        · obtain ⟨L, hL, hK⟩ := HLF.out
          rw [← hL]
          exact hK.grown G5.out (by omega)
        · exact grown_at (grown_at (stepB HB.out (stepB HB4.out HF.out.1)) (by omega) (by omega) HG.out) (by omega) (by omega) G5.out
      · have hq1 : (ca.ef != cb.ef) = true := by simp [g3]
        clear g3 he
        go_wp2_with (first | (refine ld_pat (by rfl) (.tmp 13) rfl rfl HH9.out.1 ?_) | ((refine st_pat (by rfl) (.tmp 10) _ rfl rfl rfl HRw.out.2 ?_); intro w5 h5 g5; have H5 := Lib.hid h5; have G5 := Lib.hid g5; clear h5 g5))
        obtain ⟨e1, e2, e3, e4, e5, e6⟩ := HGE.out
        have e7 := HG.out.size
        have e8 := HF.out.1.size
        refine bodyPost_ret (res_pe rfl rfl H5.out.1 rfl) rfl ⟨⟨some ⟨g, 0, none⟩, cp, ?_, ?_, .inr ⟨g, rfl, ?_, ?_⟩⟩, ?_⟩
        · rw [HIL.out]; rfl
        · rw [HIL.out]; exact HCP.out
        · omega
        · obtain ⟨L, hL, hK⟩ := HLF.out
          rw [← hL]
          exact hK.grown G5.out (by omega)
        · exact grown_at (grown_at (stepB HB.out (stepB HB4.out HF.out.1)) (by omega) (by omega) HG.out) (by omega) (by omega) G5.out
theorem p_Int (r : Int) (l : List Pt.Cl) (p : Option Addr) (cap : Nat) (ch c f t : Int) (w : World) (hd : CellsAt w p l) :
    Calls Tryz.prog 25 #[PV r p l.length cap, .int .i64 ch, .int .i64 c, .int .i64 f, .int .i64 t] w fun x w' => RetPE (Pt.okI (Pt.eInt r l ch c f t) r) (Pt.okL (Pt.eInt r l ch c f t) (Pt.intL l ch.toNat c.toNat f.toNat t.toNat)) (Pt.eInt r l ch c f t) w.heap.size x w' ∧ Below w.heap.size w w' := by
  by_cases h : Pt.eInt r l ch c f t = 0
  · rw [h]
    have h1 : Pt.ePlace r l ch f c = 0 := by
      unfold Pt.eInt at h
      by_cases h1 : Pt.ePlace r l ch f c = 0
      · exact h1
      · rw [if_neg h1] at h; exact absurd h h1
    obtain ⟨R, C, F, T, X, rfl, rfl, rfl, rfl, rfl, g1, g2, g3, g4, g5, g6, g7, g8⟩ := eint_nat h
    exact p_Int_ok R C X F T l p cap w hd h1 g4 g5 g6 g3 g1 g2 g7
  · have e1 : Pt.okI (Pt.eInt r l ch c f t) r = 0 := if_neg h
    have e2 : Pt.okL (Pt.eInt r l ch c f t) (Pt.intL l ch.toNat c.toNat f.toNat t.toNat) = [] := if_neg h
    rw [e1, e2]
    exact p_Int_bad r l p cap ch c f t w hd rfl h
end Go.Proofs.YtfjfnbeegojlbaaGreat

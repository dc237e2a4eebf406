/-
  The reference's Interpolate.
-/
import Derived.Test.YtfjfnbeegojlbaaGreatGd
import Derived.Test.YtfjfnbeegojlbaaGreatRBadB
import Derived.BigRegion
import Derived.Deep.RegionHeld3
namespace Go.Proofs.YtfjfnbeegojlbaaGreat
open Go.RowKit

set_option maxRecDepth 100000 in
set_option maxHeartbeats 6400000 in
theorem r_Int_ok (R C c f t : Nat) (l : List Pt.Cl) (p : Option Addr) (cap : Nat) (w : World) (hd : CellsAt w p l) (h1 : Pt.vpat R l C = true) (g2 : R ≤ 64) (g4 : C ≤ 16) (hl : l.length = R * C) (q1 : c < C) (q2 : f < t) (q3 : t < R) (hall : Pt.all l = true) :
    Calls Tryz.prog 26 #[PV R p l.length cap, .int .i64 C, .int .i64 c, .int .i64 f, .int .i64 t] w fun x w' => RetPE R (Pt.intL l C c f t) 0 w.heap.size x w' ∧ Below w.heap.size w w' := by
  have hpos : 0 < l.length := by rw [hl]; exact Nat.mul_pos (by omega) (by omega)
  obtain ⟨b0, off, rfl, hb0, hr0⟩ := cells_pos hd hpos
  have HBB := Lib.hid (show b0 < w.heap.size ∧ w.rangeAt b0 off (cc l) from ⟨hb0, hr0⟩)
  have HC := Lib.hid (show c < C ∧ f < t ∧ t < R from ⟨q1, q2, q3⟩)
  have HAL := Lib.hid hall
  have d3 : decide ((t : Int) ≤ (f : Int)) = false := decide_eq_false (by omega)
  have m1 : (R : Int) ≤ 64 := by omega
  have m2 : (C : Int) ≤ 16 := by omega
  have m3 : (t : Int) ≤ 64 := by omega
  have m4 : (f : Int) ≤ 64 := by omega
  have m5 : (c : Int) ≤ 16 := by omega
  obtain ⟨M1, hM1⟩ : ∃ M1, f * C = M1 := ⟨_, rfl⟩
  obtain ⟨F1, hF1⟩ : ∃ F1, M1 + c = F1 := ⟨_, rfl⟩
  obtain ⟨M2, hM2⟩ : ∃ M2, t * C = M2 := ⟨_, rfl⟩
  obtain ⟨F2, hF2⟩ : ∃ F2, M2 + c = F2 := ⟨_, rfl⟩
  have a1 : (f : Int) * (C : Int) = (M1 : Int) := by rw [← hM1, Int.natCast_mul]
  have a2 : (M1 : Int) + (c : Int) = (F1 : Int) := by omega
  have a3 : (t : Int) * (C : Int) = (M2 : Int) := by rw [← hM2, Int.natCast_mul]
  have a4 : (M2 : Int) + (c : Int) = (F2 : Int) := by omega
  have hF1l : F1 < l.length := by have := Pt.rc_in (R := R) (C := C) (y := f) (x := c) (by omega) q1; rw [hl]; omega
  have hF2l : F2 < l.length := by have := Pt.rc_in (R := R) (C := C) (y := t) (x := c) (by omega) q1; rw [hl]; omega
  have hln : l.length ≤ 1024 := by rw [hl]; exact Pt.rc_bound g2 g4
  have a5 : (M1 : Int) ≤ 1024 := by omega
  have a6 : (M2 : Int) ≤ 1024 := by omega
  have HFF := Lib.hid (show F1 < l.length ∧ F2 < l.length ∧ f * C + c = F1 ∧ t * C + c = F2 from ⟨hF1l, hF2l, by omega, by omega⟩)
  clear hb0 hr0 hM1 hF1 hM2 hF2 hF1l hF2l hln hall
  obtain ⟨W, hW, hB, hs, hp, hr⟩ := two_new' w R (.slice (some ⟨b0, off, none⟩) l.length cap)
  have HB := Lib.hid hB
  have HP := Lib.hid hp
  have HR := Lib.hid hr
  have HS := Lib.hid hs
  have CV := Lib.hid (fun u (hu : Below W.heap.size W u) => r_Valid R l (some ⟨b0, off, none⟩) cap C u ((hd.below hB).below hu))
  rw [h1] at CV
  have hn1 : l.length ≤ 1024 := by rw [hl]; exact Pt.rc_bound g2 g4
  have CK := Lib.hid (fun u => r_inside_v (show Pt.plc (c : Int) (C : Int) = true from decide_eq_true (by omega)) u)
  have CR := Lib.hid (fun u => r_inside_v (show Pt.plc (f : Int) (R : Int) = true from decide_eq_true (by omega)) u)
  have CT := Lib.hid (fun u => r_inside_v (show Pt.plc (t : Int) (R : Int) = true from decide_eq_true (by omega)) u)
  have C3 := Lib.hid (fun u (hu : Below W.heap.size W u) => r_copied R l (some ⟨b0, off, none⟩) cap u ((hd.below hB).below hu) hn1)
  obtain ⟨n, hnn⟩ : ∃ n, l.length = n := ⟨_, rfl⟩
  unfold RetO at C3
  simp only [hnn] at C3
  obtain ⟨b, hb⟩ : ∃ b, b = w.heap.size := ⟨_, rfl⟩
  rw [← hb] at hp HP HR HS
  have HBE := Lib.hid hb
  have HBc := Lib.hid (Below.refl W.heap.size W)
  unfold PV at CV C3 ⊢
  have HN := Lib.hid (show l.length = n ∧ l.length = R * C ∧ n ≤ 1024 ∧ R ≤ 64 ∧ C ≤ 16 ∧ 0 < n from ⟨hnn, hl, by rw [← hnn]; exact hn1, g2, g4, by rw [← hnn]; exact hpos⟩)
  rw [hnn] at hW HP CV hp ⊢
  obtain ⟨k0, k1⟩ := two_cells hp (Below.refl _ W)
  clear hd hB hs hp hr h1 hl hn1 hnn hpos g2 g4 
  go_enter Tryz.func26, Tryz.ntmps26
  go_upto_region 1 with fail
  rw [← hW, ← hb]
  clear hW hb
  go_upto_region 6 with (first | (refine ld_pat (by rfl) (.tmp 5) rfl rfl (HP.out.kept HBc.out).1 ?_) | (go_at_call 10; ((with_reducible refine (CV.out _ HBc.out).mono ?_); rintro x' w1 ⟨rfl, hb1⟩; have HBn := Lib.hid (stepB HBc.out hb1); clear HBc k0 k1 hb1; have HBc := HBn; clear HBn; obtain ⟨k0, k1⟩ := two_cells HP.out HBc.out)) | (go_at_call 36; ((with_reducible refine (CK.out _).mono ?_); rintro x' w3 ⟨rfl, rfl⟩)) | (go_at_call 36; ((with_reducible refine (CR.out _).mono ?_); rintro x' w3 ⟨rfl, rfl⟩)) | (go_at_call 36; ((with_reducible refine (CT.out _).mono ?_); rintro x' w3 ⟨rfl, rfl⟩)) | (go_at_call 47; ((with_reducible refine (C3.out _ HBc.out).mono ?_); rintro x' w3 ⟨⟨q, cp, rfl, hcp, ho, hoc⟩, hb3⟩; have HO := Lib.hid ho; have HOC := Lib.hid hoc; have HCP := Lib.hid hcp; have HB2 := HBc; have HBn := Lib.hid (stepB HBc.out hb3); clear HBc k0 k1 hb3 ho hoc hcp; have HBc := HBn; clear HBn; have HPx := Lib.hid (HP.out.kept HBc.out))) | ((refine st_pat (by rfl) (.tmp 12) _ rfl rfl rfl (pb_box _ _ _ _).2 ?_); intro w4 h4 g4; have H4 := Lib.hid h4; have G4 := Lib.hid g4; clear h4 g4))
  obtain ⟨g, rfl, hg, hk⟩ := own_some HO.out (by rw [HN.out.1]; exact HN.out.2.2.2.2.2)
  obtain ⟨b9, hb9⟩ : ∃ b9, b9 = w3.heap.size := ⟨_, rfl⟩
  have HK4 := Lib.hid (show Kr w4 g l from (hk.kept (below_box _ _)).grown G4.out (by have := hk.1; omega))
  have HB4 := Lib.hid (show Below W.heap.size W w4 from grown_at (stepB HBc.out (below_box _ (.cells #[.int .i64 0, .slice none 0 0] 24))) HBc.out.size (by simp; exact Nat.le_succ_of_le HBc.out.size) G4.out)
  have HGE := Lib.hid (show W.heap.size ≤ g ∧ g < b9 ∧ b9 < w4.heap.size ∧ b + 2 = W.heap.size ∧ w.heap.size = b ∧ W.heap.size ≤ w4.heap.size from ⟨Nat.le_trans HB2.out.size hg, by rw [hb9]; exact hk.1, by rw [hb9]; exact H4.out.lt, HS.out.symm, HBE.out.symm, HB4.out.size⟩)
  rw [← hb9] at H4 ⊢
  clear hg hk hb9 HO HOC
  have HS4 := Lib.hid (show b0 < W.heap.size ∧ w4.rangeAt b0 off (cc l) from ⟨Nat.lt_of_lt_of_le HBB.out.1 HB.out.size, range_below (range_below HBB.out.2 HB.out HBB.out.1) HB4.out (Nat.lt_of_lt_of_le HBB.out.1 HB.out.size)⟩)
  obtain ⟨k0, k1⟩ := two_cells HP.out HB4.out
  obtain ⟨ca, hca⟩ : ∃ ca, Pt.at' l F1 = ca := ⟨_, rfl⟩
  obtain ⟨cb, hcb⟩ : ∃ cb, Pt.at' l F2 = cb := ⟨_, rfl⟩
  have r1 := rng_of HS4.out.2 (i := F1) HFF.out.1
  have r2 := rng_of HS4.out.2 (i := F2) HFF.out.2.1
  rw [hca] at r1
  rw [hcb] at r2
  obtain ⟨s0, s1, s2, s3, s4, s5⟩ := rng_cells r1
  obtain ⟨t0, t1, t2, t3, t4, t5⟩ := rng_cells r2
  have n1 : (F1 : Int) < (n : Int) := by have := HFF.out; have := HN.out; omega
  have n2 : (F2 : Int) < (n : Int) := by have := HFF.out; have := HN.out; omega
  have n3 : (n : Int) ≤ 1024 := by have := HN.out; omega
  have HCA := Lib.hid hca
  have HCB := Lib.hid hcb
  have hz1 : ∀ A : Obj, Below w4.heap.size w4 (w4.alloc A) := fun A => below_box _ _
  have hz2 : ∀ A A' : Obj, Below w4.heap.size w4 ((w4.alloc A).alloc A') := fun A A' => stepB (hz1 A) (below_box _ _)
  have k1a := fun A => kept_cell (hz1 A) k1
  have k1b := fun A A' => kept_cell (hz2 A A') k1
  have s0a := fun A => kept_cell (hz1 A) s0
  have s0b := fun A A' => kept_cell (hz2 A A') s0
  have s1a := fun A => kept_cell (hz1 A) s1
  have s1b := fun A A' => kept_cell (hz2 A A') s1
  have s2a := fun A => kept_cell (hz1 A) s2
  have s2b := fun A A' => kept_cell (hz2 A A') s2
  have s3a := fun A => kept_cell (hz1 A) s3
  have s3b := fun A A' => kept_cell (hz2 A A') s3
  have s4a := fun A => kept_cell (hz1 A) s4
  have s4b := fun A A' => kept_cell (hz2 A A') s4
  have s5a := fun A => kept_cell (hz1 A) s5
  have s5b := fun A A' => kept_cell (hz2 A A') s5
  have t0a := fun A => kept_cell (hz1 A) t0
  have t0b := fun A A' => kept_cell (hz2 A A') t0
  have t1a := fun A => kept_cell (hz1 A) t1
  have t1b := fun A A' => kept_cell (hz2 A A') t1
  have t2a := fun A => kept_cell (hz1 A) t2
  have t2b := fun A A' => kept_cell (hz2 A A') t2
  have t3a := fun A => kept_cell (hz1 A) t3
  have t3b := fun A A' => kept_cell (hz2 A A') t3
  have t4a := fun A => kept_cell (hz1 A) t4
  have t4b := fun A A' => kept_cell (hz2 A A') t4
  have t5a := fun A => kept_cell (hz1 A) t5
  have t5b := fun A A' => kept_cell (hz2 A A') t5
  clear r1 r2 q1 q2 q3 hca hcb hz1 hz2
  go_simp
  go_cut [13, 14] (fun t13 t14 wx => ∃ x1 x2, t13 = .pointer (some ⟨x1, 0, none⟩) ∧ t14 = .pointer (some ⟨x2, 0, none⟩) ∧ Hid (Below w4.heap.size w4 wx ∧ wx.rangeAt x1 0 (CL ca) ∧ wx.rangeAt x2 0 (CL cb) ∧ w4.heap.size ≤ x1 ∧ w4.heap.size ≤ x2))
  case first =>
    go_region
    · have hf := two_cb w4 ca cb
      rw [cl_arr ca, cl_arr cb] at hf
      have HF := Lib.hid hf
      clear hf
      go_wp2_with fail
      go_meet
      case rel => exact ⟨_, _, rfl, rfl, HF.out.1, HF.out.2.1, HF.out.2.2, Nat.le_refl _, Nat.le_succ _⟩
    · have hf := two_cb w4 cb ca
      rw [cl_arr ca, cl_arr cb] at hf
      have HF := Lib.hid hf
      clear hf
      go_wp2_with fail
      go_meet
      case rel => exact ⟨_, _, rfl, rfl, HF.out.1, HF.out.2.2, HF.out.2.1, Nat.le_succ _, Nat.le_refl _⟩
  case rest =>
    obtain ⟨x1, x2, rfl, rfl, HF⟩ := hcut
    have HKx := Lib.hid (HK4.out.kept HF.out.1)
    have HU := Lib.hid (show ∀ u : World, wc.grownBy u (some g) → Pb u b9 R (.slice (some ⟨g, 0, none⟩) n cp) ∧ Pb u (b + 1) 0 (.slice none 0 0) ∧ u.rangeAt x1 0 (CL ca) ∧ u.rangeAt x2 0 (CL cb) from fun u hu => by
      obtain ⟨e1, e2, e3, e4, e5, e6⟩ := HGE.out
      obtain ⟨f1, f2, f3, f4, f5⟩ := HF.out
      exact ⟨(H4.out.kept f1).grown hu (by omega), ((HR.out.kept HB4.out).kept f1).grown hu (by omega), range_grown f2 hu (by omega) (cell_lt (f2 0 _ rfl)), range_grown f3 hu (by omega) (cell_lt (f3 0 _ rfl))⟩)
    have HIL := Lib.hid (show (Pt.intL l C c f t).length = n from (Pt.mk_len _ _).trans HN.out.1)
    obtain ⟨v1, v2⟩ := vcl_pa (show Pt.vcl ca = true by rw [← HCA.out]; exact Pt.all_at HAL.out HFF.out.1)
    obtain ⟨v3, v4⟩ := vcl_pa (show Pt.vcl cb = true by rw [← HCB.out]; exact Pt.all_at HAL.out HFF.out.2.1)
    clear k0 k1 k1a k1b s0 s0a s0b s1 s1a s1b s2 s2a s2b s3 s3a s3b s4 s4a s4b s5 s5a s5b t0 t0a t0b t1 t1a t1b t2 t2a t2b t3 t3a t3b t4 t4a t4b t5 t5a t5b
    by_cases he : ca.ef = cb.ef ∧ ca.ef ≠ 0
    · have HHE := Lib.hid he
      have hq1 : (ca.ef == cb.ef) = true := by simp [he.1]
      have hq2 : (ca.ef != 0) = true := by simp [he.2]
      clear he
      go_wp2
      go_loopw [15, 16] (fun i _ wr => ∃ Y : Nat, f + 1 ≤ Y ∧ Y ≤ t ∧ i = .int .i64 (Y : Int) ∧ Hid (wc.grownBy wr (some g)) ∧ Hid (∃ L, Up l C (f + 1) c 1 (intF l C c f t) (Y - (f + 1)) 0 L ∧ Kr wr g L)) (fun i _ _ => t - (intOf i).toNat)
      case atStart => exact ⟨f + 1, Nat.le_refl _, HC.out.2.1, by go_num, grownBy_refl _ _, _, by rw [Nat.sub_self]; exact up_start _ _ _ _ _ _, HKx.out⟩
      case round =>
        obtain ⟨Y, hY1, hY2, rfl, HG, HL⟩ := hrel
        obtain ⟨h9, hr', hx1, hx2⟩ := HU.out _ HG.out
        have y4 : wr.cell? ⟨x1, 4, none⟩ = some (.int .i64 ca.ef) := hx1 4 _ rfl
        have y5 : wr.cell? ⟨x1, 5, none⟩ = some (.int .i64 ca.pa) := hx1 5 _ rfl
        have z4 : wr.cell? ⟨x2, 4, none⟩ = some (.int .i64 cb.ef) := hx2 4 _ rfl
        have z5 : wr.cell? ⟨x2, 5, none⟩ = some (.int .i64 cb.pa) := hx2 5 _ rfl
        clear hx1 hx2
        by_cases hlt : Y < t
        · have hlt' : (Y : Int) < (t : Int) := by omega
          have k9 := h9.1 1 _ rfl
          obtain ⟨L, hL, hK⟩ := HL.out
          obtain ⟨c1, c2, c3⟩ := HC.out
          obtain ⟨f1, f2, f3, f4, f5, f6⟩ := HN.out
          obtain ⟨M, hM⟩ : ∃ M, Y * C = M := ⟨_, rfl⟩
          obtain ⟨I, hI⟩ : ∃ I, M + c = I := ⟨_, rfl⟩
          obtain ⟨K, hKY⟩ : ∃ K : Nat, Y = f + K := ⟨Y - f, by omega⟩
          obtain ⟨N, hNt⟩ : ∃ N : Nat, t = f + N := ⟨t - f, by omega⟩
          have hIn : I < n := by
            have := Pt.rc_in (R := R) (C := C) (y := Y) (x := c) (by omega) c1
            rw [hM, hI] at this
            omega
          have hM' : (Y : Int) * (C : Int) = (M : Int) := by rw [← hM, Int.natCast_mul]
          have hI' : (M : Int) + (c : Int) = (I : Int) := by omega
          have i1 : (I : Int) < (n : Int) := by omega
          have i5 : (M : Int) ≤ 1024 := by omega
          have hIl : I < l.length := by rw [f1]; exact hIn
          have hIC : Y * C + c = I := by rw [hM]; exact hI
          obtain ⟨hnow, hst⟩ := int_step hL c1 hY1 hIC hIl
          have hfi := int_at (l := l) (f := f) (t := t) c1 hIC
          rw [HFF.out.2.2.1, HFF.out.2.2.2, HCA.out, HCB.out] at hfi
          obtain ⟨ci, hci⟩ : ∃ ci, Pt.at' l I = ci := ⟨_, rfl⟩
          rw [hci] at hfi hnow
          have hrow := hK.one (i := I) (by rw [hL.1]; exact hIl)
          have hth := hK.th (i := I) (by rw [hL.1]; exact hIl)
          rw [hnow] at hrow
          obtain ⟨-, -, -, -, d4, d5⟩ := rng_cells hrow
          have w4f := (hth 4 (by decide)).2
          have w5f := (hth 5 (by decide)).2
          have HST := Lib.hid hst
          have HFI := Lib.hid hfi
          have HKN := Lib.hid (show (Y : Int) - f = (K : Int) ∧ (t : Int) - f = (N : Int) ∧ K < N ∧ 0 < N ∧ N ≤ 64 ∧ Y + 1 ≤ t ∧ f + 1 ≤ Y from ⟨by omega, by omega, by omega, by omega, by omega, by omega, hY1⟩)
          have HKR := Lib.hid (show Kr wr g L ∧ I < L.length ∧ Pt.at' L I = ci from ⟨hK, by rw [hL.1]; exact hIl, hnow⟩)
          have hk1 : (Y : Int) - (f : Int) = (K : Int) := by omega
          have hk2 : (t : Int) - (f : Int) = (N : Int) := by omega
          have hk3 : (K : Int) ≤ 64 := by omega
          have hk4 : (N : Int) ≤ 64 := by omega
          clear h9 hr' hL hK c1 c2 c3 f1 f2 f3 f4 f5 f6 hM hI hKY hNt hIn hIl hIC hnow hst hfi hci hrow hth hY1 hY2 hlt
          by_cases hev : ci.ef = 0
          · have hev1 : (ci.ef == 0) = true := by simp [hev]
            have HEV := Lib.hid hev
            clear hev
            obtain ⟨E, hE⟩ : ∃ E, cb.pa - ca.pa = E := ⟨_, rfl⟩
            obtain ⟨G, hG⟩ : ∃ G, E * (K : Int) = G := ⟨_, rfl⟩
            obtain ⟨⟨p1, p2⟩, ⟨p3, p4⟩, p5, p6⟩ := ip_bound (n := N) (k := K) ⟨v1, v2⟩ ⟨v3, v4⟩ HKN.out.2.2.1
            have hip := ip_eq (a := ca.pa) (b := cb.pa) (n := (N : Int)) (k := (K : Int)) (by have := HKN.out; omega)
            obtain ⟨V, hV⟩ : ∃ V, (ca.pa * ((N : Int) - K) + cb.pa * (K : Int)) / (N : Int) = V := ⟨_, rfl⟩
            rw [hE, hG, hV] at hip
            rw [hV] at p5 p6
            have gb : -16320 ≤ G ∧ G ≤ 16320 := by
              rw [← hG]
              have b1 := Int.mul_le_mul_of_nonneg_right (show E ≤ 255 by omega) (show (0 : Int) ≤ (K : Int) by omega)
              have b2 := Int.mul_le_mul_of_nonneg_right (show -255 ≤ E by omega) (show (0 : Int) ≤ (K : Int) by omega)
              omega
            obtain ⟨gb1, gb2⟩ := gb
            have CF := Lib.hid (fun u => r_floor G N u (by omega) (by omega) (by have := HKN.out; omega) (by omega))
            obtain ⟨Q, hQ⟩ : ∃ Q, G / (N : Int) = Q := ⟨_, rfl⟩
            rw [hQ] at CF hip
            have HVV := Lib.hid (show intF l C c f t I = { ci with ef := ca.ef, pa := V } by
              rw [HFI.out]
              unfold Pt.intC
              rw [if_pos ⟨HHE.out.1, HHE.out.2, HEV.out⟩, HKN.out.1, HKN.out.2.1, hV])
            have q1b : -16320 ≤ Q := by omega
            have q2b : Q ≤ 16320 := by omega
            clear hQ hV p1 p2 p3 p4
            have wE : IntKind.i64.wrap E = E := by rw [IntKind.wrap_i64]; omega
            have wK : IntKind.i64.wrap (K : Int) = (K : Int) := by rw [IntKind.wrap_i64]; omega
            have wN : IntKind.i64.wrap (N : Int) = (N : Int) := by rw [IntKind.wrap_i64]; omega
            have wG : IntKind.i64.wrap G = G := by rw [IntKind.wrap_i64]; omega
            have wV : IntKind.i64.wrap V = V := by rw [IntKind.wrap_i64]; omega
            go_upto_region 12 with fail
            have hne1 : x1 ≠ g := by have := HF.out.2.2.2.1; have := HGE.out; omega
            have hne2 : x2 ≠ g := by have := HF.out.2.2.2.2; have := HGE.out; omega
            have HS0 : ∀ w' : World, wr.grownBy w' (some g) → w'.cell? ⟨x1, 4, none⟩ = some (.int .i64 ca.ef) ∧ w'.cell? ⟨x1, 5, none⟩ = some (.int .i64 ca.pa) ∧ w'.cell? ⟨x2, 5, none⟩ = some (.int .i64 cb.pa) := fun w' h => ⟨cell_grown h y4 hne1, cell_grown h y5 hne1, cell_grown h z5 hne2⟩
            have hb' := (Below.refl wr.heap.size wr).drew
            have hg := HS0 _ (grownBy_of hb')
            have hg1 := fun v => HS0 _ (grown_drew' (grown_set wr g (I * 6 + 4) v))
            have hg2 := fun v v' => HS0 _ (grown_drew' (grownBy_trans (grown_set wr g (I * 6 + 4) v) (grown_set _ g (I * 6 + 5) v')))
            clear hne1 hne2 HS0 hb' k9
            go_region_held3 (fun w' => w'.cell? ⟨x1, 4, none⟩ = some (.int .i64 ca.ef) ∧ w'.cell? ⟨x1, 5, none⟩ = some (.int .i64 ca.pa) ∧ w'.cell? ⟨x2, 5, none⟩ = some (.int .i64 cb.pa))
              (first | with_reducible exact hg | with_reducible exact hg1 _ | with_reducible exact hg2 _ _)
              (first | (go_at_call 56; refine (CF.out _).mono ?_; rintro x' w6 ⟨rfl, rfl⟩))
            all_goals
              go_wp2
              go_roundw
              case rel =>
                refine ⟨Y + 1, by have := HKN.out; omega, by have := HKN.out; omega, by go_num, grown_drew' (grownBy_trans (grownBy_trans HG.out (grown_set _ _ _ _)) (grown_set _ _ _ _)), _, HST.out, ?_⟩
                rw [HVV.out]
                exact (kr_two HKR.out.1 HKR.out.2.1 HKR.out.2.2).kept (Below.refl _ _).drew
              case measure => simp [intOf]; have := HKN.out; omega
          · have hev1 : (ci.ef == 0) = false := by simp [hev]
            have HVV := Lib.hid (show intF l C c f t I = ci by
              rw [HFI.out]
              unfold Pt.intC
              rw [if_neg (fun h => hev h.2.2)])
            clear hev
            go_wp2
            go_roundw
            case rel =>
              refine ⟨Y + 1, by have := HKN.out; omega, by have := HKN.out; omega, by go_num, HG.out, _, HST.out, ?_⟩
              rw [HVV.out, set_same HKR.out.2.1 HKR.out.2.2]
              exact HKR.out.1
            case measure => simp [intOf]; have := HKN.out; omega
        · obtain rfl : Y = t := by omega
          have hlt' : ¬ (Y : Int) < (Y : Int) := by omega
          have HH9 := Lib.hid h9
          have HRw := Lib.hid hr'
          have HLF := Lib.hid (show ∃ L, L = Pt.intL l C c f Y ∧ Kr wr g L from by
            obtain ⟨L, hL, hK⟩ := HL.out
            exact ⟨L, int_done HC.out.1 HN.out.2.1 HC.out.2.1 hL, hK⟩)
          clear h9 hr' hY1 hY2 hlt
          go_wp2_with (first | (refine ld_pat (by rfl) (.tmp 12) rfl rfl HH9.out.1 ?_) | ((refine st_pat (by rfl) (.tmp 10) _ rfl rfl rfl HRw.out.2 ?_); intro w5 h5 g5; have H5 := Lib.hid h5; have G5 := Lib.hid g5; clear h5 g5))
          obtain ⟨e1, e2, e3, e4, e5, e6⟩ := HGE.out
          have e7 := HG.out.size
          have e8 := HF.out.1.size
          refine bodyPost_ret (res_pe rfl rfl H5.out.1 rfl) rfl ⟨⟨some ⟨g, 0, none⟩, cp, ?_, ?_, .inr ⟨g, rfl, ?_, ?_⟩⟩, ?_⟩
          · rw [HIL.out]; rfl
          · rw [HIL.out]; exact HCP.out
          · omega
          · obtain ⟨L, hL, hK⟩ := HLF.out
            rw [← hL]
            exact hK.grown G5.out (by omega)
          · exact grown_at (grown_at (stepB HB.out (stepB HB4.out HF.out.1)) (by omega) (by omega) HG.out) (by omega) (by omega) G5.out
    · have HNE := Lib.hid (show ¬ ((Pt.at' l (f * C + c)).ef = (Pt.at' l (t * C + c)).ef ∧ (Pt.at' l (f * C + c)).ef ≠ 0) by
        rw [HFF.out.2.2.1, HFF.out.2.2.2, HCA.out, HCB.out]
        exact he)
      obtain ⟨h9, hr', hx1, hx2⟩ := HU.out _ (grownBy_refl _ _)
      have y4 : wc.cell? ⟨x1, 4, none⟩ = some (.int .i64 ca.ef) := hx1 4 _ rfl
      have z4 : wc.cell? ⟨x2, 4, none⟩ = some (.int .i64 cb.ef) := hx2 4 _ rfl
      have HH9 := Lib.hid h9
      have HRw := Lib.hid hr'
      clear hx1 hx2 h9 hr'
      by_cases g1 : f + 1 < t
      · have g1' : (f : Int) + 1 < (t : Int) := by omega
        by_cases g3 : ca.ef = cb.ef
        · have g5 : ca.ef = 0 := by
            by_cases h : ca.ef = 0
            · exact h
            · exact absurd ⟨g3, h⟩ he
          have hq1 : (ca.ef == cb.ef) = true := by simp [g3]
          have hq2 : (ca.ef != 0) = false := by simp [g5]
          clear g1 g3 g5 he
          go_wp2
          go_loopw [15, 16] (fun i _ wr => i = .int .i64 ((f : Int) + 1) ∧ wr = wc) (fun _ _ _ => 0)
          case atStart => exact ⟨by go_num, rfl⟩
          case round =>
            obtain ⟨rfl, rfl⟩ := hrel
            have HG := Lib.hid (grownBy_refl wr (some g))
            have HLF := Lib.hid (show ∃ L, L = Pt.intL l C c f t ∧ Kr wr g L from ⟨l, (int_none HNE.out).symm, HKx.out⟩)
            go_wp2_with (first | (refine ld_pat (by rfl) (.tmp 12) rfl rfl HH9.out.1 ?_) | ((refine st_pat (by rfl) (.tmp 10) _ rfl rfl rfl HRw.out.2 ?_); intro w5 h5 g5; have H5 := Lib.hid h5; have G5 := Lib.hid g5; clear h5 g5))
            obtain ⟨e1, e2, e3, e4, e5, e6⟩ := HGE.out
            have e7 := HG.out.size
            have e8 := HF.out.1.size
            refine bodyPost_ret (res_pe rfl rfl H5.out.1 rfl) rfl ⟨⟨some ⟨g, 0, none⟩, cp, ?_, ?_, .inr ⟨g, rfl, ?_, ?_⟩⟩, ?_⟩
            · rw [HIL.out]; rfl
            · rw [HIL.out]; exact HCP.out
            · omega
            · obtain ⟨L, hL, hK⟩ := HLF.out
              rw [← hL]
              exact hK.grown G5.out (by omega)
            · exact grown_at (grown_at (stepB HB.out (stepB HB4.out HF.out.1)) (by omega) (by omega) HG.out) (by omega) (by omega) G5.out
        · have hq1 : (ca.ef == cb.ef) = false := by simp [g3]
          clear g1 g3 he
          go_wp2
          go_loopw [15, 16] (fun i _ wr => i = .int .i64 ((f : Int) + 1) ∧ wr = wc) (fun _ _ _ => 0)
          case atStart => exact ⟨by go_num, rfl⟩
          case round =>
            obtain ⟨rfl, rfl⟩ := hrel
            have HG := Lib.hid (grownBy_refl wr (some g))
            have HLF := Lib.hid (show ∃ L, L = Pt.intL l C c f t ∧ Kr wr g L from ⟨l, (int_none HNE.out).symm, HKx.out⟩)
            go_wp2_with (first | (refine ld_pat (by rfl) (.tmp 12) rfl rfl HH9.out.1 ?_) | ((refine st_pat (by rfl) (.tmp 10) _ rfl rfl rfl HRw.out.2 ?_); intro w5 h5 g5; have H5 := Lib.hid h5; have G5 := Lib.hid g5; clear h5 g5))
            obtain ⟨e1, e2, e3, e4, e5, e6⟩ := HGE.out
            have e7 := HG.out.size
            have e8 := HF.out.1.size
            refine bodyPost_ret (res_pe rfl rfl H5.out.1 rfl) rfl ⟨⟨some ⟨g, 0, none⟩, cp, ?_, ?_, .inr ⟨g, rfl, ?_, ?_⟩⟩, ?_⟩
            · rw [HIL.out]; rfl
            · rw [HIL.out]; exact HCP.out
            · omega
            · obtain ⟨L, hL, hK⟩ := HLF.out
              rw [← hL]
              exact hK.grown G5.out (by omega)
            · exact grown_at (grown_at (stepB HB.out (stepB HB4.out HF.out.1)) (by omega) (by omega) HG.out) (by omega) (by omega) G5.out
      · have g1' : ¬ (f : Int) + 1 < (t : Int) := by omega
        clear g1 he
        go_wp2
        go_loopw [15, 16] (fun i _ wr => i = .int .i64 ((f : Int) + 1) ∧ wr = wc) (fun _ _ _ => 0)
        case atStart => exact ⟨by go_num, rfl⟩
        case round =>
          obtain ⟨rfl, rfl⟩ := hrel
          have HG := Lib.hid (grownBy_refl wr (some g))
          have HLF := Lib.hid (show ∃ L, L = Pt.intL l C c f t ∧ Kr wr g L from ⟨l, (int_none HNE.out).symm, HKx.out⟩)
          go_wp2_with (first | (refine ld_pat (by rfl) (.tmp 12) rfl rfl HH9.out.1 ?_) | ((refine st_pat (by rfl) (.tmp 10) _ rfl rfl rfl HRw.out.2 ?_); intro w5 h5 g5; have H5 := Lib.hid h5; have G5 := Lib.hid g5; clear h5 g5))
          obtain ⟨e1, e2, e3, e4, e5, e6⟩ := HGE.out
          have e7 := HG.out.size
          have e8 := HF.out.1.size
          refine bodyPost_ret (res_pe rfl rfl H5.out.1 rfl) rfl ⟨⟨some ⟨g, 0, none⟩, cp, ?_, ?_, .inr ⟨g, rfl, ?_, ?_⟩⟩, ?_⟩
          · rw [HIL.out]; rfl
          · rw [HIL.out]; exact HCP.out
          · omega
          · obtain ⟨L, hL, hK⟩ := HLF.out
            rw [← hL]
            exact hK.grown G5.out (by omega)
          · exact grown_at (grown_at (stepB HB.out (stepB HB4.out HF.out.1)) (by omega) (by omega) HG.out) (by omega) (by omega) G5.out
theorem eint_nat {r ch c f t : Int} {l : List Pt.Cl} (h : Pt.eInt r l ch c f t = 0) : ∃ R C F T X : Nat, r = R ∧ ch = C ∧ f = F ∧ t = T ∧ c = X ∧ F < T ∧ T < R ∧ X < C ∧ R ≤ 64 ∧ C ≤ 16 ∧ l.length = R * C ∧ Pt.all l = true ∧ Pt.vpat r l ch = true := by
  unfold Pt.eInt at h
  by_cases h1 : Pt.ePlace r l ch f c = 0
  · rw [if_pos h1] at h
    by_cases h2 : f < t ∧ t < r
    · obtain ⟨R, C, y, x, rfl, rfl, rfl, rfl, g1, g2, g3, g4, g5, g6, g7, g8⟩ := place_nx h1
      exact ⟨R, C, y, t.toNat, x, rfl, rfl, rfl, by omega, rfl, by omega, by omega, g2, g3, g4, g5, g7, g8⟩
    · rw [if_neg h2] at h; exact absurd h (by decide)
  · rw [if_neg h1] at h; exact absurd h h1
theorem r_Int (r : Int) (l : List Pt.Cl) (p : Option Addr) (cap : Nat) (ch c f t : Int) (w : World) (hd : CellsAt w p l) :
    Calls Tryz.prog 26 #[PV r p l.length cap, .int .i64 ch, .int .i64 c, .int .i64 f, .int .i64 t] w fun x w' => RetPE (Pt.okI (Pt.eInt r l ch c f t) r) (Pt.okL (Pt.eInt r l ch c f t) (Pt.intL l ch.toNat c.toNat f.toNat t.toNat)) (Pt.eInt r l ch c f t) w.heap.size x w' ∧ Below w.heap.size w w' := by
  by_cases h : Pt.eInt r l ch c f t = 0
  · rw [h]
    obtain ⟨R, C, F, T, X, rfl, rfl, rfl, rfl, rfl, g1, g2, g3, g4, g5, g6, g7, g8⟩ := eint_nat h
    exact r_Int_ok R C X F T l p cap w hd g8 g4 g5 g6 g3 g1 g2 g7
  · have e1 : Pt.okI (Pt.eInt r l ch c f t) r = 0 := if_neg h
    have e2 : Pt.okL (Pt.eInt r l ch c f t) (Pt.intL l ch.toNat c.toNat f.toNat t.toNat) = [] := if_neg h
    rw [e1, e2]
    exact r_Interpolate_bad r l p cap ch c f t w hd rfl h
end Go.Proofs.YtfjfnbeegojlbaaGreat

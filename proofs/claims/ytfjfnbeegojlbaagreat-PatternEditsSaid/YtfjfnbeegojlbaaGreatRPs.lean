/-
  The reference's Paste.
-/
import Derived.Test.YtfjfnbeegojlbaaGreatRBadB
import Derived.Test.YtfjfnbeegojlbaaGreatRMx
import Derived.Test.YtfjfnbeegojlbaaGreatRTr
import Derived.Deep.RegionLaw
namespace Go.Proofs.YtfjfnbeegojlbaaGreat
open Go.RowKit

theorem there_cell (w : World) : (w.alloc (.cells #[.int .i64 0, .int .i64 0, .int .i64 0, .int .i64 0, .int .i64 0, .int .i64 0] 28)).there w.heap.size 0 6 := there_box w (CL Pt.zc) _
set_option maxRecDepth 100000 in
set_option maxHeartbeats 6400000 in
theorem r_Paste_ok (R C y0 x0 BR BW : Nat) (l : List Pt.Cl) (p : Option Addr) (cap : Nat) (bl : List Pt.Cl) (bb bo bc : Nat) (mx : Bool) (w : World) (hd : CellsAt w p l) (hbb : bb < w.heap.size) (hbr : w.rangeAt bb bo (cc bl)) (h1 : Pt.vpat R l C = true) (h2 : Pt.vpat BR bl BW = true) (g2 : R ≤ 64) (g4 : C ≤ 16) (hl : l.length = R * C) (q1 : y0 < R) (q2 : x0 < C) (g7 : BR ≤ 64) (g9 : BW ≤ 16) (hbl : bl.length = BR * BW) :
    Calls Tryz.prog 18 #[PV R p l.length cap, .int .i64 C, PV BR (some ⟨bb, bo, none⟩) bl.length bc, .int .i64 BW, .int .i64 y0, .int .i64 x0, .bool mx] w fun x w' => RetPE R (Pt.pasteL l C bl BR BW y0 x0 mx) 0 w.heap.size x w' ∧ Below w.heap.size w w' := by
  have hpos : 0 < l.length := by rw [hl]; exact Nat.mul_pos (by omega) (by omega)
  have hd2 : CellsAt w (some ⟨bb, bo, none⟩) bl := .inr ⟨bb, bo, rfl, hbb, hbr⟩
  obtain ⟨nb, hnn2⟩ : ∃ nb, bl.length = nb := ⟨_, rfl⟩
  have hnb : nb ≤ 1024 := by rw [← hnn2, hbl]; exact Pt.rc_bound g7 g9
  have HM := Lib.hid (show y0 < R ∧ x0 < C ∧ BR ≤ 64 ∧ BW ≤ 16 ∧ bl.length = BR * BW ∧ bl.length = nb ∧ nb ≤ 1024 from ⟨q1, q2, g7, g9, hbl, hnn2, hnb⟩)
  have HBB := Lib.hid (show bb < w.heap.size ∧ w.rangeAt bb bo (cc bl) from ⟨hbb, hbr⟩)
  have m1 : (R : Int) ≤ 64 := by omega
  have m2 : (C : Int) ≤ 16 := by omega
  have m3 : (BR : Int) ≤ 64 := by omega
  have m4 : (BW : Int) ≤ 16 := by omega
  have m5 : (nb : Int) ≤ 1024 := by omega
  clear hbb hbr hbl g7 g9 hnb
  obtain ⟨W, hW, hB, hs, hp, ha, hr⟩ := pats_new w R (.slice p l.length cap) BR (.slice (some ⟨bb, bo, none⟩) bl.length bc)
  have HB := Lib.hid hB
  have HP := Lib.hid hp
  have HR := Lib.hid hr
  have HS := Lib.hid hs
  have CV := Lib.hid (fun u (hu : Below W.heap.size W u) => r_Valid R l p cap C u ((hd.below hB).below hu))
  rw [h1] at CV
  have hn1 : l.length ≤ 1024 := by rw [hl]; exact Pt.rc_bound g2 g4
  have CW := Lib.hid (fun u (hu : Below W.heap.size W u) => r_Valid BR bl (some ⟨bb, bo, none⟩) bc BW u ((hd2.below hB).below hu))
  have CR := Lib.hid (fun u => r_inside_v (show Pt.plc (y0 : Int) (R : Int) = true from decide_eq_true (by omega)) u)
  have CK := Lib.hid (fun u => r_inside_v (show Pt.plc (x0 : Int) (C : Int) = true from decide_eq_true (by omega)) u)
  rw [h2] at CW
  have C3 := Lib.hid (fun u (hu : Below W.heap.size W u) => r_copied R l p cap u ((hd.below hB).below hu) hn1)
  obtain ⟨n, hnn⟩ : ∃ n, l.length = n := ⟨_, rfl⟩
  unfold RetO at C3
  simp only [hnn] at C3
  obtain ⟨b, hb⟩ : ∃ b, b = w.heap.size := ⟨_, rfl⟩
  rw [← hb] at hp ha HP HR HS
  have HA := Lib.hid ha
  have HBE := Lib.hid hb
  have HBc := Lib.hid (Below.refl W.heap.size W)
  unfold PV at CV C3 CW ⊢
  have HN := Lib.hid (show l.length = n ∧ l.length = R * C ∧ n ≤ 1024 ∧ R ≤ 64 ∧ C ≤ 16 ∧ 0 < n from ⟨hnn, hl, by rw [← hnn]; exact hn1, g2, g4, by rw [← hnn]; exact hpos⟩)
  rw [hnn] at hW HP CV hp ⊢
  rw [hnn2] at hW CW HA ha ⊢
  obtain ⟨k0, k1, q0, q1⟩ := four hp ha (Below.refl _ W)
  clear hd hB hs hp ha hr h1 hl hn1 hnn hpos g2 g4 h2 hd2
  go_enter Tryz.func18, Tryz.ntmps18
  go_upto_region 1 with fail
  rw [← hW, ← hb]
  clear hW hb
  go_upto_region 6 with (first | (refine ld_pat (by rfl) (.tmp 7) rfl rfl (HP.out.kept HBc.out).1 ?_) | (refine ld_pat (by rfl) (.tmp 9) rfl rfl (HA.out.kept HBc.out).1 ?_) | (go_at_call 10; ((with_reducible refine (CV.out _ HBc.out).mono ?_); rintro x' w1 ⟨rfl, hb1⟩; have HBn := Lib.hid (stepB HBc.out hb1); clear HBc k0 k1 q0 q1 hb1; have HBc := HBn; clear HBn; obtain ⟨k0, k1, q0, q1⟩ := four HP.out HA.out HBc.out)) | (go_at_call 10; ((with_reducible refine (CW.out _ HBc.out).mono ?_); rintro x' w1 ⟨rfl, hb1⟩; have HBn := Lib.hid (stepB HBc.out hb1); clear HBc k0 k1 q0 q1 hb1; have HBc := HBn; clear HBn; obtain ⟨k0, k1, q0, q1⟩ := four HP.out HA.out HBc.out)) | (go_at_call 36; ((with_reducible refine (CR.out _).mono ?_); rintro x' w3 ⟨rfl, rfl⟩)) | (go_at_call 36; ((with_reducible refine (CK.out _).mono ?_); rintro x' w3 ⟨rfl, rfl⟩)) | (go_at_call 47; ((with_reducible refine (C3.out _ HBc.out).mono ?_); rintro x' w3 ⟨⟨q, cp, rfl, hcp, ho, hoc⟩, hb3⟩; have HO := Lib.hid ho; have HOC := Lib.hid hoc; have HCP := Lib.hid hcp; have HB2 := HBc; have HBn := Lib.hid (stepB HBc.out hb3); clear HBc k0 k1 q0 q1 hb3 ho hoc hcp; have HBc := HBn; clear HBn; have HPx := Lib.hid (HP.out.kept HBc.out))) | ((refine st_pat (by rfl) (.tmp 16) _ rfl rfl rfl (pb_box _ _ _ _).2 ?_); intro w4 h4 g4; have H4 := Lib.hid h4; have G4 := Lib.hid g4; clear h4 g4))
  obtain ⟨g, rfl, hg, hk⟩ := own_some HO.out (by rw [HN.out.1]; exact HN.out.2.2.2.2.2)
  obtain ⟨b9, hb9⟩ : ∃ b9, b9 = w3.heap.size := ⟨_, rfl⟩
  have HK4 := Lib.hid (show Kr w4 g l from (hk.kept (below_box _ _)).grown G4.out (by have := hk.1; omega))
  have HB4 := Lib.hid (show Below W.heap.size W w4 from grown_at (stepB HBc.out (below_box _ (.cells #[.int .i64 0, .slice none 0 0] 24))) HBc.out.size (by simp; exact Nat.le_succ_of_le HBc.out.size) G4.out)
  have HGE := Lib.hid (show W.heap.size ≤ g ∧ g < b9 ∧ b9 < w4.heap.size ∧ b + 3 = W.heap.size ∧ w.heap.size = b ∧ W.heap.size ≤ w4.heap.size from ⟨Nat.le_trans HB2.out.size hg, by rw [hb9]; exact hk.1, by rw [hb9]; exact H4.out.lt, HS.out.symm, HBE.out.symm, HB4.out.size⟩)
  rw [← hb9] at H4 ⊢
  clear hg hk hb9 HO HOC
  have HSW := Lib.hid (show bb < W.heap.size ∧ W.rangeAt bb bo (cc bl) from ⟨Nat.lt_of_lt_of_le HBB.out.1 HB.out.size, range_below HBB.out.2 HB.out HBB.out.1⟩)
  have HU := Lib.hid (show ∀ u : World, w4.grownBy u (some g) → Pb u b R (.slice p n cap) ∧ Pb u (b + 1) BR (.slice (some ⟨bb, bo, none⟩) nb bc) ∧ Pb u b9 R (.slice (some ⟨g, 0, none⟩) n cp) ∧ (bb < u.heap.size ∧ u.rangeAt bb bo (cc bl)) ∧ Pb u (b + 2) 0 (.slice none 0 0) ∧ g < u.heap.size from fun u hu => by
    obtain ⟨e1, e2, e3, e4, e5, e6⟩ := HGE.out
    have e7 := HSW.out.1
    have e8 := hu.size
    exact ⟨(HP.out.kept HB4.out).grown hu (by omega), (HA.out.kept HB4.out).grown hu (by omega), H4.out.grown hu (by omega), ⟨by omega, range_grown (range_below HSW.out.2 HB4.out e7) hu (by omega) (by omega)⟩, (HR.out.kept HB4.out).grown hu (by omega), by omega⟩)
  obtain ⟨kh, hkh⟩ : ∃ kh, kh = min BR (R - y0) := ⟨_, rfl⟩
  obtain ⟨kw, hkw⟩ : ∃ kw, kw = min BW (C - x0) := ⟨_, rfl⟩
  have HKH := Lib.hid hkh
  have HKW := Lib.hid hkw
  have n1 : (kh : Int) ≤ 64 := by omega
  have n2 : (kw : Int) ≤ 16 := by omega
  have n3 : (y0 : Int) ≤ 64 := by omega
  have n4 : (x0 : Int) ≤ 16 := by omega
  clear hkh hkw q1 q2
  go_wp2
  go_loopw [17, 18, 19, 20] (fun i _ _ _ wr => ∃ k : Nat, k ≤ kh ∧ i = .int .i64 ((y0 : Int) + (k : Int)) ∧ Hid (w4.grownBy wr (some g)) ∧ Hid (∃ L, Up l C y0 x0 kw (pstF l C bl BW y0 x0 mx) k 0 L ∧ Kr wr g L)) (fun i _ _ _ _ => y0 + kh - (intOf i).toNat)
  case atStart => exact ⟨0, by omega, by simp, grownBy_refl _ _, _, up_start _ _ _ _ _ _, HK4.out⟩
  case round =>
    obtain ⟨k, hk, rfl, HG, HL⟩ := hrel
    obtain ⟨hp', hb', h9, hs', hr', hg'⟩ := HU.out _ HG.out
    have hk' : (k : Int) ≤ (kh : Int) := by omega
    have k0 := hp'.1 0 _ rfl
    have q0 := hb'.1 0 _ rfl
    have e1 : (y0 : Int) + (k : Int) - (y0 : Int) = (k : Int) := by omega
    by_cases hlt : k < kh
    · have HLT := Lib.hid hlt
      have t1 : (y0 : Int) + (k : Int) < (R : Int) := by have := HKH.out; omega
      have t2 : (k : Int) < (BR : Int) := by have := HKH.out; omega
      clear hp' hb' h9 hs' hr' hg' hlt hk
      go_upto_region 10 with fail
      go_loopw [18, 19, 20] (fun i _ _ u => ∃ x : Nat, x ≤ kw ∧ i = .int .i64 ((x0 : Int) + (x : Int)) ∧ Hid (w4.grownBy u (some g)) ∧ Hid (∃ L, Up l C y0 x0 kw (pstF l C bl BW y0 x0 mx) k x L ∧ Kr u g L)) (fun i _ _ _ => x0 + kw - (intOf i).toNat)
      case atStart => exact ⟨0, by omega, by simp, HG.out, HL.out⟩
      case round =>
        obtain ⟨x, hx, rfl, HGu, HLu⟩ := hrel
        obtain ⟨hp', hb', h9, hs', hr', hg'⟩ := HU.out _ HGu.out
        clear k0 q0
        have hx' : (x : Int) ≤ (kw : Int) := by omega
        have e2 : (x0 : Int) + (x : Int) - (x0 : Int) = (x : Int) := by omega
        by_cases hlx : x < kw
        · have HLX := Lib.hid hlx
          have t3 : (x0 : Int) + (x : Int) < (C : Int) := by have := HKW.out; omega
          have t4 : (x : Int) < (BW : Int) := by have := HKW.out; omega
          obtain ⟨L, hL, hK⟩ := HLu.out
          obtain ⟨f1, f2, f3, f4, f5, f6⟩ := HN.out
          obtain ⟨c1, c2, c3, c4, c5, c6, c7⟩ := HM.out
          obtain ⟨M, hM⟩ : ∃ M, (y0 + k) * C = M := ⟨_, rfl⟩
          obtain ⟨I, hI⟩ : ∃ I, M + (x0 + x) = I := ⟨_, rfl⟩
          obtain ⟨S, hS⟩ : ∃ S, k * BW = S := ⟨_, rfl⟩
          obtain ⟨S2, hS2⟩ : ∃ S2, S + (x0 + x) = S2 := ⟨_, rfl⟩
          obtain ⟨J, hJ⟩ : ∃ J, S + x = J := ⟨_, rfl⟩
          have hxC : x0 + x < C := by omega
          have hIn : I < n := by
            have := Pt.rc_in (R := R) (C := C) (y := y0 + k) (x := x0 + x) (by omega) hxC
            rw [hM, hI] at this
            omega
          have hJn : J < nb := by
            have := Pt.rc_in (R := BR) (C := BW) (y := k) (x := x) (by omega) (by omega)
            rw [hS, hJ] at this
            omega
          have hM' : ((y0 : Int) + (k : Int)) * (C : Int) = (M : Int) := by rw [← hM, Int.natCast_mul, Int.natCast_add]
          have hI' : (M : Int) + ((x0 : Int) + (x : Int)) = (I : Int) := by omega
          have hS' : (k : Int) * (BW : Int) = (S : Int) := by rw [← hS, Int.natCast_mul]
          have hS2' : (S : Int) + ((x0 : Int) + (x : Int)) = (S2 : Int) := by omega
          have hJ' : (S2 : Int) - (x0 : Int) = (J : Int) := by omega
          have i1 : (I : Int) < (n : Int) := by omega
          have i2 : (J : Int) < (nb : Int) := by omega
          have i3 : (n : Int) ≤ 1024 := by omega
          have i5 : (M : Int) ≤ 1024 := by omega
          have i6 : (S : Int) ≤ 1024 := by omega
          have i7 : (S2 : Int) ≤ 2048 := by omega
          have hIl : I < l.length := by rw [f1]; exact hIn
          have hIC : (y0 + k) * C + (x0 + x) = I := by rw [hM]; exact hI
          have hnow := up_now hL hlx (by have := HKW.out; omega) hIC hIl
          have HUS := Lib.hid (up_step hL hlx (by have := HKW.out; omega) hIC hIl)
          have hfi := pst_at (l := l) (bl := bl) (BW := BW) (m := mx) hxC hIC
          rw [hS, hJ] at hfi
          have HFI := Lib.hid hfi
          have HIL := Lib.hid (show I < L.length by rw [hL.1]; exact hIl)
          have HKK := Lib.hid hK
          have HNOW := Lib.hid hnow
          have q1 := hb'.1 1 _ rfl
          have HSRC := Lib.hid (rng_of hs'.2 (i := J) (by rw [c6]; exact hJn))
          have HUG := Lib.hid (show g < wr.heap.size from hg')
          have H9W := Lib.hid h9
          clear hp' hb' h9 hs' hr' hg' f1 f2 f3 f4 f5 f6 c1 c2 c3 c4 c5 c6 c7 hM hI hS hS2 hJ hxC hIn hJn hIl hIC hnow hfi hL hK hlx hx
          obtain ⟨o0, ho0⟩ : ∃ o0, Pt.at' l I = o0 := ⟨_, rfl⟩
          obtain ⟨c0, hc0⟩ : ∃ c0, Pt.at' bl J = c0 := ⟨_, rfl⟩
          rw [ho0, hc0] at HFI
          rw [ho0] at HNOW
          rw [hc0] at HSRC
          have HRO := Lib.hid (show ∀ u, Below wr.heap.size wr u → u.rangeAt g (I * 6) (CL o0) from fun u hu => by
            have := (HKK.out.kept hu).one HIL.out
            rwa [HNOW.out] at this)
          have HNX := Lib.hid (show ∀ u, Below wr.heap.size wr u → ∀ c, Kr (u.setCells g (I * 6) (CL c)) g (L.set I c) from fun u hu c => (HKK.out.kept hu).setCl HIL.out c)
          have HTH := Lib.hid (show ∀ u, Below wr.heap.size wr u → u.there g (I * 6) 6 ∧ u.cell? ⟨b9, 1, none⟩ = some (.slice (some ⟨g, 0, none⟩) n cp) from fun u hu => ⟨(HKK.out.kept hu).th HIL.out, (H9W.out.kept hu).1 1 _ rfl⟩)
          clear ho0 hc0
          obtain ⟨bx, hbx⟩ : ∃ bx, bx = wr.heap.size := ⟨_, rfl⟩
          have HX := Lib.hid (show ∀ u : World, u = (wr.alloc (.cells (CL Pt.zc).toArray 28)).setCells bx 0 (CL c0) → Below wr.heap.size wr u ∧ u.rangeAt bx 0 (CL c0) ∧ u.there bx 0 6 ∧ bx < u.heap.size from fun u hu => by
            have ht : (wr.alloc (.cells (CL Pt.zc).toArray 28)).there bx 0 6 := by rw [hbx]; exact there_box wr (CL Pt.zc) _
            rw [hu]
            have hr := World.rangeAt_setCells_same _ bx 0 (CL c0) ht
            exact ⟨grown_at (below_box _ _) (Nat.le_of_eq hbx.symm) (by simp) (grown_setCells _ _ _ _), hr, World.there_setCells ht bx 0 _, cell_lt (hr 0 _ rfl)⟩)
          have HTB := Lib.hid (show (wr.alloc (.cells (CL Pt.zc).toArray 28)).there bx 0 6 by rw [hbx]; exact there_box wr (CL Pt.zc) _)
          rw [cl_zc] at HX HTB
          go_upto_region 14 with (first | (refine ld_cell (by rfl) (.tmp 92) rfl rfl HSRC.out ?_) | ((refine st_cell (by rfl) (.tmp 20) _ rfl rfl rfl (by rw [← hbx]; exact HTB.out) ?_); intro w6 h6; rw [← hbx] at h6; obtain ⟨hb6, hr6, ht6, hl6⟩ := HX.out _ h6; have HB6 := Lib.hid hb6; have HR6 := Lib.hid hr6; have HT6 := Lib.hid ht6; have HL6 := Lib.hid hl6; clear h6 hb6 hr6 ht6 hl6))
          rw [← hbx]
          have HBX := Lib.hid hbx
          have k9 := (HTH.out _ HB6.out).2
          clear hbx q1
          cases mx with
          | false =>
            go_wp2_with (first | (refine ld_cell (by rfl) (.tmp 20) rfl rfl HR6.out ?_) | ((refine st_cell (by rfl) (.tmp 106) _ rfl rfl rfl (HTH.out _ HB6.out).1 ?_); intro w7 h7; have H7 := Lib.hid h7; clear h7))
            go_roundw
            case rel => exact ⟨x + 1, HLX.out, by go_num, by rw [H7.out]; exact grownBy_trans HGu.out (grownBy_trans (grownBy_of HB6.out) (grown_setCells _ _ _ _)), _, HUS.out, by rw [HFI.out, H7.out]; exact HNX.out _ HB6.out _⟩
            case measure => simp [intOf]; have := HLX.out; omega
          | true =>
            go_wp2
            obtain ⟨cm, hcm⟩ : ∃ cm, Pt.mixed o0 c0 = cm := ⟨_, rfl⟩
            have CM1 := Lib.hid (fun u => r_mixed o0 c0 u)
            rw [hcm] at CM1
            rw [cl_arr o0, cl_arr c0, cl_arr cm] at CM1
            have HCM := Lib.hid hcm
            clear hcm
            have hrg := HRO.out _ HB6.out.drew
            have hrx : w6.drew.rangeAt bx 0 (CL c0) := HR6.out
            have k9d : w6.drew.cell? ⟨b9, 1, none⟩ = some (.slice (some ⟨g, 0, none⟩) n cp) := (HTH.out _ HB6.out.drew).2
            obtain ⟨g0, g1, g2, g3, g4, g5⟩ := rng_cells hrg
            obtain ⟨x0', x1', x2', x3', x4', x5'⟩ := rng_cells hrx
            simp only [Nat.zero_add] at x1' x2' x3' x4' x5'
            clear hrg hrx
            go_region_law (first | (go_simp; go_at_call 52; (with_reducible refine (CM1.out _).mono ?_); rintro x' w7 ⟨rfl, hb7⟩; have HB7 := Lib.hid (below_of_drew hb7); clear hb7; obtain ⟨y0', y1', y2', y3', y4', y5'⟩ := rng_cells (range_below HR6.out HB7.out HL6.out); simp only [Nat.zero_add] at y1' y2' y3' y4' y5'; have ht7 := there_below HT6.out HB7.out HL6.out; have z0' := (ht7 0 (by decide)).2; have z1' := (ht7 1 (by decide)).2; have z2' := (ht7 2 (by decide)).2; have z3' := (ht7 3 (by decide)).2; have z4' := (ht7 4 (by decide)).2; have z5' := (ht7 5 (by decide)).2; simp only [Nat.zero_add] at z0' z1' z2' z3' z4' z5'; have HT7 := Lib.hid ht7; clear ht7))
            all_goals
              obtain ⟨w8, h8⟩ : ∃ w8, w8 = w7.setCells bx 0 (CL cm) := ⟨_, rfl⟩
              change Exit.then _ _ _ _ (w7.setCells bx 0 (CL cm))
              have hr8 := World.rangeAt_setCells_same w7 bx 0 (CL cm) HT7.out
              have hb8 : Below wr.heap.size wr w8 := by
                rw [h8]
                exact grown_at (stepB HB6.out HB7.out) (Nat.le_of_eq HBX.out.symm) (stepB HB6.out HB7.out).size (grown_setCells _ _ _ _)
              rw [← h8] at hr8 ⊢
              have HR8 := Lib.hid hr8
              have k9e := (HTH.out _ hb8).2
              have HB8 := Lib.hid hb8
              clear h8 hr8 hb8 g0 g1 g2 g3 g4 g5 x0' x1' x2' x3' x4' x5' y0' y1' y2' y3' y4' y5' z0' z1' z2' z3' z4' z5'
              go_wp2_with (first | (refine ld_cell (by rfl) (.tmp 20) rfl rfl HR8.out ?_) | ((refine st_cell (by rfl) (.tmp 106) _ rfl rfl rfl (HTH.out _ HB8.out).1 ?_); intro w9 h9; have H9 := Lib.hid h9; clear h9))
              go_roundw
              case rel =>
                refine ⟨x + 1, HLX.out, by go_num, by rw [H9.out]; exact grownBy_trans HGu.out (grownBy_trans (grownBy_of HB8.out) (grown_setCells _ _ _ _)), _, HUS.out, ?_⟩
                rw [HFI.out, H9.out, ← HCM.out]
                exact HNX.out _ HB8.out _
              case measure => simp [intOf]; have := HLX.out; omega
        · obtain rfl : x = kw := by omega
          have HZ := Lib.hid (show (x0 + x < C ∧ ¬ x < BW) ∨ ¬ x0 + x < C by have := HKW.out; have := HM.out; omega)
          clear hp' hb' h9 hs' hr' hg' hlx hx
          rcases HZ.out with ⟨z1, z2⟩ | z1
          · have t3 : (x0 : Int) + (x : Int) < (C : Int) := by omega
            have t4 : ¬ (x : Int) < (BW : Int) := by omega
            clear z1 z2
            go_wp2
            go_roundw
            case rel =>
              obtain ⟨L, hL, hK⟩ := HLu.out
              exact ⟨k + 1, HLT.out, by go_num, HGu.out, L, up_row hL, hK⟩
            case measure => simp [intOf]; have := HLT.out; omega
          · have t3 : ¬ (x0 : Int) + (x : Int) < (C : Int) := by omega
            clear z1
            go_wp2
            go_roundw
            case rel =>
              obtain ⟨L, hL, hK⟩ := HLu.out
              exact ⟨k + 1, HLT.out, by go_num, HGu.out, L, up_row hL, hK⟩
            case measure => simp [intOf]; have := HLT.out; omega
    · obtain rfl : k = kh := by omega
      have HZ := Lib.hid (show (y0 + k < R ∧ ¬ k < BR) ∨ ¬ y0 + k < R by have := HKH.out; have := HM.out; omega)
      have HH9 := Lib.hid h9
      have HRw := Lib.hid hr'
      clear hp' hb' h9 hs' hr' hg' hlt hk
      rcases HZ.out with ⟨z1, z2⟩ | z1
      · have t3 : (y0 : Int) + (k : Int) < (R : Int) := by omega
        have t4 : ¬ (k : Int) < (BR : Int) := by omega
        clear z1 z2
        go_wp2_with (first | (refine ld_pat (by rfl) (.tmp 16) rfl rfl HH9.out.1 ?_) | ((refine st_pat (by rfl) (.tmp 14) _ rfl rfl rfl HRw.out.2 ?_); intro w5 h5 g5; have H5 := Lib.hid h5; have G5 := Lib.hid g5; clear h5 g5))
        obtain ⟨e1, e2, e3, e4, e5, e6⟩ := HGE.out
        have e7 := HG.out.size
        obtain ⟨L, hL, hK⟩ := HL.out
        have hfin : L = Pt.pasteL l C bl BR BW y0 x0 mx := pst_done (by have := HM.out; omega) HN.out.2.1 HKH.out HKW.out hL
        refine bodyPost_ret (res_pe rfl rfl H5.out.1 rfl) rfl ⟨⟨some ⟨g, 0, none⟩, cp, ?_, ?_, .inr ⟨g, rfl, ?_, ?_⟩⟩, ?_⟩
        · rw [← hfin, hL.1, HN.out.1]; rfl
        · rw [← hfin, hL.1, HN.out.1]; exact HCP.out
        · omega
        · rw [← hfin]; exact hK.grown G5.out (by omega)
        · exact grown_at (grown_at (stepB HB.out HB4.out) (by omega) (by omega) HG.out) (by omega) (by omega) G5.out
      · have t3 : ¬ (y0 : Int) + (k : Int) < (R : Int) := by omega
        clear z1
        go_wp2_with (first | (refine ld_pat (by rfl) (.tmp 16) rfl rfl HH9.out.1 ?_) | ((refine st_pat (by rfl) (.tmp 14) _ rfl rfl rfl HRw.out.2 ?_); intro w5 h5 g5; have H5 := Lib.hid h5; have G5 := Lib.hid g5; clear h5 g5))
        obtain ⟨e1, e2, e3, e4, e5, e6⟩ := HGE.out
        have e7 := HG.out.size
        obtain ⟨L, hL, hK⟩ := HL.out
        have hfin : L = Pt.pasteL l C bl BR BW y0 x0 mx := pst_done (by have := HM.out; omega) HN.out.2.1 HKH.out HKW.out hL
        refine bodyPost_ret (res_pe rfl rfl H5.out.1 rfl) rfl ⟨⟨some ⟨g, 0, none⟩, cp, ?_, ?_, .inr ⟨g, rfl, ?_, ?_⟩⟩, ?_⟩
        · rw [← hfin, hL.1, HN.out.1]; rfl
        · rw [← hfin, hL.1, HN.out.1]; exact HCP.out
        · omega
        · rw [← hfin]; exact hK.grown G5.out (by omega)
        · exact grown_at (grown_at (stepB HB.out HB4.out) (by omega) (by omega) HG.out) (by omega) (by omega) G5.out
theorem r_Paste (r : Int) (l : List Pt.Cl) (p : Option Addr) (cap : Nat) (ch : Int) (br : Int) (bl : List Pt.Cl) (bp : Option Addr) (bc : Nat) (wd row c : Int) (mx : Bool) (w : World) (hd : CellsAt w p l) (hd2 : CellsAt w bp bl) :
    Calls Tryz.prog 18 #[PV r p l.length cap, .int .i64 ch, PV br bp bl.length bc, .int .i64 wd, .int .i64 row, .int .i64 c, .bool mx] w fun x w' => RetPE (Pt.okI (Pt.ePaste r l ch br bl wd row c) r) (Pt.okL (Pt.ePaste r l ch br bl wd row c) (Pt.pasteL l ch.toNat bl br.toNat wd.toNat row.toNat c.toNat mx)) (Pt.ePaste r l ch br bl wd row c) w.heap.size x w' ∧ Below w.heap.size w w' := by
  by_cases h : Pt.ePaste r l ch br bl wd row c = 0
  · rw [h]
    have h0 : Pt.vpat br bl wd = true ∧ Pt.ePlace r l ch row c = 0 := by
      unfold Pt.ePaste at h
      cases h2 : Pt.vpat br bl wd with
      | false => rw [h2] at h; simp at h
      | true => rw [h2] at h; exact ⟨rfl, h⟩
    obtain ⟨R, C, y, x, rfl, rfl, rfl, rfl, g1, g2, g3, g4, g5, g6, g7, g8⟩ := place_nx h0.2
    obtain ⟨BR, BW, rfl, rfl, e1, e2, e3, e4, e5, e6⟩ := Pt.vpat_nat h0.1
    rcases hd2 with rfl | ⟨bb, bo, rfl, hbb, hbr⟩
    · have := Nat.mul_pos e1 e3
      simp at e5
      omega
    · exact r_Paste_ok R C y x BR BW l p cap bl bb bo bc mx w hd hbb hbr g8 h0.1 g3 g4 g5 g1 g2 e2 e4 e5
  · have e1 : Pt.okI (Pt.ePaste r l ch br bl wd row c) r = 0 := if_neg h
    have e2 : Pt.okL (Pt.ePaste r l ch br bl wd row c) (Pt.pasteL l ch.toNat bl br.toNat wd.toNat row.toNat c.toNat mx) = [] := if_neg h
    rw [e1, e2]
    exact r_Paste_bad r l p cap ch br bl bp bc wd row c mx w hd hd2 rfl h
end Go.Proofs.YtfjfnbeegojlbaaGreat

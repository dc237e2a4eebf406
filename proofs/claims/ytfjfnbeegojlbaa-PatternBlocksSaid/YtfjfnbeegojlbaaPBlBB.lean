/-
  The law PatternBlocks where a copy is refused and a split is refused.
-/
import Derived.Test.YtfjfnbeegojlbaaPBlocks
namespace Go.Proofs.Ytfjfnbeegojlbaa
open Go.RowKit

set_option maxRecDepth 100000 in
set_option maxHeartbeats 25600000 in
theorem blocks_bb (x : Wk) (p : Option Addr) (cap : Nat) (p2 : Option Addr) (cap2 : Nat) (w : World) (hd : CellsAt w p x.l) (hcap : x.l.length ≤ cap) (hlt : x.l.length ≤ 2000) (hv : Pt.vpat x.r x.l x.ch = true) (hA : Pt.eArea x.r x.l x.ch x.a ≠ 0) (hS : Pt.eSplit x.r x.l x.ch x.row ≠ 0) :
    Calls Try.prog 3 #[.agg (WL x p cap p2 cap2).toArray] w fun e w' => e = .returned (.bool true) ∧ Below w.heap.size w w' := by
  obtain ⟨W, hW⟩ : ∃ W, W = w.alloc (.cells (WL x p cap p2 cap2).toArray 30) := ⟨_, rfl⟩
  have hB : Below w.heap.size w W := by rw [hW]; exact below_box _ _
  obtain ⟨b, hb⟩ : ∃ b, b = w.heap.size := ⟨_, rfl⟩
  have hx : W.rangeAt b 0 (WL x p cap p2 cap2) := by rw [hW, hb]; exact range_box _ _ _
  have HB := Lib.hid hB
  have HX := Lib.hid hx
  have hdW := hd.below hB
  have CL1 := Lib.hid (fun (u : World) => p_light x.r p x.l.length cap u (by omega))
  rw [decide_eq_true hlt] at CL1
  have CA := Lib.hid (fun u => p_awake u)
  have HD := Lib.hid (fun (u : World) (hu : Below W.heap.size W u) => hdW.below hu)
  have HCAP := Lib.hid hcap
  have HVP := Lib.hid hv
  have HLT := Lib.hid hlt
  have HEA := Lib.hid hA
  have HES := Lib.hid hS
  have k0 : W.cell? ⟨b, 0, none⟩ = some (.int .i64 x.r) := hx 0 _ rfl
  have k1 : W.cell? ⟨b, 1, none⟩ = some (.slice p x.l.length cap) := hx 1 _ rfl
  have k4 : W.cell? ⟨b, 4, none⟩ = some (.int .i64 x.ch) := hx 4 _ rfl
  obtain ⟨n, hn⟩ : ∃ n, x.l.length = n := ⟨_, rfl⟩
  have HN := Lib.hid hn
  rw [hn] at CL1 k1
  clear hd hcap hlt hv hB hx hdW hn hA hS
  unfold PV at CL1
  have m0 := kept_cell (below_box W (.cells #[.int .i64 0, .slice none 0 0] 24)) k0
  have m1 := kept_cell (below_box W (.cells #[.int .i64 0, .slice none 0 0] 24)) k1
  have m4 := kept_cell (below_box W (.cells #[.int .i64 0, .slice none 0 0] 24)) k4
  have n0 := kept_cell (below_box W (.cells #[.int .i64 x.r, .slice p n cap] 24)) k0
  have n1 := kept_cell (below_box W (.cells #[.int .i64 x.r, .slice p n cap] 24)) k1
  have n4 := kept_cell (below_box W (.cells #[.int .i64 x.r, .slice p n cap] 24)) k4
  obtain ⟨V, hV⟩ : ∃ V, V = (W.alloc (.cells #[.int .i64 x.r, .slice p n cap] 24)).drew := ⟨_, rfl⟩
  obtain ⟨b3, hb3⟩ : ∃ b3, b3 = W.heap.size := ⟨_, rfl⟩
  have hBV : Below W.heap.size W V := by rw [hV]; exact (below_box _ _).drew
  have h3 : Pb V b3 x.r (.slice p n cap) := by rw [hV, hb3]; exact ⟨(pb_box W x.r (.slice p n cap) _).1, (pb_box W x.r (.slice p n cap) _).2⟩
  have HV := Lib.hid hBV
  have H3 := Lib.hid h3
  have HXV := Lib.hid (range_below HX.out hBV (by rw [← hb3] at hBV; exact cell_lt (HX.out 0 _ rfl)))
  have HB3 := Lib.hid (show b3 = W.heap.size ∧ b = w.heap.size ∧ W.heap.size = b + 1 from ⟨hb3, hb, by rw [hW, hb]; simp⟩)
  have HVE := Lib.hid hV
  have HBE := Lib.hid hb3
  have FK := Lib.hid (fun u (hu : Below V.heap.size V u) => bkF HXV.out H3.out hu)
  have HDV := Lib.hid (fun (u : World) (hu : Below V.heap.size V u) => HD.out u (stepB HV.out hu))
  have CV := Lib.hid (fun u (hu : Below V.heap.size V u) => onB' hu (R := fun e _ => e = .returned (.bool true)) (p_Valid_v (cap := cap) (HDV.out u hu) HVP.out))
  have CCo := Lib.hid (fun u (hu : Below V.heap.size V u) => onB' hu (p_Copy x.r x.l p cap x.ch x.a u (HDV.out u hu) HCAP.out))
  have CSp := Lib.hid (fun u (hu : Below V.heap.size V u) => onB' hu (p_Split x.r x.l p cap x.ch x.row u (HDV.out u hu) HCAP.out))
  have CTr := Lib.hid (fun u (hu : Below V.heap.size V u) => onB' hu (p_Tran x.r x.l p cap x.ch x.a x.s u (HDV.out u hu)))
  have CSa := Lib.hid (fun q c u (hu : Below V.heap.size V u) (h1 : CellsAt u q x.l) => onB' hu (R := fun e _ => e = .returned (.bool true)) (p_Same x.r x.l p q cap c u (HDV.out u hu) h1 (by have := HLT.out; omega)))
  have CAw := Lib.hid (fun u (hu : Below V.heap.size V u) => onB' hu (R := fun e _ => e = .returned (.bool true)) (p_awake u))
  unfold PV at CV CCo CSp CTr CSa
  unfold AV at CCo CTr
  rw [HN.out] at CV CCo CSp CTr CSa
  rw [okIn HEA.out, okLn HEA.out] at CCo
  obtain ⟨eA, heA⟩ : ∃ eA, Pt.eArea x.r x.l x.ch x.a = eA := ⟨_, rfl⟩
  rw [heA] at CCo
  have hAn : (eA == 0) = false := by rw [← heA]; exact beq_eq_false_iff_ne.2 HEA.out
  clear heA
  rw [okIn HES.out, okLn HES.out, okIn HES.out, okLn HES.out] at CSp
  obtain ⟨eS, heS⟩ : ∃ eS, Pt.eSplit x.r x.l x.ch x.row = eS := ⟨_, rfl⟩
  rw [heS] at CSp
  have hSn : (eS == 0) = false := by rw [← heS]; exact beq_eq_false_iff_ne.2 HES.out
  clear heS
  obtain ⟨f6, f10, f11, f12, f13, f14, f0, f1⟩ := FK.out V (Below.refl _ _)
  clear hBV h3 hV hb3
  go_enter Try.func3, Try.ntmps3
  go_upto_region 1 with fail
  rw [← hW, ← hb]
  clear hW hb
  go_region
  rw [← HVE.out, ← HBE.out]
  clear HVE HBE m0 m1 m4 n0 n1 n4 k0 k1 k4
  go_upto_region 9 with (first | (go_at_call 6; ((with_reducible refine (onB' (R := fun e _ => e = .returned (.bool true)) (Below.refl V.heap.size V) (CL1.out V)).mono ?_); rintro x' w1 ⟨rfl, hb1⟩; have B1 := Lib.hid hb1.1; have L1 := Lib.hid hb1.2; clear f6 f10 f11 f12 f13 f14 f0 f1; obtain ⟨f6, f10, f11, f12, f13, f14, f0, f1⟩ := FK.out _ B1.out; clear hb1)) | (go_at_call 7; ((with_reducible refine (CV.out _ B1.out).mono ?_); rintro x' w2 ⟨rfl, hb2⟩; have B2 := Lib.hid hb2.1; have L2 := Lib.hid hb2.2; clear f6 f10 f11 f12 f13 f14 f0 f1; obtain ⟨f6, f10, f11, f12, f13, f14, f0, f1⟩ := FK.out _ B2.out; clear hb2)) | (go_at_call 9; ((with_reducible refine (CCo.out _ B2.out).mono ?_); rintro x' w3 ⟨⟨q3, c3, rfl, hc3, ho3⟩, hb3⟩; have B3 := Lib.hid hb3.1; have L3 := Lib.hid hb3.2; unfold PV; have O3 := Lib.hid ho3; have K3 := Lib.hid hc3; clear ho3 hc3; simp only [List.length_nil]; clear f6 f10 f11 f12 f13 f14 f0 f1; obtain ⟨f6, f10, f11, f12, f13, f14, f0, f1⟩ := FK.out _ B3.out; clear hb3)) | ((refine st_pat (by rfl) _ _ rfl rfl rfl (pb_box _ _ _ _).2 ?_); intro v3 h3 g3; have H5 := Lib.hid h3; have S3 := Lib.hid (stN B3.out g3); clear f6 f10 f11 f12 f13 f14 f0 f1; obtain ⟨f6, f10, f11, f12, f13, f14, f0, f1⟩ := FK.out _ S3.out.1; clear h3 g3))
  go_upto_region 14 with (first | (go_at_call 12; ((with_reducible refine (CSp.out _ S3.out.1).mono ?_); rintro x' w6 ⟨⟨p6, d6, p7, d7, D6, rfl, hd6, hd7, hD6, ho6, ho7⟩, hb6⟩; have B6 := Lib.hid hb6.1; have L6 := Lib.hid hb6.2; unfold PV; have O6 := Lib.hid (one_at ho6); have O7 := Lib.hid ho7.at; clear hd6 hd7 hD6 ho6 ho7; simp only [List.length_nil]; clear f6 f10 f11 f12 f13 f14 f0 f1; obtain ⟨f6, f10, f11, f12, f13, f14, f0, f1⟩ := FK.out _ B6.out; clear hb6)) | ((refine st_pat (by rfl) _ _ rfl rfl rfl (two_alloc w6).1.2 ?_); intro v6 h6 g6; have H9 := Lib.hid h6; have G6 := Lib.hid g6; clear h6 g6) | ((refine st_pat (by rfl) _ _ rfl rfl rfl ((two_alloc w6).2.1.grown G6.out (by omega)).2 ?_); intro v7 h7 g7; have H10 := Lib.hid h7; have G7 := Lib.hid g7; have S6 := Lib.hid (stT B6.out G6.out g7); clear f6 f10 f11 f12 f13 f14 f0 f1; obtain ⟨f6, f10, f11, f12, f13, f14, f0, f1⟩ := FK.out _ S6.out.1; clear h7 g7))
  by_cases hT : Pt.eTran x.r x.l x.ch x.a x.s = 0
  · obtain ⟨-, s1, s2⟩ := eTran_parts hT
    have hbk := blk_tran hT
    obtain ⟨lT, hlT⟩ : ∃ lT, Pt.tranL x.l x.ch.toNat x.a.r.toNat x.a.c.toNat x.a.h.toNat x.a.w.toNat x.s = lT := ⟨_, rfl⟩
    rw [hT] at CTr
    simp only [okI0, okL0] at CTr
    rw [hlT] at CTr hbk
    have hln : lT.length = n := by rw [← hlT, Pt.tran_len, HN.out]
    have HLN := Lib.hid hln
    have CT2 := Lib.hid (fun q c u (hu : Below V.heap.size V u) (h1 : CellsAt u q lT) => onB' hu (p_Tran x.r lT q c x.ch x.a (-x.s) u h1))
    rw [hbk] at CT2
    simp only [okI0, okL0] at CT2
    unfold PV AV at CT2
    rw [hln] at CT2
    have HBACK := Lib.hid (show (∀ k, k < x.l.length → Pt.stays x.s (Pt.at' x.l k) = true) → Pt.tranL lT x.ch.toNat x.a.r.toNat x.a.c.toNat x.a.h.toNat x.a.w.toNat (-x.s) = x.l from fun h => by rw [← hlT]; exact Pt.tran_back h)
    obtain ⟨lB, hlB⟩ : ∃ lB, Pt.tranL lT x.ch.toNat x.a.r.toNat x.a.c.toNat x.a.h.toNat x.a.w.toNat (-x.s) = lB := ⟨_, rfl⟩
    rw [hlB] at CT2 HBACK
    clear hT hbk hlT hln hlB
    have hnn : (n : Int) ≤ 2000 := by have := HLT.out; rw [HN.out] at this; omega
    go_wp2_with (first | (go_at_call 14; ((with_reducible refine (CTr.out _ S6.out.1).mono ?_); rintro x' w10 ⟨⟨q10, c10, rfl, hc10, ho10⟩, hb10⟩; have B10 := Lib.hid hb10.1; have L10 := Lib.hid hb10.2; unfold PV; have O10 := Lib.hid ho10; have K10 := Lib.hid hc10; clear ho10 hc10; rw [HLN.out]; clear f6 f10 f11 f12 f13 f14 f0 f1; obtain ⟨f6, f10, f11, f12, f13, f14, f0, f1⟩ := FK.out _ B10.out; clear hb10)) | ((refine st_pat (by rfl) _ _ rfl rfl rfl (pb_box _ _ _ _).2 ?_); intro v10 h10 g10; have H14 := Lib.hid h10; have S10 := Lib.hid (stN B10.out g10); clear f6 f10 f11 f12 f13 f14 f0 f1; obtain ⟨f6, f10, f11, f12, f13, f14, f0, f1⟩ := FK.out _ S10.out.1; clear h10 g10))
    clear f6 f10 f11 f12 f13 f14 f0 f1
    go_loopw [116] (fun i wr => ∃ k : Nat, k ≤ n ∧ i = .int .i64 k ∧ Hid (Below V.heap.size V wr) ∧ Hid (Below v10.heap.size v10 wr) ∧ Hid (∀ j, j < k → Pt.stays x.s (Pt.at' x.l j) = true)) (fun i _ => n - (intOf i).toNat)
    case atStart => exact ⟨0, by omega, rfl, S10.out.1, Below.refl _ _, fun _ h => by omega⟩
    case round =>
      obtain ⟨k, hk, rfl, HG, HG2, HSt⟩ := hrel
      obtain ⟨f6, f10, f11, f12, f13, f14, f0, f1⟩ := FK.out _ HG.out
      by_cases hlt : k < n
      · obtain ⟨bp, op, hpe, _, hr⟩ := (HDV.out _ HG.out).at (i := k) (by rw [HN.out]; exact hlt)
        subst hpe
        obtain ⟨c, hc⟩ : ∃ c, Pt.at' x.l k = c := ⟨_, rfl⟩
        rw [hc] at hr
        have HC := Lib.hid hc
        have HR := Lib.hid hr
        have HLK := Lib.hid hlt
        have hlt' : (k : Int) < (n : Int) := by omega
        obtain ⟨bx, hbx⟩ : ∃ bx, bx = wr.heap.size := ⟨_, rfl⟩
        have HXB := Lib.hid (show ∀ u', u' = (wr.alloc (.cells (CL Pt.zc).toArray 28)).setCells bx 0 (CL c) → Below wr.heap.size wr u' ∧ u'.cell? ⟨bx, 0, none⟩ = some (.int .i64 c.nt) by
          rintro u' rfl
          have ht := there_box wr (CL Pt.zc) 28
          rw [← hbx] at ht
          have hr := World.rangeAt_setCells_same _ bx 0 (CL c) ht
          exact ⟨grown_at (below_box _ _) (Nat.le_of_eq hbx.symm) (by simp) (grown_setCells _ _ _ _), hr 0 _ rfl⟩)
        have HTB := Lib.hid (show (wr.alloc (.cells (CL Pt.zc).toArray 28)).there bx 0 6 by rw [hbx]; exact there_box wr (CL Pt.zc) _)
        rw [cl_zc] at HXB HTB
        have HBX := Lib.hid hbx
        clear hr hc hlt
        go_upto_region 20 with (first | (refine ld_cell (by rfl) _ rfl rfl HR.out ?_) | ((refine st_cell (by rfl) _ _ rfl rfl rfl (by rw [← hbx]; exact HTB.out) ?_); intro v12 h12; rw [← hbx] at h12; obtain ⟨hb12, hr12⟩ := HXB.out _ h12; have B12 := Lib.hid (stepB HG.out hb12); have L12 := Lib.hid hb12; clear h12 hb12; clear f6 f10 f11 f12 f13 f14 f0 f1; obtain ⟨f6, f10, f11, f12, f13, f14, f0, f1⟩ := FK.out _ B12.out))
        rw [← hbx]
        clear hbx
        rcases stay_ways c.nt x.s with ⟨w1', w2'⟩ | ⟨w1', w2', w3'⟩ | ⟨w1', w2', w3', w4'⟩ | ⟨w1', w2', w3', w4', w5'⟩ | ⟨w1', w2', w3', w4'⟩
        · have HS1 := Lib.hid (show Pt.stays x.s (Pt.at' x.l k) = true by rw [HC.out]; unfold Pt.stays; rw [w2']; rfl)
          have d1 : decide (1 ≤ c.nt) = false := decide_eq_false w1'
          clear w1' w2'
          go_wp2
          go_roundw
          case rel =>
            refine ⟨k + 1, HLK.out, by go_num, B12.out, stepB HG2.out L12.out, fun j hj => ?_⟩
            by_cases e : j = k
            · subst e; exact HS1.out
            · exact HSt.out j (by omega)
          case measure => simp [intOf]; have := HLK.out; omega
        · have HS1 := Lib.hid (show Pt.stays x.s (Pt.at' x.l k) = true by rw [HC.out]; unfold Pt.stays; rw [w3']; rfl)
          have d2 : decide (c.nt ≤ 120) = false := decide_eq_false w2'
          clear w2' w3'
          go_wp2
          go_roundw
          case rel =>
            refine ⟨k + 1, HLK.out, by go_num, B12.out, stepB HG2.out L12.out, fun j hj => ?_⟩
            by_cases e : j = k
            · subst e; exact HS1.out
            · exact HSt.out j (by omega)
          case measure => simp [intOf]; have := HLK.out; omega
        · obtain ⟨x1, x2⟩ := w1'
          clear w3' w4'
          go_wp2_with (first | (go_at_call 8; ((with_reducible refine (CAw.out _ B12.out).mono ?_); rintro x' w11 ⟨rfl, hb11⟩; have B11 := Lib.hid hb11.1; have L11 := Lib.hid hb11.2; clear f6 f10 f11 f12 f13 f14 f0 f1; obtain ⟨f6, f10, f11, f12, f13, f14, f0, f1⟩ := FK.out _ B11.out; clear hb11)))
          go_ret
          exact ⟨rfl, stepB HB.out (stepB HV.out B11.out)⟩
        · obtain ⟨x1, x2⟩ := w1'
          have d3 : decide (c.nt + x.s < 1) = false := decide_eq_false w2'
          clear w2' w4' w5'
          go_wp2_with (first | (go_at_call 8; ((with_reducible refine (CAw.out _ B12.out).mono ?_); rintro x' w11 ⟨rfl, hb11⟩; have B11 := Lib.hid hb11.1; have L11 := Lib.hid hb11.2; clear f6 f10 f11 f12 f13 f14 f0 f1; obtain ⟨f6, f10, f11, f12, f13, f14, f0, f1⟩ := FK.out _ B11.out; clear hb11)))
          go_ret
          exact ⟨rfl, stepB HB.out (stepB HV.out B11.out)⟩
        · obtain ⟨x1, x2⟩ := w1'
          have HS1 := Lib.hid (show Pt.stays x.s (Pt.at' x.l k) = true by rw [HC.out]; unfold Pt.stays; rw [w4']; simp)
          have d3 : decide (c.nt + x.s < 1) = false := decide_eq_false w2'
          have d4 : decide (120 < c.nt + x.s) = false := decide_eq_false w3'
          clear w2' w3' w4'
          go_wp2
          go_roundw
          case rel =>
            refine ⟨k + 1, HLK.out, by go_num, B12.out, stepB HG2.out L12.out, fun j hj => ?_⟩
            by_cases e : j = k
            · subst e; exact HS1.out
            · exact HSt.out j (by omega)
          case measure => simp [intOf]; have := HLK.out; omega
      · have hkn : k = n := by omega
        have hall : ∀ j, j < x.l.length → Pt.stays x.s (Pt.at' x.l j) = true := fun j hj => HSt.out j (by rw [HN.out] at hj; omega)
        rw [HBACK.out hall] at CT2
        have H14w := Lib.hid (H14.out.kept HG2.out)
        obtain ⟨t0, t1⟩ := two_cells' H14w.out
        have HCT := Lib.hid ((O10.out.kept S10.out.2).at.below HG2.out)
        have hneg : IntKind.i64.wrap (-x.s) = -x.s := by rw [IntKind.wrap_i64]; omega
        clear hall
        subst hkn
        go_wp2_with (first | (go_at_call 14; ((with_reducible refine (CT2.out q10 c10 _ HG.out HCT.out).mono ?_); rintro x' w13 ⟨⟨q13, c13, rfl, hc13, ho13⟩, hb13⟩; have B13 := Lib.hid hb13.1; have L13 := Lib.hid hb13.2; unfold PV; have O13 := Lib.hid ho13; have K13 := Lib.hid hc13; clear ho13 hc13; rw [HN.out]; clear f6 f10 f11 f12 f13 f14 f0 f1; obtain ⟨f6, f10, f11, f12, f13, f14, f0, f1⟩ := FK.out _ B13.out; clear hb13)) | ((refine st_pat (by rfl) _ _ rfl rfl rfl (pb_box _ _ _ _).2 ?_); intro v13 h13 g13; have H18 := Lib.hid h13; have S13 := Lib.hid (stN B13.out g13); have HC18 := Lib.hid (O13.out.kept S13.out.2).at; clear t0 t1; obtain ⟨u0, u1⟩ := two_cells' H18.out; clear f6 f10 f11 f12 f13 f14 f0 f1; obtain ⟨f6, f10, f11, f12, f13, f14, f0, f1⟩ := FK.out _ S13.out.1; clear h13 g13) | (go_at_call 11; ((with_reducible refine (CSa.out q13 c13 _ S13.out.1 HC18.out).mono ?_); rintro x' w14 ⟨rfl, hb14⟩; have B14 := Lib.hid hb14.1; have L14 := Lib.hid hb14.2; clear f6 f10 f11 f12 f13 f14 f0 f1; obtain ⟨f6, f10, f11, f12, f13, f14, f0, f1⟩ := FK.out _ B14.out; clear hb14)) | (go_at_call 8; ((with_reducible refine (CAw.out _ B14.out).mono ?_); rintro x' w15 ⟨rfl, hb15⟩; have B15 := Lib.hid hb15.1; have L15 := Lib.hid hb15.2; clear f6 f10 f11 f12 f13 f14 f0 f1; obtain ⟨f6, f10, f11, f12, f13, f14, f0, f1⟩ := FK.out _ B15.out; clear hb15)))
        go_ret
        exact ⟨rfl, stepB HB.out (stepB HV.out B15.out)⟩
  · rw [okIn hT, okLn hT] at CTr
    obtain ⟨eT, heT⟩ : ∃ eT, Pt.eTran x.r x.l x.ch x.a x.s = eT := ⟨_, rfl⟩
    rw [heT] at CTr
    have hTn : (eT != 0) = true := by rw [← heT]; simpa using hT
    clear heT hT
    go_wp2_with (first | (go_at_call 14; ((with_reducible refine (CTr.out _ S6.out.1).mono ?_); rintro x' w10 ⟨⟨q10, c10, rfl, hc10, ho10⟩, hb10⟩; have B10 := Lib.hid hb10.1; have L10 := Lib.hid hb10.2; unfold PV; have O10 := Lib.hid ho10; have K10 := Lib.hid hc10; clear ho10 hc10; simp only [List.length_nil]; clear f6 f10 f11 f12 f13 f14 f0 f1; obtain ⟨f6, f10, f11, f12, f13, f14, f0, f1⟩ := FK.out _ B10.out; clear hb10)) | ((refine st_pat (by rfl) _ _ rfl rfl rfl (pb_box _ _ _ _).2 ?_); intro v10 h10 g10; have H14 := Lib.hid h10; have S10 := Lib.hid (stN B10.out g10); clear f6 f10 f11 f12 f13 f14 f0 f1; obtain ⟨f6, f10, f11, f12, f13, f14, f0, f1⟩ := FK.out _ S10.out.1; clear h10 g10) | (go_at_call 8; ((with_reducible refine (CAw.out _ S10.out.1).mono ?_); rintro x' w11 ⟨rfl, hb11⟩; have B11 := Lib.hid hb11.1; have L11 := Lib.hid hb11.2; clear f6 f10 f11 f12 f13 f14 f0 f1; obtain ⟨f6, f10, f11, f12, f13, f14, f0, f1⟩ := FK.out _ B11.out; clear hb11)))
    go_ret
    exact ⟨rfl, stepB HB.out (stepB HV.out B11.out)⟩
end Go.Proofs.Ytfjfnbeegojlbaa

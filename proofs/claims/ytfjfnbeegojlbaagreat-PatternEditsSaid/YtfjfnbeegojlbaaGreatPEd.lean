/-
  The law PatternEdits.
-/
import Derived.Test.YtfjfnbeegojlbaaGreatPEc0
import Derived.Test.YtfjfnbeegojlbaaGreatPEc1
import Derived.Test.YtfjfnbeegojlbaaGreatPEc2
import Derived.Test.YtfjfnbeegojlbaaGreatPEc3
import Derived.Test.YtfjfnbeegojlbaaGreatPEc4
import Derived.Test.YtfjfnbeegojlbaaGreatPEc5
import Derived.Test.YtfjfnbeegojlbaaGreatPEc6
import Derived.Test.YtfjfnbeegojlbaaGreatPEc7
import Derived.Test.YtfjfnbeegojlbaaGreatPEc8
import Derived.Test.YtfjfnbeegojlbaaGreatPEc9
namespace Go.Proofs.YtfjfnbeegojlbaaGreat
open Go.RowKit

set_option maxRecDepth 100000 in
set_option maxHeartbeats 12800000 in
theorem edits_light (x : Wk) (p : Option Addr) (cap : Nat) (p2 : Option Addr) (cap2 : Nat) (w : World) (hd : CellsAt w p x.l) (hcap : x.l.length ≤ cap) (hd2 : CellsAt w p2 x.l2) (hcap2 : x.l2.length ≤ cap2) (h1 : x.l.length ≤ 2000) (h2 : x.l2.length ≤ 2000) :
    Calls Tryz.prog 3 #[.agg (WL x p cap p2 cap2).toArray] w fun e w' => e = .returned (.bool true) ∧ Below w.heap.size w w' := by
  obtain ⟨W, hW⟩ : ∃ W, W = w.alloc (.cells (WL x p cap p2 cap2).toArray 30) := ⟨_, rfl⟩
  have hB : Below w.heap.size w W := by rw [hW]; exact below_box _ _
  have HB := Lib.hid hB
  obtain ⟨b, hb⟩ : ∃ b, b = w.heap.size := ⟨_, rfl⟩
  have HX := Lib.hid (show W.rangeAt b 0 (WL x p cap p2 cap2) by rw [hW, hb]; exact range_box _ _ _)
  have CA := Lib.hid (fun u => p_light x.r p x.l.length cap u (by omega))
  have CB := Lib.hid (fun u => p_light x.r2 p2 x.l2.length cap2 u (by omega))
  rw [decide_eq_true h1] at CA
  rw [decide_eq_true h2] at CB
  have HLT := Lib.hid (show b < W.heap.size from cell_lt (HX.out 0 _ rfl))
  have HD := Lib.hid (show CellsAt W p x.l ∧ CellsAt W p2 x.l2 from ⟨hd.below hB, hd2.below hB⟩)
  have HN := Lib.hid (show x.l.length ≤ 2000 ∧ x.l2.length ≤ 2000 ∧ x.l.length ≤ cap ∧ x.l2.length ≤ cap2 from ⟨h1, h2, hcap, hcap2⟩)
  unfold PV at CA CB
  clear hB hd hd2 hcap hcap2 h1 h2
  go_enter Tryz.func3, Tryz.ntmps3
  go_upto_region 1 with fail
  rw [← hW, ← hb]
  clear hW hb
  go_upto_region 3 with (first | (refine ld_pato (by rfl) (.tmp 17) rfl rfl (wl_ld HX.out).1 ?_) | (go_at_call 4; ((with_reducible refine (CA.out _).mono ?_); rintro x' w1 ⟨rfl, hb1⟩; have HB1 := Lib.hid hb1; clear hb1)) | (refine ld_pato (by rfl) (.tmp 22) rfl rfl (wl_ld (range_below HX.out HB1.out HLT.out)).2 ?_) | (go_at_call 4; ((with_reducible refine (CB.out _).mono ?_); rintro x' w2 ⟨rfl, hb2⟩; have HB2 := Lib.hid (stepB HB1.out hb2); clear hb2 HB1)))
  have HX2 := Lib.hid (range_below HX.out HB2.out HLT.out)
  have HL2 := Lib.hid (Nat.lt_of_lt_of_le HLT.out HB2.out.size)
  have HD2 := Lib.hid (show CellsAt w2 p x.l ∧ CellsAt w2 p2 x.l2 from ⟨HD.out.1.below HB2.out, HD.out.2.below HB2.out⟩)
  have HKS := Lib.hid (show ∀ u, Below w2.heap.size w2 u → u.cell? ⟨b, 0, none⟩ = some (.int .i64 x.r) ∧ u.cell? ⟨b, 1, none⟩ = some (.slice p x.l.length cap) ∧ u.cell? ⟨b, 2, none⟩ = some (.int .i64 x.r2) ∧ u.cell? ⟨b, 3, none⟩ = some (.slice p2 x.l2.length cap2) ∧ u.cell? ⟨b, 4, none⟩ = some (.int .i64 x.ch) from fun u hu => ⟨kept_cell hu (HX2.out 0 _ rfl), kept_cell hu (HX2.out 1 _ rfl), kept_cell hu (HX2.out 2 _ rfl), kept_cell hu (HX2.out 3 _ rfl), kept_cell hu (HX2.out 4 _ rfl)⟩)
  have CC := Lib.hid (fun (u : World) (hu : Below w2.heap.size w2 u) => l_copied x.r x.l p cap u (HD2.out.1.below hu) HN.out.1)
  have CD := Lib.hid (fun (u : World) (hu : Below w2.heap.size w2 u) => l_copied x.r2 x.l2 p2 cap2 u (HD2.out.2.below hu) HN.out.2.1)
  unfold PV at CC CD
  obtain ⟨n1, hn1⟩ : ∃ n1, x.l.length = n1 := ⟨_, rfl⟩
  obtain ⟨n2, hn2⟩ : ∃ n2, x.l2.length = n2 := ⟨_, rfl⟩
  simp only [hn1] at HKS CC HN
  simp only [hn2] at HKS CD HN
  have HNN := Lib.hid (show x.l.length = n1 ∧ x.l2.length = n2 from ⟨hn1, hn2⟩)
  clear hn1 hn2 CA CB
  have hb0 : Below w2.heap.size w2 w2 ∧ w2.heap.size ≤ w2.heap.size := ⟨Below.refl _ _, Nat.le_refl _⟩
  have hg := HKS.out _ (Below.refl w2.heap.size w2).drew
  have HC0 := Lib.hid (CC.out _ (Below.refl w2.heap.size w2).drew)
  have HC1 := Lib.hid (CC.out _ (below_box w2 (.cells #[.int .i64 0, .slice none 0 0] 24)).drew)
  have HC2 := Lib.hid (CC.out _ (stepB (below_box w2 (.cells #[.int .i64 0, .slice none 0 0] 24)) (below_box _ (.cells #[.int .i64 0, .slice none 0 0] 24))).drew)
  have HD0 := Lib.hid (fun (v : World) (hv : Below w2.heap.size w2 v) => CD.out v hv)
  have HD1 := Lib.hid (fun (v : World) (hv : Below w2.heap.size w2 v) => CD.out _ (stepB hv (below_box v (.cells #[.int .i64 0, .slice none 0 0] 24))))
  have HD2' := Lib.hid (fun (v : World) (hv : Below w2.heap.size w2 v) => CD.out _ (stepB (stepB hv (below_box v (.cells #[.int .i64 0, .slice none 0 0] 24))) (below_box _ (.cells #[.int .i64 0, .slice none 0 0] 24))))
  apply cut5 (A := fun x3 x4 g1 g2 wx => Hid (Below w2.heap.size w2 wx ∧ w2.heap.size ≤ wx.heap.size) ∧ Hid (Pb wx x3 x.r (.slice (some ⟨g1, 0, none⟩) n1 (n1 + 1))) ∧ Hid (Pb wx x4 x.r2 (.slice (some ⟨g2, 0, none⟩) n2 (n2 + 1))) ∧ Hid (Kr wx g1 (x.l ++ [last77])) ∧ Hid (Kr wx g2 (x.l2 ++ [last77])))
  case first =>
    intro HTAIL
    have HTL := Lib.hid HTAIL
    clear HTAIL
    go_region_held3 (fun w' => w'.cell? ⟨b, 0, none⟩ = some (.int .i64 x.r) ∧ w'.cell? ⟨b, 1, none⟩ = some (.slice p n1 cap) ∧ w'.cell? ⟨b, 2, none⟩ = some (.int .i64 x.r2) ∧ w'.cell? ⟨b, 3, none⟩ = some (.slice p2 n2 cap2) ∧ w'.cell? ⟨b, 4, none⟩ = some (.int .i64 x.ch))
      (first | with_reducible exact hg | exact HKS.out _ (And.left (by repeat (with_reducible first | exact hbb6 | exact hbb5 | exact hb0 | apply below_dr | apply below_al | refine below_set2 ?_ (by omega)))))
      (first
        | (go_at_call 6; with_reducible refine HC0.out.mono ?_; rintro x' w5 ⟨⟨g1, rfl, hg1, hk1⟩, hb5⟩; obtain ⟨hbb5, lt1, le1, gt1⟩ := cp_0 (v := w2) hg1 hk1 (below_of_drew hb5); have HK1 := Lib.hid hk1; clear hk1 hg1 hb5)
        | (go_at_call 6; with_reducible refine HC1.out.mono ?_; rintro x' w5 ⟨⟨g1, rfl, hg1, hk1⟩, hb5⟩; obtain ⟨⟨hbb5, lt1, le1, gt1⟩, m1⟩ := cp_1 (v := w2) hg1 hk1 (below_of_drew hb5); have HK1 := Lib.hid hk1; clear hk1 hg1 hb5)
        | (go_at_call 6; with_reducible refine HC2.out.mono ?_; rintro x' w5 ⟨⟨g1, rfl, hg1, hk1⟩, hb5⟩; obtain ⟨⟨hbb5, lt1, le1, gt1⟩, m1, m2⟩ := cp_2 (v := w2) hg1 hk1 (below_of_drew hb5); have HK1 := Lib.hid hk1; clear hk1 hg1 hb5)
        | (revert m2; intro m2; go_at_call 6; with_reducible refine (HD0.out _ hbb5.1).mono ?_; rintro x' w6 ⟨⟨g2, rfl, hg2, hk2⟩, hb6⟩; obtain ⟨hbw, lt2, le2, gt2⟩ := cp_0 (v := w5) hg2 hk2 hb6; have hbb6 : Below w2.heap.size w2 w6 ∧ w2.heap.size ≤ w6.heap.size := ⟨stepB hbb5.1 hbw.1, Nat.le_trans hbb5.2 hbw.2⟩; have HK2 := Lib.hid hk2; have HK16 := Lib.hid (HK1.out.kept hbw.1); obtain ⟨v1, v2, v3, v4, v5, v6⟩ := ne6 lt1 lt2; have M1 := Em.be m1 hbw.1; have M2 := Em.be m2 hbw.1; obtain ⟨⟨c10, c11, c12, c13⟩, d10, d11, d12, d13, s1⟩ := Em.facts M1; obtain ⟨⟨c20, c21, c22, c23⟩, d20, d21, d22, d23, s2⟩ := Em.facts M2; clear hk2 hg2 hb6 hbw)
        | (revert m1; intro m1; go_at_call 6; with_reducible refine (HD0.out _ hbb5.1).mono ?_; rintro x' w6 ⟨⟨g2, rfl, hg2, hk2⟩, hb6⟩; obtain ⟨hbw, lt2, le2, gt2⟩ := cp_0 (v := w5) hg2 hk2 hb6; have hbb6 : Below w2.heap.size w2 w6 ∧ w2.heap.size ≤ w6.heap.size := ⟨stepB hbb5.1 hbw.1, Nat.le_trans hbb5.2 hbw.2⟩; have HK2 := Lib.hid hk2; have HK16 := Lib.hid (HK1.out.kept hbw.1); obtain ⟨v1, v2, v3, v4, v5, v6⟩ := ne6 lt1 lt2; have M1 := Em.be m1 hbw.1; obtain ⟨⟨c10, c11, c12, c13⟩, d10, d11, d12, d13, s1⟩ := Em.facts M1; clear hk2 hg2 hb6 hbw)
        | (go_at_call 6; with_reducible refine (HD0.out _ hbb5.1).mono ?_; rintro x' w6 ⟨⟨g2, rfl, hg2, hk2⟩, hb6⟩; obtain ⟨hbw, lt2, le2, gt2⟩ := cp_0 (v := w5) hg2 hk2 hb6; have hbb6 : Below w2.heap.size w2 w6 ∧ w2.heap.size ≤ w6.heap.size := ⟨stepB hbb5.1 hbw.1, Nat.le_trans hbb5.2 hbw.2⟩; have HK2 := Lib.hid hk2; have HK16 := Lib.hid (HK1.out.kept hbw.1); obtain ⟨v1, v2, v3, v4, v5, v6⟩ := ne6 lt1 lt2; clear hk2 hg2 hb6 hbw)
        | (revert m1; intro m1; go_at_call 6; with_reducible refine (HD1.out _ hbb5.1).mono ?_; rintro x' w6 ⟨⟨g2, rfl, hg2, hk2⟩, hb6⟩; obtain ⟨⟨hbw, lt2, le2, gt2⟩, e1⟩ := cp_1 (v := w5) hg2 hk2 hb6; have hbb6 : Below w2.heap.size w2 w6 ∧ w2.heap.size ≤ w6.heap.size := ⟨stepB hbb5.1 hbw.1, Nat.le_trans hbb5.2 hbw.2⟩; have HK2 := Lib.hid hk2; have HK16 := Lib.hid (HK1.out.kept hbw.1); obtain ⟨v1, v2, v3, v4, v5, v6⟩ := ne6 lt1 lt2; have M1 := Em.be m1 hbw.1; obtain ⟨⟨c10, c11, c12, c13⟩, d10, d11, d12, d13, s1⟩ := Em.facts M1; obtain ⟨⟨c30, c31, c32, c33⟩, d30, d31, d32, d33, s3⟩ := Em.facts e1; clear hk2 hg2 hb6 hbw)
        | (go_at_call 6; with_reducible refine (HD1.out _ hbb5.1).mono ?_; rintro x' w6 ⟨⟨g2, rfl, hg2, hk2⟩, hb6⟩; obtain ⟨⟨hbw, lt2, le2, gt2⟩, e1⟩ := cp_1 (v := w5) hg2 hk2 hb6; have hbb6 : Below w2.heap.size w2 w6 ∧ w2.heap.size ≤ w6.heap.size := ⟨stepB hbb5.1 hbw.1, Nat.le_trans hbb5.2 hbw.2⟩; have HK2 := Lib.hid hk2; have HK16 := Lib.hid (HK1.out.kept hbw.1); obtain ⟨v1, v2, v3, v4, v5, v6⟩ := ne6 lt1 lt2; obtain ⟨⟨c30, c31, c32, c33⟩, d30, d31, d32, d33, s3⟩ := Em.facts e1; clear hk2 hg2 hb6 hbw)
        | (go_at_call 6; with_reducible refine (HD2'.out _ hbb5.1).mono ?_; rintro x' w6 ⟨⟨g2, rfl, hg2, hk2⟩, hb6⟩; obtain ⟨⟨hbw, lt2, le2, gt2⟩, e1, e2⟩ := cp_2 (v := w5) hg2 hk2 hb6; have hbb6 : Below w2.heap.size w2 w6 ∧ w2.heap.size ≤ w6.heap.size := ⟨stepB hbb5.1 hbw.1, Nat.le_trans hbb5.2 hbw.2⟩; have HK2 := Lib.hid hk2; have HK16 := Lib.hid (HK1.out.kept hbw.1); obtain ⟨v1, v2, v3, v4, v5, v6⟩ := ne6 lt1 lt2; obtain ⟨⟨c30, c31, c32, c33⟩, d30, d31, d32, d33, s3⟩ := Em.facts e1; obtain ⟨⟨c40, c41, c42, c43⟩, d40, d41, d42, d43, s4⟩ := Em.facts e2; clear hk2 hg2 hb6 hbw))
    all_goals
      refine end3 (x3 := _) (x4 := _) (g1 := g1) (g2 := g2) (r := x.r) (r2 := x.r2) (s1 := .slice (some ⟨g1, 0, none⟩) n1 (n1 + 1)) (s2 := .slice (some ⟨g2, 0, none⟩) n2 (n2 + 1)) (w2 := w2) (la := x.l ++ [last77]) (lb := x.l2 ++ [last77]) rfl rfl ?_ ?_ ?_ ?_ ?_ ?_
      · repeat (with_reducible first | exact hbb6 | apply below_al | refine below_set2 ?_ (by omega))
      · repeat (with_reducible first | exact Em.pb M1 | exact Em.pb M2 | exact Em.pb e1 | exact Em.pb e2 | exact pb_new _ (by simp) _ _ | apply pb_al | apply pb_put | refine pb_set ?_ (by omega))
      · repeat (with_reducible first | exact Em.pb M1 | exact Em.pb M2 | exact Em.pb e1 | exact Em.pb e2 | exact pb_new _ (by simp) _ _ | apply pb_al | apply pb_put | refine pb_set ?_ (by omega))
      · repeat (with_reducible first | exact HK16.out | apply kr_al | refine kr_set ?_ (by omega))
      · repeat (with_reducible first | exact HK2.out | apply kr_al | refine kr_set ?_ (by omega))
      · intro F hB hK1 hK2
        try generalize w2.heap.size + 1 = y1
        try generalize w5.heap.size + 1 = y2
        try generalize w6.heap.size + 1 = y3
        try generalize w2.heap.size = y4
        try generalize w5.heap.size = y5
        try generalize w6.heap.size = y6
        intro hP3 hP4
        have HH := HTL.out _ _ g1 g2 F ⟨hB, hP3, hP4, hK1, hK2⟩
        exact HH
  case rest =>
    intro x3 x4 g1 g2 wc ⟨HBc, HP3, HP4, HKA, HKB⟩
    clear hg hb0
    have HXc := Lib.hid (fun (u : World) (hu : Below wc.heap.size wc u) => show u.rangeAt b 0 (WL x p cap p2 cap2) from range_below HX2.out (stepB HBc.out.1 hu) HL2.out)
    have HDc := Lib.hid (fun (u : World) (hu : Below wc.heap.size wc u) => show CellsAt u p x.l ∧ CellsAt u p2 x.l2 from ⟨HD2.out.1.below (stepB HBc.out.1 hu), HD2.out.2.below (stepB HBc.out.1 hu)⟩)
    have HAc := Lib.hid (fun (u : World) (hu : Below wc.heap.size wc u) => show CellsAt u (some ⟨g1, 0, none⟩) x.l ∧ CellsAt u (some ⟨g2, 0, none⟩) x.l2 from ⟨kr_pre (HKA.out.kept hu), kr_pre (HKB.out.kept hu)⟩)
    have HPc := Lib.hid (fun (u : World) (hu : Below wc.heap.size wc u) => show Pb u x3 x.r (.slice (some ⟨g1, 0, none⟩) n1 (n1 + 1)) ∧ Pb u x4 x.r2 (.slice (some ⟨g2, 0, none⟩) n2 (n2 + 1)) from ⟨HP3.out.kept hu, HP4.out.kept hu⟩)
    have CG := Lib.hid (fun (u : World) (hu : Below wc.heap.size wc u) => p_Get x.r x.l (some ⟨g1, 0, none⟩) (n1 + 1) x.ch x.row x.cn u (HAc.out u hu).1)
    have CH := Lib.hid (fun (u : World) (hu : Below wc.heap.size wc u) => r_Get x.r x.l p cap x.ch x.row x.cn u (HDc.out u hu).1)
    obtain ⟨E0, hE0⟩ : ∃ E0, Pt.ePlace x.r x.l x.ch x.row x.cn = E0 := ⟨_, rfl⟩
    rw [hE0] at CG CH
    obtain ⟨c0, hc0⟩ : ∃ c0, Pt.okC E0 (Pt.at' x.l (x.row.toNat * x.ch.toNat + x.cn.toNat)) = c0 := ⟨_, rfl⟩
    rw [hc0] at CG CH
    unfold RetCE PV at CG CH
    simp only [HNN.out.1] at CG CH
    have HFc := Lib.hid (show ∀ u : World, Below wc.heap.size wc u → u.cell? ⟨b, 6, none⟩ = some (.int .i64 x.row) ∧ u.cell? ⟨b, 7, none⟩ = some (.int .i64 x.cn) from fun u hu => ⟨HXc.out u hu 6 _ rfl, HXc.out u hu 7 _ rfl⟩)
    have HWc := Lib.hid (show ∀ u : World, Below wc.heap.size wc u → u.rangeAt b 0 [.int .i64 x.r, .slice p n1 cap] from fun u hu => by have := (wl_ld (HXc.out u hu)).1; rwa [HNN.out.1] at this)
    clear hE0 hc0
    have B0 := Lib.hid (Below.refl wc.heap.size wc)
    obtain ⟨f6, f7⟩ := HFc.out _ B0.out
    go_upto_region 6 with (first | (refine ld_pat (by rfl) (.tmp 3) rfl rfl (HPc.out _ B0.out).1.1 ?_) | (go_at_call 7; ((with_reducible refine (CG.out _ B0.out).mono ?_); rintro x' w5 ⟨rfl, hb5⟩; have B1 := Lib.hid (stepB B0.out hb5); clear f6 f7 hb5; obtain ⟨f6, f7⟩ := HFc.out _ B1.out)) | ((refine st_cell (by rfl) (.tmp 6) _ rfl rfl rfl (there_cell _) ?_); intro w7 h7; have S7 := Lib.hid (st_new h7); have B2 := Lib.hid (stepB B1.out (st_new h7).1); clear h7 f6 f7; obtain ⟨f6, f7⟩ := HFc.out _ B2.out) | (refine ld_pato (by rfl) (.tmp 47) rfl rfl (HWc.out _ B2.out) ?_) | (go_at_call 8; ((with_reducible refine (CH.out _ B2.out).mono ?_); rintro x' w8 ⟨rfl, hb8⟩; have B3 := Lib.hid (stepB B2.out hb8); have HB8 := Lib.hid hb8; clear f6 f7 hb8; obtain ⟨f6, f7⟩ := HFc.out _ B3.out)) | ((refine st_cell (by rfl) (.tmp 8) _ rfl rfl rfl (there_cell _) ?_); intro w9 h9; have S9 := Lib.hid (st_new h9); have B4 := Lib.hid (stepB B3.out (st_new h9).1); clear h9 f6 f7; obtain ⟨f6, f7⟩ := HFc.out _ B4.out))
    obtain ⟨xc, hxc⟩ : ∃ xc, xc = w5.heap.size := ⟨_, rfl⟩
    obtain ⟨xd, hxd⟩ : ∃ xd, xd = w8.heap.size := ⟨_, rfl⟩
    have HCX := Lib.hid (show ∀ u : World, Below w9.heap.size w9 u → u.rangeAt xc 0 (CL c0) ∧ u.rangeAt xd 0 (CL c0) from fun u hu => by
      have h7 : w7.rangeAt xc 0 (CL c0) := by rw [hxc]; exact S7.out.2
      have h9 : w9.rangeAt xd 0 (CL c0) := by rw [hxd]; exact S9.out.2
      exact ⟨range_below (range_below h7 (stepB HB8.out S9.out.1) (cell_lt (h7 0 _ rfl))) hu (cell_lt (range_below h7 (stepB HB8.out S9.out.1) (cell_lt (h7 0 _ rfl)) 0 _ rfl)), range_below h9 hu (cell_lt (h9 0 _ rfl))⟩)
    rw [← hxc, ← hxd]
    have HS6 := Lib.hid (show ∀ w' : World, Below w9.heap.size w9 w' → w'.cell? ⟨x3, 0, none⟩ = some (.int .i64 x.r) ∧ w'.cell? ⟨x3, 1, none⟩ = some (.slice (some ⟨g1, 0, none⟩) n1 (n1 + 1)) ∧ w'.cell? ⟨b, 0, none⟩ = some (.int .i64 x.r) ∧ w'.cell? ⟨b, 1, none⟩ = some (.slice p n1 cap) ∧ w'.cell? ⟨xc, 0, none⟩ = some (.int .i64 c0.nt) ∧ w'.cell? ⟨xc, 1, none⟩ = some (.int .i64 c0.it) ∧ w'.cell? ⟨xc, 2, none⟩ = some (.int .i64 c0.vc) ∧ w'.cell? ⟨xc, 3, none⟩ = some (.int .i64 c0.va) ∧ w'.cell? ⟨xc, 4, none⟩ = some (.int .i64 c0.ef) ∧ w'.cell? ⟨xc, 5, none⟩ = some (.int .i64 c0.pa) ∧ w'.cell? ⟨xd, 0, none⟩ = some (.int .i64 c0.nt) ∧ w'.cell? ⟨xd, 1, none⟩ = some (.int .i64 c0.it) ∧ w'.cell? ⟨xd, 2, none⟩ = some (.int .i64 c0.vc) ∧ w'.cell? ⟨xd, 3, none⟩ = some (.int .i64 c0.va) ∧ w'.cell? ⟨xd, 4, none⟩ = some (.int .i64 c0.ef) ∧ w'.cell? ⟨xd, 5, none⟩ = some (.int .i64 c0.pa) from fun w' hw => by
      have hc := stepB B4.out hw
      have hp := (HPc.out w' hc).1.1
      have hq := HWc.out w' hc
      obtain ⟨hx, hy⟩ := HCX.out w' hw
      exact ⟨hp 0 _ rfl, hp 1 _ rfl, hq 0 _ rfl, hq 1 _ rfl, hx 0 _ rfl, hx 1 _ rfl, hx 2 _ rfl, hx 3 _ rfl, hx 4 _ rfl, hx 5 _ rfl, hy 0 _ rfl, hy 1 _ rfl, hy 2 _ rfl, hy 3 _ rfl, hy 4 _ rfl, hy 5 _ rfl⟩)
    have CV9 := Lib.hid (fun (u : World) (hu : Below w9.heap.size w9 u) => onB hu (p_Valid x.r x.l (some ⟨g1, 0, none⟩) (n1 + 1) x.ch u (HAc.out u (stepB B4.out hu)).1))
    have CW9 := Lib.hid (fun (u : World) (hu : Below w9.heap.size w9 u) => onB hu (r_Valid x.r x.l p cap x.ch u (HDc.out u (stepB B4.out hu)).1))
    unfold PV at CV9 CW9
    obtain ⟨vv, hvv⟩ : ∃ vv, Pt.vpat x.r x.l x.ch = vv := ⟨_, rfl⟩
    rw [hvv] at CV9 CW9
    simp only [HNN.out.1] at CV9 CW9
    have hg0 := (Below.refl w9.heap.size w9).drew
    have hg := HS6.out _ hg0
    clear hxc hxd hvv f6 f7
    go_region_held3 (fun w' => w'.cell? ⟨x3, 0, none⟩ = some (.int .i64 x.r) ∧ w'.cell? ⟨x3, 1, none⟩ = some (.slice (some ⟨g1, 0, none⟩) n1 (n1 + 1)) ∧ w'.cell? ⟨b, 0, none⟩ = some (.int .i64 x.r) ∧ w'.cell? ⟨b, 1, none⟩ = some (.slice p n1 cap) ∧ w'.cell? ⟨xc, 0, none⟩ = some (.int .i64 c0.nt) ∧ w'.cell? ⟨xc, 1, none⟩ = some (.int .i64 c0.it) ∧ w'.cell? ⟨xc, 2, none⟩ = some (.int .i64 c0.vc) ∧ w'.cell? ⟨xc, 3, none⟩ = some (.int .i64 c0.va) ∧ w'.cell? ⟨xc, 4, none⟩ = some (.int .i64 c0.ef) ∧ w'.cell? ⟨xc, 5, none⟩ = some (.int .i64 c0.pa) ∧ w'.cell? ⟨xd, 0, none⟩ = some (.int .i64 c0.nt) ∧ w'.cell? ⟨xd, 1, none⟩ = some (.int .i64 c0.it) ∧ w'.cell? ⟨xd, 2, none⟩ = some (.int .i64 c0.vc) ∧ w'.cell? ⟨xd, 3, none⟩ = some (.int .i64 c0.va) ∧ w'.cell? ⟨xd, 4, none⟩ = some (.int .i64 c0.ef) ∧ w'.cell? ⟨xd, 5, none⟩ = some (.int .i64 c0.pa))
      (first | with_reducible exact hg | with_reducible exact HS6.out _ hA | with_reducible exact HS6.out _ hB)
      (first | (go_at_call 9; with_reducible refine (CV9.out _ hg0).mono ?_; rintro x' w10 ⟨rfl, hA⟩) | (go_at_call 10; with_reducible refine (CW9.out _ hA).mono ?_; rintro x' w11 ⟨rfl, hB⟩))
    clear hg hg0
    have B5 := Lib.hid (stepB B4.out hB)
    have f10 : w11.cell? ⟨b, 10, none⟩ = some (.int .i64 x.a.r) := HXc.out _ B5.out 10 _ rfl
    have f11 : w11.cell? ⟨b, 11, none⟩ = some (.int .i64 x.a.c) := HXc.out _ B5.out 11 _ rfl
    have f12 : w11.cell? ⟨b, 12, none⟩ = some (.int .i64 x.a.h) := HXc.out _ B5.out 12 _ rfl
    have f13 : w11.cell? ⟨b, 13, none⟩ = some (.int .i64 x.a.w) := HXc.out _ B5.out 13 _ rfl
    go_upto_region 9 with fail
    obtain ⟨V, hV⟩ : ∃ V, V = w11.alloc (.cells #[.int .i64 x.a.r, .int .i64 x.a.c, .int .i64 x.a.h, .int .i64 x.a.w] 38) := ⟨_, rfl⟩
    obtain ⟨xa, hxa⟩ : ∃ xa, xa = w11.heap.size := ⟨_, rfl⟩
    have HZ0 : V.rangeAt xa 0 [.int .i64 x.a.r, .int .i64 x.a.c, .int .i64 x.a.h, .int .i64 x.a.w] := by rw [hV, hxa]; exact range_box w11 _ _
    have HV := Lib.hid (show Below wc.heap.size wc V from by rw [hV]; exact stepB B5.out (below_box _ _))
    rw [← hV, ← hxa]
    clear hV hxa f10 f11 f12 f13 hA hB
    have HZV := Lib.hid (show ∀ u : World, Below V.heap.size V u → u.rangeAt xa 0 [.int .i64 x.a.r, .int .i64 x.a.c, .int .i64 x.a.h, .int .i64 x.a.w] from fun u hu => range_below HZ0 hu (cell_lt (HZ0 0 _ rfl)))
    have HXV := Lib.hid (show ∀ u : World, Below V.heap.size V u → u.rangeAt b 0 (WL x p cap p2 cap2) from fun u hu => HXc.out u (stepB HV.out hu))
    have HPV := Lib.hid (show ∀ u : World, Below V.heap.size V u → Pb u x3 x.r (.slice (some ⟨g1, 0, none⟩) n1 (n1 + 1)) ∧ Pb u x4 x.r2 (.slice (some ⟨g2, 0, none⟩) n2 (n2 + 1)) from fun u hu => HPc.out u (stepB HV.out hu))
    have HDV := Lib.hid (fun (u : World) (hu : Below V.heap.size V u) => HDc.out u (stepB HV.out hu))
    have HEV := Lib.hid (show EdV x p cap p2 cap2 b xa x3 x4 g1 g2 n1 n2 V from ⟨HXV.out, HZV.out, HPV.out, fun u hu => ⟨HKA.out.kept (stepB HV.out hu), HKB.out.kept (stepB HV.out hu)⟩, HDV.out, HN.out, HNN.out⟩)
    have HLAST := Lib.hid (show ∀ u : World, Below V.heap.size V u → Below w.heap.size w u from fun u hu => stepB HB.out (stepB HB2.out (stepB HBc.out.1 (stepB HV.out hu))))
    clear HZ0 CG CH CV9 CW9 HS6 HFc HKS CC CD HC0 HC1 HC2 HD0 HD1 HD2'
    go_wp2
    refine wp_loop (fun a' w' => ∃ j : Int, 0 ≤ j ∧ j ≤ 10 ∧ EdF x b xa x3 x4 j a' ∧ Below V.heap.size V w') (fun a' _ => 10 - (intOf (a'.tmps.getD 11 undef)).toNat) ?_ ?_
    · exact ⟨0, by omega, by omega, ⟨rfl, rfl, rfl, rfl, rfl, rfl, rfl, rfl⟩, Below.refl _ _⟩
    · rintro a' wr ⟨j, hj0, hj, hf, hb⟩
      have hm : ∀ {k : Int} {a2 : Act}, EdF x b xa x3 x4 k a2 → a2.tmps.getD 11 undef = .int .i64 k := fun h => h.2.2.2.2.2.2.2
      by_cases hlt : j < 10
      · have hj2 : j = 0 ∨ j = 1 ∨ j = 2 ∨ j = 3 ∨ j = 4 ∨ j = 5 ∨ j = 6 ∨ j = 7 ∨ j = 8 ∨ j = 9 := by omega
        clear hj0 hj hlt
        rcases hj2 with rfl | rfl | rfl | rfl | rfl | rfl | rfl | rfl | rfl | rfl
        · exact ed_c0 HEV.out hb hf fun a2 w2' h1 h2 => ⟨⟨1, by omega, by omega, h1, h2⟩, by show 10 - _ < 10 - _; rw [hm h1, hm hf]; simp [intOf]⟩
        · exact ed_c1 HEV.out hb hf fun a2 w2' h1 h2 => ⟨⟨2, by omega, by omega, h1, h2⟩, by show 10 - _ < 10 - _; rw [hm h1, hm hf]; simp [intOf]⟩
        · exact ed_c2 HEV.out hb hf fun a2 w2' h1 h2 => ⟨⟨3, by omega, by omega, h1, h2⟩, by show 10 - _ < 10 - _; rw [hm h1, hm hf]; simp [intOf]⟩
        · exact ed_c3 HEV.out hb hf fun a2 w2' h1 h2 => ⟨⟨4, by omega, by omega, h1, h2⟩, by show 10 - _ < 10 - _; rw [hm h1, hm hf]; simp [intOf]⟩
        · exact ed_c4 HEV.out hb hf fun a2 w2' h1 h2 => ⟨⟨5, by omega, by omega, h1, h2⟩, by show 10 - _ < 10 - _; rw [hm h1, hm hf]; simp [intOf]⟩
        · exact ed_c5 HEV.out hb hf fun a2 w2' h1 h2 => ⟨⟨6, by omega, by omega, h1, h2⟩, by show 10 - _ < 10 - _; rw [hm h1, hm hf]; simp [intOf]⟩
        · exact ed_c6 HEV.out hb hf fun a2 w2' h1 h2 => ⟨⟨7, by omega, by omega, h1, h2⟩, by show 10 - _ < 10 - _; rw [hm h1, hm hf]; simp [intOf]⟩
        · exact ed_c7 HEV.out hb hf fun a2 w2' h1 h2 => ⟨⟨8, by omega, by omega, h1, h2⟩, by show 10 - _ < 10 - _; rw [hm h1, hm hf]; simp [intOf]⟩
        · exact ed_c8 HEV.out hb hf fun a2 w2' h1 h2 => ⟨⟨9, by omega, by omega, h1, h2⟩, by show 10 - _ < 10 - _; rw [hm h1, hm hf]; simp [intOf]⟩
        · exact ed_c9 HEV.out hb hf fun a2 w2' h1 h2 => ⟨⟨10, by omega, by omega, h1, h2⟩, by show 10 - _ < 10 - _; rw [hm h1, hm hf]; simp [intOf]⟩
      · obtain rfl : j = 10 := by omega
        obtain ⟨s1, s2, e1, e3, e4, e5, e10, e11⟩ := hf
        obtain ⟨f, hff, hfr⟩ := frame_lit a' s1 s2
        rw [hff] at e11
        rw [hfr, e11]
        clear hm hff hfr s1 s2 e1 e3 e4 e5 e10 e11 hj0 hj hlt
        have HJ := Lib.hid hb
        clear hb
        go_wp2_with (first | (go_at_call 5; ((with_reducible refine (p_awake _).mono ?_); rintro x' w20 ⟨rfl, hb20⟩)))
        go_ret
        exact ⟨rfl, HLAST.out _ (stepB HJ.out hb20)⟩
theorem edits_any (x : Wk) (p : Option Addr) (cap : Nat) (p2 : Option Addr) (cap2 : Nat) (w : World) (hd : CellsAt w p x.l) (hcap : x.l.length ≤ cap) (hm : cap ≤ maxLen) (hd2 : CellsAt w p2 x.l2) (hcap2 : x.l2.length ≤ cap2) (hm2 : cap2 ≤ maxLen) :
    Calls Tryz.prog 3 #[.agg (WL x p cap p2 cap2).toArray] w fun e w' => e = .returned (.bool true) ∧ Below w.heap.size w w' := by
  by_cases h : x.l.length ≤ 2000 ∧ x.l2.length ≤ 2000
  · exact edits_light x p cap p2 cap2 w hd hcap hd2 hcap2 h.1 h.2
  · exact edits_dark x p cap p2 cap2 w (by unfold maxLen at hm; omega) (by unfold maxLen at hm2; omega) h
end Go.Proofs.YtfjfnbeegojlbaaGreat

/-
  The law PatternEdits: round 8 of its loop.
-/
import Derived.Test.YtfjfnbeegojlbaaGreatPEdB
import Derived.LoopN
namespace Go.Proofs.YtfjfnbeegojlbaaGreat
open Go.RowKit

set_option maxRecDepth 100000 in
set_option maxHeartbeats 12800000 in
theorem ed_c8 {x : Wk} {p : Option Addr} {cap : Nat} {p2 : Option Addr} {cap2 b xa x3 x4 g1 g2 n1 n2 : Nat} {V wr : World} {ac : Act} {Q : Exit → Act → World → Prop} (h : EdV x p cap p2 cap2 b xa x3 x4 g1 g2 n1 n2 V) (hJ : Below V.heap.size V wr) (ha : EdF x b xa x3 x4 8 ac) (hQ : ∀ a' w', EdF x b xa x3 x4 9 a' → Below V.heap.size V w' → Q .normal a' w') : Code.wp Tryz.prog edBody Q ac wr := by
  obtain ⟨s1, s2, e1, e3, e4, e5, e10, e11⟩ := ha
  obtain ⟨f, hf, hfr⟩ := frame_lit ac s1 s2
  rw [hf] at e1 e3 e4 e5 e10 e11
  rw [hfr, e1, e3, e4, e5, e10, e11]
  clear hf hfr s1 s2 e1 e3 e4 e5 e10 e11 ac
  have HQ := Lib.hid hQ
  have HJ := Lib.hid hJ
  have HXV := Lib.hid h.xv
  have HZV := Lib.hid h.zv
  have HPV := Lib.hid h.pv
  have HKV := Lib.hid h.kv
  have HDV := Lib.hid h.dv
  have HN := Lib.hid h.hn
  have HNN := Lib.hid h.nn
  clear h hQ hJ
  have HAV := Lib.hid (show ∀ u : World, Below V.heap.size V u → CellsAt u (some ⟨g1, 0, none⟩) x.l ∧ CellsAt u (some ⟨g2, 0, none⟩) x.l2 from fun u hu => ⟨kr_pre (HKV.out u hu).1, kr_pre (HKV.out u hu).2⟩)
  have HWV := Lib.hid (show ∀ u : World, Below V.heap.size V u → u.rangeAt b 0 [.int .i64 x.r, .slice p n1 cap] ∧ u.rangeAt b 2 [.int .i64 x.r2, .slice p2 n2 cap2] from fun u hu => by
    have h := wl_ld (HXV.out u hu)
    rwa [HNN.out.1, HNN.out.2] at h)
  have HCV := Lib.hid (show ∀ u : World, Below V.heap.size V u → u.rangeAt b 15 (CL x.c) from fun u hu => wl_cell (HXV.out u hu))
  have CU1 := Lib.hid (fun (u : World) (hu : Below V.heap.size V u) => l_untouched x.r x.l g1 p cap u (HKV.out u hu).1 (HDV.out u hu).1 (by have := HN.out; have := HNN.out; omega))
  have CU2 := Lib.hid (fun (u : World) (hu : Below V.heap.size V u) => l_untouched x.r2 x.l2 g2 p2 cap2 u (HKV.out u hu).2 (HDV.out u hu).2 (by have := HN.out; have := HNN.out; omega))
  unfold PV at CU1 CU2
  simp only [HNN.out.1] at CU1
  simp only [HNN.out.2] at CU2
  obtain ⟨W4, hW4, hb4, hs4, em0, em1, em2, em3⟩ := em_four wr
  obtain ⟨a, ha⟩ : ∃ a, a = wr.heap.size := ⟨_, rfl⟩
  have B4 := Lib.hid (stepB HJ.out hb4)
  rw [← ha] at em0 em1 em2 em3 hs4
  have HM := Lib.hid (show Em W4 a ∧ Em W4 (a + 1) ∧ Em W4 (a + 2) ∧ Em W4 (a + 3) from ⟨em0, em1, em2, em3⟩)
  have HS4 := Lib.hid (show V.heap.size ≤ a ∧ W4.heap.size = a + 4 from ⟨by rw [ha]; exact HJ.out.size, hs4⟩)
  unfold edBody
  conv => arg 2; whnf
  go_upto_region 13 with fail
  rw [← hW4, ← ha]
  clear hW4 hb4 hs4 em0 em1 em2 em3 ha
  obtain ⟨R1, hR1⟩ : ∃ R1, Pt.okI (Pt.eJoin x.r x.l x.r2 x.l2 x.ch) (x.r + x.r2) = R1 := ⟨_, rfl⟩
  obtain ⟨L1, hL1⟩ : ∃ L1, Pt.okL (Pt.eJoin x.r x.l x.r2 x.l2 x.ch) ((x.l ++ x.l2)) = L1 := ⟨_, rfl⟩
  obtain ⟨nl, hnl⟩ : ∃ nl, L1.length = nl := ⟨_, rfl⟩
  have hle : nl ≤ 4000 := by rw [← hnl, ← hL1]; exact (okL_le fun _ => by rw [List.length_append]; have := HN.out; have := HNN.out; omega)
  have CP := Lib.hid (fun (u : World) (hu : Below V.heap.size V u) => p_Join x.r x.l (some ⟨g1, 0, none⟩) (n1 + 1) x.r2 x.l2 (some ⟨g2, 0, none⟩) (n2 + 1) x.ch u (HAV.out u hu).1 (HAV.out u hu).2)
  have CR := Lib.hid (fun (u : World) (hu : Below V.heap.size V u) => r_Join x.r x.l p cap x.r2 x.l2 p2 cap2 x.ch u (HDV.out u hu).1 (HDV.out u hu).2)
  rw [hR1, hL1] at CP CR
  obtain ⟨E, hE⟩ : ∃ E, Pt.eJoin x.r x.l x.r2 x.l2 x.ch = E := ⟨_, rfl⟩
  rw [hE] at CP CR
  unfold RetPE PV at CP CR
  simp only [hnl, HNN.out.1, HNN.out.2] at CP CR
  have HNL := Lib.hid (show L1.length = nl ∧ nl ≤ 4000 from ⟨hnl, hle⟩)
  clear hR1 hL1 hE hnl hle
  skip
  go_upto_region 43 with (first | (refine ld_pat (by rfl) (.tmp 3) rfl rfl (HPV.out _ B4.out).1.1 ?_) | (refine ld_pat (by rfl) (.tmp 4) rfl rfl (HPV.out _ B4.out).2.1 ?_) | (go_at_call 27; ((with_reducible refine (CP.out _ B4.out).mono ?_); rintro x' w5 ⟨⟨p5, c5, rfl, hc5, ho5⟩, hb5⟩; have HB5 := Lib.hid hb5; have HO5 := Lib.hid ho5; have M5 := Lib.hid (HM.out.1.be hb5); clear  hb5 ho5 hc5)) | ((refine st_pat (by rfl) (.tmp 12) _ rfl rfl rfl M5.out.pb.2 ?_); intro w6 h6 g6; have H6 := Lib.hid h6; have G6 := Lib.hid g6; have B6 := Lib.hid (ed_b6 B4.out HB5.out HS4.out g6); skip; clear h6 g6) | (refine ld_pato (by rfl) (.tmp 293) rfl rfl (HWV.out _ B6.out).1 ?_) | (refine ld_pato (by rfl) (.tmp 295) rfl rfl (HWV.out _ B6.out).2 ?_) | (go_at_call 28; ((with_reducible refine (CR.out _ B6.out).mono ?_); rintro x' w7 ⟨⟨p7, c7, rfl, hc7, ho7⟩, hb7⟩; have HB7 := Lib.hid hb7; have HO7 := Lib.hid ho7; have M7 := Lib.hid (ed_m7 HM.out.2.1 HB5.out G6.out hb7); clear  hb7 ho7 hc7)) | ((refine st_pat (by rfl) (.tmp 13) _ rfl rfl rfl M7.out.2 ?_); intro w8 h8 g8; have H8 := Lib.hid h8; have G8 := Lib.hid g8; clear h8 g8))
  obtain ⟨G, he, m2, m3⟩ := ed_one HNL.out.1 B4.out HS4.out.1 HS4.out.2 HM.out.2.2.1 HM.out.2.2.2 HB5.out HO5.out H6.out G6.out HB7.out HO7.out H8.out G8.out
  obtain ⟨R2, L2, nr, p6, c6, p8, c8, HNR, HSS⟩ : ∃ (R2 : Int) (L2 : List Pt.Cl) (nr : Nat) (p6 : Option Addr) (c6 : Nat) (p8 : Option Addr) (c8 : Nat), Hid (L2.length = nr ∧ nr ≤ 4000) ∧ Hid (Es w8 a R2 L2 nr p6 c6 p8 c8 G) := ⟨0, [], 0, none, 0, none, 0, ⟨rfl, by omega⟩, es_zero m2 m3⟩
  have HE := Lib.hid he
  have HF := HSS
  clear he m2 m3
  have CS1 := Lib.hid (fun u (hu : Below w8.heap.size w8 u) => p_Same R1 L1 p5 p7 c5 c7 u (HE.out.la.below hu) (HE.out.lb.below hu) (by have := HNL.out; omega))
  have CS2 := Lib.hid (fun (u : World) (h1 : CellsAt u p6 L2) (h2 : CellsAt u p8 L2) => p_Same R2 L2 p6 p8 c6 c8 u h1 h2 (by have := HNR.out; omega))
  unfold PV at CS1 CS2
  rw [HNL.out.1] at CS1
  simp only [HNR.out.1] at CS2
  have hle' : (nl : Int) ≤ 4000 := by have := HNL.out; omega
  go_upto_region 45 with (first | (refine ld_pat (by rfl) (.tmp 12) rfl rfl HE.out.pa.1 ?_) | (refine ld_pat (by rfl) (.tmp 13) rfl rfl HE.out.pb.1 ?_) | (go_at_call 31; ((with_reducible refine (CS1.out _ (Below.refl _ _)).mono ?_); rintro x' w9 ⟨rfl, hb9⟩; have HB9 := Lib.hid hb9; clear hb9)) | (refine ld_pat (by rfl) (.tmp 14) rfl rfl (HF.out.pc.kept HB9.out).1 ?_) | (refine ld_pat (by rfl) (.tmp 15) rfl rfl (HF.out.pd.kept HB9.out).1 ?_) | (go_at_call 31; ((with_reducible refine (CS2.out _ (HF.out.lc.kept HB9.out).at (HF.out.ld.kept HB9.out).at).mono ?_); rintro x' w10 ⟨rfl, hb10⟩; have HB10 := Lib.hid (stepB HB9.out hb10); clear hb10)))
  have HPA := Lib.hid (HE.out.pa.kept HB10.out)
  have k1 : w10.cell? ⟨a, 1, none⟩ = some (.slice p5 nl c5) := HPA.out.1 1 _ rfl
  go_wp2
  go_loopw [16, 319] (fun _ i wr => ∃ k : Nat, k ≤ nl ∧ i = .int .i64 (k : Int) ∧ Hid (w10.grownBy wr (some G)) ∧ Hid (nl = 0 ∨ ∃ L, L.length = nl ∧ Kr wr G L)) (fun _ i _ => nl - (intOf i).toNat)
  case atStart => exact ⟨0, Nat.zero_le _, by go_num, grownBy_refl _ _, HE.out.own.imp id fun h => ⟨L1, HNL.out.1, h.2.kept HB10.out⟩⟩
  case round =>
    obtain ⟨k, hk, rfl, HGk, HLk⟩ := hrel
    have HPk := Lib.hid (HPA.out.grown HGk.out (by have := HE.out.sz; omega))
    have k1' : wr.cell? ⟨a, 1, none⟩ = some (.slice p5 nl c5) := HPk.out.1 1 _ rfl
    by_cases hlt : k < nl
    · have hlt' : (k : Int) < (nl : Int) := by omega
      rcases HE.out.own with h0 | ⟨hp, -⟩
      · exact absurd h0 (by omega)
      · rcases HLk.out with h0 | ⟨L, hL, hK⟩
        · exact absurd h0 (by omega)
        · subst hp
          have HTH := Lib.hid (hK.th (i := k) (by omega))
          have HNX := Lib.hid (hK.setCl (i := k) (by omega) ⟨99, 0, 0, 0, 0, 0⟩)
          have HLL := Lib.hid (show k < nl ∧ L.length = nl from ⟨hlt, hL⟩)
          clear hlt hk hK hL
          go_wp2_with (first | ((refine st_cell (c := ⟨99, 0, 0, 0, 0, 0⟩) (by rfl) (.tmp 326) _ rfl rfl rfl HTH.out ?_); intro w12 h12; have H12 := Lib.hid h12; clear h12))
          go_roundw
          case rel => exact ⟨k + 1, HLL.out.1, by go_num, by rw [H12.out]; exact grownBy_trans HGk.out (grown_setCells _ _ _ _), .inr ⟨L.set k ⟨99, 0, 0, 0, 0, 0⟩, by rw [List.length_set]; exact HLL.out.2, by rw [H12.out]; exact HNX.out⟩⟩
          case measure => simp [intOf]; have := HLL.out; omega
    · have hlt' : ¬ (k : Int) < (nl : Int) := by omega
      have BK := Lib.hid (show Below V.heap.size V wr from grown_at (stepB HE.out.bl HB10.out) (by have := HE.out.sz; omega) (by have := HE.out.bl.size; have := HB10.out.size; omega) HGk.out)
      have K2 := Lib.hid ((HF.out.pc.kept HB10.out).grown HGk.out (by have := HE.out.sz; omega))
      have K3 := Lib.hid ((HF.out.pd.kept HB10.out).grown HGk.out (by have := HE.out.sz; omega))
      clear hlt hk
      go_wp2_with (first | (refine ld_pat (by rfl) (.tmp 14) rfl rfl K2.out.1 ?_) | (refine ld_pat (by rfl) (.tmp 15) rfl rfl K3.out.1 ?_) | (go_at_call 31; ((with_reducible refine (CS2.out _ ((HF.out.lc.kept HB10.out).grown HGk.out) ((HF.out.ld.kept HB10.out).grown HGk.out)).mono ?_); rintro x' w13 ⟨rfl, hb13⟩; have B13 := Lib.hid (stepB BK.out hb13); clear hb13)) | (refine ld_pat (by rfl) (.tmp 3) rfl rfl (HPV.out _ B13.out).1.1 ?_) | (refine ld_pato (by rfl) (.tmp 334) rfl rfl (HWV.out _ B13.out).1 ?_) | (go_at_call 32; ((with_reducible refine (CU1.out _ B13.out).mono ?_); rintro x' w14 ⟨rfl, hb14⟩; have B14 := Lib.hid (stepB B13.out hb14); clear hb14)) | (refine ld_pat (by rfl) (.tmp 4) rfl rfl (HPV.out _ B14.out).2.1 ?_) | (refine ld_pato (by rfl) (.tmp 341) rfl rfl (HWV.out _ B14.out).2 ?_) | (go_at_call 32; ((with_reducible refine (CU2.out _ B14.out).mono ?_); rintro x' w15 ⟨rfl, hb15⟩; have B15 := Lib.hid (stepB B14.out hb15); clear hb15)))
      exact HQ.out _ _ ⟨rfl, rfl, rfl, rfl, rfl, rfl, rfl, rfl⟩ B15.out
end Go.Proofs.YtfjfnbeegojlbaaGreat

/-
  The reference's Join.
-/
import Derived.Test.YtfjfnbeegojlbaaGreatRBadB
import Derived.Test.YtfjfnbeegojlbaaGreatRTr
import Derived.Deep.RegionLaw
namespace Go.Proofs.YtfjfnbeegojlbaaGreat
open Go.RowKit

set_option maxRecDepth 100000 in
set_option maxHeartbeats 6400000 in
theorem r_Join_ok (R Q C : Nat) (l : List Pt.Cl) (p : Option Addr) (cap : Nat) (l2 : List Pt.Cl) (p2 : Option Addr) (cap2 : Nat) (w : World) (hd : CellsAt w p l) (hd2 : CellsAt w p2 l2) (h1 : Pt.vpat R l C = true) (h2 : Pt.vpat Q l2 C = true) (hs64 : R + Q ≤ 64) (g2 : R ≤ 64) (g4 : C ≤ 16) (hl : l.length = R * C) (hl2 : l2.length = Q * C) (g1 : 1 ≤ R) (g3 : 1 ≤ C) :
    Calls Tryz.prog 28 #[PV R p l.length cap, PV Q p2 l2.length cap2, .int .i64 C] w fun x w' => RetPE ((R : Int) + (Q : Int)) (l ++ l2) 0 w.heap.size x w' ∧ Below w.heap.size w w' := by
  have hpos : 0 < l.length := by rw [hl]; exact Nat.mul_pos (by omega) (by omega)
  obtain ⟨n2, hnn2⟩ : ∃ n2, l2.length = n2 := ⟨_, rfl⟩
  have hnb : n2 ≤ 1024 := by rw [← hnn2, hl2]; exact Pt.rc_bound (by omega) g4
  have HM := Lib.hid (show l2.length = n2 ∧ n2 ≤ 1024 from ⟨hnn2, hnb⟩)
  have d3 : decide (64 < (R : Int) + (Q : Int)) = false := decide_eq_false (by omega)
  have m1 : (R : Int) ≤ 64 := by omega
  have m2 : (Q : Int) ≤ 64 := by omega
  have m3 : IntKind.i64.wrap ((R : Int) + (Q : Int)) = (R : Int) + (Q : Int) := by rw [IntKind.wrap_i64]; omega
  clear hnb hl2 g1 g3 hs64
  obtain ⟨W, hW, hB, hs, hp, ha, hr⟩ := pats_new w R (.slice p l.length cap) Q (.slice p2 l2.length cap2)
  have HB := Lib.hid hB
  have HP := Lib.hid hp
  have HR := Lib.hid hr
  have HS := Lib.hid hs
  have CV := Lib.hid (fun u (hu : Below W.heap.size W u) => r_Valid R l p cap C u ((hd.below hB).below hu))
  rw [h1] at CV
  have hn1 : l.length ≤ 1024 := by rw [hl]; exact Pt.rc_bound g2 g4
  have CW := Lib.hid (fun u (hu : Below W.heap.size W u) => r_Valid Q l2 p2 cap2 C u ((hd2.below hB).below hu))
  rw [h2] at CW
  have C3 := Lib.hid (fun u (hu : Below W.heap.size W u) => r_copied R l p cap u ((hd.below hB).below hu) hn1)
  obtain ⟨n, hnn⟩ : ∃ n, l.length = n := ⟨_, rfl⟩
  unfold RetO at C3
  simp only [hnn] at C3
  obtain ⟨b, hb⟩ : ∃ b, b = w.heap.size := ⟨_, rfl⟩
  rw [← hb] at hp ha HP HR HS
  have HA := Lib.hid ha
  have HBE := Lib.hid hb
  have HBc := Lib.hid (Below.refl W.heap.size W)
  unfold PV at CV C3 CW ⊢
  have HN := Lib.hid (show l.length = n ∧ l.length = R * C ∧ n ≤ 1024 ∧ R ≤ 64 ∧ C ≤ 16 ∧ 0 < n from ⟨hnn, hl, by rw [← hnn]; exact hn1, g2, g4, by rw [← hnn]; exact hpos⟩)
  rw [hnn] at hW HP CV hp ⊢
  rw [hnn2] at hW CW HA ha ⊢
  obtain ⟨k0, k1, q0, q1⟩ := four hp ha (Below.refl _ W)
  clear hd hB hs hp ha hr h1 hl hn1 hnn hpos g2 g4 h2
  go_enter Tryz.func28, Tryz.ntmps28
  go_upto_region 1 with fail
  rw [← hW, ← hb]
  clear hW hb
  go_upto_region 6 with (first | (refine ld_pat (by rfl) (.tmp 3) rfl rfl (HP.out.kept HBc.out).1 ?_) | (refine ld_pat (by rfl) (.tmp 4) rfl rfl (HA.out.kept HBc.out).1 ?_) | (go_at_call 10; ((with_reducible refine (CV.out _ HBc.out).mono ?_); rintro x' w1 ⟨rfl, hb1⟩; have HBn := Lib.hid (stepB HBc.out hb1); clear HBc k0 k1 q0 q1 hb1; have HBc := HBn; clear HBn; obtain ⟨k0, k1, q0, q1⟩ := four HP.out HA.out HBc.out)) | (go_at_call 10; ((with_reducible refine (CW.out _ HBc.out).mono ?_); rintro x' w1 ⟨rfl, hb1⟩; have HBn := Lib.hid (stepB HBc.out hb1); clear HBc k0 k1 q0 q1 hb1; have HBc := HBn; clear HBn; obtain ⟨k0, k1, q0, q1⟩ := four HP.out HA.out HBc.out)) | (go_at_call 47; ((with_reducible refine (C3.out _ HBc.out).mono ?_); rintro x' w3 ⟨⟨q, cp, rfl, hcp, ho, hoc⟩, hb3⟩; have HO := Lib.hid ho; have HOC := Lib.hid hoc; have HCP := Lib.hid hcp; have HB2 := HBc; have HBn := Lib.hid (stepB HBc.out hb3); clear HBc k0 k1 q0 q1 hb3 ho hoc hcp; have HBc := HBn; clear HBn; have HPx := Lib.hid (HP.out.kept HBc.out))) | ((refine st_pat (by rfl) (.tmp 8) _ rfl rfl rfl (pb_box _ _ _ _).2 ?_); intro w4 h4 g4; have H4 := Lib.hid h4; have G4 := Lib.hid g4; clear h4 g4))
  obtain ⟨g, rfl, hg, hk⟩ := own_some HO.out (by rw [HN.out.1]; exact HN.out.2.2.2.2.2)
  obtain ⟨b9, hb9⟩ : ∃ b9, b9 = w3.heap.size := ⟨_, rfl⟩
  have HK4 := Lib.hid (show Kr w4 g l from (hk.kept (below_box _ _)).grown G4.out (by have := hk.1; omega))
  have HB4 := Lib.hid (show Below W.heap.size W w4 from grown_at (stepB HBc.out (below_box _ (.cells #[.int .i64 0, .slice none 0 0] 24))) HBc.out.size (by simp; exact Nat.le_succ_of_le HBc.out.size) G4.out)
  have HGE := Lib.hid (show W.heap.size ≤ g ∧ g < b9 ∧ b9 < w4.heap.size ∧ b + 3 = W.heap.size ∧ w.heap.size = b ∧ W.heap.size ≤ w4.heap.size from ⟨Nat.le_trans HB2.out.size hg, by rw [hb9]; exact hk.1, by rw [hb9]; exact H4.out.lt, HS.out.symm, HBE.out.symm, HB4.out.size⟩)
  have HOC4 := Lib.hid (show Oc w4 w1.heap.size (.slice (some ⟨g, 0, none⟩) n cp) l from by
    have hlt := hk.1
    exact (HOC.out.kept (below_box w3 (.cells #[.int .i64 0, .slice none 0 0] 24))).grown G4.out (fun e => by have e2 : g = w3.heap.size := (by simpa [Value.ownBlock] using e); omega))
  rw [← hb9] at H4 ⊢
  clear hg hk hb9 HO HOC
  have HD4 := Lib.hid (show CellsAt w4.drew p2 l2 from ((hd2.below HB.out).below (HB4.out)).below (Below.refl _ _).drew)
  clear hd2
  have HO4 := Lib.hid (show Oc w4.drew w1.heap.size (.slice (some ⟨g, 0, none⟩) n cp) l from HOC4.out.kept (Below.refl _ _).drew)
  have HF := Lib.hid (show l.length = n ∧ l2.length = n2 ∧ w1.heap.size ≤ w4.drew.heap.size ∧ n ≤ 100000 ∧ n2 ≤ 100000 from ⟨HN.out.1, HM.out.1, by have := (HOC4.out.lt g rfl).1; have := (HOC4.out.lt g rfl).2; simp; omega, by have := HN.out; omega, by have := HM.out; omega⟩)
  have HU := Lib.hid (show ∀ w7 : World, w4.drew.grownBy w7 (Value.ownBlock (.slice (some ⟨g, 0, none⟩) n cp)) → Pb w7 b R (.slice p n cap) ∧ Pb w7 (b + 1) Q (.slice p2 n2 cap2) ∧ Pb w7 b9 R (.slice (some ⟨g, 0, none⟩) n cp) ∧ Pb w7 (b + 2) 0 (.slice none 0 0) ∧ Below W.heap.size W w7 from fun w7 h => by
    have hg : w4.drew.grownBy w7 (some g) := h
    obtain ⟨e1, e2, e3, e4, e5, e6⟩ := HGE.out
    have hd := HB4.out.drew
    have hd4 := (Below.refl w4.heap.size w4).drew
    exact ⟨(HP.out.kept hd).grown hg (by omega), (HA.out.kept hd).grown hg (by omega), (H4.out.kept hd4).grown hg (by omega), (HR.out.kept hd).grown hg (by omega), grown_at hd e1 e6 hg⟩)
  obtain ⟨k0, k1⟩ := two_cells HP.out HB4.out
  obtain ⟨q0, q1⟩ := two_cells HA.out HB4.out
  have ⟨y0, y1, _, _⟩ := H4.out.cells
  go_region_law (first | (refine step_app_c rfl (.tmp 37) (.tmp 39) rfl rfl rfl HO4.out HD4.out HF.out ?_; intro p7 c7 w7 h7 g7 a7; have H7 := Lib.hid h7; have M7 := Lib.hid (HU.out _ g7); obtain ⟨z0, z1, _, _⟩ := M7.out.1.cells; obtain ⟨u0, u1, _, _⟩ := M7.out.2.1.cells; obtain ⟨v0, v1, v2, v3⟩ := M7.out.2.2.1.cells; have A7 := Lib.hid (show Value.ownBlock (.slice p7 (n + n2) c7) ≠ some b9 from fun e => by rcases a7 b9 e with h | h; (have h2 : g = b9 := (by simpa [Value.ownBlock] using (show Value.ownBlock (.slice (some ⟨g, 0, none⟩) n cp) = some b9 from h)); have := HGE.out; omega); (have := HGE.out; simp at h; omega)); clear h7 g7 a7))
  all_goals
    obtain ⟨w8, h8⟩ : ∃ w8, w8 = (w7.setCell ⟨b9, 0, none⟩ (.int .i64 ((R : Int) + (Q : Int)))).setCell ⟨b9, 1, none⟩ (.slice p7 (n + n2) c7) := ⟨_, rfl⟩
    have hr8 : w8.rangeAt b9 0 [.int .i64 ((R : Int) + (Q : Int)), .slice p7 (n + n2) c7] := by rw [h8]; exact World.rangeAt_setCells_same w7 b9 0 [.int .i64 ((R : Int) + (Q : Int)), .slice p7 (n + n2) c7] M7.out.2.2.1.2
    have hg8 : w7.grownBy w8 (some b9) := by rw [h8]; exact grown_setCells b9 [.int .i64 ((R : Int) + (Q : Int)), .slice p7 (n + n2) c7] 0 w7
    rw [← h8]
    have HR8 := Lib.hid hr8
    have HG8 := Lib.hid hg8
    have HRR := Lib.hid (M7.out.2.2.2.1.grown hg8 (by have := HGE.out; omega))
    clear h8 hr8 hg8 k0 k1 q0 q1 y0 y1 z0 z1 u0 u1 v0 v1 v2 v3
    go_wp2_with (first | (refine ld_pat (by rfl) (.tmp 8) rfl rfl HR8.out ?_) | ((refine st_pat (by rfl) (.tmp 6) _ rfl rfl rfl HRR.out.2 ?_); intro w9 h9 g9; have H9 := Lib.hid h9; have G9 := Lib.hid g9; clear h9 g9))
    obtain ⟨e1, e2, e3, e4, e5, e6⟩ := HGE.out
    have e7 := HB2.out.size
    have e8 := M7.out.2.2.2.2.size
    have e9 := HG8.out.size
    obtain ⟨q', cq', e, hc, ho⟩ := (H7.out.grown HG8.out A7.out).own
    simp only [Value.slice.injEq] at e
    obtain ⟨rfl, e0, rfl⟩ := e
    refine bodyPost_ret (res_pe rfl rfl H9.out.1 rfl) rfl ⟨⟨p7, c7, by rw [← e0]; rfl, hc, (ho.grown G9.out (by omega)).mono (by omega)⟩, grown_at (grown_at (stepB HB.out M7.out.2.2.2.2) (by omega) (by omega) HG8.out) (by omega) (by omega) G9.out⟩
theorem r_Join (r : Int) (l : List Pt.Cl) (p : Option Addr) (cap : Nat) (q : Int) (m : List Pt.Cl) (p' : Option Addr) (cap' : Nat) (ch : Int) (w : World) (hd : CellsAt w p l) (hd2 : CellsAt w p' m) :
    Calls Tryz.prog 28 #[PV r p l.length cap, PV q p' m.length cap', .int .i64 ch] w fun x w' => RetPE (Pt.okI (Pt.eJoin r l q m ch) (r + q)) (Pt.okL (Pt.eJoin r l q m ch) (l ++ m)) (Pt.eJoin r l q m ch) w.heap.size x w' ∧ Below w.heap.size w w' := by
  by_cases h : Pt.eJoin r l q m ch = 0
  · rw [h]
    have h0 : Pt.vpat r l ch = true ∧ Pt.vpat q m ch = true ∧ r + q ≤ 64 := by
      unfold Pt.eJoin at h
      cases h1 : Pt.vpat r l ch with
      | false => rw [h1] at h; simp at h
      | true =>
        cases h2 : Pt.vpat q m ch with
        | false => rw [h1, h2] at h; simp at h
        | true =>
          rw [h1, h2] at h
          by_cases h3 : r + q ≤ 64
          · exact ⟨rfl, rfl, h3⟩
          · have h : (if r + q ≤ 64 then (0 : Int) else 4) = 0 := h
            rw [if_neg h3] at h
            exact absurd h (by decide)
    obtain ⟨R, C, rfl, rfl, g1, g2, g3, g4, g5, g6⟩ := Pt.vpat_nat h0.1
    obtain ⟨Q, C', rfl, e2, k1, k2, k3, k4, k5, k6⟩ := Pt.vpat_nat h0.2.1
    obtain rfl : C = C' := by omega
    exact r_Join_ok R Q C l p cap m p' cap' w hd hd2 h0.1 h0.2.1 (by have := h0.2.2; omega) g2 g4 g5 k5 g1 g3
  · have e1 : Pt.okI (Pt.eJoin r l q m ch) (r + q) = 0 := if_neg h
    have e2 : Pt.okL (Pt.eJoin r l q m ch) (l ++ m) = [] := if_neg h
    rw [e1, e2]
    exact r_Join_bad r l p cap q m p' cap' ch w hd hd2 rfl h
end Go.Proofs.YtfjfnbeegojlbaaGreat

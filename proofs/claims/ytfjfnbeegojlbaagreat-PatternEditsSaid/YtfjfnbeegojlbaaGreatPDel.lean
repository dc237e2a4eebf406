/-
  Package pattern's Delete.
-/
import Derived.Test.YtfjfnbeegojlbaaGreatGb
namespace Go.Proofs.YtfjfnbeegojlbaaGreat
open Go.RowKit

set_option maxRecDepth 100000 in
set_option maxHeartbeats 3200000 in
theorem p_Delete_bad (r : Int) (l : List Pt.Cl) (p : Option Addr) (cap : Nat) (ch row : Int) (w : World) (hd : CellsAt w p l) {e : Int} (he : Pt.ePlace r l ch row 0 = e) (h0 : e ≠ 0) :
    Calls Tryz.prog 23 #[PV r p l.length cap, .int .i64 ch, .int .i64 row] w fun x w' => RetPE 0 [] e w.heap.size x w' ∧ Below w.heap.size w w' := by
  obtain ⟨W, hW, hB, hs, hp, hr⟩ := two_new' w r (.slice p l.length cap)
  have HB := Lib.hid hB
  have HP := Lib.hid hp
  have HR := Lib.hid hr
  have HS := Lib.hid hs
  have C2 := Lib.hid (p_askPlace r l p cap ch row 0 W (hd.below hB))
  rw [he] at C2
  obtain ⟨b, hb⟩ : ∃ b, b = w.heap.size := ⟨_, rfl⟩
  rw [← hb] at HP HR HS
  have HBE := Lib.hid hb
  have hne : (e != 0) = true := by simpa using h0
  unfold PV at C2 ⊢
  clear h0 he hd hB hs hp hr
  go_enter Tryz.func23, Tryz.ntmps23
  go_upto_region 1 with fail
  rw [← hW, ← hb]
  clear hW hb
  go_wp2_with (first | (refine ld_pat (by rfl) (.tmp 3) rfl rfl HP.out.1 ?_) | (go_at_call 35; ((with_reducible refine (C2.out).mono ?_); rintro x' w2 ⟨rfl, hb2⟩; have HB2 := Lib.hid hb2; have HR2 := Lib.hid (HR.out.kept hb2); clear hb2)) | ((refine st_pat (by rfl) (.tmp 6) _ rfl rfl rfl HR2.out.2 ?_); intro w3 h3 g3; have H3 := Lib.hid h3; have G3 := Lib.hid g3; clear h3 g3))
  have e1 := HBE.out
  have e2 := HS.out
  have e4 := HB2.out.size
  exact bodyPost_ret (res_pe rfl rfl H3.out.1 rfl) rfl ⟨⟨none, 0, rfl, Nat.le_refl _, .inl rfl⟩, grown_at (stepB HB.out HB2.out) (by omega) (by omega) G3.out⟩
theorem del_lay {l : List Pt.Cl} {C y M n : Nat} (hl : l.length = n) (hM : y * C = M) (hn : M + C ≤ n) : lay (lay (List.replicate n Pt.zc) 0 (l.take M)) M (l.drop (M + C)) = Pt.delL l C y := by
  have m1 : (l.take M).length = M := by rw [List.length_take]; omega
  have m2 : (l.drop (M + C)).length = n - M - C := by rw [List.length_drop]; omega
  have h1 : (lay (List.replicate n Pt.zc) 0 (l.take M)).length = n := by rw [lay_len (by rw [m1, List.length_replicate]; omega), List.length_replicate]
  refine Pt.eq_mk (by rw [lay_len (by rw [h1, m2]; omega), h1, hl]) fun k hk => ?_
  rw [lay_at (by rw [h1, m2]; omega), lay_at (by rw [m1, List.length_replicate]; omega), m1, m2, hM, hl]
  rw [hl] at hk
  have hz : Pt.at' (List.replicate n Pt.zc) k = Pt.zc := by
    simp only [Pt.at', List.getD_eq_getElem?_getD, List.getElem?_replicate]
    split <;> rfl
  by_cases c1 : k < M
  · rw [if_neg (by omega), if_pos (by omega), if_pos c1]
    simp only [Pt.at', List.getD_eq_getElem?_getD, List.getElem?_take]
    rw [if_pos (by omega), Nat.sub_zero]
  · rw [if_neg c1]
    by_cases c2 : k + C < n
    · rw [if_pos (by omega), if_pos c2]
      simp only [Pt.at', List.getD_eq_getElem?_getD, List.getElem?_drop]
      rw [show M + C + (k - M) = k + C by omega]
    · rw [if_neg (by omega), if_neg c2, if_neg (by omega), hz]
set_option maxRecDepth 100000 in
set_option maxHeartbeats 3200000 in
theorem p_Delete_ok (R C y : Nat) (l : List Pt.Cl) (b0 off cap : Nat) (w : World) (hb0 : b0 < w.heap.size) (hr0 : w.rangeAt b0 off (cc l)) (hcap : l.length ≤ cap) (he : Pt.ePlace R l C y 0 = 0) (g3 : R ≤ 64) (g4 : C ≤ 16) (g1 : 1 ≤ C) (hy : y < R) (hl : l.length = R * C) :
    Calls Tryz.prog 23 #[PV R (some ⟨b0, off, none⟩) l.length cap, .int .i64 C, .int .i64 y] w fun e w' => RetPE R (Pt.delL l C y) 0 w.heap.size e w' ∧ Below w.heap.size w w' := by
  obtain ⟨W, hW, hB, hs, hp, hr⟩ := two_new' w R (.slice (some ⟨b0, off, none⟩) l.length cap)
  have HB := Lib.hid hB
  have HP := Lib.hid hp
  have HR := Lib.hid hr
  have HS := Lib.hid hs
  have hd : CellsAt w (some ⟨b0, off, none⟩) l := .inr ⟨b0, off, rfl, hb0, hr0⟩
  have HD := Lib.hid (show b0 < w.heap.size ∧ w.rangeAt b0 off (cc l) from ⟨hb0, hr0⟩)
  have hrc : R * C ≤ 1024 := Pt.rc_bound g3 g4
  have hn : l.length ≤ 1024 := by rw [hl]; exact hrc
  have C2 := Lib.hid (p_askPlace R l (some ⟨b0, off, none⟩) cap C y 0 W (hd.below hB))
  have C3 := Lib.hid (fun u => p_blank R C u hrc)
  rw [he] at C2
  obtain ⟨b, hb⟩ : ∃ b, b = w.heap.size := ⟨_, rfl⟩
  rw [← hb] at HP HR HS
  have HBE := Lib.hid hb
  obtain ⟨M, hM⟩ : ∃ M, y * C = M := ⟨_, rfl⟩
  obtain ⟨F, hF⟩ : ∃ F, M + C = F := ⟨_, rfl⟩
  have hM' : (y : Int) * (C : Int) = (M : Int) := by rw [← hM, Int.natCast_mul]
  have hF' : ((y : Int) + 1) * (C : Int) = (F : Int) := by rw [Int.add_mul, Int.one_mul, hM']; omega
  obtain ⟨n, hnn⟩ : ∃ n, l.length = n := ⟨_, rfl⟩
  have hMn : M + C ≤ n := by
    have := Nat.mul_le_mul_right C (show y + 1 ≤ R by omega)
    rw [Nat.add_mul, Nat.one_mul, hM] at this
    rw [← hnn, hl]
    exact this
  have HN := Lib.hid (show l.length = n ∧ y * C = M ∧ M + C ≤ n ∧ n ≤ 1024 ∧ n ≤ cap ∧ 1 ≤ C ∧ M + C = F from ⟨hnn, hM, hMn, by omega, by omega, g1, hF⟩)
  unfold RetP at C3
  rw [← hl, hnn] at C3
  simp only [List.length_replicate] at C3
  rw [hnn] at hW HP C2 hn hcap ⊢
  have m0 : (y : Int) ≤ 64 := by omega
  have m1 : (M : Int) ≤ 1024 := by omega
  have m2 : (F : Int) ≤ 1024 := by omega
  have m3 : (n : Int) ≤ 1024 := by omega
  have m4 : (M : Int) ≤ (n : Int) := by omega
  have m5 : (F : Int) ≤ (n : Int) := by omega
  have m7 : M ≤ n := by omega
  have m8 : F ≤ n := by omega
  have m9 : M ≤ cap := by omega
  have mA : (M : Int) ≤ (cap : Int) := by omega
  have HP0 := Lib.hid (show ∀ u : World, Pb (u.alloc (.cells #[.int .i64 0, .slice none 0 0] 24)) u.heap.size 0 (.slice none 0 0) from fun u => pb_box _ _ _ _)
  unfold PV at C2 C3 ⊢
  have ⟨k0, k1, _, _⟩ := hp.cells
  rw [← hb] at k0 k1
  rw [hnn] at k1
  clear hd he g3 g4 hl hB hs hp hr hM hn hnn hb0 hr0 hMn g1 hy hcap hF hrc
  go_enter Tryz.func23, Tryz.ntmps23
  go_upto_region 1 with fail
  rw [← hW, ← hb]
  clear hW hb
  go_upto_region 5 with (first | (refine ld_pat (by rfl) (.tmp 3) rfl rfl HP.out.1 ?_) | (go_at_call 35; ((with_reducible refine (C2.out).mono ?_); rintro x' w2 ⟨rfl, hb2⟩; have HB2 := Lib.hid hb2; clear k0 k1; obtain ⟨k0, k1⟩ := two_cells HP.out hb2; clear hb2)) | (go_at_call 44; ((with_reducible refine (C3.out _).mono ?_); rintro x' w3 ⟨⟨q, cp, rfl, hcp, ho⟩, hb3⟩; have HB3 := Lib.hid hb3; have HCP := Lib.hid hcp; have HO := Lib.hid ho; clear hb3 hcp ho)) | ((refine st_pat (by rfl) (.tmp 9) _ rfl rfl rfl (HP0.out w3).2 ?_); intro w4 h4 g4; have H4 := Lib.hid h4; have G4 := Lib.hid g4; clear h4 g4))
  obtain ⟨b9, hb9⟩ : ∃ b9, b9 = w3.heap.size := ⟨_, rfl⟩
  rw [← hb9] at H4 G4 ⊢
  obtain ⟨g, hq, hg, hk⟩ : ∃ g, q = some ⟨g, 0, none⟩ ∧ w2.heap.size ≤ g ∧ Kr w3 g (List.replicate n Pt.zc) := by
    rcases HO.out with h | h
    · have := HN.out
      have h := congrArg List.length h
      simp at h
      omega
    · exact h
  subst hq
  have HK4 := Lib.hid (show Kr w4 g (List.replicate n Pt.zc) from (hk.kept (below_box _ _)).grown G4.out (by have := hk.1; omega))
  have HZ := Lib.hid (show b + 2 = W.heap.size ∧ w.heap.size = b ∧ W.heap.size ≤ w2.heap.size ∧ w2.heap.size ≤ g ∧ g < b9 ∧ b9 = w3.heap.size ∧ w2.heap.size ≤ w3.heap.size by
    have e1 := HBE.out
    have e2 := HS.out
    have e3 := HB2.out.size
    have e4 := HB3.out.size
    have e5 := hk.1
    omega)
  have HBW4 := Lib.hid (show Below W.heap.size W w4 from grown_at (stepB (stepB HB2.out HB3.out) (below_box _ _)) (by have := HZ.out; omega) (by have := HZ.out; simp; omega) G4.out)
  clear hb9 hg hk k0 k1
  have ⟨k0, k1, _, _⟩ := H4.out.cells
  obtain ⟨j0, j1⟩ := two_cells HP.out HBW4.out
  have HSR := Lib.hid (show ∀ u, Below W.heap.size W u → ∀ a k, a + k ≤ n → u.rangeAt b0 (off + a * 6) (cc ((l.drop a).take k)) from fun u hu a k hk => rng_sub (range_below HD.out.2 (stepB HB.out hu) HD.out.1) a k (by rw [HN.out.1]; exact hk))
  obtain ⟨w5, h5⟩ : ∃ w5, w5 = w4.drew.setCells g 0 (cc (l.take M)) := ⟨_, rfl⟩
  have HM1 := Lib.hid (show (l.take M).length = M by rw [List.length_take]; have := HN.out; omega)
  have hcc := run_copy_cells w4.drew 3 g 0 n cp (some ⟨g, 0, none⟩) (some ⟨b0, off, none⟩) M cap (l.take M) (by rw [HM1.out]; exact (Nat.min_eq_left (by omega)).symm) (fun _ => ⟨rfl, by
    have h := (show Kr w4.drew g (List.replicate n Pt.zc) from HK4.out.kept (Below.refl _ _).drew).there (i := 0) (n := M) (by rw [List.length_replicate]; have := HN.out; omega)
    rw [HM1.out]
    rwa [Nat.zero_mul] at h, b0, off, rfl, by
    have h := HSR.out w4.drew (HBW4.out.trans ((Below.refl _ _).drew)) 0 M (by have := HN.out; omega)
    rwa [List.drop_zero, Nat.zero_mul, Nat.add_zero] at h⟩)
  rw [← h5, HM1.out] at hcc
  have H5 := Lib.hid h5
  clear h5
  have HK5 := Lib.hid (show Kr w5 g (lay (List.replicate n Pt.zc) 0 (l.take M)) by
    rw [H5.out]
    have h := (show Kr w4.drew g (List.replicate n Pt.zc) from HK4.out.kept (Below.refl _ _).drew).lay (i := 0) (m := l.take M) (by rw [HM1.out, List.length_replicate]; have := HN.out; omega)
    rwa [Nat.zero_mul] at h)
  have HG5 := Lib.hid (show w4.grownBy w5 (some g) by rw [H5.out]; exact grownBy_trans (grown_drew' (grownBy_refl w4 (some g))) (grown_setCells _ _ _ _))
  have HL5 := Lib.hid (show (lay (List.replicate n Pt.zc) 0 (l.take M)).length = n by rw [lay_len (by rw [HM1.out, List.length_replicate]; have := HN.out; omega), List.length_replicate])
  have HBW5 := Lib.hid (show Below W.heap.size W w5 from grown_at HBW4.out (by have := HZ.out; omega) HBW4.out.size HG5.out)
  have H45 := Lib.hid (H4.out.grown HG5.out (by have := HZ.out; omega))
  go_simp
  go_region
  clear hcc k0 k1 j0 j1
  have ⟨k0, k1, _, _⟩ := H45.out.cells
  obtain ⟨j0, j1⟩ := two_cells HP.out HBW5.out
  have hcp := HCP.out
  have n1 : ¬ cp = M := by have := HN.out; omega
  have HM2 := Lib.hid (show (l.drop F).length = n - F by rw [List.length_drop, HN.out.1])
  go_upto_region 6 with fail
  by_cases hz : cap = F
  · obtain ⟨w6, h6⟩ : ∃ w6, w6 = w5.drew.setCells g (M * 6) (cc (l.drop F)) := ⟨_, rfl⟩
    have hcc := run_copy_cells w5.drew 3 g (M * 6) (n - M) (cp - M) (some ⟨g, M * 6, none⟩) (some ⟨b0, off, none⟩) (n - F) (0) (l.drop F) (by rw [HM2.out]; exact (Nat.min_eq_left (by have := HN.out; omega)).symm) (fun h => by rw [HM2.out] at h; have := HN.out; omega)
    rw [← h6, HM2.out] at hcc
    have H6 := Lib.hid h6
    clear h6
    go_region
    have HK6 := Lib.hid (show Kr w6 g (lay (lay (List.replicate n Pt.zc) 0 (l.take M)) M (l.drop F)) by
      rw [H6.out]
      exact (show Kr w5.drew g _ from HK5.out.kept (Below.refl _ _).drew).lay (by rw [HL5.out, HM2.out]; have := HN.out; omega))
    have HG6 := Lib.hid (show w5.grownBy w6 (some g) by rw [H6.out]; exact grownBy_trans (grown_drew' (grownBy_refl w5 (some g))) (grown_setCells _ _ _ _))
    have H46 := Lib.hid (H45.out.grown HG6.out (by have := HZ.out; omega))
    have HR6 := Lib.hid ((HR.out.kept HBW5.out).grown HG6.out (by have := HZ.out; omega))
    clear hcc k0 k1 j0 j1
    go_wp2_with (first | (refine ld_pat (by rfl) (.tmp 9) rfl rfl H46.out.1 ?_) | ((refine st_pat (by rfl) (.tmp 6) _ rfl rfl rfl HR6.out.2 ?_); intro w7 h7 g7; have H7 := Lib.hid h7; have G7 := Lib.hid g7; clear h7 g7))
    have hz2 := HZ.out
    have e6 := HBW5.out.size
    have e8 := HG6.out.size
    have hK := HK6.out
    rw [← HN.out.2.2.2.2.2.2, del_lay HN.out.1 HN.out.2.1 HN.out.2.2.1] at hK
    have hil : (Pt.delL l C y).length = n := by rw [← HN.out.1]; exact Pt.mk_len _ _
    refine bodyPost_ret (res_pe rfl rfl H7.out.1 rfl) rfl ⟨⟨some ⟨g, 0, none⟩, cp, ?_, by rw [hil]; exact HCP.out, .inr ⟨g, rfl, by omega, hK.grown G7.out (by omega)⟩⟩, grown_at (grown_at (stepB HB.out HBW5.out) (by omega) (by omega) HG6.out) (by omega) (by omega) G7.out⟩
    rw [hil]
    rfl
  · obtain ⟨w6, h6⟩ : ∃ w6, w6 = w5.drew.setCells g (M * 6) (cc (l.drop F)) := ⟨_, rfl⟩
    have hcc := run_copy_cells w5.drew 3 g (M * 6) (n - M) (cp - M) (some ⟨g, M * 6, none⟩) (some ⟨b0, off + F * 6, none⟩) (n - F) (cap - F) (l.drop F) (by rw [HM2.out]; exact (Nat.min_eq_left (by have := HN.out; omega)).symm) (fun _ => ⟨rfl, by
      rw [HM2.out]
      exact (show Kr w5.drew g _ from HK5.out.kept (Below.refl _ _).drew).there (by rw [HL5.out]; have := HN.out; omega), b0, off + F * 6, rfl, by
      have h := HSR.out w5.drew (HBW5.out.trans ((Below.refl _ _).drew)) F (n - F) (by have := HN.out; omega)
      rwa [List.take_of_length_le (by rw [HM2.out]; exact Nat.le_refl _)] at h⟩)
    rw [← h6, HM2.out] at hcc
    have H6 := Lib.hid h6
    clear h6
    go_region
    have HK6 := Lib.hid (show Kr w6 g (lay (lay (List.replicate n Pt.zc) 0 (l.take M)) M (l.drop F)) by
      rw [H6.out]
      exact (show Kr w5.drew g _ from HK5.out.kept (Below.refl _ _).drew).lay (by rw [HL5.out, HM2.out]; have := HN.out; omega))
    have HG6 := Lib.hid (show w5.grownBy w6 (some g) by rw [H6.out]; exact grownBy_trans (grown_drew' (grownBy_refl w5 (some g))) (grown_setCells _ _ _ _))
    have H46 := Lib.hid (H45.out.grown HG6.out (by have := HZ.out; omega))
    have HR6 := Lib.hid ((HR.out.kept HBW5.out).grown HG6.out (by have := HZ.out; omega))
    clear hcc k0 k1 j0 j1
    go_wp2_with (first | (refine ld_pat (by rfl) (.tmp 9) rfl rfl H46.out.1 ?_) | ((refine st_pat (by rfl) (.tmp 6) _ rfl rfl rfl HR6.out.2 ?_); intro w7 h7 g7; have H7 := Lib.hid h7; have G7 := Lib.hid g7; clear h7 g7))
    have hz2 := HZ.out
    have e6 := HBW5.out.size
    have e8 := HG6.out.size
    have hK := HK6.out
    rw [← HN.out.2.2.2.2.2.2, del_lay HN.out.1 HN.out.2.1 HN.out.2.2.1] at hK
    have hil : (Pt.delL l C y).length = n := by rw [← HN.out.1]; exact Pt.mk_len _ _
    refine bodyPost_ret (res_pe rfl rfl H7.out.1 rfl) rfl ⟨⟨some ⟨g, 0, none⟩, cp, ?_, by rw [hil]; exact HCP.out, .inr ⟨g, rfl, by omega, hK.grown G7.out (by omega)⟩⟩, grown_at (grown_at (stepB HB.out HBW5.out) (by omega) (by omega) HG6.out) (by omega) (by omega) G7.out⟩
    rw [hil]
    rfl
theorem p_Delete (r : Int) (l : List Pt.Cl) (p : Option Addr) (cap : Nat) (ch row : Int) (w : World) (hd : CellsAt w p l) (hcap : l.length ≤ cap) :
    Calls Tryz.prog 23 #[PV r p l.length cap, .int .i64 ch, .int .i64 row] w fun x w' => RetPE (Pt.okI (Pt.ePlace r l ch row 0) r) (Pt.okL (Pt.ePlace r l ch row 0) (Pt.delL l ch.toNat row.toNat)) (Pt.ePlace r l ch row 0) w.heap.size x w' ∧ Below w.heap.size w w' := by
  by_cases h : Pt.ePlace r l ch row 0 = 0
  · rw [h]
    obtain ⟨R, C, y, x, rfl, rfl, rfl, hx, g1, g2, g3, g4, g5, g6, g7, g8⟩ := place_nx h
    have h1 : 1 ≤ C := by omega
    have h2 : Pt.ePlace R l C y 0 = 0 := h
    rcases hd with rfl | ⟨b1, o1, rfl, hb1, hr1⟩
    · simp at g6
    · exact p_Delete_ok R C y l b1 o1 cap w hb1 hr1 hcap h2 g3 g4 h1 g1 g5
  · have e1 : Pt.okI (Pt.ePlace r l ch row 0) r = 0 := if_neg h
    have e2 : Pt.okL (Pt.ePlace r l ch row 0) (Pt.delL l ch.toNat row.toNat) = [] := if_neg h
    rw [e1, e2]
    exact p_Delete_bad r l p cap ch row w hd rfl h
end Go.Proofs.YtfjfnbeegojlbaaGreat

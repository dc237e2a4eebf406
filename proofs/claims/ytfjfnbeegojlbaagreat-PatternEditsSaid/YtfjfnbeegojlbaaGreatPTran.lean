/-
  Package pattern's Transpose.
-/
import Derived.Test.YtfjfnbeegojlbaaGreatGg
namespace Go.Proofs.YtfjfnbeegojlbaaGreat
open Go.RowKit

theorem own_some {w : World} {B : Nat} {p : Option Addr} {l : List Pt.Cl} (h : Own w B p l) (hp : 0 < l.length) : ∃ g, p = some ⟨g, 0, none⟩ ∧ B ≤ g ∧ Kr w g l := by
  rcases h with rfl | h
  · simp at hp
  · exact h
set_option maxHeartbeats 1600000 in
theorem p_Tran_bad (r : Int) (l : List Pt.Cl) (p : Option Addr) (cap : Nat) (ch : Int) (a : Pt.Ar) (s : Int) (w : World) (hd : CellsAt w p l) {e : Int} (he : Pt.eTran r l ch a s = e) (h0 : e ≠ 0) :
    Calls Tryz.prog 19 #[PV r p l.length cap, .int .i64 ch, AV a, .int .i64 s] w fun x w' => RetPE 0 [] e w.heap.size x w' ∧ Below w.heap.size w w' := by
  obtain ⟨W, hW, hB, hs, hp, ha, hr⟩ := three_new w r (.slice p l.length cap) a
  have HB := Lib.hid hB
  obtain ⟨e', he'⟩ : ∃ e', Pt.eArea r l ch a = e' := ⟨_, rfl⟩
  have C1 := Lib.hid (p_askArea r l p cap ch a W (hd.below hB))
  rw [he'] at C1
  have HR := Lib.hid hr
  unfold PV AV at C1 ⊢
  obtain ⟨b, hb⟩ : ∃ b, b = w.heap.size := ⟨_, rfl⟩
  rw [← hb] at hp ha hs HR
  have HS := Lib.hid hs
  have HBE := Lib.hid hb
  have ⟨k0, k1, _, _⟩ := hp.cells
  have a0 := ha 0 _ rfl
  have a1 := ha 1 _ rfl
  have a2 := ha 2 _ rfl
  have a3 := ha 3 _ rfl
  by_cases hz : e' = 0
  · obtain rfl : e = 5 := by
      unfold Pt.eTran at he
      rw [he', if_pos hz] at he
      by_cases hw : Pt.wth s (-119) 119 = true
      · rw [if_pos hw] at he; exact absurd he.symm h0
      · rw [if_neg hw] at he; exact he.symm
    have hw : Pt.wth s (-119) 119 = false := by
      unfold Pt.eTran at he
      rw [he', if_pos hz] at he
      by_cases hw : Pt.wth s (-119) 119 = true
      · rw [if_pos hw] at he; exact absurd he (by decide)
      · exact Bool.eq_false_iff.2 hw
    have C2 := Lib.hid (fun u => p_within_v s (-119) 119 u hw)
    subst hz
    clear hd hp ha hr h0 he hB hs he' hw
    go_enter Tryz.func19, Tryz.ntmps19
    go_upto_region 1 with fail
    rw [← hW, ← hb]
    clear hW hb
    go_wp2_with (first | (go_at_call 48; ((with_reducible refine (C1.out).mono ?_); rintro x' w1 ⟨rfl, hb1⟩; have HB1 := Lib.hid hb1; clear hb1)) | (go_at_call 53; ((with_reducible refine (C2.out _).mono ?_); rintro x' w2 ⟨rfl, rfl⟩)) | ((refine st_pat (by rfl) _ _ rfl rfl rfl (HR.out.kept HB1.out).2 ?_); intro w2 h2 g2; have H2 := Lib.hid h2; have G2 := Lib.hid g2; clear h2 g2))
    have e1 := HBE.out
    have e2 := HS.out
    have e3 := HB1.out.size
    exact bodyPost_ret (res_pe rfl rfl H2.out.1 rfl) rfl ⟨⟨none, 0, rfl, Nat.le_refl _, .inl rfl⟩, grown_at (stepB HB.out HB1.out) (by omega) (by omega) G2.out⟩
  · obtain rfl : e' = e := by
      unfold Pt.eTran at he
      rw [he', if_neg hz] at he
      exact he
    have hne : (e' != 0) = true := by simpa using h0
    clear hd hp ha hr h0 he hB hs he' hz
    go_enter Tryz.func19, Tryz.ntmps19
    go_upto_region 1 with fail
    rw [← hW, ← hb]
    clear hW hb
    go_wp2_with (first | (go_at_call 48; ((with_reducible refine (C1.out).mono ?_); rintro x' w1 ⟨rfl, hb1⟩; have HB1 := Lib.hid hb1; clear hb1)) | ((refine st_pat (by rfl) _ _ rfl rfl rfl (HR.out.kept HB1.out).2 ?_); intro w2 h2 g2; have H2 := Lib.hid h2; have G2 := Lib.hid g2; clear h2 g2))
    have e1 := HBE.out
    have e2 := HS.out
    have e3 := HB1.out.size
    exact bodyPost_ret (res_pe rfl rfl H2.out.1 rfl) rfl ⟨⟨none, 0, rfl, Nat.le_refl _, .inl rfl⟩, grown_at (stepB HB.out HB1.out) (by omega) (by omega) G2.out⟩
set_option maxRecDepth 100000 in
set_option maxHeartbeats 6400000 in
theorem p_Tran_ok (R C ar ac ah aw : Nat) (l : List Pt.Cl) (p : Option Addr) (cap : Nat) (s : Int) (w : World) (hd : CellsAt w p l) (he : Pt.eArea R l C ⟨ar, ac, ah, aw⟩ = 0) (hw : Pt.wth s (-119) 119 = true) (g2 : R ≤ 64) (g4 : C ≤ 16) (hl : l.length = R * C) (h1 : 1 ≤ ah) (h2 : ar + ah ≤ R) (h3 : 1 ≤ aw) (h4 : ac + aw ≤ C) :
    Calls Tryz.prog 19 #[PV R p l.length cap, .int .i64 C, AV ⟨ar, ac, ah, aw⟩, .int .i64 s] w fun x w' => RetPE R (Pt.tranL l C ar ac ah aw s) 0 w.heap.size x w' ∧ Below w.heap.size w w' := by
  obtain ⟨W, hW, hB, hs, hp, ha, hr⟩ := three_new w R (.slice p l.length cap) ⟨ar, ac, ah, aw⟩
  have C1 := Lib.hid (p_askArea R l p cap C ⟨ar, ac, ah, aw⟩ W (hd.below hB))
  rw [he] at C1
  have hn1 : R * C ≤ 1024 := Pt.rc_bound g2 g4
  obtain ⟨s1, s2⟩ := Pt.wth_iff.1 hw
  have CW := Lib.hid (fun u => p_within_v s (-119) 119 u hw)
  have C2 := Lib.hid (fun u (hu : Below W.heap.size W u) => p_clone R l p cap u ((hd.below hB).below hu) (by rw [hl]; omega))
  have CT := Lib.hid (fun n u => p_transposed n s u s1 s2)
  have hpos : 0 < l.length := by
    rw [hl]
    exact Nat.mul_pos (by omega) (by omega)
  have HB := Lib.hid hB
  have HR := Lib.hid hr
  have HP := Lib.hid hp
  have HA := Lib.hid ha
  have HS := Lib.hid hs
  obtain ⟨n, hn⟩ : ∃ n, l.length = n := ⟨_, rfl⟩
  unfold PV AV at C1 ⊢
  unfold PV at C2
  obtain ⟨b, hb⟩ : ∃ b, b = w.heap.size := ⟨_, rfl⟩
  rw [← hb] at hp ha HR HP HA HS
  have HBE := Lib.hid hb
  dsimp only at ha HA hW
  obtain ⟨k0, k1, a0, a1, a2, a3⟩ := six hp ha (Below.refl _ W)
  have HN := Lib.hid hn
  have HL := Lib.hid hl
  rw [hn] at C1 C2 HP k1 hpos hW ⊢
  have HPOS := Lib.hid hpos
  clear hd hp ha hr he hB hs hn hl hw
  go_enter Tryz.func19, Tryz.ntmps19
  go_upto_region 1 with fail
  rw [← hW, ← hb]
  clear hW hb
  go_wp2_with (first | (go_at_call 48; ((with_reducible refine (C1.out).mono ?_); rintro x' w1 ⟨rfl, hb1⟩; have HB1 := Lib.hid hb1; clear hb1 k0 k1 a0 a1 a2 a3; obtain ⟨k0, k1, a0, a1, a2, a3⟩ := six HP.out HA.out HB1.out)) | (go_at_call 53; ((with_reducible refine (CW.out _).mono ?_); rintro x' w2 ⟨rfl, rfl⟩)) | (go_at_call 46; ((with_reducible refine (C2.out _ HB1.out).mono ?_); rintro x' w2 ⟨⟨q, cap2, rfl, hc2, ho2⟩, hb2⟩; unfold PV; rw [HN.out] at hc2 ⊢; have HB2 := Lib.hid (stepB HB1.out hb2); have HX1 := Lib.hid hb2; have HO2 := Lib.hid ho2; have HC2 := Lib.hid hc2; clear hb2 ho2 hc2 k0 k1 a0 a1 a2 a3; obtain ⟨k0, k1, a0, a1, a2, a3⟩ := six HP.out HA.out (stepB HB2.out (below_box _ (.cells #[.int .i64 0, .slice none 0 0] 24))))) | ((refine st_pat (by rfl) _ _ rfl rfl rfl (pb_box _ _ _ _).2 ?_); intro w3 h3' g3; have H3 := Lib.hid h3'; have G3 := Lib.hid g3; have HB3 := Lib.hid (grown_at (stepB HB2.out (below_box _ (.cells #[.int .i64 0, .slice none 0 0] 24))) HB2.out.size (by simp; exact Nat.le_succ_of_le HB2.out.size) g3); clear h3' g3 k0 k1 a0 a1 a2 a3; obtain ⟨k0, k1, a0, a1, a2, a3⟩ := six HP.out HA.out HB3.out))
  obtain ⟨g, rfl, hg1, hg2⟩ := own_some HO2.out (by rw [HN.out]; exact HPOS.out)
  obtain ⟨b9, hb9⟩ : ∃ b9, b9 = w2.heap.size := ⟨_, rfl⟩
  have hK3 : Kr w3 g l := ((hg2.kept (below_box _ _)).grown G3.out (by have := hg2.1; omega))
  have HA3 := Lib.hid (range_below HA.out HB3.out (by have := HS.out; omega))
  have HQ3 := Lib.hid (HR.out.kept HB3.out)
  have HGE := Lib.hid (show W.heap.size ≤ g ∧ g < b9 ∧ b9 < w3.heap.size from ⟨Nat.le_trans HB1.out.size hg1, by rw [hb9]; exact hg2.1, by rw [hb9]; exact H3.out.lt⟩)
  rw [← hb9] at H3 ⊢
  have HK3 := Lib.hid hK3
  have m1 : (ah : Int) ≤ 64 := by omega
  have m2 : (aw : Int) ≤ 16 := by omega
  have HM := Lib.hid (show R ≤ 64 ∧ C ≤ 16 ∧ R * C ≤ 1024 from ⟨g2, g4, hn1⟩)
  clear k0 k1 a0 a1 a3 hg1 hg2 hb9 hK3 HO2 HX1 HB2 hn1 g2 g4
  go_wp2
  go_loopw [31] (fun i wr => ∃ k : Nat, k ≤ ah ∧ i = .int .i64 k ∧ Hid (w3.grownBy wr (some g)) ∧ Hid (∃ L, Up l C ar ac aw (fun j => Pt.trC (Pt.at' l j) s) k 0 L ∧ Kr wr g L)) (fun i _ => ah - (intOf i).toNat)
  case atStart => exact ⟨0, by omega, rfl, grownBy_refl _ _, _, up_start _ _ _ _ _ _, HK3.out⟩
  case round =>
    obtain ⟨k, hk, rfl, HG, HL'⟩ := hrel
    obtain ⟨e1, e2, e3⟩ := HGE.out
    have e4 := HS.out
    by_cases hlt : k < ah
    · obtain ⟨L, hL, hKL⟩ := HL'.out
      have hAw := range_grown HA3.out HG.out (show b + 1 ≠ g by omega) (by omega)
      have h9w := H3.out.grown HG.out (show b9 ≠ g by omega)
      obtain ⟨M, hM⟩ : ∃ M, (ar + k) * C = M := ⟨_, rfl⟩
      obtain ⟨F, hF⟩ : ∃ F, M + ac = F := ⟨_, rfl⟩
      have hFn : F + aw ≤ n := by
        have := Nat.mul_le_mul_right C (show ar + k + 1 ≤ R by omega)
        rw [Nat.add_mul, Nat.one_mul, hM] at this
        rw [← HN.out, HL.out]
        omega
      have D1 := Lib.hid (fun u => p_line ar ac aw k C F M ah R g 0 n cap2 u hM hF (by have := HM.out; omega) h3 hFn HC2.out (by rw [← HN.out, HL.out]; exact HM.out.2.2))
      simp only [Nat.zero_add] at D1
      have HF := Lib.hid (show (ar + k) * C = M ∧ M + ac = F ∧ F + aw ≤ n from ⟨hM, hF, hFn⟩)
      have HUL := Lib.hid hL
      have HKL := Lib.hid hKL
      have a0 := hAw 0 _ rfl
      have a1 := hAw 1 _ rfl
      have a2 := hAw 2 _ rfl
      have a3 := hAw 3 _ rfl
      have HW9 := Lib.hid h9w
      clear e1 e2 e3 e4 hM hF hFn hKL hL hAw h9w
      go_wp2_with (first | (refine ld_pat (by rfl) _ rfl rfl HW9.out.1 ?_) | (go_at_call 49; ((with_reducible refine (D1.out _).mono ?_); rintro x' w4 ⟨rfl, hb4⟩; have HB4 := Lib.hid hb4; clear hb4)))
      go_loopw [41] (fun i u => ∃ x : Nat, x ≤ aw ∧ i = .int .i64 x ∧ Hid (wr.grownBy u (some g)) ∧ Hid (∃ L, Up l C ar ac aw (fun j => Pt.trC (Pt.at' l j) s) k x L ∧ Kr u g L)) (fun i _ => aw - (intOf i).toNat)
      case atStart => exact ⟨0, by omega, rfl, grownBy_of HB4.out, _, HUL.out, HKL.out.kept HB4.out⟩
      case round =>
        obtain ⟨x, hx, rfl, HGu, HLu⟩ := hrel
        by_cases hlx : x < aw
        · obtain ⟨Lu, hLu, hKu⟩ := HLu.out
          obtain ⟨f1, f2, f3⟩ := HF.out
          have hI : (ar + k) * C + (ac + x) = F + x := by rw [f1]; omega
          have hIl : F + x < l.length := by rw [HN.out]; omega
          have hnow := up_now hLu hlx h4 hI hIl
          have hrow := hKu.one (i := F + x) (by rw [hLu.1]; exact hIl)
          have hth := hKu.th (i := F + x) (by rw [hLu.1]; exact hIl)
          rw [hnow, Nat.add_mul] at hrow
          rw [Nat.add_mul] at hth
          obtain ⟨q0, -⟩ := rng_cells hrow
          have q1 := (hth 0 (by decide)).2
          rw [Nat.add_zero] at q1
          have HNX := Lib.hid (show ∀ v, v = Pt.trn (Pt.at' l (F + x)).nt s → Kr (wr.setCell ⟨g, F * 6 + x * 6, none⟩ (.int .i64 v)) g (Lu.set (F + x) (Pt.trC (Pt.at' l (F + x)) s)) by
            rintro v rfl
            have := hKu.setField (i := F + x) (j := 0) (c := Pt.trC (Pt.at' l (F + x)) s) (v := .int .i64 (Pt.trn (Pt.at' l (F + x)).nt s)) (by rw [hLu.1]; exact hIl) (by decide) (by rw [hnow]; rfl)
            rwa [Nat.add_zero, Nat.add_mul] at this)
          have HUS := Lib.hid (up_step hLu hlx h4 hI hIl)
          have hlx' : (x : Int) < (aw : Int) := by omega
          generalize hnv : (Pt.at' l (F + x)).nt = nv at q0 HNX
          have CT1 := Lib.hid (CT.out nv)
          obtain ⟨tv, htv⟩ : ∃ tv, Pt.trn nv s = tv := ⟨_, rfl⟩
          rw [htv] at CT1
          have HTV := Lib.hid htv
          clear f1 f2 f3 hI hIl hnow hrow hth hKu hLu hnv htv
          go_wp2_with (first | (go_at_call 54; ((with_reducible refine (CT1.out _).mono ?_); rintro x' w5 ⟨rfl, rfl⟩)))
          go_roundw
          case rel => exact ⟨x + 1, by omega, by go_num, grownBy_trans HGu.out (grown_set _ _ _ _), _, HUS.out, HNX.out _ HTV.out.symm⟩
          case measure => simp [intOf]; omega
        · obtain rfl : x = aw := by omega
          go_wp2
          go_roundw
          case rel =>
            obtain ⟨Lu, hLu, hKu⟩ := HLu.out
            exact ⟨k + 1, by omega, by go_num, grownBy_trans HG.out HGu.out, _, up_row hLu, hKu⟩
          case measure => simp [intOf]; omega
    · obtain ⟨L, hL, hKL⟩ := HL'.out
      obtain rfl : k = ah := by omega
      have HH9 := Lib.hid (H3.out.grown HG.out (show b9 ≠ g by omega))
      have HRw := Lib.hid (HQ3.out.grown HG.out (show b + 2 ≠ g by omega))
      have HKL := Lib.hid hKL
      have HLL := Lib.hid hL
      clear e1 e2 e3 e4 hL hKL
      go_wp2_with (first | (refine ld_pat (by rfl) _ rfl rfl HH9.out.1 ?_) | ((refine st_pat (by rfl) _ _ rfl rfl rfl HRw.out.2 ?_); intro w5 h5 g5; have H5 := Lib.hid h5; have G5 := Lib.hid g5; clear h5 g5))
      obtain ⟨e1, e2, e3⟩ := HGE.out
      have e4 := HS.out
      have e5 := HBE.out
      have e6 := HG.out.size
      have hfin : L = Pt.tranL l C ar ac k aw s := up_done HLL.out (by omega) HL.out
      refine bodyPost_ret (res_pe rfl rfl H5.out.1 rfl) rfl ⟨⟨_, cap2, ?_, ?_, .inr ⟨g, rfl, ?_, ?_⟩⟩, ?_⟩
      · rw [← hfin, HLL.out.1, HN.out]
        rfl
      · rw [← hfin, HLL.out.1, HN.out]
        exact HC2.out
      · omega
      · rw [← hfin]
        exact HKL.out.grown G5.out (by omega)
      · refine grown_at (grown_at (stepB HB.out HB3.out) (by omega) ?_ HG.out) (by omega) (by omega) G5.out
        omega
theorem p_Tran (r : Int) (l : List Pt.Cl) (p : Option Addr) (cap : Nat) (ch : Int) (a : Pt.Ar) (s : Int) (w : World) (hd : CellsAt w p l) :
    Calls Tryz.prog 19 #[PV r p l.length cap, .int .i64 ch, AV a, .int .i64 s] w fun x w' => RetPE (Pt.okI (Pt.eTran r l ch a s) r) (Pt.okL (Pt.eTran r l ch a s) (Pt.tranL l ch.toNat a.r.toNat a.c.toNat a.h.toNat a.w.toNat s)) (Pt.eTran r l ch a s) w.heap.size x w' ∧ Below w.heap.size w w' := by
  by_cases h : Pt.eTran r l ch a s = 0
  · have h1 : Pt.eArea r l ch a = 0 ∧ Pt.wth s (-119) 119 = true := by
      unfold Pt.eTran at h
      by_cases e : Pt.eArea r l ch a = 0
      · rw [if_pos e] at h
        by_cases e2 : Pt.wth s (-119) 119 = true
        · exact ⟨e, e2⟩
        · rw [if_neg e2] at h; exact absurd h (by decide)
      · rw [if_neg e] at h; exact absurd h e
    obtain ⟨R, C, ar, ac, ah, aw, rfl, rfl, rfl, g1, g2, g3, g4, g5, g6, g7, -⟩ := area_nat h1.1
    rw [h]
    exact p_Tran_ok R C ar ac ah aw l p cap s w hd h1.1 h1.2 g1 g2 g3 g4 g5 g6 g7
  · have e1 : Pt.okI (Pt.eTran r l ch a s) r = 0 := if_neg h
    have e2 : Pt.okL (Pt.eTran r l ch a s) (Pt.tranL l ch.toNat a.r.toNat a.c.toNat a.h.toNat a.w.toNat s) = [] := if_neg h
    rw [e1, e2]
    exact p_Tran_bad r l p cap ch a s w hd rfl h
end Go.Proofs.YtfjfnbeegojlbaaGreat

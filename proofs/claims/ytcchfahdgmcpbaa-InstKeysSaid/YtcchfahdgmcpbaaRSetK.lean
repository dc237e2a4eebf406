/-
  The contract of the reference's SetKeys: for any instrument and numbers.
-/
import Derived.Test.YtcchfahdgmcpbaaRSetB
import Derived.Deep.DeepCutAuto
namespace Go.Proofs.Ytcchfahdgmcpbaa
open Go.RowKit

set_option maxRecDepth 100000 in
set_option maxHeartbeats 12800000 in
theorem r_set_ok (i : In.Ins) (a : In.Loc) (f t s m : Int) (w : World) (hd : IPts w i a) (hm : i.name.size ≤ maxLen) (h5 : (i.keys.length : Int) ≤ 500) (h : In.ivld i = true) (h2 : In.skok f t s m = true) :
    Calls Try.prog 25 #[.agg (IL i a).toArray, .int .i64 f, .int .i64 t, .int .i64 s, .int .i64 m] w fun x w' => RetS (In.skI i f t s m) (In.skE i f t s m) w.heap.size x w' ∧ Below w.heap.size w w' := by
  have HE := Lib.hid (show In.skE i f t s m = 0 by unfold In.skE; rw [if_pos h, if_pos h2])
  have HJ := Lib.hid (show In.skI i f t s m = In.withK i (In.sk i.keys f t s m) by unfold In.skI; rw [h, h2]; rfl)
  obtain ⟨q1, q2, q3, q4, q5, q6, q7⟩ := In.skok_parts h2
  obtain ⟨A, rfl⟩ : ∃ A : Nat, f = A := ⟨f.toNat, by omega⟩
  obtain ⟨T, rfl⟩ : ∃ T : Nat, t = T := ⟨t.toNat, by omega⟩
  obtain ⟨i0, hinf, hz0, hz1, hz2⟩ := info_parts Try.infoKey
  have HD := Lib.hid hd
  obtain ⟨W, hW⟩ : ∃ W, W = (w.alloc (.cells (IL i a).toArray 40)).alloc (.cells (IL In.zer In.zel).toArray 40) := ⟨_, rfl⟩
  obtain ⟨b, hbe⟩ : ∃ b, b = w.heap.size := ⟨_, rfl⟩
  obtain ⟨r, hre⟩ : ∃ r, r = b + 1 := ⟨_, rfl⟩
  have HC0 := Lib.hid (show Cl w b r i a W by
    have q1 : w.heap.size + 1 = (w.alloc (.cells (IL i a).toArray 40)).heap.size := by simp
    rw [hW, hre, hbe]
    refine ⟨range_kept (range_box _ _ _) (below_box _ _), there_kept (there_box _ (IL i a) _) (below_box _ _), ?_, ⟨(hd.1.below (below_box _ _)).below (below_box _ _), ou_old hd.1 (Nat.le_refl _)⟩, ⟨(hd.2.1.below (below_box _ _)).below (below_box _ _), ou_old hd.2.1 (Nat.le_refl _)⟩, ⟨(hd.2.2.1.below (below_box _ _)).below (below_box _ _), ou_old hd.2.2.1 (Nat.le_refl _)⟩, ⟨(hd.2.2.2.below (below_box _ _)).below (below_box _ _), ou_old hd.2.2.2 (Nat.le_refl _)⟩, stepB (below_box _ _) (below_box _ _)⟩
    rw [q1]
    exact there_box _ (IL In.zer In.zel) _)
  have hbr : b ≤ r := by omega
  have HRW := Lib.hid (show r < W.heap.size by rw [hW, hre, hbe]; simp)
  have HWB := Lib.hid (show w.heap.size ≤ r by omega)
  have HBE := Lib.hid hbe
  have HB0 := Lib.hid (Below.refl W.heap.size W)
  have C2 := Lib.hid (fun u (hu : Below W.heap.size W u) => onB hu (r_Valid i a u ⟨(HC0.out.kept hu).pk.1, (HC0.out.kept hu).pv.1, (HC0.out.kept hu).pp.1, (HC0.out.kept hu).pt.1⟩ hm h5))
  have HKP := Lib.hid (In.kys_parts (In.ivld_keys h))
  rw [h] at C2
  clear h h2 hm h5
  have d0 : decide ((A : Int) < 0) = false := decide_eq_false (by omega)
  have d1 : decide (119 < (A : Int)) = false := decide_eq_false (by omega)
  have d2 : decide (119 < (T : Int)) = false := decide_eq_false (by omega)
  have d3 : decide (T < A) = false := decide_eq_false (by omega)
  have d4 : decide (s < -119) = false := decide_eq_false (by omega)
  have d5 : decide (119 < s) = false := decide_eq_false (by omega)
  have d6 : decide (m < 0) = false := decide_eq_false (by omega)
  have d7 : decide (31 < m) = false := decide_eq_false (by omega)
  go_enter Try.func25, Try.ntmps25
  go_upto_region 1 with (first | (refine al_inst (by rfl) rfl ?_))
  rw [← hW, ← hbe, ← hre]
  clear hW hre hbe hd
  go_upto_region 5 with (first | (refine ld_inst (by rfl) _ rfl rfl HC0.out.rng ?_) | (go_at_call 21; ((with_reducible refine (C2.out _ HB0.out).mono ?_); rintro x' w2 ⟨rfl, hb2⟩; have HB2 := Lib.hid hb2; clear hb2)))
  clear d0 d1 d2 d3 d4 d5 d6 d7
  have HT2 := Lib.hid (there_box w2 (IL In.zer In.zel) 40)
  go_upto_region 6 with (first | (refine ld_inst (by rfl) _ rfl rfl (HC0.out.kept HB2.out).rng ?_) | (refine al_inst (by rfl) rfl ?_) | ((refine st_inst (by rfl) _ _ rfl rfl rfl HT2.out ?_); intro w4 hr4 ht4 hg4))
  obtain ⟨c, hc⟩ : ∃ c, c = w2.heap.size := ⟨_, rfl⟩
  rw [← hc] at hr4 ht4 hg4 ⊢
  have hrc : r < c := by rw [hc]; exact there_lt (HC0.out.kept HB2.out).res
  have HR4 := Lib.hid hr4
  have HT4 := Lib.hid ht4
  have HX4 := Lib.hid (show w4.there r 0 33 ∧ w4.rangeAt b 0 (IL i a) ∧ Below b w w4 by
    have hx := below_box w2 (.cells (IL In.zer In.zel).toArray 40)
    have hC := (HC0.out.kept HB2.out).kept hx
    have hbl := range_lt (HC0.out.kept HB2.out).rng
    refine ⟨there_grown hC.res hg4 (by omega) (by simp; omega), ?_, hC.blw.grown hg4 (by simp; omega) (fun k hk => by simp at hk; omega)⟩
    intro j v hv
    rw [World.cell?_of_block (a := ⟨b, 0 + j, none⟩) (hg4.block b (by simp; omega) (by simp; omega))]
    exact hC.rng j v hv)
  clear hr4 ht4 hg4 HT2 hc
  go_upto_region 7 with (first | (at_make; go_loud (refine wpList_make_full _ rfl _ _ 38 rfl w4.heap.size 52 i0 (.agg #[.int .i64 0, .int .i64 0]) 2 Try.underlying38 hinf hz0 hz1 .i64 .i64 _ _ 120 rfl rfl rfl rfl (by rw [hz2]; omega) (by unfold maxLen; omega) (Nat.le_refl _) ?_; intro w5 hown5 hgrow5; have hq : w5.ownsRow w4.heap.size 52 2 (.slice (some ⟨w4.heap.size, 0, none⟩) 120 120) 120 (pc (In.mkl fun _ => (0, 0))) := (by rw [In.mkl_zero, ← made_pairs]; exact hown5); have hk5 := (kr_row hq (In.mkl_len _) (In.mkl_ne _)).1; have HK5 := Lib.hid hk5; have HB5 := Lib.hid (grown_below hgrow5); clear hown5 hgrow5 hq hk5; have y1 := (range_kept HR4.out HB5.out) 1 _ rfl; have f1 := (there_kept HT4.out HB5.out 1 (by omega)).2; rw [Nat.zero_add] at y1 f1)))
  have HG := Lib.hid (sr_first HD.out HBE.out HR4.out HX4.out.1 HX4.out.2.2 hbr hrc HB5.out (Nat.le_refl _) HK5.out (In.mkl_len _))
  have HRB0 := Lib.hid (show (w5.setCell ⟨c, 1, none⟩ (.slice (some ⟨w4.heap.size, 0, none⟩) 120 120)).rangeAt b 0 (IL i a) from set_range_other (range_kept HX4.out.2.1 HB5.out) (by omega))
  obtain ⟨g, hge⟩ : ∃ g, g = w4.heap.size := ⟨_, rfl⟩
  rw [← hge] at HG HRB0 ⊢
  have hgb : g ≠ b := by have := HX4.out.2.1; have := range_lt this; omega
  obtain ⟨a2, ha2⟩ : ∃ a2, a2 = { a with k := some ⟨g, 0, none⟩, ck := 120 } := ⟨_, rfl⟩
  rw [← ha2] at HG
  have HPI := Lib.hid (fun u (hu : Below b w u) => (show IPts u i a from HD.out.below (by rw [← HBE.out]; exact hu)))
  clear y1 f1 HK5 HB5 HR4 HT4 HX4 hge ha2 HB2 HC0 HRW C2 hinf hz0 hz1 hz2 HD
  go_wp2
  go_loopw [13] (fun j wr => ∃ n : Nat, j = .int .i64 n ∧ (n : Int) ≤ 120 ∧ Hid (Sk w b r c g i (In.stq i.keys A T s m n) a2 wr) ∧ Hid (wr.rangeAt b 0 (IL i a))) (fun j _ => 120 - (intOf j).toNat)
  case atStart => exact ⟨0, rfl, by omega, by rw [In.stq_zero]; exact HG.out, HRB0.out⟩
  case round =>
    obtain ⟨n, rfl, hn2, HB, HRB⟩ := hrel
    by_cases hlt : (n : Int) < 120
    · have hn9 : (n : Int) ≤ 119 := by omega
      have hn0 : (0 : Int) ≤ n := by omega
      have hpl : i.keys = [] ∨ n < i.keys.length := by rcases HKP.out with h | ⟨h, _⟩; exact .inl h; exact .inr (by omega)
      have HPL := Lib.hid (fun u hu => r_Plays i a n 0 u (HPI.out u hu) hpl)
      have HPX := Lib.hid (And.intro (@In.skT_out i.keys A T s n) (@In.skV_out i.keys A T m n))
      obtain ⟨X, hX⟩ : ∃ X, In.plA i.keys n = X := ⟨_, rfl⟩
      obtain ⟨Y, hY⟩ : ∃ Y, In.plB i.keys n 0 = Y := ⟨_, rfl⟩
      rw [hX, hY] at HPL
      rw [hX, hY] at HPX
      clear hX hY hpl
      by_cases hin : A ≤ n ∧ n ≤ T
      · have HST := Lib.hid (fun u (hu : Sk w b r c g i (In.stq i.keys A T s m n) a2 u) => hu.step (L' := In.stq i.keys A T s m (n + 1)) n (min (max ((n : Int) + s) 0) 119) m (In.stq_len _ _ _ _ _ _) (fun j hj => In.stq_succ i.keys A T s m n (In.skT_in hin) (In.skV_in hin) hj))
        obtain ⟨ha1, ha2⟩ := hin
        go_wp2_with (first | (refine ld_inst (by rfl) _ rfl rfl HRB.out ?_) | (go_at_call 43; ((with_reducible refine (HPL.out wr HB.out.blw).mono ?_); rintro x' w7 ⟨rfl, hb7⟩; have HS7 := Lib.hid (HB.out.kept hb7); have HR7 := Lib.hid (range_kept HRB.out hb7); have x1 := HS7.out.cell; obtain ⟨⟨c1, c2⟩, f1, f2⟩ := HS7.out.kr.2 n (by rw [HS7.out.len]; omega); clear hb7)) | (go_at_call 51; ((with_reducible refine (r_clamp _ _).mono ?_); rintro x' wq ⟨rfl, rfl⟩)))
        go_roundw
        case rel => exact ⟨n + 1, by go_num, by omega, HST.out _ HS7.out, set_range_other (set_range_other HR7.out hgb) hgb⟩
        case measure => simp [intOf]; omega
      · have HST := Lib.hid (fun u (hu : Sk w b r c g i (In.stq i.keys A T s m n) a2 u) => hu.step (L' := In.stq i.keys A T s m (n + 1)) n X Y (In.stq_len _ _ _ _ _ _) (fun j hj => In.stq_succ i.keys A T s m n (HPX.out.1 hin) (HPX.out.2 hin) hj))
        have HI := Lib.hid hin
        clear hin
        go_upto_region 11 with (first | (refine ld_inst (by rfl) _ rfl rfl HRB.out ?_) | (go_at_call 43; ((with_reducible refine (HPL.out wr HB.out.blw).mono ?_); rintro x' w7 ⟨rfl, hb7⟩; have HS7 := Lib.hid (HB.out.kept hb7); have HR7 := Lib.hid (range_kept HRB.out hb7); have x1 := HS7.out.cell; obtain ⟨⟨c1, c2⟩, f1, f2⟩ := HS7.out.kr.2 n (by rw [HS7.out.len]; omega); clear hb7)))
        rcases (show n < A ∨ (A ≤ n ∧ T < n) by have := HI.out; omega) with hx | ⟨hx, hy⟩
        all_goals
          go_wp2_with (first | (refine ld_inst (by rfl) _ rfl rfl HRB.out ?_) | (go_at_call 43; ((with_reducible refine (HPL.out wr HB.out.blw).mono ?_); rintro x' w7 ⟨rfl, hb7⟩; have HS7 := Lib.hid (HB.out.kept hb7); have HR7 := Lib.hid (range_kept HRB.out hb7); have x1 := HS7.out.cell; obtain ⟨⟨c1, c2⟩, f1, f2⟩ := HS7.out.kr.2 n (by rw [HS7.out.len]; omega); clear hb7)) | (go_at_call 51; ((with_reducible refine (r_clamp _ _).mono ?_); rintro x' wq ⟨rfl, rfl⟩)))
          go_roundw
          case rel => exact ⟨n + 1, by go_num, by omega, HST.out _ HS7.out, set_range_other (set_range_other HR7.out hgb) hgb⟩
          case measure => simp [intOf]; omega
    · have HSX := Lib.hid (show Sk w b r c g i (In.sk i.keys A T s m) a2 wr by rw [← In.stq_all i.keys A T s m hlt]; exact HB.out)
      have HR := Lib.hid HSX.out.rng
      go_wp2_with (first | (refine ld_inst (by rfl) _ rfl rfl HR.out ?_) | ((refine st_inst (by rfl) _ _ rfl rfl rfl HSX.out.res ?_); intro w6 hr6 ht6 hg6))
      refine bodyPost_ret (res_two rfl rfl hr6 rfl) rfl ?_
      rw [HE.out, HJ.out]
      exact HSX.out.out HBE.out hg6
theorem r_SetKeys (i : In.Ins) (a : In.Loc) (f t s m : Int) (w : World) (hd : IPts w i a) (hm : i.name.size ≤ maxLen) (h5 : (i.keys.length : Int) ≤ 500) :
    Calls Try.prog 25 #[.agg (IL i a).toArray, .int .i64 f, .int .i64 t, .int .i64 s, .int .i64 m] w fun x w' => RetS (In.skI i f t s m) (In.skE i f t s m) w.heap.size x w' ∧ Below w.heap.size w w' := by
  cases h : In.ivld i
  · exact r_set_no i a f t s m w hd hm h5 h
  · cases h2 : In.skok f t s m
    · exact r_set_bad i a f t s m w hd hm h5 h h2
    · exact r_set_ok i a f t s m w hd hm h5 h h2
end Go.Proofs.Ytcchfahdgmcpbaa

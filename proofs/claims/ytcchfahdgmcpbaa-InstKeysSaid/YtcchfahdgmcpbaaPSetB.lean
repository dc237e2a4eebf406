/-
  The contract of package inst's SetKeys where it answers an error.
-/
import Derived.Test.YtcchfahdgmcpbaaPSetA
import Derived.Deep.DeepCutAuto
namespace Go.Proofs.Ytcchfahdgmcpbaa
open Go.RowKit

set_option maxRecDepth 100000 in
set_option maxHeartbeats 3200000 in
theorem p_set_no (i : In.Ins) (a : In.Loc) (f t s m : Int) (w : World) (hd : IPts w i a) (h : In.ivld i = false) :
    Calls Try.prog 24 #[.agg (IL i a).toArray, .int .i64 f, .int .i64 t, .int .i64 s, .int .i64 m] w fun x w' => RetS (In.skI i f t s m) (In.skE i f t s m) w.heap.size x w' ∧ Below w.heap.size w w' := by
  have HE := Lib.hid (show In.skE i f t s m = 1 by unfold In.skE; rw [h]; rfl)
  have HJ := Lib.hid (show In.skI i f t s m = In.zer by unfold In.skI; rw [h]; rfl)
  obtain ⟨W, hW⟩ : ∃ W, W = (w.alloc (.cells (IL i a).toArray 40)).alloc (.cells (IL In.zer In.zel).toArray 40) := ⟨_, rfl⟩
  obtain ⟨b, hbe⟩ : ∃ b, b = w.heap.size := ⟨_, rfl⟩
  obtain ⟨r, hre⟩ : ∃ r, r = b + 1 := ⟨_, rfl⟩
  have HC0 := Lib.hid (show Cl w b r i a W by
    have q1 : w.heap.size + 1 = (w.alloc (.cells (IL i a).toArray 40)).heap.size := by simp
    rw [hW, hre, hbe]
    refine ⟨range_kept (range_box _ _ _) (below_box _ _), there_kept (there_box _ (IL i a) _) (below_box _ _), ?_, ⟨(hd.1.below (below_box _ _)).below (below_box _ _), ou_old hd.1 (Nat.le_refl _)⟩, ⟨(hd.2.1.below (below_box _ _)).below (below_box _ _), ou_old hd.2.1 (Nat.le_refl _)⟩, ⟨(hd.2.2.1.below (below_box _ _)).below (below_box _ _), ou_old hd.2.2.1 (Nat.le_refl _)⟩, ⟨(hd.2.2.2.below (below_box _ _)).below (below_box _ _), ou_old hd.2.2.2 (Nat.le_refl _)⟩, stepB (below_box _ _) (below_box _ _)⟩
    rw [q1]
    exact there_box _ (IL In.zer In.zel) _)
  have hbr : b ≤ r := by omega
  have HRW := Lib.hid (show r < W.heap.size by rw [hW, hre, hbe]; simp)
  have HWB := Lib.hid (show w.heap.size ≤ r by omega)
  have HBE := Lib.hid hbe
  have HB0 := Lib.hid (Below.refl W.heap.size W)
  have C2 := Lib.hid (fun u (hu : Below W.heap.size W u) => onB hu (p_Valid i a u ⟨(HC0.out.kept hu).pk.1, (HC0.out.kept hu).pv.1, (HC0.out.kept hu).pp.1, (HC0.out.kept hu).pt.1⟩))
  rw [h] at C2
  clear h
  simp only [iv_il] at C2
  go_enter Try.func24, Try.ntmps24
  go_upto_region 1 with (first | (refine al_inst (by rfl) rfl ?_))
  rw [← hW, ← hbe, ← hre]
  clear hW hre hbe hd
  go_wp2_with (first | (refine ld_inst (by rfl) _ rfl rfl HC0.out.rng ?_) | (go_at_call 20; ((with_reducible refine (C2.out _ HB0.out).mono ?_); rintro x' w2 ⟨rfl, hb2⟩; have HB2 := Lib.hid hb2; clear hb2)) | (refine bd_inst (by rfl) rfl ?_) | ((refine st_inst (by rfl) _ _ rfl rfl rfl (HC0.out.kept HB2.out).res ?_); intro w6 hr6 ht6 hg6))
  refine bodyPost_ret (res_two rfl rfl hr6 rfl) rfl ?_
  rw [HE.out, HJ.out]
  refine ⟨⟨In.zel, rfl, zer_pts _, fun h => absurd rfl h⟩, ?_⟩
  have hbw := HBE.out
  rw [← hbw]
  exact ((HC0.out.kept HB2.out).blw).grown hg6 (by have := there_lt (HC0.out.kept HB2.out).res; omega) (fun k hk => by simp at hk; omega)
set_option maxRecDepth 100000 in
set_option maxHeartbeats 6400000 in
theorem p_set_bad (i : In.Ins) (a : In.Loc) (f t s m : Int) (w : World) (hd : IPts w i a) (h : In.ivld i = true) (h2 : In.skok f t s m = false) :
    Calls Try.prog 24 #[.agg (IL i a).toArray, .int .i64 f, .int .i64 t, .int .i64 s, .int .i64 m] w fun x w' => RetS (In.skI i f t s m) (In.skE i f t s m) w.heap.size x w' ∧ Below w.heap.size w w' := by
  have HE := Lib.hid (show In.skE i f t s m = 5 by unfold In.skE; rw [h, h2]; rfl)
  have HJ := Lib.hid (show In.skI i f t s m = In.zer by unfold In.skI; rw [h, h2]; rfl)
  obtain ⟨W, hW⟩ : ∃ W, W = (w.alloc (.cells (IL i a).toArray 40)).alloc (.cells (IL In.zer In.zel).toArray 40) := ⟨_, rfl⟩
  obtain ⟨b, hbe⟩ : ∃ b, b = w.heap.size := ⟨_, rfl⟩
  obtain ⟨r, hre⟩ : ∃ r, r = b + 1 := ⟨_, rfl⟩
  have HC0 := Lib.hid (show Cl w b r i a W by
    have q1 : w.heap.size + 1 = (w.alloc (.cells (IL i a).toArray 40)).heap.size := by simp
    rw [hW, hre, hbe]
    refine ⟨range_kept (range_box _ _ _) (below_box _ _), there_kept (there_box _ (IL i a) _) (below_box _ _), ?_, ⟨(hd.1.below (below_box _ _)).below (below_box _ _), ou_old hd.1 (Nat.le_refl _)⟩, ⟨(hd.2.1.below (below_box _ _)).below (below_box _ _), ou_old hd.2.1 (Nat.le_refl _)⟩, ⟨(hd.2.2.1.below (below_box _ _)).below (below_box _ _), ou_old hd.2.2.1 (Nat.le_refl _)⟩, ⟨(hd.2.2.2.below (below_box _ _)).below (below_box _ _), ou_old hd.2.2.2 (Nat.le_refl _)⟩, stepB (below_box _ _) (below_box _ _)⟩
    rw [q1]
    exact there_box _ (IL In.zer In.zel) _)
  have hbr : b ≤ r := by omega
  have HRW := Lib.hid (show r < W.heap.size by rw [hW, hre, hbe]; simp)
  have HWB := Lib.hid (show w.heap.size ≤ r by omega)
  have HBE := Lib.hid hbe
  have HB0 := Lib.hid (Below.refl W.heap.size W)
  have C2 := Lib.hid (fun u (hu : Below W.heap.size W u) => onB hu (p_Valid i a u ⟨(HC0.out.kept hu).pk.1, (HC0.out.kept hu).pv.1, (HC0.out.kept hu).pp.1, (HC0.out.kept hu).pt.1⟩))
  rw [h] at C2
  clear h
  simp only [iv_il] at C2
  have C3 := Lib.hid (fun u => p_note f u)
  have C4 := Lib.hid (fun u => p_within t f 119 u)
  have C5 := Lib.hid (fun u => p_within s (-119) 119 u)
  have C6 := Lib.hid (fun u => p_sample m u)
  unfold In.skok at h2
  obtain ⟨v1, hv1⟩ : ∃ v, In.wth f 0 119 = v := ⟨_, rfl⟩
  obtain ⟨v2, hv2⟩ : ∃ v, In.wth t f 119 = v := ⟨_, rfl⟩
  obtain ⟨v3, hv3⟩ : ∃ v, In.wth s (-119) 119 = v := ⟨_, rfl⟩
  obtain ⟨v4, hv4⟩ : ∃ v, In.wth m 0 31 = v := ⟨_, rfl⟩
  rw [hv1] at C3 h2
  rw [hv2] at C4 h2
  rw [hv3] at C5 h2
  rw [hv4] at C6 h2
  have H2 := Lib.hid h2
  clear hv1 hv2 hv3 hv4 h2
  go_enter Try.func24, Try.ntmps24
  go_upto_region 1 with (first | (refine al_inst (by rfl) rfl ?_))
  rw [← hW, ← hbe, ← hre]
  clear hW hre hbe hd
  go_upto_region 3 with (first | (refine ld_inst (by rfl) _ rfl rfl HC0.out.rng ?_) | (go_at_call 20; ((with_reducible refine (C2.out _ HB0.out).mono ?_); rintro x' w2 ⟨rfl, hb2⟩; have HB2 := Lib.hid hb2; clear hb2)))
  go_cut [36] (fun x36 wx => x36 = .bool true ∧ wx = w2)
  case first =>
    cases v1
    · go_wp2_with (first | (go_at_call 42; ((with_reducible refine (C3.out _).mono ?_); rintro x' wq ⟨rfl, rfl⟩)) | (go_at_call 40; ((with_reducible refine (C4.out _).mono ?_); rintro x' wq ⟨rfl, rfl⟩)) | (go_at_call 40; ((with_reducible refine (C5.out _).mono ?_); rintro x' wq ⟨rfl, rfl⟩)) | (go_at_call 48; ((with_reducible refine (C6.out _).mono ?_); rintro x' wq ⟨rfl, rfl⟩)))
      go_meet
      exact ⟨rfl, rfl⟩
    · cases v2
      · go_wp2_with (first | (go_at_call 42; ((with_reducible refine (C3.out _).mono ?_); rintro x' wq ⟨rfl, rfl⟩)) | (go_at_call 40; ((with_reducible refine (C4.out _).mono ?_); rintro x' wq ⟨rfl, rfl⟩)) | (go_at_call 40; ((with_reducible refine (C5.out _).mono ?_); rintro x' wq ⟨rfl, rfl⟩)) | (go_at_call 48; ((with_reducible refine (C6.out _).mono ?_); rintro x' wq ⟨rfl, rfl⟩)))
        go_meet
        exact ⟨rfl, rfl⟩
      · cases v3
        · go_wp2_with (first | (go_at_call 42; ((with_reducible refine (C3.out _).mono ?_); rintro x' wq ⟨rfl, rfl⟩)) | (go_at_call 40; ((with_reducible refine (C4.out _).mono ?_); rintro x' wq ⟨rfl, rfl⟩)) | (go_at_call 40; ((with_reducible refine (C5.out _).mono ?_); rintro x' wq ⟨rfl, rfl⟩)) | (go_at_call 48; ((with_reducible refine (C6.out _).mono ?_); rintro x' wq ⟨rfl, rfl⟩)))
          go_meet
          exact ⟨rfl, rfl⟩
        · cases v4
          · go_wp2_with (first | (go_at_call 42; ((with_reducible refine (C3.out _).mono ?_); rintro x' wq ⟨rfl, rfl⟩)) | (go_at_call 40; ((with_reducible refine (C4.out _).mono ?_); rintro x' wq ⟨rfl, rfl⟩)) | (go_at_call 40; ((with_reducible refine (C5.out _).mono ?_); rintro x' wq ⟨rfl, rfl⟩)) | (go_at_call 48; ((with_reducible refine (C6.out _).mono ?_); rintro x' wq ⟨rfl, rfl⟩)))
            go_meet
            exact ⟨rfl, rfl⟩
          · exact absurd H2.out (by simp)
  case rest =>
    obtain ⟨rfl, rfl⟩ := hcut
    go_wp2_with (first | (refine bd_inst (by rfl) rfl ?_) | ((refine st_inst (by rfl) _ _ rfl rfl rfl (HC0.out.kept HB2.out).res ?_); intro w6 hr6 ht6 hg6))
    refine bodyPost_ret (res_two rfl rfl hr6 rfl) rfl ?_
    rw [HE.out, HJ.out]
    refine ⟨⟨In.zel, rfl, zer_pts _, fun h => absurd rfl h⟩, ?_⟩
    have hbw := HBE.out
    rw [← hbw]
    exact ((HC0.out.kept HB2.out).blw).grown hg6 (by have := there_lt (HC0.out.kept HB2.out).res; omega) (fun k hk => by simp at hk; omega)
end Go.Proofs.Ytcchfahdgmcpbaa

/-
  The contracts of the reference's circle, last, After and Over: for any envelope that counts.
-/
import Derived.Test.YtcchfahdgmcpbaaRVal
namespace Go.Proofs.Ytcchfahdgmcpbaa
open Go.RowKit

theorem ends_of {e : In.Env} (hv : In.lv e = true) : (e.sus = true → ∃ i j : Nat, e.ss = (i : Int) ∧ e.se = (j : Int) ∧ i < e.pts.length ∧ j < e.pts.length) ∧ (e.lp = true → ∃ i j : Nat, e.ls = (i : Int) ∧ e.le = (j : Int) ∧ i < e.pts.length ∧ j < e.pts.length) := by
  simp only [In.lv, Bool.and_eq_true] at hv
  obtain ⟨_, _, _, h4, h5⟩ := In.vld_parts hv.2
  refine ⟨fun hs => ?_, fun hs => ?_⟩
  · rw [hs] at h4
    simp only [In.cok, if_true, decide_eq_true_eq] at h4
    exact ⟨e.ss.toNat, e.se.toNat, by omega, by omega, by omega, by omega⟩
  · rw [hs] at h5
    simp only [In.cok, if_true, decide_eq_true_eq] at h5
    exact ⟨e.ls.toNat, e.le.toNat, by omega, by omega, by omega, by omega⟩
theorem way_parts (h s l : Bool) : (h = true ∧ s = true) ∨ (h = false ∧ l = true) ∨ (h = true ∧ s = false ∧ l = true) ∨ (h = false ∧ l = false) ∨ (h = true ∧ s = false ∧ l = false) := by
  cases h <;> cases s <;> cases l <;> simp
theorem ret_trip {a b c d : Int} {x y : Bool} (h1 : a = b) (h2 : c = d) (h3 : x = y) : Ending.returned (.tuple #[.int .i64 a, .int .i64 c, .bool x]) = .returned (.tuple #[.int .i64 b, .int .i64 d, .bool y]) := by rw [h1, h2, h3]
set_option maxHeartbeats 3200000 in
theorem r_circle (on : Bool) (pts : List (Int × Int)) (sus : Bool) (ss se : Int) (lp : Bool) (ls le : Int) (p : Option Addr) (cap : Nat) (h : Bool) (w : World) (hd : PtsAt w p pts) (hv : In.lv (⟨on, pts, sus, ss, se, lp, ls, le⟩ : In.Env) = true) :
    Calls Try.prog 37 #[EV (⟨on, pts, sus, ss, se, lp, ls, le⟩ : In.Env) p cap, .bool h] w fun x w' => x = .returned (.tuple #[.int .i64 (In.cF (⟨on, pts, sus, ss, se, lp, ls, le⟩ : In.Env) h), .int .i64 (In.cE (⟨on, pts, sus, ss, se, lp, ls, le⟩ : In.Env) h), .bool (In.cT (⟨on, pts, sus, ss, se, lp, ls, le⟩ : In.Env) h)]) ∧ Below w.heap.size w w' := by
  obtain ⟨W, hW⟩ : ∃ W, W = (w.alloc (.cells #[.bool on, .slice p pts.length cap, .bool sus, .int .i64 ss, .int .i64 se, .bool lp, .int .i64 ls, .int .i64 le] 24)) := ⟨_, rfl⟩
  have hWb : Below w.heap.size w W := by rw [hW]; exact below_box _ _
  obtain ⟨b, hbe⟩ : ∃ b, b = w.heap.size := ⟨_, rfl⟩
  have HC := Lib.hid (show EB W b (⟨on, pts, sus, ss, se, lp, ls, le⟩ : In.Env) p cap by rw [hW, hbe]; exact eb_new w (⟨on, pts, sus, ss, se, lp, ls, le⟩ : In.Env) p cap _)
  have HD := Lib.hid (hd.below hWb)
  have HIX := Lib.hid (ends_of hv)
  have HWb := Lib.hid hWb
  clear hd hv hWb
  unfold EV
  rcases way_parts h sus lp with ⟨rfl, rfl⟩ | ⟨rfl, rfl⟩ | ⟨rfl, rfl, rfl⟩ | ⟨rfl, rfl⟩ | ⟨rfl, rfl, rfl⟩
  · obtain ⟨i, j, ei, ej, hi, hj⟩ := HIX.out.1 rfl
    dsimp only at ei ej hi hj
    subst ei ej
    go_enter Try.func37, Try.ntmps37
    obtain ⟨b2, off2, hp2, hc2, _⟩ := HD.out.at hj
    obtain ⟨b1, off, hp1, hc1, _⟩ := HD.out.at hi
    subst hp1
    simp only [Option.some.injEq, Addr.mk.injEq, and_true] at hp2
    obtain ⟨e1, e2⟩ := hp2
    subst e1 e2
    obtain ⟨x0, x1, x2, x3, x4, x5, x6, x7⟩ := HC.out
    have hii : (i : Int) < (pts.length : Int) := by omega
    have hji : (j : Int) < (pts.length : Int) := by omega
    obtain ⟨x, hx⟩ : ∃ x, In.tk pts i = x := ⟨_, rfl⟩
    obtain ⟨y, hy⟩ : ∃ y, In.tk pts j = y := ⟨_, rfl⟩
    rw [hx] at hc1
    rw [hy] at hc2
    have HX := Lib.hid (And.intro hx hy)
    clear hx hy
    go_upto_region 1 with fail
    rw [← hW, ← hbe]
    clear hW hbe
    go_upto_region 2 with fail
    go_quiet (fail)
    go_wp2
    go_ret3
    refine ⟨ret_trip ?_ ?_ ?_, below_drewN' HWb.out _⟩
    · rw [← HX.out.1]; simp [In.cF]
    · rw [← HX.out.2]; simp [In.cE]
    · simp [In.cT]
  · obtain ⟨i, j, ei, ej, hi, hj⟩ := HIX.out.2 rfl
    dsimp only at ei ej hi hj
    subst ei ej
    go_enter Try.func37, Try.ntmps37
    obtain ⟨b2, off2, hp2, hc2, _⟩ := HD.out.at hj
    obtain ⟨b1, off, hp1, hc1, _⟩ := HD.out.at hi
    subst hp1
    simp only [Option.some.injEq, Addr.mk.injEq, and_true] at hp2
    obtain ⟨e1, e2⟩ := hp2
    subst e1 e2
    obtain ⟨x0, x1, x2, x3, x4, x5, x6, x7⟩ := HC.out
    have hii : (i : Int) < (pts.length : Int) := by omega
    have hji : (j : Int) < (pts.length : Int) := by omega
    obtain ⟨x, hx⟩ : ∃ x, In.tk pts i = x := ⟨_, rfl⟩
    obtain ⟨y, hy⟩ : ∃ y, In.tk pts j = y := ⟨_, rfl⟩
    rw [hx] at hc1
    rw [hy] at hc2
    have HX := Lib.hid (And.intro hx hy)
    clear hx hy
    go_upto_region 1 with fail
    rw [← hW, ← hbe]
    clear hW hbe
    go_upto_region 4 with fail
    go_quiet (fail)
    go_wp2
    go_ret3
    refine ⟨ret_trip ?_ ?_ ?_, below_drewN' HWb.out _⟩
    · rw [← HX.out.1]; simp [In.cF]
    · rw [← HX.out.2]; simp [In.cE]
    · simp [In.cT]
  · obtain ⟨i, j, ei, ej, hi, hj⟩ := HIX.out.2 rfl
    dsimp only at ei ej hi hj
    subst ei ej
    go_enter Try.func37, Try.ntmps37
    obtain ⟨b2, off2, hp2, hc2, _⟩ := HD.out.at hj
    obtain ⟨b1, off, hp1, hc1, _⟩ := HD.out.at hi
    subst hp1
    simp only [Option.some.injEq, Addr.mk.injEq, and_true] at hp2
    obtain ⟨e1, e2⟩ := hp2
    subst e1 e2
    obtain ⟨x0, x1, x2, x3, x4, x5, x6, x7⟩ := HC.out
    have hii : (i : Int) < (pts.length : Int) := by omega
    have hji : (j : Int) < (pts.length : Int) := by omega
    obtain ⟨x, hx⟩ : ∃ x, In.tk pts i = x := ⟨_, rfl⟩
    obtain ⟨y, hy⟩ : ∃ y, In.tk pts j = y := ⟨_, rfl⟩
    rw [hx] at hc1
    rw [hy] at hc2
    have HX := Lib.hid (And.intro hx hy)
    clear hx hy
    go_upto_region 1 with fail
    rw [← hW, ← hbe]
    clear hW hbe
    go_upto_region 4 with fail
    go_quiet (fail)
    go_wp2
    go_ret3
    refine ⟨ret_trip ?_ ?_ ?_, below_drewN' HWb.out _⟩
    · rw [← HX.out.1]; simp [In.cF]
    · rw [← HX.out.2]; simp [In.cE]
    · simp [In.cT]
  · go_enter Try.func37, Try.ntmps37
    obtain ⟨x0, x1, x2, x3, x4, x5, x6, x7⟩ := HC.out
    go_upto_region 1 with fail
    rw [← hW, ← hbe]
    clear hW hbe
    go_wp2
    go_ret3
    exact ⟨ret_trip (by simp [In.cF]) (by simp [In.cE]) (by simp [In.cT]), HWb.out⟩
  · go_enter Try.func37, Try.ntmps37
    obtain ⟨x0, x1, x2, x3, x4, x5, x6, x7⟩ := HC.out
    go_upto_region 1 with fail
    rw [← hW, ← hbe]
    clear hW hbe
    go_wp2
    go_ret3
    exact ⟨ret_trip (by simp [In.cF]) (by simp [In.cE]) (by simp [In.cT]), HWb.out⟩
theorem r_last (on : Bool) (pts : List (Int × Int)) (sus : Bool) (ss se : Int) (lp : Bool) (ls le : Int) (p : Option Addr) (cap : Nat) (w : World) (hd : PtsAt w p pts) (hp : 0 < pts.length) (h16 : (pts.length : Int) ≤ 16) :
    Calls Try.prog 38 #[EV (⟨on, pts, sus, ss, se, lp, ls, le⟩ : In.Env) p cap] w fun x w' => x = .returned (.int .i64 (In.lst (⟨on, pts, sus, ss, se, lp, ls, le⟩ : In.Env))) ∧ Below w.heap.size w w' := by
  obtain ⟨b1, off, hpp, hc1, _⟩ := hd.at (i := pts.length - 1) (by omega)
  subst hpp
  have hbl := cell_lt hc1
  dsimp only at hbl
  have HE := Lib.hid (show In.lst (⟨on, pts, sus, ss, se, lp, ls, le⟩ : In.Env) = In.tk pts (pts.length - 1) from rfl)
  obtain ⟨l, hl⟩ : ∃ l, In.tk pts (pts.length - 1) = l := ⟨_, rfl⟩
  rw [hl] at hc1 HE
  rw [HE.out]
  clear hl hd
  unfold EV
  go_enter Try.func38, Try.ntmps38
  go_wp2
  go_ret
  exact ⟨rfl, below_box _ _⟩
set_option maxHeartbeats 3200000 in
theorem r_After_live (on : Bool) (pts : List (Int × Int)) (sus : Bool) (ss se : Int) (lp : Bool) (ls le : Int) (p : Option Addr) (cap : Nat) (t : Int) (h : Bool) (w : World) (hd : PtsAt w p pts) (hv : In.lv (⟨on, pts, sus, ss, se, lp, ls, le⟩ : In.Env) = true) :
    Calls Try.prog 12 #[EV (⟨on, pts, sus, ss, se, lp, ls, le⟩ : In.Env) p cap, .int .i64 t, .bool h] w fun x w' => x = .returned (.int .i64 (In.after (⟨on, pts, sus, ss, se, lp, ls, le⟩ : In.Env) t h)) ∧ Below w.heap.size w w' := by
  have ha := In.lv_asc hv
  have h16 := In.lv_len hv
  have hp := ha.pos
  dsimp only at hp h16
  have hr := In.rnd_of hv h
  have CP := Lib.hid (hv ▸ r_live on pts sus ss se lp ls le p cap (w.alloc (.cells #[.bool on, .slice p pts.length cap, .bool sus, .int .i64 ss, .int .i64 se, .bool lp, .int .i64 ls, .int .i64 le] 24)) (hd.below (below_box _ _)))
  have HC := Lib.hid (eb_new w (⟨on, pts, sus, ss, se, lp, ls, le⟩ : In.Env) p cap 24)
  have HD := Lib.hid (fun u (hu : Below w.heap.size w u) => hd.below hu)
  have CI := Lib.hid (fun w hd => r_circle on pts sus ss se lp ls le p cap h w hd hv)
  have CL := Lib.hid (fun w hd => r_last on pts sus ss se lp ls le p cap w hd hp h16)
  obtain ⟨th, hth⟩ : ∃ th, In.cT (⟨on, pts, sus, ss, se, lp, ls, le⟩ : In.Env) h = th := ⟨_, rfl⟩
  obtain ⟨a, hx⟩ : ∃ x, In.cF (⟨on, pts, sus, ss, se, lp, ls, le⟩ : In.Env) h = x := ⟨_, rfl⟩
  obtain ⟨c, hy⟩ : ∃ y, In.cE (⟨on, pts, sus, ss, se, lp, ls, le⟩ : In.Env) h = y := ⟨_, rfl⟩
  obtain ⟨l, hl⟩ : ∃ l, In.lst (⟨on, pts, sus, ss, se, lp, ls, le⟩ : In.Env) = l := ⟨_, rfl⟩
  have HE := Lib.hid (show In.after (⟨on, pts, sus, ss, se, lp, ls, le⟩ : In.Env) t h = In.aft th a c l t by unfold In.after; rw [hth, hx, hy, hl])
  rw [HE.out]
  rw [hth, hx, hy, hl] at hr
  rw [hth, hx, hy] at CI
  rw [hl] at CL
  have r1 := hr.ab
  have r2 := hr.bh
  have r3 := hr.lh
  have r4 := hr.a0
  have r5 := hr.l0
  obtain ⟨T, hT⟩ : ∃ T, max t 0 = T := ⟨_, rfl⟩
  have HA := Lib.hid (show In.aft th a c l t = if th = true then (if c ≤ T then a else T + 1) else if l ≤ T then l else T + 1 by unfold In.aft; rw [hT])
  have HT := Lib.hid hT
  have hT0 : 0 ≤ T := by omega
  clear hd hv ha hth hx hy hl hr hT HE
  unfold EV at CP CI CL ⊢
  go_enter Try.func12, Try.ntmps12
  go_upto_region 3 with (first | (go_at_call 33; ((with_reducible refine (CP.out).mono ?_); rintro x' w1 ⟨rfl, hb1⟩; have HB1 := Lib.hid (stepB (below_box _ _) hb1); have HE1 := Lib.hid (HC.out.kept hb1); clear hb1; obtain ⟨x0, x1, x2, x3, x4, x5, x6, x7⟩ := HE1.out)))
  go_cut [1] (fun t1 wx => t1 = .int .i64 T ∧ w1 = wx)
  case first =>
    rcases Int.lt_trichotomy t 0 with h0 | h0 | h0
    · go_wp2_with fail
      go_meet
      exact ⟨by rw [← HT.out, show max t 0 = 0 by omega], rfl⟩
    · subst h0
      go_wp2_with fail
      go_meet
      exact ⟨by rw [← HT.out]; rfl, rfl⟩
    · go_wp2_with fail
      go_meet
      exact ⟨by rw [← HT.out, show max t 0 = t by omega], rfl⟩
  case rest =>
    obtain ⟨rfl, rfl⟩ := hcut
    cases th
    · by_cases hc : l ≤ T
      · have HE := Lib.hid (show In.aft false a c l t = l by rw [HA.out, if_neg (by simp), if_pos hc])
        go_wp2_with (first | (go_at_call 37; ((with_reducible refine (CI.out _ (HD.out _ HB1.out)).mono ?_); rintro x' w2 ⟨rfl, hb2⟩; have HB2 := Lib.hid (stepB HB1.out hb2); have HE2 := Lib.hid (HE1.out.kept hb2); clear hb2; obtain ⟨x0, x1, x2, x3, x4, x5, x6, x7⟩ := HE2.out)) | (go_at_call 38; ((with_reducible refine (CL.out _ (HD.out _ HB2.out)).mono ?_); rintro x' w3 ⟨rfl, hb3⟩; have HB3 := Lib.hid (stepB HB2.out hb3); have HE3 := Lib.hid (HE2.out.kept hb3); clear hb3; obtain ⟨x0, x1, x2, x3, x4, x5, x6, x7⟩ := HE3.out)) | (go_at_call 38; ((with_reducible refine (CL.out _ (HD.out _ HB3.out)).mono ?_); rintro x' w4 ⟨rfl, hb4⟩; have HB4 := Lib.hid (stepB HB3.out hb4); have HE4 := Lib.hid (HE3.out.kept hb4); clear hb4; obtain ⟨x0, x1, x2, x3, x4, x5, x6, x7⟩ := HE4.out)))
        go_ret
        exact ⟨ret_int HE.out.symm, HB4.out⟩
      · have HE := Lib.hid (show In.aft false a c l t = T + 1 by rw [HA.out, if_neg (by simp), if_neg hc])
        have hd : decide (l ≤ T) = false := decide_eq_false hc
        go_wp2_with (first | (go_at_call 37; ((with_reducible refine (CI.out _ (HD.out _ HB1.out)).mono ?_); rintro x' w2 ⟨rfl, hb2⟩; have HB2 := Lib.hid (stepB HB1.out hb2); have HE2 := Lib.hid (HE1.out.kept hb2); clear hb2; obtain ⟨x0, x1, x2, x3, x4, x5, x6, x7⟩ := HE2.out)) | (go_at_call 38; ((with_reducible refine (CL.out _ (HD.out _ HB2.out)).mono ?_); rintro x' w3 ⟨rfl, hb3⟩; have HB3 := Lib.hid (stepB HB2.out hb3); have HE3 := Lib.hid (HE2.out.kept hb3); clear hb3; obtain ⟨x0, x1, x2, x3, x4, x5, x6, x7⟩ := HE3.out)))
        go_ret
        exact ⟨ret_int HE.out.symm, HB3.out⟩
    · by_cases hc : c ≤ T
      · have HE := Lib.hid (show In.aft true a c l t = a by rw [HA.out, if_pos rfl, if_pos hc])
        go_wp2_with (first | (go_at_call 37; ((with_reducible refine (CI.out _ (HD.out _ HB1.out)).mono ?_); rintro x' w2 ⟨rfl, hb2⟩; have HB2 := Lib.hid (stepB HB1.out hb2); have HE2 := Lib.hid (HE1.out.kept hb2); clear hb2; obtain ⟨x0, x1, x2, x3, x4, x5, x6, x7⟩ := HE2.out)))
        go_ret
        exact ⟨ret_int HE.out.symm, HB2.out⟩
      · have HE := Lib.hid (show In.aft true a c l t = T + 1 by rw [HA.out, if_pos rfl, if_neg hc])
        have hd : decide (c ≤ T) = false := decide_eq_false hc
        go_wp2_with (first | (go_at_call 37; ((with_reducible refine (CI.out _ (HD.out _ HB1.out)).mono ?_); rintro x' w2 ⟨rfl, hb2⟩; have HB2 := Lib.hid (stepB HB1.out hb2); have HE2 := Lib.hid (HE1.out.kept hb2); clear hb2; obtain ⟨x0, x1, x2, x3, x4, x5, x6, x7⟩ := HE2.out)))
        go_ret
        exact ⟨ret_int HE.out.symm, HB2.out⟩
theorem r_After (e : In.Env) (p : Option Addr) (cap : Nat) (t : Int) (h : Bool) (w : World) (hd : PtsAt w p e.pts) :
    Calls Try.prog 12 #[EV e p cap, .int .i64 t, .bool h] w fun x w' => x = .returned (.int .i64 (In.afterOf e t h)) ∧ Below w.heap.size w w' := by
  obtain ⟨on, pts, sus, ss, se, lp, ls, le⟩ := e
  cases hv : In.lv (⟨on, pts, sus, ss, se, lp, ls, le⟩ : In.Env)
  · have HE := Lib.hid (show In.afterOf (⟨on, pts, sus, ss, se, lp, ls, le⟩ : In.Env) t h = 0 by unfold In.afterOf; rw [hv]; rfl)
    have CP := Lib.hid (hv ▸ r_live on pts sus ss se lp ls le p cap (w.alloc (.cells #[.bool on, .slice p pts.length cap, .bool sus, .int .i64 ss, .int .i64 se, .bool lp, .int .i64 ls, .int .i64 le] 24)) (hd.below (below_box _ _)))
    clear hd hv
    unfold EV at CP ⊢
    go_enter Try.func12, Try.ntmps12
    go_wp2_with (first | (go_at_call 33; ((with_reducible refine CP.out.mono ?_); rintro x' w1 ⟨rfl, hb1⟩; have HB1 := Lib.hid (stepB (below_box _ _) hb1); clear hb1)))
    go_ret
    exact ⟨ret_int HE.out.symm, HB1.out⟩
  · have HE := Lib.hid (show In.afterOf (⟨on, pts, sus, ss, se, lp, ls, le⟩ : In.Env) t h = In.after (⟨on, pts, sus, ss, se, lp, ls, le⟩ : In.Env) t h by unfold In.afterOf; rw [hv]; rfl)
    rw [HE.out]
    exact r_After_live on pts sus ss se lp ls le p cap t h w hd hv
set_option maxHeartbeats 3200000 in
theorem r_Over_live (on : Bool) (pts : List (Int × Int)) (sus : Bool) (ss se : Int) (lp : Bool) (ls le : Int) (p : Option Addr) (cap : Nat) (t : Int) (h : Bool) (w : World) (hd : PtsAt w p pts) (hv : In.lv (⟨on, pts, sus, ss, se, lp, ls, le⟩ : In.Env) = true) :
    Calls Try.prog 14 #[EV (⟨on, pts, sus, ss, se, lp, ls, le⟩ : In.Env) p cap, .int .i64 t, .bool h] w fun x w' => x = .returned (.bool (In.ovr (In.cT (⟨on, pts, sus, ss, se, lp, ls, le⟩ : In.Env) h) (In.lst (⟨on, pts, sus, ss, se, lp, ls, le⟩ : In.Env)) t)) ∧ Below w.heap.size w w' := by
  have ha := In.lv_asc hv
  have h16 := In.lv_len hv
  have hp := ha.pos
  dsimp only at hp h16
  have CP := Lib.hid (hv ▸ r_live on pts sus ss se lp ls le p cap (w.alloc (.cells #[.bool on, .slice p pts.length cap, .bool sus, .int .i64 ss, .int .i64 se, .bool lp, .int .i64 ls, .int .i64 le] 24)) (hd.below (below_box _ _)))
  have HC := Lib.hid (eb_new w (⟨on, pts, sus, ss, se, lp, ls, le⟩ : In.Env) p cap 24)
  have HD := Lib.hid (fun u (hu : Below w.heap.size w u) => hd.below hu)
  have CI := Lib.hid (fun w hd => r_circle on pts sus ss se lp ls le p cap h w hd hv)
  have CL := Lib.hid (fun w hd => r_last on pts sus ss se lp ls le p cap w hd hp h16)
  obtain ⟨th, hth⟩ : ∃ th, In.cT (⟨on, pts, sus, ss, se, lp, ls, le⟩ : In.Env) h = th := ⟨_, rfl⟩
  obtain ⟨a, hx⟩ : ∃ x, In.cF (⟨on, pts, sus, ss, se, lp, ls, le⟩ : In.Env) h = x := ⟨_, rfl⟩
  obtain ⟨c, hy⟩ : ∃ y, In.cE (⟨on, pts, sus, ss, se, lp, ls, le⟩ : In.Env) h = y := ⟨_, rfl⟩
  obtain ⟨l, hl⟩ : ∃ l, In.lst (⟨on, pts, sus, ss, se, lp, ls, le⟩ : In.Env) = l := ⟨_, rfl⟩
  rw [hth, hx, hy] at CI
  rw [hth, hl]
  rw [hl] at CL
  clear hd hv ha hth hx hy hl
  unfold EV at CP CI CL ⊢
  cases th
  · by_cases hc : l ≤ t
    · have HE := Lib.hid (show In.ovr false l t = true by unfold In.ovr; rw [decide_eq_true hc]; rfl)
      go_enter Try.func14, Try.ntmps14
      go_wp2_with (first | (go_at_call 33; ((with_reducible refine (CP.out).mono ?_); rintro x' w1 ⟨rfl, hb1⟩; have HB1 := Lib.hid (stepB (below_box _ _) hb1); have HE1 := Lib.hid (HC.out.kept hb1); clear hb1; obtain ⟨x0, x1, x2, x3, x4, x5, x6, x7⟩ := HE1.out)) | (go_at_call 37; ((with_reducible refine (CI.out _ (HD.out _ HB1.out)).mono ?_); rintro x' w2 ⟨rfl, hb2⟩; have HB2 := Lib.hid (stepB HB1.out hb2); have HE2 := Lib.hid (HE1.out.kept hb2); clear hb2; obtain ⟨x0, x1, x2, x3, x4, x5, x6, x7⟩ := HE2.out)) | (go_at_call 38; ((with_reducible refine (CL.out _ (HD.out _ HB2.out)).mono ?_); rintro x' w3 ⟨rfl, hb3⟩; have HB3 := Lib.hid (stepB HB2.out hb3); have HE3 := Lib.hid (HE2.out.kept hb3); clear hb3; obtain ⟨x0, x1, x2, x3, x4, x5, x6, x7⟩ := HE3.out)))
      go_ret
      exact ⟨ret_bool HE.out.symm, HB3.out⟩
    · have HE := Lib.hid (show In.ovr false l t = false by unfold In.ovr; rw [decide_eq_false hc]; rfl)
      have hd : decide (l ≤ t) = false := decide_eq_false hc
      go_enter Try.func14, Try.ntmps14
      go_wp2_with (first | (go_at_call 33; ((with_reducible refine (CP.out).mono ?_); rintro x' w1 ⟨rfl, hb1⟩; have HB1 := Lib.hid (stepB (below_box _ _) hb1); have HE1 := Lib.hid (HC.out.kept hb1); clear hb1; obtain ⟨x0, x1, x2, x3, x4, x5, x6, x7⟩ := HE1.out)) | (go_at_call 37; ((with_reducible refine (CI.out _ (HD.out _ HB1.out)).mono ?_); rintro x' w2 ⟨rfl, hb2⟩; have HB2 := Lib.hid (stepB HB1.out hb2); have HE2 := Lib.hid (HE1.out.kept hb2); clear hb2; obtain ⟨x0, x1, x2, x3, x4, x5, x6, x7⟩ := HE2.out)) | (go_at_call 38; ((with_reducible refine (CL.out _ (HD.out _ HB2.out)).mono ?_); rintro x' w3 ⟨rfl, hb3⟩; have HB3 := Lib.hid (stepB HB2.out hb3); have HE3 := Lib.hid (HE2.out.kept hb3); clear hb3; obtain ⟨x0, x1, x2, x3, x4, x5, x6, x7⟩ := HE3.out)))
      go_ret
      exact ⟨ret_bool HE.out.symm, HB3.out⟩
  · have HE := Lib.hid (show In.ovr true l t = false from rfl)
    go_enter Try.func14, Try.ntmps14
    go_wp2_with (first | (go_at_call 33; ((with_reducible refine (CP.out).mono ?_); rintro x' w1 ⟨rfl, hb1⟩; have HB1 := Lib.hid (stepB (below_box _ _) hb1); have HE1 := Lib.hid (HC.out.kept hb1); clear hb1; obtain ⟨x0, x1, x2, x3, x4, x5, x6, x7⟩ := HE1.out)) | (go_at_call 37; ((with_reducible refine (CI.out _ (HD.out _ HB1.out)).mono ?_); rintro x' w2 ⟨rfl, hb2⟩; have HB2 := Lib.hid (stepB HB1.out hb2); have HE2 := Lib.hid (HE1.out.kept hb2); clear hb2; obtain ⟨x0, x1, x2, x3, x4, x5, x6, x7⟩ := HE2.out)))
    go_ret
    exact ⟨ret_bool HE.out.symm, HB2.out⟩
theorem r_Over (e : In.Env) (p : Option Addr) (cap : Nat) (t : Int) (h : Bool) (w : World) (hd : PtsAt w p e.pts) :
    Calls Try.prog 14 #[EV e p cap, .int .i64 t, .bool h] w fun x w' => x = .returned (.bool (In.overOf e t h)) ∧ Below w.heap.size w w' := by
  obtain ⟨on, pts, sus, ss, se, lp, ls, le⟩ := e
  cases hv : In.lv (⟨on, pts, sus, ss, se, lp, ls, le⟩ : In.Env)
  · have HE := Lib.hid (show In.overOf (⟨on, pts, sus, ss, se, lp, ls, le⟩ : In.Env) t h = false by unfold In.overOf; rw [hv]; rfl)
    have CP := Lib.hid (hv ▸ r_live on pts sus ss se lp ls le p cap (w.alloc (.cells #[.bool on, .slice p pts.length cap, .bool sus, .int .i64 ss, .int .i64 se, .bool lp, .int .i64 ls, .int .i64 le] 24)) (hd.below (below_box _ _)))
    clear hd hv
    unfold EV at CP ⊢
    go_enter Try.func14, Try.ntmps14
    go_wp2_with (first | (go_at_call 33; ((with_reducible refine CP.out.mono ?_); rintro x' w1 ⟨rfl, hb1⟩; have HB1 := Lib.hid (stepB (below_box _ _) hb1); clear hb1)))
    go_ret
    exact ⟨ret_bool HE.out.symm, HB1.out⟩
  · have HE := Lib.hid (show In.overOf (⟨on, pts, sus, ss, se, lp, ls, le⟩ : In.Env) t h = In.ovr (In.cT (⟨on, pts, sus, ss, se, lp, ls, le⟩ : In.Env) h) (In.lst (⟨on, pts, sus, ss, se, lp, ls, le⟩ : In.Env)) t by unfold In.overOf; rw [hv]; rfl)
    rw [HE.out]
    exact r_Over_live on pts sus ss se lp ls le p cap t h w hd hv
end Go.Proofs.Ytcchfahdgmcpbaa

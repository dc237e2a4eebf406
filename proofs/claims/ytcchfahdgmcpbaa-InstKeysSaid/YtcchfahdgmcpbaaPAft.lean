/-
  The contracts of package inst's After and Over.
-/
import Derived.Test.YtcchfahdgmcpbaaPWof
import Derived.Test.YtcchfahdgmcpbaaPWalk
namespace Go.Proofs.Ytcchfahdgmcpbaa
open Go.RowKit

theorem p_After (e : In.Env) (p : Option Addr) (cap : Nat) (t : Int) (h : Bool) (w : World) (hd : PtsAt w p e.pts) :
    Calls Try.prog 11 #[EV e p cap, .int .i64 t, .bool h] w fun x w' => x = .returned (.int .i64 (In.afterOf e t h)) ∧ Below w.heap.size w w' := by
  obtain ⟨on, pts, sus, ss, se, lp, ls, le⟩ := e
  have CP := Lib.hid (p_plays on pts sus ss se lp ls le p cap (w.alloc (.cells #[.bool on, .slice p pts.length cap, .bool sus, .int .i64 ss, .int .i64 se, .bool lp, .int .i64 ls, .int .i64 le] 24)) (hd.below (below_box _ _)))
  have HC := Lib.hid (eb_new w (⟨on, pts, sus, ss, se, lp, ls, le⟩ : In.Env) p cap 24)
  cases hv : In.lv (⟨on, pts, sus, ss, se, lp, ls, le⟩ : In.Env)
  · have HE := Lib.hid (show In.afterOf (⟨on, pts, sus, ss, se, lp, ls, le⟩ : In.Env) t h = 0 by unfold In.afterOf; rw [hv]; rfl)
    rw [hv] at CP
    clear hd hv
    unfold EV at CP ⊢
    go_enter Try.func11, Try.ntmps11
    go_wp2_with (first | (go_at_call 31; ((with_reducible refine CP.out.mono ?_); rintro x' w1 ⟨rfl, hb1⟩; have HB1 := Lib.hid (stepB (below_box _ _) hb1); clear hb1)))
    go_ret
    exact ⟨ret_int HE.out.symm, HB1.out⟩
  · have hr := In.rnd_of hv h
    have HE := Lib.hid (show In.afterOf (⟨on, pts, sus, ss, se, lp, ls, le⟩ : In.Env) t h = In.after (⟨on, pts, sus, ss, se, lp, ls, le⟩ : In.Env) t h by unfold In.afterOf; rw [hv]; rfl)
    rw [hv] at CP
    have CW := Lib.hid (fun w hd => p_walkerOf on pts sus ss se lp ls le p cap h w hd hv)
    obtain ⟨th, hth⟩ : ∃ th, In.cT (⟨on, pts, sus, ss, se, lp, ls, le⟩ : In.Env) h = th := ⟨_, rfl⟩
    obtain ⟨a, hx⟩ : ∃ x, In.cF (⟨on, pts, sus, ss, se, lp, ls, le⟩ : In.Env) h = x := ⟨_, rfl⟩
    obtain ⟨b, hy⟩ : ∃ y, In.cE (⟨on, pts, sus, ss, se, lp, ls, le⟩ : In.Env) h = y := ⟨_, rfl⟩
    obtain ⟨l, hl⟩ : ∃ l, In.lst (⟨on, pts, sus, ss, se, lp, ls, le⟩ : In.Env) = l := ⟨_, rfl⟩
    rw [hth, hx, hy, hl] at CW hr
    unfold In.after at HE
    rw [hth, hx, hy, hl] at HE
    have CA := Lib.hid (fun w => p_after th a b l t w hr)
    have HD := Lib.hid hd
    clear hd hv hr hth hx hy hl
    unfold EV at CP CW ⊢
    go_enter Try.func11, Try.ntmps11
    go_wp2_with (first | (go_at_call 31; ((with_reducible refine CP.out.mono ?_); rintro x' w1 ⟨rfl, hb1⟩; obtain ⟨x0, x1, x2, x3, x4, x5, x6, x7⟩ := HC.out.kept hb1; have HB1 := Lib.hid (stepB (below_box _ _) hb1); clear hb1)) | (go_at_call 35; ((with_reducible refine (CW.out _ (HD.out.below HB1.out)).mono ?_); rintro x' w2 ⟨rfl, hb2⟩; have HB2 := Lib.hid (stepB HB1.out hb2); clear hb2)) | (go_at_call 36; ((with_reducible refine (CA.out _).mono ?_); rintro x' w3 ⟨rfl, hb3⟩; have HB3 := Lib.hid (stepB HB2.out hb3); clear hb3)))
    go_ret
    exact ⟨ret_int HE.out.symm, HB3.out⟩
theorem p_Over (e : In.Env) (p : Option Addr) (cap : Nat) (t : Int) (h : Bool) (w : World) (hd : PtsAt w p e.pts) :
    Calls Try.prog 13 #[EV e p cap, .int .i64 t, .bool h] w fun x w' => x = .returned (.bool (In.overOf e t h)) ∧ Below w.heap.size w w' := by
  obtain ⟨on, pts, sus, ss, se, lp, ls, le⟩ := e
  have CP := Lib.hid (p_plays on pts sus ss se lp ls le p cap (w.alloc (.cells #[.bool on, .slice p pts.length cap, .bool sus, .int .i64 ss, .int .i64 se, .bool lp, .int .i64 ls, .int .i64 le] 24)) (hd.below (below_box _ _)))
  have HC := Lib.hid (eb_new w (⟨on, pts, sus, ss, se, lp, ls, le⟩ : In.Env) p cap 24)
  cases hv : In.lv (⟨on, pts, sus, ss, se, lp, ls, le⟩ : In.Env)
  · have HE := Lib.hid (show In.overOf (⟨on, pts, sus, ss, se, lp, ls, le⟩ : In.Env) t h = false by unfold In.overOf; rw [hv]; rfl)
    rw [hv] at CP
    clear hd hv
    unfold EV at CP ⊢
    go_enter Try.func13, Try.ntmps13
    go_wp2_with (first | (go_at_call 31; ((with_reducible refine CP.out.mono ?_); rintro x' w1 ⟨rfl, hb1⟩; have HB1 := Lib.hid (stepB (below_box _ _) hb1); clear hb1)))
    go_ret
    exact ⟨ret_bool HE.out.symm, HB1.out⟩
  · have hr := In.rnd_of hv h
    have HE := Lib.hid (show In.overOf (⟨on, pts, sus, ss, se, lp, ls, le⟩ : In.Env) t h = In.ovr (In.cT (⟨on, pts, sus, ss, se, lp, ls, le⟩ : In.Env) h) (In.lst (⟨on, pts, sus, ss, se, lp, ls, le⟩ : In.Env)) t by unfold In.overOf; rw [hv]; rfl)
    rw [hv] at CP
    have CW := Lib.hid (fun w hd => p_walkerOf on pts sus ss se lp ls le p cap h w hd hv)
    obtain ⟨th, hth⟩ : ∃ th, In.cT (⟨on, pts, sus, ss, se, lp, ls, le⟩ : In.Env) h = th := ⟨_, rfl⟩
    obtain ⟨a, hx⟩ : ∃ x, In.cF (⟨on, pts, sus, ss, se, lp, ls, le⟩ : In.Env) h = x := ⟨_, rfl⟩
    obtain ⟨b, hy⟩ : ∃ y, In.cE (⟨on, pts, sus, ss, se, lp, ls, le⟩ : In.Env) h = y := ⟨_, rfl⟩
    obtain ⟨l, hl⟩ : ∃ l, In.lst (⟨on, pts, sus, ss, se, lp, ls, le⟩ : In.Env) = l := ⟨_, rfl⟩
    rw [hth, hx, hy, hl] at CW hr
    rw [hth, hl] at HE
    have CA := Lib.hid (fun w => p_over th a b l t w)
    have HD := Lib.hid hd
    clear hd hv hr hth hx hy hl
    unfold EV at CP CW ⊢
    go_enter Try.func13, Try.ntmps13
    go_wp2_with (first | (go_at_call 31; ((with_reducible refine CP.out.mono ?_); rintro x' w1 ⟨rfl, hb1⟩; obtain ⟨x0, x1, x2, x3, x4, x5, x6, x7⟩ := HC.out.kept hb1; have HB1 := Lib.hid (stepB (below_box _ _) hb1); clear hb1)) | (go_at_call 35; ((with_reducible refine (CW.out _ (HD.out.below HB1.out)).mono ?_); rintro x' w2 ⟨rfl, hb2⟩; have HB2 := Lib.hid (stepB HB1.out hb2); clear hb2)) | (go_at_call 39; ((with_reducible refine (CA.out _).mono ?_); rintro x' w3 ⟨rfl, hb3⟩; have HB3 := Lib.hid (stepB HB2.out hb3); clear hb3)))
    go_ret
    exact ⟨ret_bool HE.out.symm, HB3.out⟩
end Go.Proofs.Ytcchfahdgmcpbaa

/-
  The law InstCircles where the envelope does not count: it returns true; nothing that was there is changed.
-/
import Derived.Test.YtcchfahdgmcpbaaPAsk
import Derived.Test.YtcchfahdgmcpbaaPAwake
namespace Go.Proofs.Ytcchfahdgmcpbaa
open Go.RowKit

set_option maxRecDepth 100000 in
set_option maxHeartbeats 3200000 in
theorem circles_off (on : Bool) (pts : List (Int × Int)) (sus : Bool) (ss se : Int) (lp : Bool) (ls le : Int) (lo hi t n r o : Int) (h : Bool) (p : Option Addr) (cap : Nat) (w : World) (hd : PtsAt w p pts) (hc : pts.length ≤ cap) (hon : on = false) (hv : In.lv (⟨on, pts, sus, ss, se, lp, ls, le⟩ : In.Env) = false) :
    Calls Try.prog 4 #[AV (⟨⟨on, pts, sus, ss, se, lp, ls, le⟩, lo, hi, t, n, r, o, h⟩ : In.Ask) p cap] w fun z w' => z = .returned (.bool true) ∧ Below w.heap.size w w' := by
  obtain ⟨W, hW⟩ : ∃ W, W = ((w.alloc (.cells #[.bool on, .slice p pts.length cap, .bool sus, .int .i64 ss, .int .i64 se, .bool lp, .int .i64 ls, .int .i64 le, .int .i64 lo, .int .i64 hi, .int .i64 t, .int .i64 n, .int .i64 r, .int .i64 o, .bool h] 26)).alloc (.cells #[.bool on, .slice p pts.length cap, .bool sus, .int .i64 ss, .int .i64 se, .bool lp, .int .i64 ls, .int .i64 le] 24)) := ⟨_, rfl⟩
  have hWb : Below w.heap.size w W := by rw [hW]; exact stepB (below_box _ _) (below_box _ _)
  obtain ⟨b, hbe⟩ : ∃ b, b = w.heap.size := ⟨_, rfl⟩
  have HT := Lib.hid (show Two W b (⟨⟨on, pts, sus, ss, se, lp, ls, le⟩, lo, hi, t, n, r, o, h⟩ : In.Ask) p cap by rw [hW, hbe]; exact two_new w (⟨⟨on, pts, sus, ss, se, lp, ls, le⟩, lo, hi, t, n, r, o, h⟩ : In.Ask) p cap hd)
  have HWb := Lib.hid hWb
  have HB0 := Lib.hid (Below.refl W.heap.size W)
  have HLV := Lib.hid hv
  have C2 := Lib.hid (fun u (hu : Below W.heap.size W u) => onW hu (p_Value_v (⟨on, pts, sus, ss, se, lp, ls, le⟩ : In.Env) p cap t u (HT.out.kept hu).pts hc (show In.valueOf (⟨on, pts, sus, ss, se, lp, ls, le⟩ : In.Env) t = 0 by unfold In.valueOf; rw [HLV.out]; rfl)))
  have C3 := Lib.hid (fun u (hu : Below W.heap.size W u) => onW hu (p_After_v (⟨on, pts, sus, ss, se, lp, ls, le⟩ : In.Env) p cap t h u (HT.out.kept hu).pts (show In.afterOf (⟨on, pts, sus, ss, se, lp, ls, le⟩ : In.Env) t h = 0 by unfold In.afterOf; rw [HLV.out]; rfl)))
  have C4 := Lib.hid (fun u (hu : Below W.heap.size W u) => onW hu (p_Over_v (⟨on, pts, sus, ss, se, lp, ls, le⟩ : In.Env) p cap t h u (HT.out.kept hu).pts (show In.overOf (⟨on, pts, sus, ss, se, lp, ls, le⟩ : In.Env) t h = false by unfold In.overOf; rw [HLV.out]; rfl)))
  have C5 := Lib.hid (fun u (hu : Below W.heap.size W u) => onW hu (p_awake u))
  clear hWb hv hd hc
  subst hon
  unfold EV at C2 C3 C4
  unfold AV
  dsimp only
  obtain ⟨⟨y0, y1, y2, y3, y4, y5, y6, y7, y8, y9, y10, y11, y12, y13, y14⟩, ⟨x0, x1, x2, x3, x4, x5, x6, x7⟩, _⟩ := HT.out
  go_enter Try.func4, Try.ntmps4
  go_upto_region 2 with fail
  rw [← hW, ← hbe]
  clear hW hbe
  go_wp2_with (first | (go_at_call 9; ((with_reducible refine (C2.out _ HB0.out).mono ?_); rintro x' w1 ⟨rfl, hb1⟩; have HB1 := Lib.hid hb1; clear hb1; obtain ⟨⟨y0, y1, y2, y3, y4, y5, y6, y7, y8, y9, y10, y11, y12, y13, y14⟩, ⟨x0, x1, x2, x3, x4, x5, x6, x7⟩, _⟩ := HT.out.kept HB1.out)) | (go_at_call 11; ((with_reducible refine (C3.out _ HB1.out).mono ?_); rintro x' w2 ⟨rfl, hb2⟩; have HB2 := Lib.hid hb2; clear hb2; obtain ⟨⟨y0, y1, y2, y3, y4, y5, y6, y7, y8, y9, y10, y11, y12, y13, y14⟩, ⟨x0, x1, x2, x3, x4, x5, x6, x7⟩, _⟩ := HT.out.kept HB2.out)) | (go_at_call 13; ((with_reducible refine (C4.out _ HB2.out).mono ?_); rintro x' w3 ⟨rfl, hb3⟩; have HB3 := Lib.hid hb3; clear hb3)) | (go_at_call 6; ((with_reducible refine (C5.out _ HB3.out).mono ?_); rintro x' w4 ⟨rfl, hb4⟩; have HB4 := Lib.hid hb4; clear hb4)))
  go_ret
  exact ⟨rfl, HWb.out.trans (HB4.out.mono HWb.out.size)⟩
set_option maxRecDepth 100000 in
set_option maxHeartbeats 3200000 in
theorem circles_bad (on : Bool) (pts : List (Int × Int)) (sus : Bool) (ss se : Int) (lp : Bool) (ls le : Int) (lo hi t n r o : Int) (h : Bool) (p : Option Addr) (cap : Nat) (w : World) (hd : PtsAt w p pts) (hc : pts.length ≤ cap) (hon : on = true) (hv : In.lv (⟨on, pts, sus, ss, se, lp, ls, le⟩ : In.Env) = false) :
    Calls Try.prog 4 #[AV (⟨⟨on, pts, sus, ss, se, lp, ls, le⟩, lo, hi, t, n, r, o, h⟩ : In.Ask) p cap] w fun z w' => z = .returned (.bool true) ∧ Below w.heap.size w w' := by
  obtain ⟨W, hW⟩ : ∃ W, W = ((w.alloc (.cells #[.bool on, .slice p pts.length cap, .bool sus, .int .i64 ss, .int .i64 se, .bool lp, .int .i64 ls, .int .i64 le, .int .i64 lo, .int .i64 hi, .int .i64 t, .int .i64 n, .int .i64 r, .int .i64 o, .bool h] 26)).alloc (.cells #[.bool on, .slice p pts.length cap, .bool sus, .int .i64 ss, .int .i64 se, .bool lp, .int .i64 ls, .int .i64 le] 24)) := ⟨_, rfl⟩
  have hWb : Below w.heap.size w W := by rw [hW]; exact stepB (below_box _ _) (below_box _ _)
  obtain ⟨b, hbe⟩ : ∃ b, b = w.heap.size := ⟨_, rfl⟩
  have HT := Lib.hid (show Two W b (⟨⟨on, pts, sus, ss, se, lp, ls, le⟩, lo, hi, t, n, r, o, h⟩ : In.Ask) p cap by rw [hW, hbe]; exact two_new w (⟨⟨on, pts, sus, ss, se, lp, ls, le⟩, lo, hi, t, n, r, o, h⟩ : In.Ask) p cap hd)
  have HWb := Lib.hid hWb
  have HB0 := Lib.hid (Below.refl W.heap.size W)
  have C1 := Lib.hid (fun u (hu : Below W.heap.size W u) => onW hu (p_venv_v (⟨on, pts, sus, ss, se, lp, ls, le⟩ : In.Env) p cap (-64) 64 u (HT.out.kept hu).pts (show In.vld (⟨on, pts, sus, ss, se, lp, ls, le⟩ : In.Env) (-64) 64 = false by have := hv; unfold In.lv at this; rw [hon] at this ⊢; simpa using this)))
  have HLV := Lib.hid hv
  have C2 := Lib.hid (fun u (hu : Below W.heap.size W u) => onW hu (p_Value_v (⟨on, pts, sus, ss, se, lp, ls, le⟩ : In.Env) p cap t u (HT.out.kept hu).pts hc (show In.valueOf (⟨on, pts, sus, ss, se, lp, ls, le⟩ : In.Env) t = 0 by unfold In.valueOf; rw [HLV.out]; rfl)))
  have C3 := Lib.hid (fun u (hu : Below W.heap.size W u) => onW hu (p_After_v (⟨on, pts, sus, ss, se, lp, ls, le⟩ : In.Env) p cap t h u (HT.out.kept hu).pts (show In.afterOf (⟨on, pts, sus, ss, se, lp, ls, le⟩ : In.Env) t h = 0 by unfold In.afterOf; rw [HLV.out]; rfl)))
  have C4 := Lib.hid (fun u (hu : Below W.heap.size W u) => onW hu (p_Over_v (⟨on, pts, sus, ss, se, lp, ls, le⟩ : In.Env) p cap t h u (HT.out.kept hu).pts (show In.overOf (⟨on, pts, sus, ss, se, lp, ls, le⟩ : In.Env) t h = false by unfold In.overOf; rw [HLV.out]; rfl)))
  have C5 := Lib.hid (fun u (hu : Below W.heap.size W u) => onW hu (p_awake u))
  clear hWb hv hd hc
  subst hon
  unfold EV at C1 C2 C3 C4
  unfold AV
  dsimp only
  obtain ⟨⟨y0, y1, y2, y3, y4, y5, y6, y7, y8, y9, y10, y11, y12, y13, y14⟩, ⟨x0, x1, x2, x3, x4, x5, x6, x7⟩, _⟩ := HT.out
  go_enter Try.func4, Try.ntmps4
  go_upto_region 2 with fail
  rw [← hW, ← hbe]
  clear hW hbe
  go_wp2_with (first | (go_at_call 7; ((with_reducible refine (C1.out _ HB0.out).mono ?_); rintro x' w1 ⟨rfl, hb1⟩; have HB1 := Lib.hid hb1; clear hb1; obtain ⟨⟨y0, y1, y2, y3, y4, y5, y6, y7, y8, y9, y10, y11, y12, y13, y14⟩, ⟨x0, x1, x2, x3, x4, x5, x6, x7⟩, _⟩ := HT.out.kept HB1.out)) | (go_at_call 9; ((with_reducible refine (C2.out _ HB1.out).mono ?_); rintro x' w2 ⟨rfl, hb2⟩; have HB2 := Lib.hid hb2; clear hb2; obtain ⟨⟨y0, y1, y2, y3, y4, y5, y6, y7, y8, y9, y10, y11, y12, y13, y14⟩, ⟨x0, x1, x2, x3, x4, x5, x6, x7⟩, _⟩ := HT.out.kept HB2.out)) | (go_at_call 11; ((with_reducible refine (C3.out _ HB2.out).mono ?_); rintro x' w3 ⟨rfl, hb3⟩; have HB3 := Lib.hid hb3; clear hb3; obtain ⟨⟨y0, y1, y2, y3, y4, y5, y6, y7, y8, y9, y10, y11, y12, y13, y14⟩, ⟨x0, x1, x2, x3, x4, x5, x6, x7⟩, _⟩ := HT.out.kept HB3.out)) | (go_at_call 13; ((with_reducible refine (C4.out _ HB3.out).mono ?_); rintro x' w4 ⟨rfl, hb4⟩; have HB4 := Lib.hid hb4; clear hb4)) | (go_at_call 6; ((with_reducible refine (C5.out _ HB4.out).mono ?_); rintro x' w5 ⟨rfl, hb5⟩; have HB5 := Lib.hid hb5; clear hb5)))
  go_ret
  exact ⟨rfl, HWb.out.trans (HB5.out.mono HWb.out.size)⟩
end Go.Proofs.Ytcchfahdgmcpbaa

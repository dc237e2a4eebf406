/-
  The walk of the law InstCurves: for any envelope and numbers it returns true; nothing that was there is changed.
-/
import Derived.Test.YtcchfahdgmcpbaaPAsk
import Derived.Test.YtcchfahdgmcpbaaPAwake
import Derived.Test.YtcchfahdgmcpbaaPCrv
import Derived.Test.YtcchfahdgmcpbaaRCurve
import Derived.Test.YtcchfahdgmcpbaaPSame
import Derived.Test.YtcchfahdgmcpbaaLex
import Derived.Deep.RegionHeld3
namespace Go.Proofs.Ytcchfahdgmcpbaa
open Go.RowKit

theorem keepC {W w' : World} {b : Nat} {x : In.Ask} {p : Option Addr} {cap : Nat} (h : Hid (Two W b x p cap)) (hb : Below W.heap.size W w') : Below W.heap.size W w' ∧ w'.cell? ⟨b + 1, 0, none⟩ = some (.bool x.e.on) ∧ w'.cell? ⟨b + 1, 1, none⟩ = some (.slice p x.e.pts.length cap) ∧ w'.cell? ⟨b + 1, 2, none⟩ = some (.bool x.e.sus) ∧ w'.cell? ⟨b + 1, 3, none⟩ = some (.int .i64 x.e.ss) ∧ w'.cell? ⟨b + 1, 4, none⟩ = some (.int .i64 x.e.se) ∧ w'.cell? ⟨b + 1, 5, none⟩ = some (.bool x.e.lp) ∧ w'.cell? ⟨b + 1, 6, none⟩ = some (.int .i64 x.e.ls) ∧ w'.cell? ⟨b + 1, 7, none⟩ = some (.int .i64 x.e.le) ∧ w'.cell? ⟨b, 11, none⟩ = some (.int .i64 x.n) ∧ w'.cell? ⟨b, 12, none⟩ = some (.int .i64 x.r) := by
  obtain ⟨⟨y0, y1, y2, y3, y4, y5, y6, y7, y8, y9, y10, y11, y12, y13, y14⟩, ⟨x0, x1, x2, x3, x4, x5, x6, x7⟩, _⟩ := h.out.kept hb
  exact ⟨hb, x0, x1, x2, x3, x4, x5, x6, x7, y11, y12⟩
theorem Two.kin {W : World} {b : Nat} {x : In.Ask} {p : Option Addr} {cap : Nat} (h : Two W b x p cap) : (∀ u : Kin W, u.w.cell? ⟨b, 0, none⟩ = some (.bool x.e.on)) ∧ (∀ u : Kin W, u.w.cell? ⟨b, 1, none⟩ = some (.slice p x.e.pts.length cap)) ∧ (∀ u : Kin W, u.w.cell? ⟨b, 2, none⟩ = some (.bool x.e.sus)) ∧ (∀ u : Kin W, u.w.cell? ⟨b, 3, none⟩ = some (.int .i64 x.e.ss)) ∧ (∀ u : Kin W, u.w.cell? ⟨b, 4, none⟩ = some (.int .i64 x.e.se)) ∧ (∀ u : Kin W, u.w.cell? ⟨b, 5, none⟩ = some (.bool x.e.lp)) ∧ (∀ u : Kin W, u.w.cell? ⟨b, 6, none⟩ = some (.int .i64 x.e.ls)) ∧ (∀ u : Kin W, u.w.cell? ⟨b, 7, none⟩ = some (.int .i64 x.e.le)) ∧ (∀ u : Kin W, u.w.cell? ⟨b, 8, none⟩ = some (.int .i64 x.lo)) ∧ (∀ u : Kin W, u.w.cell? ⟨b, 9, none⟩ = some (.int .i64 x.hi)) ∧ (∀ u : Kin W, u.w.cell? ⟨b, 10, none⟩ = some (.int .i64 x.t)) ∧ (∀ u : Kin W, u.w.cell? ⟨b, 11, none⟩ = some (.int .i64 x.n)) ∧ (∀ u : Kin W, u.w.cell? ⟨b, 12, none⟩ = some (.int .i64 x.r)) ∧ (∀ u : Kin W, u.w.cell? ⟨b, 13, none⟩ = some (.int .i64 x.o)) ∧ (∀ u : Kin W, u.w.cell? ⟨b, 14, none⟩ = some (.bool x.h)) ∧ (∀ u : Kin W, u.w.cell? ⟨b + 1, 0, none⟩ = some (.bool x.e.on)) ∧ (∀ u : Kin W, u.w.cell? ⟨b + 1, 1, none⟩ = some (.slice p x.e.pts.length cap)) ∧ (∀ u : Kin W, u.w.cell? ⟨b + 1, 2, none⟩ = some (.bool x.e.sus)) ∧ (∀ u : Kin W, u.w.cell? ⟨b + 1, 3, none⟩ = some (.int .i64 x.e.ss)) ∧ (∀ u : Kin W, u.w.cell? ⟨b + 1, 4, none⟩ = some (.int .i64 x.e.se)) ∧ (∀ u : Kin W, u.w.cell? ⟨b + 1, 5, none⟩ = some (.bool x.e.lp)) ∧ (∀ u : Kin W, u.w.cell? ⟨b + 1, 6, none⟩ = some (.int .i64 x.e.ls)) ∧ (∀ u : Kin W, u.w.cell? ⟨b + 1, 7, none⟩ = some (.int .i64 x.e.le)) := by
  have k := fun u : Kin W => h.kept u.below
  obtain ⟨⟨y0, y1, y2, y3, y4, y5, y6, y7, y8, y9, y10, y11, y12, y13, y14⟩, ⟨x0, x1, x2, x3, x4, x5, x6, x7⟩, _⟩ := h
  exact ⟨fun u => kept_cell u.below y0, fun u => kept_cell u.below y1, fun u => kept_cell u.below y2, fun u => kept_cell u.below y3, fun u => kept_cell u.below y4, fun u => kept_cell u.below y5, fun u => kept_cell u.below y6, fun u => kept_cell u.below y7, fun u => kept_cell u.below y8, fun u => kept_cell u.below y9, fun u => kept_cell u.below y10, fun u => kept_cell u.below y11, fun u => kept_cell u.below y12, fun u => kept_cell u.below y13, fun u => kept_cell u.below y14, fun u => kept_cell u.below x0, fun u => kept_cell u.below x1, fun u => kept_cell u.below x2, fun u => kept_cell u.below x3, fun u => kept_cell u.below x4, fun u => kept_cell u.below x5, fun u => kept_cell u.below x6, fun u => kept_cell u.below x7⟩
set_option maxRecDepth 100000 in
set_option maxHeartbeats 3200000 in
theorem curves_long (on : Bool) (pts : List (Int × Int)) (sus : Bool) (ss se : Int) (lp : Bool) (ls le : Int) (lo hi t n r o : Int) (h : Bool) (p : Option Addr) (cap : Nat) (w : World) (hd : PtsAt w p pts) (h1 : 100 < (pts.length : Int)) :
    Calls Try.prog 3 #[AV (⟨⟨on, pts, sus, ss, se, lp, ls, le⟩, lo, hi, t, n, r, o, h⟩ : In.Ask) p cap] w fun z w' => z = .returned (.bool true) ∧ Below w.heap.size w w' := by
  obtain ⟨W, hW⟩ : ∃ W, W = ((w.alloc (.cells #[.bool on, .slice p pts.length cap, .bool sus, .int .i64 ss, .int .i64 se, .bool lp, .int .i64 ls, .int .i64 le, .int .i64 lo, .int .i64 hi, .int .i64 t, .int .i64 n, .int .i64 r, .int .i64 o, .bool h] 26)).alloc (.cells #[.bool on, .slice p pts.length cap, .bool sus, .int .i64 ss, .int .i64 se, .bool lp, .int .i64 ls, .int .i64 le] 24)) := ⟨_, rfl⟩
  have hWb : Below w.heap.size w W := by rw [hW]; exact stepB (below_box _ _) (below_box _ _)
  obtain ⟨b, hbe⟩ : ∃ b, b = w.heap.size := ⟨_, rfl⟩
  have HT := Lib.hid (show Two W b (⟨⟨on, pts, sus, ss, se, lp, ls, le⟩, lo, hi, t, n, r, o, h⟩ : In.Ask) p cap by rw [hW, hbe]; exact two_new w (⟨⟨on, pts, sus, ss, se, lp, ls, le⟩, lo, hi, t, n, r, o, h⟩ : In.Ask) p cap hd)
  have HWb := Lib.hid hWb
  have HB0 := Lib.hid (Below.refl W.heap.size W)
  have C5 := Lib.hid (fun u (hu : Below W.heap.size W u) => onW hu (p_awake u))
  clear hWb hd
  obtain ⟨⟨y0, y1, y2, y3, y4, y5, y6, y7, y8, y9, y10, y11, y12, y13, y14⟩, ⟨x0, x1, x2, x3, x4, x5, x6, x7⟩, _⟩ := HT.out
  unfold AV
  dsimp only
  go_enter Try.func3, Try.ntmps3
  go_upto_region 2 with fail
  rw [← hW, ← hbe]
  clear hW hbe
  go_wp2_with (first | (go_at_call 6; ((with_reducible refine (C5.out _ HB0.out).mono ?_); rintro x' w1 ⟨rfl, hb1⟩)))
  go_ret
  exact ⟨rfl, HWb.out.trans (hb1.mono HWb.out.size)⟩
set_option maxRecDepth 100000 in
set_option maxHeartbeats 3200000 in
theorem curves_mid (on : Bool) (pts : List (Int × Int)) (sus : Bool) (ss se : Int) (lp : Bool) (ls le : Int) (lo hi t n r o : Int) (h : Bool) (p : Option Addr) (cap : Nat) (w : World) (hd : PtsAt w p pts) (hc : pts.length ≤ cap) (h1 : (pts.length : Int) ≤ 100) :
    Calls Try.prog 3 #[AV (⟨⟨on, pts, sus, ss, se, lp, ls, le⟩, lo, hi, t, n, r, o, h⟩ : In.Ask) p cap] w fun z w' => z = .returned (.bool true) ∧ Below w.heap.size w w' := by
  obtain ⟨W, hW⟩ : ∃ W, W = ((w.alloc (.cells #[.bool on, .slice p pts.length cap, .bool sus, .int .i64 ss, .int .i64 se, .bool lp, .int .i64 ls, .int .i64 le, .int .i64 lo, .int .i64 hi, .int .i64 t, .int .i64 n, .int .i64 r, .int .i64 o, .bool h] 26)).alloc (.cells #[.bool on, .slice p pts.length cap, .bool sus, .int .i64 ss, .int .i64 se, .bool lp, .int .i64 ls, .int .i64 le] 24)) := ⟨_, rfl⟩
  have hWb : Below w.heap.size w W := by rw [hW]; exact stepB (below_box _ _) (below_box _ _)
  obtain ⟨b, hbe⟩ : ∃ b, b = w.heap.size := ⟨_, rfl⟩
  have HT := Lib.hid (show Two W b (⟨⟨on, pts, sus, ss, se, lp, ls, le⟩, lo, hi, t, n, r, o, h⟩ : In.Ask) p cap by rw [hW, hbe]; exact two_new w (⟨⟨on, pts, sus, ss, se, lp, ls, le⟩, lo, hi, t, n, r, o, h⟩ : In.Ask) p cap hd)
  have HWb := Lib.hid hWb
  have HB0 := Lib.hid (Below.refl W.heap.size W)
  have C5 := Lib.hid (fun u (hu : Below W.heap.size W u) => onW hu (p_awake u))
  have K1 := Lib.hid (fun u : Kin W => kinB (p_venv (⟨on, pts, sus, ss, se, lp, ls, le⟩ : In.Env) p cap lo hi u.w (HT.out.kept u.below).pts))
  have Q1 := Lib.hid (fun u : Kin W => kinB (r_venv (⟨on, pts, sus, ss, se, lp, ls, le⟩ : In.Env) p cap lo hi u.w (HT.out.kept u.below).pts))
  have K2 := Lib.hid (fun u : Kin W => kinB (p_Value (⟨on, pts, sus, ss, se, lp, ls, le⟩ : In.Env) p cap t u.w (HT.out.kept u.below).pts hc))
  have Q2 := Lib.hid (fun u : Kin W => kinB (r_Value (⟨on, pts, sus, ss, se, lp, ls, le⟩ : In.Env) p cap t u.w (HT.out.kept u.below).pts))
  have K3 := Lib.hid (fun u : Kin W => kinB (p_After (⟨on, pts, sus, ss, se, lp, ls, le⟩ : In.Env) p cap t h u.w (HT.out.kept u.below).pts))
  have Q3 := Lib.hid (fun u : Kin W => kinB (r_After (⟨on, pts, sus, ss, se, lp, ls, le⟩ : In.Env) p cap t h u.w (HT.out.kept u.below).pts))
  have K4 := Lib.hid (fun u : Kin W => kinB (p_Over (⟨on, pts, sus, ss, se, lp, ls, le⟩ : In.Env) p cap t h u.w (HT.out.kept u.below).pts))
  have Q4 := Lib.hid (fun u : Kin W => kinB (r_Over (⟨on, pts, sus, ss, se, lp, ls, le⟩ : In.Env) p cap t h u.w (HT.out.kept u.below).pts))
  obtain ⟨v1, hv1⟩ : ∃ v, In.vld (⟨on, pts, sus, ss, se, lp, ls, le⟩ : In.Env) lo hi = v := ⟨_, rfl⟩
  obtain ⟨v2, hv2⟩ : ∃ v, In.valueOf (⟨on, pts, sus, ss, se, lp, ls, le⟩ : In.Env) t = v := ⟨_, rfl⟩
  obtain ⟨v3, hv3⟩ : ∃ v, In.afterOf (⟨on, pts, sus, ss, se, lp, ls, le⟩ : In.Env) t h = v := ⟨_, rfl⟩
  obtain ⟨v4, hv4⟩ : ∃ v, In.overOf (⟨on, pts, sus, ss, se, lp, ls, le⟩ : In.Env) t h = v := ⟨_, rfl⟩
  rw [hv1] at K1 Q1
  rw [hv2] at K2 Q2
  rw [hv3] at K3 Q3
  rw [hv4] at K4 Q4
  have HC := Lib.hid hc
  clear hWb hd hc hv1 hv2 hv3 hv4
  obtain ⟨⟨y0, y1, y2, y3, y4, y5, y6, y7, y8, y9, y10, y11, y12, y13, y14⟩, ⟨x0, x1, x2, x3, x4, x5, x6, x7⟩, _⟩ := HT.out
  unfold EV at K1 Q1 K2 Q2 K3 Q3 K4 Q4
  unfold AV
  dsimp only
  go_enter Try.func3, Try.ntmps3
  go_upto_region 2 with fail
  rw [← hW, ← hbe]
  clear hW hbe
  go_upto_region 4 with fail
  clear y0 y1 y2 y3 y4 y5 y6 y7 y8 y9 y10 y11 y12 y13 y14 x0 x1 x2 x3 x4 x5 x6 x7
  obtain ⟨z0, z1, z2, z3, z4, z5, z6, z7, z8, z9, z10, z11, z12, z13, z14, z15, z16, z17, z18, z19, z20, z21, z22⟩ := Two.kin HT.out
  refine kin_region (by kernel_rfl) (by kernel_rfl) HB0.out ?_
  repeat (go_big_quiet_step (first | (go_at_call 7; exact K1.out _) | (go_at_call 8; exact Q1.out _) | (go_at_call 9; exact K2.out _) | (go_at_call 10; exact Q2.out _) | (go_at_call 11; exact K3.out _) | (go_at_call 12; exact Q3.out _) | (go_at_call 13; exact K4.out _) | (go_at_call 14; exact Q4.out _)))
  refine wpQuiet_nil ?_
  intro w' hw
  have HBw := Lib.hid hw
  clear z0 z1 z2 z3 z4 z5 z6 z7 z8 z9 z10 z11 z12 z13 z14 z15 z16 z17 z18 z19 z20 z21 z22 hw K1 Q1 K2 Q2 K3 Q3 K4 Q4
  obtain ⟨⟨y0, y1, y2, y3, y4, y5, y6, y7, y8, y9, y10, y11, y12, y13, y14⟩, ⟨x0, x1, x2, x3, x4, x5, x6, x7⟩, _⟩ := HT.out.kept HBw.out
  have CAj := Lib.hid (C5.out _ HBw.out)
  by_cases g1 : 500 < n
  · by_cases g2 : n ≤ 4000
    · go_wp2_with (first | (go_at_call 6; ((with_reducible refine CAj.out.mono ?_); rintro x' w9 ⟨rfl, hb9⟩)))
      go_ret
      exact ⟨rfl, HWb.out.trans (hb9.mono HWb.out.size)⟩
    · have hd2 : decide (n ≤ 4000) = false := decide_eq_false g2
      have HLn := Lib.hid (show ((In.crv (⟨on, pts, sus, ss, se, lp, ls, le⟩ : In.Env) n r).length : Int) ≤ 9223372036854775807 by
        by_cases hc : 0 ≤ n ∧ n ≤ 4000
        · rw [In.crv_length hc]; omega
        · unfold In.crv; rw [if_neg hc]; simp)
      have D1 := Lib.hid (fun u (hu : Below W.heap.size W u) => (p_Curve (⟨on, pts, sus, ss, se, lp, ls, le⟩ : In.Env) p cap n r u (HT.out.kept hu).pts HC.out).mono (R' := fun x u' => (∃ p cap, x = .returned (.slice p (In.crv (⟨on, pts, sus, ss, se, lp, ls, le⟩ : In.Env) n r).length cap) ∧ NumsAt u' p (In.crv (⟨on, pts, sus, ss, se, lp, ls, le⟩ : In.Env) n r)) ∧ Below W.heap.size W u' ∧ Below u.heap.size u u') fun x u' h => ⟨reti_nums h.1, stepB hu h.2, h.2⟩)
      have D2 := Lib.hid (fun u (hu : Below W.heap.size W u) => (r_Curve (⟨on, pts, sus, ss, se, lp, ls, le⟩ : In.Env) p cap n r u (HT.out.kept hu).pts).mono (R' := fun x u' => (∃ p cap, x = .returned (.slice p (In.crv (⟨on, pts, sus, ss, se, lp, ls, le⟩ : In.Env) n r).length cap) ∧ NumsAt u' p (In.crv (⟨on, pts, sus, ss, se, lp, ls, le⟩ : In.Env) n r)) ∧ Below W.heap.size W u' ∧ Below u.heap.size u u') fun x u' h => ⟨reti_nums h.1, stepB hu h.2, h.2⟩)
      obtain ⟨l, hl⟩ : ∃ l, In.crv (⟨on, pts, sus, ss, se, lp, ls, le⟩ : In.Env) n r = l := ⟨_, rfl⟩
      rw [hl] at HLn D1 D2
      have D3 := Lib.hid (fun pa pb ca cb u (hu : Below W.heap.size W u) (ha : NumsAt u pa l) (hb : NumsAt u pb l) => onW hu (p_same l pa pb ca cb u ha hb HLn.out))
      obtain ⟨m, hm⟩ : ∃ m, l.length = m := ⟨_, rfl⟩
      rw [hm] at D1 D2 D3
      clear hl hm
      unfold EV at D1 D2
      dsimp only at D1 D2
      have hg0 := HBw.out.drew
      have hg := keepC HT hg0
      go_upto_region 8 with fail
      go_region_held3 (fun w' => Below W.heap.size W w' ∧ w'.cell? ⟨b + 1, 0, none⟩ = some (.bool on) ∧ w'.cell? ⟨b + 1, 1, none⟩ = some (.slice p pts.length cap) ∧ w'.cell? ⟨b + 1, 2, none⟩ = some (.bool sus) ∧ w'.cell? ⟨b + 1, 3, none⟩ = some (.int .i64 ss) ∧ w'.cell? ⟨b + 1, 4, none⟩ = some (.int .i64 se) ∧ w'.cell? ⟨b + 1, 5, none⟩ = some (.bool lp) ∧ w'.cell? ⟨b + 1, 6, none⟩ = some (.int .i64 ls) ∧ w'.cell? ⟨b + 1, 7, none⟩ = some (.int .i64 le) ∧ w'.cell? ⟨b, 11, none⟩ = some (.int .i64 n) ∧ w'.cell? ⟨b, 12, none⟩ = some (.int .i64 r))
        (first | with_reducible exact hg | (with_reducible apply keepC HT; with_reducible assumption))
        (first | (go_at_call 16; with_reducible refine (D1.out _ ?_).mono ?_; with_reducible assumption; rintro x' w1 ⟨⟨pa, ca, rfl, na⟩, hB1, hb1⟩) | (go_at_call 17; with_reducible refine (D2.out _ ?_).mono ?_; with_reducible assumption; rintro x' w2 ⟨⟨pb, cb, rfl, nb⟩, hB2, hb2⟩; have na2 := na.below hb2) | (go_at_call 15; with_reducible refine (D3.out pa pb ca cb _ ?_ ?_ ?_).mono ?_; with_reducible assumption; with_reducible assumption; with_reducible assumption; rintro x' w3 ⟨rfl, hB3⟩) | (go_at_call 6; with_reducible refine (C5.out _ ?_).mono ?_; with_reducible assumption; rintro x' w4 ⟨rfl, hB4⟩))
      go_wp2
      go_ret
      exact ⟨rfl, HWb.out.trans (hB4.mono HWb.out.size)⟩
  · have hd1 : decide (500 < n) = false := decide_eq_false g1
    have HLn := Lib.hid (show ((In.crv (⟨on, pts, sus, ss, se, lp, ls, le⟩ : In.Env) n r).length : Int) ≤ 9223372036854775807 by
      by_cases hc : 0 ≤ n ∧ n ≤ 4000
      · rw [In.crv_length hc]; omega
      · unfold In.crv; rw [if_neg hc]; simp)
    have D1 := Lib.hid (fun u (hu : Below W.heap.size W u) => (p_Curve (⟨on, pts, sus, ss, se, lp, ls, le⟩ : In.Env) p cap n r u (HT.out.kept hu).pts HC.out).mono (R' := fun x u' => (∃ p cap, x = .returned (.slice p (In.crv (⟨on, pts, sus, ss, se, lp, ls, le⟩ : In.Env) n r).length cap) ∧ NumsAt u' p (In.crv (⟨on, pts, sus, ss, se, lp, ls, le⟩ : In.Env) n r)) ∧ Below W.heap.size W u' ∧ Below u.heap.size u u') fun x u' h => ⟨reti_nums h.1, stepB hu h.2, h.2⟩)
    have D2 := Lib.hid (fun u (hu : Below W.heap.size W u) => (r_Curve (⟨on, pts, sus, ss, se, lp, ls, le⟩ : In.Env) p cap n r u (HT.out.kept hu).pts).mono (R' := fun x u' => (∃ p cap, x = .returned (.slice p (In.crv (⟨on, pts, sus, ss, se, lp, ls, le⟩ : In.Env) n r).length cap) ∧ NumsAt u' p (In.crv (⟨on, pts, sus, ss, se, lp, ls, le⟩ : In.Env) n r)) ∧ Below W.heap.size W u' ∧ Below u.heap.size u u') fun x u' h => ⟨reti_nums h.1, stepB hu h.2, h.2⟩)
    obtain ⟨l, hl⟩ : ∃ l, In.crv (⟨on, pts, sus, ss, se, lp, ls, le⟩ : In.Env) n r = l := ⟨_, rfl⟩
    rw [hl] at HLn D1 D2
    have D3 := Lib.hid (fun pa pb ca cb u (hu : Below W.heap.size W u) (ha : NumsAt u pa l) (hb : NumsAt u pb l) => onW hu (p_same l pa pb ca cb u ha hb HLn.out))
    obtain ⟨m, hm⟩ : ∃ m, l.length = m := ⟨_, rfl⟩
    rw [hm] at D1 D2 D3
    clear hl hm
    unfold EV at D1 D2
    dsimp only at D1 D2
    have hg0 := HBw.out.drew
    have hg := keepC HT hg0
    go_upto_region 8 with fail
    go_region_held3 (fun w' => Below W.heap.size W w' ∧ w'.cell? ⟨b + 1, 0, none⟩ = some (.bool on) ∧ w'.cell? ⟨b + 1, 1, none⟩ = some (.slice p pts.length cap) ∧ w'.cell? ⟨b + 1, 2, none⟩ = some (.bool sus) ∧ w'.cell? ⟨b + 1, 3, none⟩ = some (.int .i64 ss) ∧ w'.cell? ⟨b + 1, 4, none⟩ = some (.int .i64 se) ∧ w'.cell? ⟨b + 1, 5, none⟩ = some (.bool lp) ∧ w'.cell? ⟨b + 1, 6, none⟩ = some (.int .i64 ls) ∧ w'.cell? ⟨b + 1, 7, none⟩ = some (.int .i64 le) ∧ w'.cell? ⟨b, 11, none⟩ = some (.int .i64 n) ∧ w'.cell? ⟨b, 12, none⟩ = some (.int .i64 r))
      (first | with_reducible exact hg | (with_reducible apply keepC HT; with_reducible assumption))
      (first | (go_at_call 16; with_reducible refine (D1.out _ ?_).mono ?_; with_reducible assumption; rintro x' w1 ⟨⟨pa, ca, rfl, na⟩, hB1, hb1⟩) | (go_at_call 17; with_reducible refine (D2.out _ ?_).mono ?_; with_reducible assumption; rintro x' w2 ⟨⟨pb, cb, rfl, nb⟩, hB2, hb2⟩; have na2 := na.below hb2) | (go_at_call 15; with_reducible refine (D3.out pa pb ca cb _ ?_ ?_ ?_).mono ?_; with_reducible assumption; with_reducible assumption; with_reducible assumption; rintro x' w3 ⟨rfl, hB3⟩) | (go_at_call 6; with_reducible refine (C5.out _ ?_).mono ?_; with_reducible assumption; rintro x' w4 ⟨rfl, hB4⟩))
    go_wp2
    go_ret
    exact ⟨rfl, HWb.out.trans (hB4.mono HWb.out.size)⟩
/-- The law InstCurves' walk. -/
theorem curves_any (x : In.Ask) (p : Option Addr) (cap : Nat) (w : World) (hd : PtsAt w p x.e.pts) (hc : x.e.pts.length ≤ cap) :
    Calls Try.prog 3 #[AV x p cap] w fun z w' => z = .returned (.bool true) ∧ Below w.heap.size w w' := by
  obtain ⟨⟨on, pts, sus, ss, se, lp, ls, le⟩, lo, hi, t, n, r, o, h⟩ := x
  by_cases h1 : 100 < (pts.length : Int)
  · exact curves_long on pts sus ss se lp ls le lo hi t n r o h p cap w hd h1
  · exact curves_mid on pts sus ss se lp ls le lo hi t n r o h p cap w hd hc (by omega)
end Go.Proofs.Ytcchfahdgmcpbaa

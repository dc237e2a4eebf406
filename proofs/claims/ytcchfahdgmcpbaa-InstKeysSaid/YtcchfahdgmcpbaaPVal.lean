/-
  The contracts of package inst's plays, valueAt and Value.
-/
import Derived.Test.YtcchfahdgmcpbaaPVenv
import Derived.Test.YtcchfahdgmcpbaaLex
import Derived.Deep.DeepCutAuto
namespace Go.Proofs.Ytcchfahdgmcpbaa
open Go.RowKit

theorem p_plays (on : Bool) (pts : List (Int × Int)) (sus : Bool) (ss se : Int) (lp : Bool) (ls le : Int) (p : Option Addr) (cap : Nat) (w : World) (hd : PtsAt w p pts) :
    Calls Try.prog 31 #[EV (⟨on, pts, sus, ss, se, lp, ls, le⟩ : In.Env) p cap] w fun x w' => x = .returned (.bool (In.lv (⟨on, pts, sus, ss, se, lp, ls, le⟩ : In.Env))) ∧ Below w.heap.size w w' := by
  cases on
  · have HE := Lib.hid (show In.lv (⟨false, pts, sus, ss, se, lp, ls, le⟩ : In.Env) = false from rfl)
    unfold EV
    go_enter Try.func31, Try.ntmps31
    go_wp2
    go_ret
    exact ⟨ret_bool HE.out.symm, below_box _ _⟩
  · have C := Lib.hid (p_venv (⟨true, pts, sus, ss, se, lp, ls, le⟩ : In.Env) p cap (-64) 64 (w.alloc (.cells #[.bool true, .slice p pts.length cap, .bool sus, .int .i64 ss, .int .i64 se, .bool lp, .int .i64 ls, .int .i64 le] 24)) (hd.below (below_box _ _)))
    have HE := Lib.hid (show In.lv (⟨true, pts, sus, ss, se, lp, ls, le⟩ : In.Env) = In.vld (⟨true, pts, sus, ss, se, lp, ls, le⟩ : In.Env) (-64) 64 from rfl)
    rw [HE.out]
    obtain ⟨v, hv⟩ : ∃ v, In.vld (⟨true, pts, sus, ss, se, lp, ls, le⟩ : In.Env) (-64) 64 = v := ⟨_, rfl⟩
    rw [hv] at C ⊢
    clear hd hv HE
    unfold EV at C ⊢
    cases v
    all_goals
      go_enter Try.func31, Try.ntmps31
      go_wp2_with (first | (go_at_call 7; ((with_reducible refine C.out.mono ?_); rintro x' w1 ⟨rfl, hb1⟩; have HB1 := Lib.hid (stepB (below_box _ _) hb1); clear hb1)))
      go_ret
      exact ⟨rfl, HB1.out⟩
set_option maxHeartbeats 1600000 in
theorem p_valueAt (ps : List (Int × Int)) (p : Option Addr) (cap : Nat) (t : Int) (w : World) (hd : PtsAt w p ps) (hc : ps.length ≤ cap) (ha : In.Asc ps) (hl : (ps.length : Int) ≤ 16) :
    Calls Try.prog 32 #[.slice p ps.length cap, .int .i64 t] w fun x w' => x = .returned (.int .i64 (In.val ps t)) ∧ Below w.heap.size w w' := by
  have hp := ha.pos
  obtain ⟨b, off, hpp, hc1, hc2⟩ := hd.at hp
  simp only [Nat.zero_mul, Nat.add_zero] at hc1 hc2
  subst hpp
  have HD := Lib.hid hd
  have HA := Lib.hid ha
  have h0 := ha.zero
  obtain ⟨v0, hv0⟩ : ∃ v0, In.vl ps 0 = v0 := ⟨_, rfl⟩
  rw [h0] at hc1
  rw [hv0] at hc2
  have HV0 := Lib.hid hv0
  clear hv0 hd ha
  by_cases ht : t ≤ 0
  · have HE := Lib.hid (In.val_start HA.out (t := t) (by omega))
    rw [HE.out, HV0.out]
    clear h0
    go_enter Try.func32, Try.ntmps32
    go_wp2
    go_ret
    exact ⟨rfl, below_box _ _⟩
  · have ht' : 0 < t := by omega
    have H0 := Lib.hid h0
    clear h0
    by_cases hone : ps.length = 1
    · have HE := Lib.hid (In.val_end (ps := ps) (t := t) (by omega) (fun i hi => by omega))
      have HL := Lib.hid (show ps.length - 1 = 0 by omega)
      rw [HL.out] at HE
      rw [HE.out, HV0.out]
      rw [hone]
      clear hp hl HD
      have hcc : cap = 1 ∨ 1 < cap := by omega
      clear hc hone
      rcases hcc with rfl | hcc
      all_goals
        go_enter Try.func32, Try.ntmps32
        go_wp2
        go_loopw [20] (fun i wr => i = .int .i64 0 ∧ wr = w.alloc (.cells #[.int .i64 0, .int .i64 v0] 37)) (fun _ _ => 0)
        case atStart => exact ⟨rfl, rfl⟩
        case round =>
          obtain ⟨rfl, rfl⟩ := hrel
          go_wp2
          go_ret
          exact ⟨rfl, below_box _ _⟩
    · have hcap : ¬ cap = 1 := by omega
      have hlen : 2 ≤ ps.length := by omega
      clear hone
      go_enter Try.func32, Try.ntmps32
      go_wp2
      obtain ⟨B, hB⟩ : ∃ B, B = w.heap.size := ⟨_, rfl⟩
      rw [← hB]
      have HS := Lib.hid hB
      clear hB
      go_loopw [20] (fun i wr => ∃ k : Nat, k + 1 ≤ ps.length ∧ i = .int .i64 k ∧ In.tk ps k ≤ t ∧ Hid (∀ j, j < k → In.tk ps (j + 1) ≤ t) ∧ Hid (Below w.heap.size w wr) ∧ Hid (Pt wr B (In.tk ps k) (In.vl ps k))) (fun i _ => ps.length - (intOf i).toNat)
      case atStart =>
        refine ⟨0, by omega, rfl, by rw [H0.out]; exact Int.le_of_lt ht', fun j hj => by omega, below_box _ _, ?_⟩
        rw [H0.out, HV0.out, HS.out]; exact pt_new _ _ _ _
      case round =>
        obtain ⟨k, hk, rfl, htk, HN, HB, HP⟩ := hrel
        by_cases hlt : k + 1 < ps.length
        · obtain ⟨b', off', hpp', hx1, hx2⟩ := (HD.out.below HB.out).at hlt
          simp only [Option.some.injEq, Addr.mk.injEq, and_true] at hpp'
          obtain ⟨e1, e2⟩ := hpp'
          subst e1 e2
          rw [show off + (k + 1) * 2 = off + 2 + k * 2 by omega] at hx1 hx2
          have a1 := HA.out.step k hlt
          have a2 := HA.out.lo k (by omega)
          have a3 := HA.out.hi (k + 1) hlt
          have a4 := HA.out.vlo k (by omega)
          have a5 := HA.out.vhi k (by omega)
          have a6 := HA.out.vlo (k + 1) hlt
          have a7 := HA.out.vhi (k + 1) hlt
          have HV := Lib.hid (fun h => In.val_mid (ps := ps) (t := t) (k := k) (by rw [H0.out]; omega) hlt HN.out h)
          have HN1 := Lib.hid (fun h : In.tk ps (k + 1) ≤ t => (fun j hj => by
            by_cases e : j = k
            · subst e; exact h
            · exact HN.out j (by omega) : ∀ j, j < k + 1 → In.tk ps (j + 1) ≤ t))
          obtain ⟨x, hx⟩ : ∃ x, In.tk ps k = x := ⟨_, rfl⟩
          obtain ⟨y, hy⟩ : ∃ y, In.vl ps k = y := ⟨_, rfl⟩
          obtain ⟨x', hx'⟩ : ∃ x', In.tk ps (k + 1) = x' := ⟨_, rfl⟩
          obtain ⟨y', hy'⟩ : ∃ y', In.vl ps (k + 1) = y' := ⟨_, rfl⟩
          rw [hx, hy, hx', hy'] at HV
          rw [hx, hx'] at a1
          rw [hx] at a2 htk
          rw [hx'] at a3 hx1 HN1
          rw [hy] at a4 a5
          rw [hy'] at a6 a7 hx2
          rw [hx, hy] at HP
          have HXY := Lib.hid (And.intro hx' hy')
          clear hx hy hx' hy'
          have hBl := HP.out.lt
          obtain ⟨f1, f2, f3, f4⟩ := HP.out
          by_cases htx : t < x'
          · have HE := Lib.hid (HV.out htx)
            have pb := In.prod_bound (v := y' - y) (s := t - x) (by omega) (by omega) (by omega) (by omega)
            have l1 := In.lin_lo (v := y' - y) (s := t - x) (d := x' - x) (by omega) (by omega) (by omega)
            have l2 := In.lin_hi (v := y' - y) (s := t - x) (d := x' - x) (by omega) (by omega) (by omega)
            obtain ⟨D, hD⟩ : ∃ D, (y' - y) * (t - x) = D := ⟨_, rfl⟩
            rw [hD] at HE pb l1 l2
            have C := Lib.hid (fun w => p_floor D (x' - x) w (by omega) (by omega) (by omega) (by omega))
            obtain ⟨q, hq⟩ : ∃ q, D / (x' - x) = q := ⟨_, rfl⟩
            rw [hq] at HE l1 l2 C
            have lq : -128 ≤ q ∧ q ≤ 128 := by omega
            clear l1 l2 hq
            obtain ⟨W, hW⟩ : ∃ W, W = wr.alloc (.cells #[.int .i64 x', .int .i64 y'] 37) := ⟨_, rfl⟩
            have HBW := Lib.hid (show Below w.heap.size w W by rw [hW]; exact stepB HB.out (below_box _ _))
            have hPW : Pt W B x y := by rw [hW]; exact HP.out.kept (below_box _ _)
            have hQW : Pt W wr.heap.size x' y' := by rw [hW]; exact pt_new _ _ _ _
            have k0 : ∀ u : Kin W, u.w.cell? ⟨B, 0, none⟩ = some (.int .i64 x) := fun u => kept_cell u.below hPW.1
            have k1 : ∀ u : Kin W, u.w.cell? ⟨B, 1, none⟩ = some (.int .i64 y) := fun u => kept_cell u.below hPW.2.1
            have k2 : ∀ u : Kin W, u.w.cell? ⟨wr.heap.size, 0, none⟩ = some (.int .i64 x') := fun u => kept_cell u.below hQW.1
            have k3 : ∀ u : Kin W, u.w.cell? ⟨wr.heap.size, 1, none⟩ = some (.int .i64 y') := fun u => kept_cell u.below hQW.2.1
            have hg : Below W.heap.size W W := Below.refl _ _
            go_upto_region 8 with fail
            rw [← hW]
            clear hW hPW hQW
            refine kin_region (by kernel_rfl) (by kernel_rfl) hg ?_
            repeat (go_big_quiet_step (first | (go_at_call 53; exact kinS (C.out _))))
            refine wpQuiet_nil ?_
            intro w' hw
            go_wp2
            go_ret
            exact ⟨ret_int HE.out.symm, stepB HBW.out hw⟩
          · have htx' : x' ≤ t := by omega
            go_wp2
            go_roundw
            case rel =>
              refine ⟨k + 1, by omega, by go_num, by rw [HXY.out.1]; exact htx', HN1.out htx', stepB ((HB.out.setCell (p := ⟨B, 0, none⟩) (Nat.le_of_eq HS.out.symm) _).setCell (p := ⟨B, 1, none⟩) (Nat.le_of_eq HS.out.symm) _) (below_box _ _), ?_⟩
              rw [HXY.out.1, HXY.out.2]
              exact (HP.out.set x' y').kept (below_box _ _)
            case measure => simp [intOf]; omega
        · have HE := Lib.hid (In.val_end (ps := ps) (t := t) (by omega) (fun i hi => HN.out i (by omega)))
          have HL := Lib.hid (show ps.length - 1 = k by omega)
          rw [HL.out] at HE
          obtain ⟨y, hy⟩ : ∃ y, In.vl ps k = y := ⟨_, rfl⟩
          rw [hy] at HP HE
          clear hy
          obtain ⟨f1, f2, f3, f4⟩ := HP.out
          go_wp2
          go_ret
          exact ⟨ret_int HE.out.symm, HB.out⟩
theorem p_Value (e : In.Env) (p : Option Addr) (cap : Nat) (t : Int) (w : World) (hd : PtsAt w p e.pts) (hc : e.pts.length ≤ cap) :
    Calls Try.prog 9 #[EV e p cap, .int .i64 t] w fun x w' => x = .returned (.int .i64 (In.valueOf e t)) ∧ Below w.heap.size w w' := by
  obtain ⟨on, pts, sus, ss, se, lp, ls, le⟩ := e
  have CP := Lib.hid (p_plays on pts sus ss se lp ls le p cap (w.alloc (.cells #[.bool on, .slice p pts.length cap, .bool sus, .int .i64 ss, .int .i64 se, .bool lp, .int .i64 ls, .int .i64 le] 24)) (hd.below (below_box _ _)))
  have HC := Lib.hid (eb_new w (⟨on, pts, sus, ss, se, lp, ls, le⟩ : In.Env) p cap 24)
  cases hv : In.lv (⟨on, pts, sus, ss, se, lp, ls, le⟩ : In.Env)
  · have HE := Lib.hid (show In.valueOf (⟨on, pts, sus, ss, se, lp, ls, le⟩ : In.Env) t = 0 by unfold In.valueOf; rw [hv]; rfl)
    rw [hv] at CP
    clear hd hc hv
    unfold EV at CP ⊢
    go_enter Try.func9, Try.ntmps9
    go_wp2_with (first | (go_at_call 31; ((with_reducible refine CP.out.mono ?_); rintro x' w1 ⟨rfl, hb1⟩; have HB1 := Lib.hid (stepB (below_box _ _) hb1); clear hb1)))
    go_ret
    exact ⟨ret_int HE.out.symm, HB1.out⟩
  · have HE := Lib.hid (show In.valueOf (⟨on, pts, sus, ss, se, lp, ls, le⟩ : In.Env) t = In.val pts t by unfold In.valueOf; rw [hv]; rfl)
    have ha : In.Asc pts := In.lv_asc hv
    have h16 : (pts.length : Int) ≤ 16 := In.lv_len hv
    rw [hv] at CP
    have CV := Lib.hid (fun w hd => p_valueAt pts p cap t w hd hc ha h16)
    have HD := Lib.hid hd
    clear hd hc hv ha h16
    unfold EV at CP ⊢
    go_enter Try.func9, Try.ntmps9
    go_wp2_with (first | (go_at_call 31; ((with_reducible refine CP.out.mono ?_); rintro x' w1 ⟨rfl, hb1⟩; obtain ⟨x0, x1, x2, x3, x4, x5, x6, x7⟩ := HC.out.kept hb1; have HB1 := Lib.hid (stepB (below_box _ _) hb1); clear hb1)) | (go_at_call 32; ((with_reducible refine (CV.out _ (HD.out.below HB1.out)).mono ?_); rintro x' w2 ⟨rfl, hb2⟩; have HB2 := Lib.hid (stepB HB1.out hb2); clear hb2)))
    go_ret
    exact ⟨ret_int HE.out.symm, HB2.out⟩
end Go.Proofs.Ytcchfahdgmcpbaa

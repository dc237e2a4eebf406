/-
  The contract of the reference's Value: for any envelope and tick.
-/
import Derived.Test.YtcchfahdgmcpbaaRVenv
import Derived.Test.YtcchfahdgmcpbaaPVal
import Derived.Deep.DeepCutAuto
namespace Go.Proofs.Ytcchfahdgmcpbaa
open Go.RowKit

set_option maxHeartbeats 3200000 in
theorem r_Value_live (on : Bool) (pts : List (Int × Int)) (sus : Bool) (ss se : Int) (lp : Bool) (ls le : Int) (p : Option Addr) (cap : Nat) (t : Int) (w : World) (hd : PtsAt w p pts) (hv : In.lv (⟨on, pts, sus, ss, se, lp, ls, le⟩ : In.Env) = true) :
    Calls Try.prog 10 #[EV (⟨on, pts, sus, ss, se, lp, ls, le⟩ : In.Env) p cap, .int .i64 t] w fun x w' => x = .returned (.int .i64 (In.val pts t)) ∧ Below w.heap.size w w' := by
  have ha := In.lv_asc hv
  have h16 := In.lv_len hv
  have hp := ha.pos
  dsimp only at hp h16
  have CP := Lib.hid (hv ▸ r_live on pts sus ss se lp ls le p cap (w.alloc (.cells #[.bool on, .slice p pts.length cap, .bool sus, .int .i64 ss, .int .i64 se, .bool lp, .int .i64 ls, .int .i64 le] 24)) (hd.below (below_box _ _)))
  have HC := Lib.hid (eb_new w (⟨on, pts, sus, ss, se, lp, ls, le⟩ : In.Env) p cap 24)
  have HD := Lib.hid (fun u (hu : Below w.heap.size w u) => hd.below hu)
  have HA := Lib.hid ha
  clear hd hv ha
  unfold EV at CP ⊢
  go_enter Try.func10, Try.ntmps10
  go_wp2_with (first | (go_at_call 33; ((with_reducible refine CP.out.mono ?_); rintro x' w1 ⟨rfl, hb1⟩; have HE1 := Lib.hid (HC.out.kept hb1); obtain ⟨x0, x1, x2, x3, x4, x5, x6, x7⟩ := HE1.out; have HB1 := Lib.hid (stepB (below_box _ _) hb1); clear hb1)))
  clear x0 x1 x2 x3 x4 x5 x6 x7
  go_loopw [5] (fun i wr => ∃ k : Nat, k ≤ pts.length ∧ i = .int .i64 ((k : Int) - 1) ∧ Hid (∀ j, k ≤ j → j < pts.length → t < In.tk pts j) ∧ Hid (Below w1.heap.size w1 wr)) (fun i _ => (intOf i + 1).toNat)
  case atStart => exact ⟨pts.length, by omega, rfl, fun j h1 h2 => absurd h1 (by omega), Below.refl _ _⟩
  case round =>
    obtain ⟨k, hk, rfl, HN, HB⟩ := hrel
    have HEr := Lib.hid (HE1.out.kept HB.out)
    have HBr := Lib.hid (stepB HB1.out HB.out)
    have HDr := Lib.hid (HD.out _ HBr.out)
    obtain ⟨x0, x1, x2, x3, x4, x5, x6, x7⟩ := HEr.out
    have hbl := EB.lt HEr.out
    by_cases hlt : 0 < k
    · obtain ⟨k', rfl⟩ : ∃ k', k = k' + 1 := ⟨k - 1, by omega⟩
      rw [show ((k' + 1 : Nat) : Int) - 1 = (k' : Int) by omega]
      obtain ⟨b1, off, hpp, hc1, hc2⟩ := HDr.out.at (show k' < pts.length by omega)
      subst hpp
      have hkl : (k' : Int) < (pts.length : Int) := by omega
      have HVE := Lib.hid (fun (he : k' + 1 = pts.length) (h : In.tk pts k' ≤ t) => In.val_end (ps := pts) (t := t) (by omega) (fun i hi => Int.le_trans (HA.out.mono (by omega) (by omega)) h))
      have HVM := Lib.hid (fun (he : k' + 1 < pts.length) (h : In.tk pts k' ≤ t) => In.val_mid (ps := pts) (t := t) (k := k') (Int.le_trans (HA.out.mono (by omega) (by omega)) h) he (fun i hi => Int.le_trans (HA.out.mono (by omega) (by omega)) h) (HN.out (k' + 1) (by omega) he))
      have a2 := HA.out.lo k' (by omega)
      have a4 := HA.out.vlo k' (by omega)
      have a5 := HA.out.vhi k' (by omega)
      have HX1 := Lib.hid (fun he : k' + 1 < pts.length => (⟨HDr.out.at he, HN.out (k' + 1) (by omega) he, HA.out.step k' he, HA.out.hi (k' + 1) he, HA.out.vlo (k' + 1) he, HA.out.vhi (k' + 1) he⟩ : _ ∧ _ ∧ _ ∧ _ ∧ _ ∧ _))
      have HNX := Lib.hid (fun h : t < In.tk pts k' => (fun j h1 h2 => by
        by_cases e : j = k'
        · subst e; exact h
        · exact HN.out j (by omega) h2 : ∀ j, k' ≤ j → j < pts.length → t < In.tk pts j))
      obtain ⟨x, hx⟩ : ∃ x, In.tk pts k' = x := ⟨_, rfl⟩
      obtain ⟨y, hy⟩ : ∃ y, In.vl pts k' = y := ⟨_, rfl⟩
      rw [hx] at hc1 HVE HVM a2 HNX HX1
      rw [hy] at hc2 HVM a4 a5
      have HXY := Lib.hid (And.intro hx hy)
      clear hx hy
      by_cases htx : t < x
      · go_wp2
        go_roundw
        case rel => exact ⟨k', by omega, by go_num, HNX.out htx, stepB HB.out (below_box wr _)⟩
        case measure => simp [intOf]
      · have htx' : x ≤ t := by omega
        by_cases hend : k' + 1 = pts.length
        · have HE := Lib.hid (HVE.out hend htx')
          rw [show pts.length - 1 = k' by omega, HXY.out.2] at HE
          have hei : (k' : Int) + 1 = (pts.length : Int) := by omega
          clear hend hk
          go_wp2
          go_ret
          exact ⟨ret_int HE.out.symm, stepB HBr.out (below_box wr _)⟩
        · obtain ⟨⟨b2, off2, hp2, hc3, hc4⟩, hn, s1, a3, a6, a7⟩ := HX1.out (by omega)
          simp only [Option.some.injEq, Addr.mk.injEq, and_true] at hp2
          obtain ⟨e1, e2⟩ := hp2
          subst e1 e2
          have HE := Lib.hid (HVM.out (by omega) htx')
          obtain ⟨x', hx'⟩ : ∃ x', In.tk pts (k' + 1) = x' := ⟨_, rfl⟩
          obtain ⟨y', hy'⟩ : ∃ y', In.vl pts (k' + 1) = y' := ⟨_, rfl⟩
          rw [hx'] at hc3 hn s1 a3 HE
          rw [hy'] at hc4 a6 a7 HE
          clear hx' hy'
          have hql := cell_lt hc3
          dsimp only at hql
          have hk1 : (k' : Int) + 1 < (pts.length : Int) := by omega
          have hke : ((k' : Int) + 1 == (pts.length : Int)) = false := by simp; omega
          have pb := In.prod_bound (v := y' - y) (s := t - x) (by omega) (by omega) (by omega) (by omega)
          have l1 := In.lin_lo (v := y' - y) (s := t - x) (d := x' - x) (by omega) (by omega) (by omega)
          have l2 := In.lin_hi (v := y' - y) (s := t - x) (d := x' - x) (by omega) (by omega) (by omega)
          obtain ⟨D, hD⟩ : ∃ D, (y' - y) * (t - x) = D := ⟨_, rfl⟩
          rw [hD] at HE pb l1 l2
          have C := Lib.hid (fun w => r_floor D (x' - x) w (by omega) (by omega) (by omega) (by omega))
          obtain ⟨q, hq⟩ : ∃ q, D / (x' - x) = q := ⟨_, rfl⟩
          rw [hq] at HE l1 l2 C
          have lq : -128 ≤ q ∧ q ≤ 128 := by omega
          clear l1 l2 hq
          obtain ⟨V, hV⟩ : ∃ V, V = (wr.alloc (.cells #[.int .i64 x, .int .i64 y] 37)).alloc (.cells #[.int .i64 x', .int .i64 y'] 37) := ⟨_, rfl⟩
          have HBV := Lib.hid (show Below w.heap.size w V by rw [hV]; exact stepB (stepB HBr.out (below_box _ _)) (below_box _ _))
          have hPV : Pt V wr.heap.size x y := by rw [hV]; exact (pt_new wr x y _).kept (below_box _ _)
          have hQV : Pt V (wr.heap.size + 1) x' y' := by rw [hV]; have := pt_new (wr.alloc (.cells #[.int .i64 x, .int .i64 y] 37)) x' y' 37; rwa [World.size_alloc] at this
          have k0 : ∀ u : Kin V, u.w.cell? ⟨wr.heap.size, 0, none⟩ = some (.int .i64 x) := fun u => kept_cell u.below hPV.1
          have k1 : ∀ u : Kin V, u.w.cell? ⟨wr.heap.size, 1, none⟩ = some (.int .i64 y) := fun u => kept_cell u.below hPV.2.1
          have k2 : ∀ u : Kin V, u.w.cell? ⟨wr.heap.size + 1, 0, none⟩ = some (.int .i64 x') := fun u => kept_cell u.below hQV.1
          have k3 : ∀ u : Kin V, u.w.cell? ⟨wr.heap.size + 1, 1, none⟩ = some (.int .i64 y') := fun u => kept_cell u.below hQV.2.1
          have hg : Below V.heap.size V V := Below.refl _ _
          go_upto_region 11 with fail
          rw [← hV]
          clear hV hPV hQV
          refine kin_region (by kernel_rfl) (by kernel_rfl) hg ?_
          repeat (go_big_quiet_step (first | (go_at_call 34; exact kinS (C.out _))))
          refine wpQuiet_nil ?_
          intro w' hw
          go_wp2
          go_ret
          exact ⟨ret_int HE.out.symm, stepB HBV.out hw⟩
    · obtain rfl : k = 0 := by omega
      obtain ⟨b1, off, hpp, hc1, hc2⟩ := HDr.out.at hp
      subst hpp
      rw [Nat.zero_mul, Nat.add_zero] at hc2
      have HE := Lib.hid (In.val_start HA.out (Int.le_of_lt (HN.out 0 (by omega) hp)))
      obtain ⟨y, hy⟩ : ∃ y, In.vl pts 0 = y := ⟨_, rfl⟩
      rw [hy] at hc2 HE
      clear hy
      go_wp2
      go_ret
      exact ⟨ret_int HE.out.symm, HBr.out⟩
theorem r_Value (e : In.Env) (p : Option Addr) (cap : Nat) (t : Int) (w : World) (hd : PtsAt w p e.pts) :
    Calls Try.prog 10 #[EV e p cap, .int .i64 t] w fun x w' => x = .returned (.int .i64 (In.valueOf e t)) ∧ Below w.heap.size w w' := by
  obtain ⟨on, pts, sus, ss, se, lp, ls, le⟩ := e
  cases hv : In.lv (⟨on, pts, sus, ss, se, lp, ls, le⟩ : In.Env)
  · have HE := Lib.hid (show In.valueOf (⟨on, pts, sus, ss, se, lp, ls, le⟩ : In.Env) t = 0 by unfold In.valueOf; rw [hv]; rfl)
    have CP := Lib.hid (hv ▸ r_live on pts sus ss se lp ls le p cap (w.alloc (.cells #[.bool on, .slice p pts.length cap, .bool sus, .int .i64 ss, .int .i64 se, .bool lp, .int .i64 ls, .int .i64 le] 24)) (hd.below (below_box _ _)))
    clear hd hv
    unfold EV at CP ⊢
    go_enter Try.func10, Try.ntmps10
    go_wp2_with (first | (go_at_call 33; ((with_reducible refine CP.out.mono ?_); rintro x' w1 ⟨rfl, hb1⟩; have HB1 := Lib.hid (stepB (below_box _ _) hb1); clear hb1)))
    go_ret
    exact ⟨ret_int HE.out.symm, HB1.out⟩
  · have HE := Lib.hid (show In.valueOf (⟨on, pts, sus, ss, se, lp, ls, le⟩ : In.Env) t = In.val pts t by unfold In.valueOf; rw [hv]; rfl)
    rw [HE.out]
    exact r_Value_live on pts sus ss se lp ls le p cap t w hd hv
end Go.Proofs.Ytcchfahdgmcpbaa

/-
  The contracts of the reference's ValidEnvelope and live: for any envelope and bounds, what the call returns; nothing that was there is changed.
-/
import Derived.Test.YtcchfahdgmcpbaaPVenv
import Derived.Test.YtcchfahdgmcpbaaRNum
import Derived.Test.YtcchfahdgmcpbaaLex
import Derived.Deep.DeepCutAuto
namespace Go.Proofs.Ytcchfahdgmcpbaa
open Go.RowKit

set_option maxRecDepth 100000 in
set_option maxHeartbeats 3200000 in
theorem r_venv_long (on : Bool) (pts : List (Int × Int)) (sus : Bool) (ss se : Int) (lp : Bool) (ls le : Int) (p : Option Addr) (cap : Nat) (lo hi : Int) (w : World) (h : 16 < (pts.length : Int)) :
    Calls Try.prog 8 #[EV (⟨on, pts, sus, ss, se, lp, ls, le⟩ : In.Env) p cap, .int .i64 lo, .int .i64 hi] w fun x w' => x = .returned (.bool (In.vld (⟨on, pts, sus, ss, se, lp, ls, le⟩ : In.Env) lo hi)) ∧ Below w.heap.size w w' := by
  have HE := Lib.hid (vld_long (e := (⟨on, pts, sus, ss, se, lp, ls, le⟩ : In.Env)) (lo := lo) (hi := hi) h)
  unfold EV
  go_enter Try.func8, Try.ntmps8
  go_wp2
  go_ret
  exact ⟨ret_bool HE.out.symm, below_box _ _⟩
set_option maxRecDepth 100000 in
set_option maxHeartbeats 3200000 in
theorem r_venv_none (on : Bool) (pts : List (Int × Int)) (sus : Bool) (ss se : Int) (lp : Bool) (ls le : Int) (p : Option Addr) (cap : Nat) (lo hi : Int) (w : World) (h : on = true) (h2 : pts = []) :
    Calls Try.prog 8 #[EV (⟨on, pts, sus, ss, se, lp, ls, le⟩ : In.Env) p cap, .int .i64 lo, .int .i64 hi] w fun x w' => x = .returned (.bool (In.vld (⟨on, pts, sus, ss, se, lp, ls, le⟩ : In.Env) lo hi)) ∧ Below w.heap.size w w' := by
  have HE := Lib.hid (vld_none (e := (⟨on, pts, sus, ss, se, lp, ls, le⟩ : In.Env)) (lo := lo) (hi := hi) h h2)
  subst h h2
  unfold EV
  go_enter Try.func8, Try.ntmps8
  go_wp2
  go_ret
  exact ⟨ret_bool HE.out.symm, below_box _ _⟩
set_option maxRecDepth 100000 in
set_option maxHeartbeats 3200000 in
theorem r_venv_mid (on : Bool) (pts : List (Int × Int)) (sus : Bool) (ss se : Int) (lp : Bool) (ls le : Int) (p : Option Addr) (cap : Nat) (lo hi : Int) (w : World) (hd : PtsAt w p pts) (h : (pts.length : Int) ≤ 16) (h1 : on = true → 0 < pts.length) (b1 b2 : Bool) (hb1 : In.cok sus ss se pts.length = b1) (hb2 : In.cok lp ls le pts.length = b2) :
    Calls Try.prog 8 #[EV (⟨on, pts, sus, ss, se, lp, ls, le⟩ : In.Env) p cap, .int .i64 lo, .int .i64 hi] w fun x w' => x = .returned (.bool (In.vld (⟨on, pts, sus, ss, se, lp, ls, le⟩ : In.Env) lo hi)) ∧ Below w.heap.size w w' := by
  have HVE := Lib.hid (vld_eq (e := (⟨on, pts, sus, ss, se, lp, ls, le⟩ : In.Env)) (lo := lo) (hi := hi) h h1)
  dsimp only at HVE
  have C1 := Lib.hid (fun w => hb1 ▸ r_paired sus ss se pts.length w)
  have C2 := Lib.hid (fun w => hb2 ▸ r_paired lp ls le pts.length w)
  rw [hb1, hb2] at HVE
  obtain ⟨W, hW⟩ : ∃ W, W = (w.alloc (.cells #[.bool on, .slice p pts.length cap, .bool sus, .int .i64 ss, .int .i64 se, .bool lp, .int .i64 ls, .int .i64 le] 24)) := ⟨_, rfl⟩
  have hWb : Below w.heap.size w W := by rw [hW]; exact below_box _ _
  obtain ⟨b, hbe⟩ : ∃ b, b = w.heap.size := ⟨_, rfl⟩
  have HEB := Lib.hid (show EB W b (⟨on, pts, sus, ss, se, lp, ls, le⟩ : In.Env) p cap by rw [hW, hbe]; exact eb_new w (⟨on, pts, sus, ss, se, lp, ls, le⟩ : In.Env) p cap _)
  have HD := Lib.hid (fun u (hu : Below w.heap.size w u) => hd.below hu)
  have HWb := Lib.hid hWb
  have q1 : on = false ∨ (on = true ∧ ((pts.length : Int) == 0) = false) := by
    cases ho : on
    · exact .inl rfl
    · have := h1 ho
      exact .inr ⟨rfl, by simp; exact List.length_pos_iff.1 (by omega)⟩
  have HWW := Lib.hid (fun u (hu : Below W.heap.size W u) => hWb.trans (hu.mono hWb.size))
  clear hd h1 hb1 hb2 hWb
  have HQ1 := Lib.hid q1
  clear q1
  have hlong : ¬ (16 < (pts.length : Int)) := by omega
  have hlongd : decide (16 < (pts.length : Int)) = false := decide_eq_false hlong
  obtain ⟨x0, x1, x2, x3, x4, x5, x6, x7⟩ := HEB.out
  unfold EV
  go_enter Try.func8, Try.ntmps8
  go_upto_region 1 with fail
  rw [← hW, ← hbe]
  clear hW hbe
  go_upto_region 2 with fail
  go_cut [22] (fun t wx => t = .bool false ∧ W = wx)
  case first =>
    rcases HQ1.out with rfl | ⟨rfl, q1⟩
    all_goals
      go_wp2
      go_meet
      exact ⟨rfl, rfl⟩
  case rest =>
    obtain ⟨rfl, rfl⟩ := hcut
    go_wp2
    clear x0 x1 x2 x3 x4 x5 x6 x7
    go_loopw [8] (fun i wr => ∃ k : Nat, k ≤ pts.length ∧ i = .int .i64 k ∧ Hid (∀ j, j < k → In.pok pts lo hi j = true) ∧ Hid (Below W.heap.size W wr)) (fun i _ => pts.length - (intOf i).toNat)
    case atStart => exact ⟨0, by omega, rfl, fun j hj => absurd hj (by omega), Below.refl _ _⟩
    case round =>
      obtain ⟨k, hk, rfl, HN, HB⟩ := hrel
      have HEr := Lib.hid (HEB.out.kept HB.out)
      obtain ⟨x0, x1, x2, x3, x4, x5, x6, x7⟩ := HEr.out
      by_cases hlt : k < pts.length
      · obtain ⟨bq, off, hp, hc1, hc2⟩ := (HD.out _ (HWW.out _ HB.out)).at hlt
        have HPR := Lib.hid (fun (h0 : 0 < k) => (HD.out _ (HWW.out _ HB.out)).at (show k - 1 < pts.length by omega))
        subst hp
        have HBk := Lib.hid (HWW.out _ (stepB HB.out (below_box wr (.cells #[.int .i64 (In.tk pts k), .int .i64 (In.vl pts k)] 37))))
        have HP := Lib.hid (show In.pok pts lo hi k = decide ((k = 0 → In.tk pts k = 0) ∧ (0 < k → In.tk pts (k - 1) < In.tk pts k) ∧ In.tk pts k ≤ 9999 ∧ lo ≤ In.vl pts k ∧ In.vl pts k ≤ hi) from rfl)
        obtain ⟨x, hx⟩ : ∃ x, In.tk pts k = x := ⟨_, rfl⟩
        obtain ⟨y, hy⟩ : ∃ y, In.vl pts k = y := ⟨_, rfl⟩
        rw [hx] at hc1 HP HBk
        rw [hy] at hc2 HP HBk
        have hbl := EB.lt HEr.out
        clear hx hy
        have HNX := Lib.hid (fun (h : In.pok pts lo hi k = true) => (fun j hj => by
          by_cases e : j = k
          · subst e; exact h
          · exact HN.out j (by omega) : ∀ j, j < k + 1 → In.pok pts lo hi j = true))
        have HBw := Lib.hid (stepB HB.out (below_box wr (.cells #[.int .i64 x, .int .i64 y] 37)))
        have hlti : (k : Int) < (pts.length : Int) := by omega
        go_upto_region 8 with fail
        by_cases hk0 : k = 0
        · subst hk0
          rw [Nat.zero_mul, Nat.add_zero] at hc1 hc2
          by_cases g1 : x = 0
          · subst g1
            by_cases g3 : y < lo
            · have HBAD := Lib.hid (show In.pok pts lo hi 0 = false by rw [HP.out]; exact decide_eq_false (by omega))
              go_quiet (fail)
              go_wp2
              go_ret
              exact ⟨ret_bool (by rw [HVE.out, In.pts_bad _ hlt HBAD.out]; rfl), below_drewN' HBk.out _⟩
            · have d3 : decide (y < lo) = false := decide_eq_false g3
              by_cases g4 : hi < y
              · have HBAD := Lib.hid (show In.pok pts lo hi 0 = false by rw [HP.out]; exact decide_eq_false (by omega))
                go_quiet (fail)
                go_wp2
                go_ret
                exact ⟨ret_bool (by rw [HVE.out, In.pts_bad _ hlt HBAD.out]; rfl), below_drewN' HBk.out _⟩
              · have d4 : decide (hi < y) = false := decide_eq_false g4
                have HOK := Lib.hid (show In.pok pts lo hi 0 = true by rw [HP.out]; exact decide_eq_true (by exact ⟨fun _ => rfl, fun h => absurd h (by omega), by omega, by omega, by omega⟩))
                go_quiet (fail)
                go_wp2
                go_roundw
                case rel => exact ⟨_, hlt, by go_num, HNX.out HOK.out, below_drewN' HBw.out _⟩
                case measure => simp [intOf]; omega
          · have d1 : (x != 0) = true := by simpa using g1
            have HBAD := Lib.hid (show In.pok pts lo hi 0 = false by rw [HP.out]; exact decide_eq_false (by exact fun h => g1 (h.1 rfl)))
            go_quiet (fail)
            go_wp2
            go_ret
            exact ⟨ret_bool (by rw [HVE.out, In.pts_bad _ hlt HBAD.out]; rfl), below_drewN' HBk.out _⟩
        · obtain ⟨k', rfl⟩ : ∃ k', k = k' + 1 := ⟨k - 1, by omega⟩
          obtain ⟨b2, off2, hp2, hc3, _⟩ := HPR.out (by omega)
          simp only [Option.some.injEq, Addr.mk.injEq, and_true] at hp2
          obtain ⟨e1, e2⟩ := hp2
          subst e1 e2
          rw [show k' + 1 - 1 = k' from rfl] at hc3 HP
          obtain ⟨x', hx'⟩ : ∃ x', In.tk pts k' = x' := ⟨_, rfl⟩
          rw [hx'] at hc3 HP
          clear hx' hk0
          have hkw : IntKind.i64.wrap (k' : Int) = (k' : Int) := IntWalk.i64_in _ (by omega)
          have hql := cell_lt hc3
          dsimp only at hql
          have hkz : ((k' : Int) + 1 == 0) = false := by simp; omega
          have hkp : (0 : Int) < (k' : Int) + 1 := by omega
          have hkl : (k' : Int) < (pts.length : Int) := by omega
          have hkl1 : (k' : Int) + 1 < (pts.length : Int) := by omega
          clear hlti
          by_cases g1 : x ≤ x'
          · have HBAD := Lib.hid (show In.pok pts lo hi (k' + 1) = false by rw [HP.out]; exact decide_eq_false (by omega))
            go_quiet (fail)
            go_wp2
            go_ret
            exact ⟨ret_bool (by rw [HVE.out, In.pts_bad _ hlt HBAD.out]; rfl), below_drewN' HBk.out _⟩
          · have d1 : decide (x ≤ x') = false := decide_eq_false g1
            by_cases g2 : 9999 < x
            · have HBAD := Lib.hid (show In.pok pts lo hi (k' + 1) = false by rw [HP.out]; exact decide_eq_false (by omega))
              go_quiet (fail)
              go_wp2
              go_ret
              exact ⟨ret_bool (by rw [HVE.out, In.pts_bad _ hlt HBAD.out]; rfl), below_drewN' HBk.out _⟩
            · have d2 : decide (9999 < x) = false := decide_eq_false g2
              by_cases g3 : y < lo
              · have HBAD := Lib.hid (show In.pok pts lo hi (k' + 1) = false by rw [HP.out]; exact decide_eq_false (by omega))
                go_quiet (fail)
                go_wp2
                go_ret
                exact ⟨ret_bool (by rw [HVE.out, In.pts_bad _ hlt HBAD.out]; rfl), below_drewN' HBk.out _⟩
              · have d3 : decide (y < lo) = false := decide_eq_false g3
                by_cases g4 : hi < y
                · have HBAD := Lib.hid (show In.pok pts lo hi (k' + 1) = false by rw [HP.out]; exact decide_eq_false (by omega))
                  go_quiet (fail)
                  go_wp2
                  go_ret
                  exact ⟨ret_bool (by rw [HVE.out, In.pts_bad _ hlt HBAD.out]; rfl), below_drewN' HBk.out _⟩
                · have d4 : decide (hi < y) = false := decide_eq_false g4
                  have HOK := Lib.hid (show In.pok pts lo hi (k' + 1) = true by rw [HP.out]; exact decide_eq_true (by exact ⟨fun h => absurd h (by omega), fun _ => by omega, by omega, by omega, by omega⟩))
                  go_quiet (fail)
                  go_wp2
                  go_roundw
                  case rel => exact ⟨_, hlt, by go_num, HNX.out HOK.out, below_drewN' HBw.out _⟩
                  case measure => simp [intOf]; omega
      · have HALL := Lib.hid (show In.pts pts lo hi = true from In.pts_mk fun j hj => HN.out j (by omega))
        have HBr := Lib.hid (HWW.out _ HB.out)
        rw [HALL.out] at HVE
        have HF := Lib.hid (show In.vld _ lo hi = (b1 && b2) from HVE.out.trans (by simp))
        cases b1
        · go_wp2_with (first | (go_at_call 30; ((with_reducible refine (C1.out _).mono ?_); rintro x' w' ⟨rfl, rfl⟩)))
          go_ret
          exact ⟨ret_bool (by rw [HF.out]; rfl), HBr.out⟩
        · go_wp2_with (first | (go_at_call 30; ((with_reducible refine (C1.out _).mono ?_); rintro x' w' ⟨rfl, rfl⟩)) | (go_at_call 30; ((with_reducible refine (C2.out _).mono ?_); rintro x' w' ⟨rfl, rfl⟩)))
          go_ret
          exact ⟨ret_bool (by rw [HF.out]; rfl), HBr.out⟩
theorem r_venv (e : In.Env) (p : Option Addr) (cap : Nat) (lo hi : Int) (w : World) (hd : PtsAt w p e.pts) :
    Calls Try.prog 8 #[EV e p cap, .int .i64 lo, .int .i64 hi] w fun x w' => x = .returned (.bool (In.vld e lo hi)) ∧ Below w.heap.size w w' := by
  obtain ⟨on, pts, sus, ss, se, lp, ls, le⟩ := e
  by_cases h : (pts.length : Int) ≤ 16
  · by_cases h1 : on = true → 0 < pts.length
    · exact r_venv_mid on pts sus ss se lp ls le p cap lo hi w hd h h1 _ _ rfl rfl
    · have h2 : on = true ∧ pts = [] := by
        cases ho : on
        · exact absurd (fun h => absurd h (by simp [ho])) h1
        · exact ⟨rfl, by
            cases hp : pts
            · rfl
            · exact absurd (fun _ => by simp [hp]) h1⟩
      exact r_venv_none on pts sus ss se lp ls le p cap lo hi w h2.1 h2.2
  · exact r_venv_long on pts sus ss se lp ls le p cap lo hi w (by omega)
theorem r_live (on : Bool) (pts : List (Int × Int)) (sus : Bool) (ss se : Int) (lp : Bool) (ls le : Int) (p : Option Addr) (cap : Nat) (w : World) (hd : PtsAt w p pts) :
    Calls Try.prog 33 #[EV (⟨on, pts, sus, ss, se, lp, ls, le⟩ : In.Env) p cap] w fun x w' => x = .returned (.bool (In.lv (⟨on, pts, sus, ss, se, lp, ls, le⟩ : In.Env))) ∧ Below w.heap.size w w' := by
  cases on
  · have HE := Lib.hid (show In.lv (⟨false, pts, sus, ss, se, lp, ls, le⟩ : In.Env) = false from rfl)
    unfold EV
    go_enter Try.func33, Try.ntmps33
    go_wp2
    go_ret
    exact ⟨ret_bool HE.out.symm, below_box _ _⟩
  · have C := Lib.hid (r_venv (⟨true, pts, sus, ss, se, lp, ls, le⟩ : In.Env) p cap (-64) 64 (w.alloc (.cells #[.bool true, .slice p pts.length cap, .bool sus, .int .i64 ss, .int .i64 se, .bool lp, .int .i64 ls, .int .i64 le] 24)) (hd.below (below_box _ _)))
    have HE := Lib.hid (show In.lv (⟨true, pts, sus, ss, se, lp, ls, le⟩ : In.Env) = In.vld (⟨true, pts, sus, ss, se, lp, ls, le⟩ : In.Env) (-64) 64 from rfl)
    rw [HE.out]
    obtain ⟨v, hv⟩ : ∃ v, In.vld (⟨true, pts, sus, ss, se, lp, ls, le⟩ : In.Env) (-64) 64 = v := ⟨_, rfl⟩
    rw [hv] at C ⊢
    clear hd hv HE
    unfold EV at C ⊢
    cases v
    all_goals
      go_enter Try.func33, Try.ntmps33
      go_wp2_with (first | (go_at_call 8; ((with_reducible refine C.out.mono ?_); rintro x' w1 ⟨rfl, hb1⟩; have HB1 := Lib.hid (stepB (below_box _ _) hb1); clear hb1)))
      go_ret
      exact ⟨rfl, HB1.out⟩
end Go.Proofs.Ytcchfahdgmcpbaa

/-
  The contract of package inst's ValidEnvelope: for any envelope and bounds, what the call returns; nothing that was there is changed.
-/
import Derived.Test.YtcchfahdgmcpbaaPPts
namespace Go.Proofs.Ytcchfahdgmcpbaa
open Go.RowKit

theorem vld_long {e : In.Env} {lo hi : Int} (h : 16 < (e.pts.length : Int)) : In.vld e lo hi = false := by
  unfold In.vld; rw [decide_eq_false (by omega)]; rfl
theorem vld_none {e : In.Env} {lo hi : Int} (h1 : e.on = true) (h2 : e.pts = []) : In.vld e lo hi = false := by
  simp [In.vld, h1, h2]
theorem vld_eq {e : In.Env} {lo hi : Int} (h : (e.pts.length : Int) ≤ 16) (h1 : e.on = true → 0 < e.pts.length) : In.vld e lo hi = (In.pts e.pts lo hi && In.cok e.sus e.ss e.se e.pts.length && In.cok e.lp e.ls e.le e.pts.length) := by
  have e2 : (!(e.on && decide (e.pts.length = 0))) = true := by
    cases ho : e.on
    · rfl
    · have := h1 ho
      rw [decide_eq_false (by omega)]; rfl
  unfold In.vld
  rw [decide_eq_true h, e2]
  rfl
set_option maxHeartbeats 1600000 in
theorem p_venv_long (on : Bool) (pts : List (Int × Int)) (sus : Bool) (ss se : Int) (lp : Bool) (ls le : Int) (p : Option Addr) (cap : Nat) (lo hi : Int) (w : World) (h : 16 < (pts.length : Int)) :
    Calls Try.prog 7 #[EV (⟨on, pts, sus, ss, se, lp, ls, le⟩ : In.Env) p cap, .int .i64 lo, .int .i64 hi] w fun x w' => x = .returned (.bool (In.vld (⟨on, pts, sus, ss, se, lp, ls, le⟩ : In.Env) lo hi)) ∧ Below w.heap.size w w' := by
  have HE := Lib.hid (vld_long (e := (⟨on, pts, sus, ss, se, lp, ls, le⟩ : In.Env)) (lo := lo) (hi := hi) h)
  unfold EV
  go_enter Try.func7, Try.ntmps7
  go_wp2
  go_ret
  exact ⟨ret_bool HE.out.symm, below_box _ _⟩
set_option maxHeartbeats 1600000 in
theorem p_venv_none (on : Bool) (pts : List (Int × Int)) (sus : Bool) (ss se : Int) (lp : Bool) (ls le : Int) (p : Option Addr) (cap : Nat) (lo hi : Int) (w : World) (h : on = true) (h2 : pts = []) :
    Calls Try.prog 7 #[EV (⟨on, pts, sus, ss, se, lp, ls, le⟩ : In.Env) p cap, .int .i64 lo, .int .i64 hi] w fun x w' => x = .returned (.bool (In.vld (⟨on, pts, sus, ss, se, lp, ls, le⟩ : In.Env) lo hi)) ∧ Below w.heap.size w w' := by
  have HE := Lib.hid (vld_none (e := (⟨on, pts, sus, ss, se, lp, ls, le⟩ : In.Env)) (lo := lo) (hi := hi) h h2)
  subst h h2
  unfold EV
  go_enter Try.func7, Try.ntmps7
  go_wp2
  go_ret
  exact ⟨ret_bool HE.out.symm, below_box _ _⟩
set_option maxHeartbeats 1600000 in
theorem p_venv_p0 (on : Bool) (pts : List (Int × Int)) (sus : Bool) (ss se : Int) (lp : Bool) (ls le : Int) (p : Option Addr) (cap : Nat) (lo hi : Int) (w : World) (hd : PtsAt w p pts) (h : (pts.length : Int) ≤ 16) (h1 : on = true → 0 < pts.length) (h3 : In.pts pts lo hi = false) :
    Calls Try.prog 7 #[EV (⟨on, pts, sus, ss, se, lp, ls, le⟩ : In.Env) p cap, .int .i64 lo, .int .i64 hi] w fun x w' => x = .returned (.bool (In.vld (⟨on, pts, sus, ss, se, lp, ls, le⟩ : In.Env) lo hi)) ∧ Below w.heap.size w w' := by
  have HE := Lib.hid (vld_eq (e := (⟨on, pts, sus, ss, se, lp, ls, le⟩ : In.Env)) (lo := lo) (hi := hi) h h1)
  dsimp only at HE
  rw [h3] at HE
  have HC := Lib.hid (eb_new w (⟨on, pts, sus, ss, se, lp, ls, le⟩ : In.Env) p cap 24)
  have CP := Lib.hid (h3 ▸ p_points pts p cap lo hi (w.alloc (.cells #[.bool on, .slice p pts.length cap, .bool sus, .int .i64 ss, .int .i64 se, .bool lp, .int .i64 ls, .int .i64 le] 24)) (hd.below (below_box _ _)) h)
  have HE := Lib.hid (show In.vld (⟨on, pts, sus, ss, se, lp, ls, le⟩ : In.Env) lo hi = false by rw [HE.out]; simp)
  have q1 : on = false ∨ (on = true ∧ ((pts.length : Int) == 0) = false) := by
    cases ho : on
    · exact .inl rfl
    · have := h1 ho
      exact .inr ⟨rfl, by simp; exact List.length_pos_iff.1 (by omega)⟩
  clear hd
  clear h1
  clear h3
  unfold EV
  rcases q1 with rfl | ⟨rfl, q1⟩
  all_goals
    go_enter Try.func7, Try.ntmps7
    go_wp2_with (first | (go_at_call 28; ((with_reducible refine CP.out.mono ?_); rintro x' w1 ⟨rfl, hb1⟩; obtain ⟨x0, x1, x2, x3, x4, x5, x6, x7⟩ := HC.out.kept hb1; have HB1 := Lib.hid (stepB (below_box _ _) hb1); clear hb1)))
    go_ret
    exact ⟨ret_bool HE.out.symm, HB1.out⟩
set_option maxHeartbeats 1600000 in
theorem p_venv_p1 (on : Bool) (pts : List (Int × Int)) (sus : Bool) (ss se : Int) (lp : Bool) (ls le : Int) (p : Option Addr) (cap : Nat) (lo hi : Int) (w : World) (hd : PtsAt w p pts) (h : (pts.length : Int) ≤ 16) (h1 : on = true → 0 < pts.length) (h3 : In.pts pts lo hi = true) (h4 : In.cok sus ss se pts.length = false) :
    Calls Try.prog 7 #[EV (⟨on, pts, sus, ss, se, lp, ls, le⟩ : In.Env) p cap, .int .i64 lo, .int .i64 hi] w fun x w' => x = .returned (.bool (In.vld (⟨on, pts, sus, ss, se, lp, ls, le⟩ : In.Env) lo hi)) ∧ Below w.heap.size w w' := by
  have HE := Lib.hid (vld_eq (e := (⟨on, pts, sus, ss, se, lp, ls, le⟩ : In.Env)) (lo := lo) (hi := hi) h h1)
  dsimp only at HE
  rw [h3, h4] at HE
  have HC := Lib.hid (eb_new w (⟨on, pts, sus, ss, se, lp, ls, le⟩ : In.Env) p cap 24)
  have CP := Lib.hid (h3 ▸ p_points pts p cap lo hi (w.alloc (.cells #[.bool on, .slice p pts.length cap, .bool sus, .int .i64 ss, .int .i64 se, .bool lp, .int .i64 ls, .int .i64 le] 24)) (hd.below (below_box _ _)) h)
  have C1 := Lib.hid (fun w => h4 ▸ p_circle sus ss se pts.length w)
  have HE := Lib.hid (show In.vld (⟨on, pts, sus, ss, se, lp, ls, le⟩ : In.Env) lo hi = false by rw [HE.out]; simp)
  have q1 : on = false ∨ (on = true ∧ ((pts.length : Int) == 0) = false) := by
    cases ho : on
    · exact .inl rfl
    · have := h1 ho
      exact .inr ⟨rfl, by simp; exact List.length_pos_iff.1 (by omega)⟩
  clear hd
  clear h1
  clear h3
  clear h4
  unfold EV
  rcases q1 with rfl | ⟨rfl, q1⟩
  all_goals
    go_enter Try.func7, Try.ntmps7
    go_wp2_with (first | (go_at_call 28; ((with_reducible refine CP.out.mono ?_); rintro x' w1 ⟨rfl, hb1⟩; obtain ⟨x0, x1, x2, x3, x4, x5, x6, x7⟩ := HC.out.kept hb1; have HB1 := Lib.hid (stepB (below_box _ _) hb1); clear hb1)) | (go_at_call 29; ((with_reducible refine (C1.out _).mono ?_); rintro x' w' ⟨rfl, rfl⟩)))
    go_ret
    exact ⟨ret_bool HE.out.symm, HB1.out⟩
set_option maxHeartbeats 1600000 in
theorem p_venv_p2 (on : Bool) (pts : List (Int × Int)) (sus : Bool) (ss se : Int) (lp : Bool) (ls le : Int) (p : Option Addr) (cap : Nat) (lo hi : Int) (w : World) (hd : PtsAt w p pts) (h : (pts.length : Int) ≤ 16) (h1 : on = true → 0 < pts.length) (h3 : In.pts pts lo hi = true) (h4 : In.cok sus ss se pts.length = true) (b : Bool) (h5 : In.cok lp ls le pts.length = b) :
    Calls Try.prog 7 #[EV (⟨on, pts, sus, ss, se, lp, ls, le⟩ : In.Env) p cap, .int .i64 lo, .int .i64 hi] w fun x w' => x = .returned (.bool (In.vld (⟨on, pts, sus, ss, se, lp, ls, le⟩ : In.Env) lo hi)) ∧ Below w.heap.size w w' := by
  have HE := Lib.hid (vld_eq (e := (⟨on, pts, sus, ss, se, lp, ls, le⟩ : In.Env)) (lo := lo) (hi := hi) h h1)
  dsimp only at HE
  rw [h3, h4, h5] at HE
  have HC := Lib.hid (eb_new w (⟨on, pts, sus, ss, se, lp, ls, le⟩ : In.Env) p cap 24)
  have CP := Lib.hid (h3 ▸ p_points pts p cap lo hi (w.alloc (.cells #[.bool on, .slice p pts.length cap, .bool sus, .int .i64 ss, .int .i64 se, .bool lp, .int .i64 ls, .int .i64 le] 24)) (hd.below (below_box _ _)) h)
  have C1 := Lib.hid (fun w => h4 ▸ p_circle sus ss se pts.length w)
  have C2 := Lib.hid (fun w => h5 ▸ p_circle lp ls le pts.length w)
  have HE := Lib.hid (show In.vld (⟨on, pts, sus, ss, se, lp, ls, le⟩ : In.Env) lo hi = b by rw [HE.out]; simp)
  have q1 : on = false ∨ (on = true ∧ ((pts.length : Int) == 0) = false) := by
    cases ho : on
    · exact .inl rfl
    · have := h1 ho
      exact .inr ⟨rfl, by simp; exact List.length_pos_iff.1 (by omega)⟩
  clear hd
  clear h1
  clear h3
  clear h4
  clear h5
  unfold EV
  rcases q1 with rfl | ⟨rfl, q1⟩ <;> cases b
  all_goals
    go_enter Try.func7, Try.ntmps7
    go_wp2_with (first | (go_at_call 28; ((with_reducible refine CP.out.mono ?_); rintro x' w1 ⟨rfl, hb1⟩; obtain ⟨x0, x1, x2, x3, x4, x5, x6, x7⟩ := HC.out.kept hb1; have HB1 := Lib.hid (stepB (below_box _ _) hb1); clear hb1)) | (go_at_call 29; ((with_reducible refine (C1.out _).mono ?_); rintro x' w' ⟨rfl, rfl⟩)) | (go_at_call 29; ((with_reducible refine (C2.out _).mono ?_); rintro x' w' ⟨rfl, rfl⟩)))
    go_ret
    exact ⟨ret_bool HE.out.symm, HB1.out⟩
theorem p_venv (e : In.Env) (p : Option Addr) (cap : Nat) (lo hi : Int) (w : World) (hd : PtsAt w p e.pts) :
    Calls Try.prog 7 #[EV e p cap, .int .i64 lo, .int .i64 hi] w fun x w' => x = .returned (.bool (In.vld e lo hi)) ∧ Below w.heap.size w w' := by
  obtain ⟨on, pts, sus, ss, se, lp, ls, le⟩ := e
  by_cases h : (pts.length : Int) ≤ 16
  · by_cases h1 : on = true → 0 < pts.length
    · cases h3 : In.pts pts lo hi
      · exact p_venv_p0 on pts sus ss se lp ls le p cap lo hi w hd h h1 h3
      · cases h4 : In.cok sus ss se pts.length
        · exact p_venv_p1 on pts sus ss se lp ls le p cap lo hi w hd h h1 h3 h4
        · exact p_venv_p2 on pts sus ss se lp ls le p cap lo hi w hd h h1 h3 h4 _ rfl
    · have h2 : on = true ∧ pts = [] := by
        cases ho : on
        · exact absurd (fun h => absurd h (by simp [ho])) h1
        · exact ⟨rfl, by
            cases hp : pts
            · rfl
            · exact absurd (fun _ => by simp [hp]) h1⟩
      exact p_venv_none on pts sus ss se lp ls le p cap lo hi w h2.1 h2.2
  · exact p_venv_long on pts sus ss se lp ls le p cap lo hi w (by omega)
theorem p_venv_v (e : In.Env) (p : Option Addr) (cap : Nat) (lo hi : Int) (w : World) (hd : PtsAt w p e.pts) {v : Bool} (h : In.vld e lo hi = v) :
    Calls Try.prog 7 #[EV e p cap, .int .i64 lo, .int .i64 hi] w fun x w' => x = .returned (.bool v) ∧ Below w.heap.size w w' := h ▸ p_venv e p cap lo hi w hd
end Go.Proofs.Ytcchfahdgmcpbaa

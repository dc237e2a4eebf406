/-
  Contracts of package tone's functions of numbers, for any numbers: what the call returns; memory stays as it was.
-/
import Derived.Test.YtgoeflfnlanlnaaDoorWalkB
import Derived.Test.YtgoeflfnlanlnaaDoorTotal
namespace Go.Proofs.YtgoeflfnlanlnaaDoor
open Go.RowKit

theorem t_next (s : Int) (w : World) :
    Calls Tryd.prog 8 #[.int .i64 s] w fun e w' => e = .returned (.int .i64 (Tm.tNext s)) ∧ w = w' := by
  unfold Tm.tNext
  by_cases h : 0 ≤ s ∧ s ≤ 2147483647
  · rw [if_pos h]
    exact next_any s w h.1 h.2
  · rw [if_neg h]
    go_enter Tryd.func8, Tryd.ntmps8
    go_wp2_with (first | (go_at_call 33; ((with_reducible refine (within_no _ _ _ _ (by omega)).mono ?_); rintro e w' ⟨rfl, rfl⟩)))
    go_ret
    exact ⟨rfl, rfl⟩

theorem t_exp (v : Int) (w : World) :
    Calls Tryd.prog 12 #[.int .i64 v] w fun e w' => e = .returned (.int .i64 (Tm.tExp v)) ∧ w = w' := by
  unfold Tm.tExp
  by_cases h : -7680 ≤ v ∧ v ≤ 7680
  · rw [if_pos h]
    exact exp_any v w h.1 h.2
  · rw [if_neg h]
    go_enter Tryd.func12, Tryd.ntmps12
    go_wp2_with (first | (go_at_call 33; ((with_reducible refine (within_no _ _ _ _ (by omega)).mono ?_); rintro e w' ⟨rfl, rfl⟩)))
    go_ret
    exact ⟨rfl, rfl⟩

theorem t_period (p : Int) (w : World) :
    Calls Tryd.prog 16 #[.int .i64 p] w fun e w' => e = .returned (.int .i64 (Tm.tPer p)) ∧ w = w' := by
  unfold Tm.tPer
  by_cases h : -3840 ≤ p ∧ p ≤ 11519
  · rw [if_pos h]
    exact period_any p w h.1 h.2
  · rw [if_neg h]
    go_enter Tryd.func16, Tryd.ntmps16
    go_wp2_with (first | (go_at_call 39; refine (isPitch_no _ _ (by omega)).mono ?_; rintro e w' ⟨rfl, rfl⟩))
    go_ret
    exact ⟨rfl, rfl⟩

theorem t_pitchOf (n : Int) (w : World) :
    Calls Tryd.prog 18 #[.int .i64 n] w fun e w' => e = .returned (.int .i64 (Tm.tPit n)) ∧ w = w' := by
  unfold Tm.tPit
  by_cases h : 1 ≤ n ∧ n ≤ 1048576
  · rw [if_pos h]
    exact (pitchOf_any n w h.1 h.2).mono fun e w' ⟨⟨k, he, hk⟩, hw⟩ => ⟨by rw [he, Tm.pit_eq hk], hw⟩
  · rw [if_neg h]
    go_enter Tryd.func18, Tryd.ntmps18
    go_wp2_with (first | (go_at_call 33; ((with_reducible refine (within_no _ _ _ _ (by omega)).mono ?_); rintro e w' ⟨rfl, rfl⟩)))
    go_ret
    exact ⟨rfl, rfl⟩

theorem t_freq (r p : Int) (w : World) :
    Calls Tryd.prog 14 #[.int .i64 r, .int .i64 p] w fun e w' => e = .returned (.int .i64 (Tm.tFreq r p)) ∧ w = w' := by
  unfold Tm.tFreq
  by_cases h : (1 ≤ r ∧ r ≤ 65535) ∧ -3840 ≤ p ∧ p ≤ 11519
  · rw [if_pos h]
    exact freq_any r p w h.1.1 h.1.2 h.2.1 h.2.2
  · rw [if_neg h]
    by_cases h1 : 1 ≤ r ∧ r ≤ 65535
    · go_enter Tryd.func14, Tryd.ntmps14
      go_wp2_with (first | (go_at_call 33; ((with_reducible refine (within_yes _ _ _ _ h1.1 h1.2).mono ?_); rintro e w' ⟨rfl, rfl⟩)) | (go_at_call 39; refine (isPitch_no _ _ (by omega)).mono ?_; rintro e w' ⟨rfl, rfl⟩))
      go_ret
      exact ⟨rfl, rfl⟩
    · go_enter Tryd.func14, Tryd.ntmps14
      go_wp2_with (first | (go_at_call 33; ((with_reducible refine (within_no _ _ _ _ (by omega)).mono ?_); rintro e w' ⟨rfl, rfl⟩)))
      go_ret
      exact ⟨rfl, rfl⟩

theorem t_pow (i : Int) (w : World) :
    Calls Tryd.prog 10 #[.int .i64 i] w fun e w' => e = .returned (.int .i64 (Tm.tPow i)) ∧ w = w' := by
  unfold Tm.tPow
  by_cases h : 0 ≤ i ∧ i ≤ 767
  · rw [if_pos h]
    go_enter Tryd.func10, Tryd.ntmps10
    go_wp2_with (first | (go_at_call 33; ((with_reducible refine (within_yes _ _ _ _ h.1 h.2).mono ?_); rintro e w' ⟨rfl, rfl⟩)) | (go_at_call 35; refine (power_int _ _ h.1 h.2).mono ?_; rintro e w' ⟨rfl, rfl⟩))
    go_ret
    exact ⟨ret_int rfl, rfl⟩
  · rw [if_neg h]
    go_enter Tryd.func10, Tryd.ntmps10
    go_wp2_with (first | (go_at_call 33; ((with_reducible refine (within_no _ _ _ _ (by omega)).mono ?_); rintro e w' ⟨rfl, rfl⟩)))
    go_ret
    exact ⟨rfl, rfl⟩

theorem t_freqOf (r n : Int) (w : World) :
    Calls Tryd.prog 20 #[.int .i64 r, .int .i64 n] w fun e w' => e = .returned (.int .i64 (Tm.tFrOf r n)) ∧ w = w' := by
  unfold Tm.tFrOf
  by_cases h : (1 ≤ r ∧ r ≤ 65535) ∧ 1 ≤ n ∧ n ≤ 1048576
  · rw [if_pos h]
    obtain ⟨⟨a1, a2⟩, a3, a4⟩ := h
    go_enter Tryd.func20, Tryd.ntmps20
    go_wp2_with (first | (go_at_call 33; ((with_reducible refine (within_yes _ _ _ _ a1 a2).mono ?_); rintro e w' ⟨rfl, rfl⟩)) | (go_at_call 33; ((with_reducible refine (within_yes _ _ _ _ a3 a4).mono ?_); rintro e w' ⟨rfl, rfl⟩)))
    go_ret
    exact ⟨ret_int rfl, rfl⟩
  · rw [if_neg h]
    by_cases h1 : 1 ≤ r ∧ r ≤ 65535
    · have hno : n < 1 ∨ 1048576 < n := by omega
      go_enter Tryd.func20, Tryd.ntmps20
      go_wp2_with (first | (go_at_call 33; ((with_reducible refine (within_yes _ _ _ _ h1.1 h1.2).mono ?_); rintro e w' ⟨rfl, rfl⟩)) | (go_at_call 33; ((with_reducible refine (within_no _ _ _ _ hno).mono ?_); rintro e w' ⟨rfl, rfl⟩)))
      go_ret
      exact ⟨rfl, rfl⟩
    · go_enter Tryd.func20, Tryd.ntmps20
      go_wp2_with (first | (go_at_call 33; ((with_reducible refine (within_no _ _ _ _ (by omega)).mono ?_); rintro e w' ⟨rfl, rfl⟩)))
      go_ret
      exact ⟨rfl, rfl⟩

theorem t_step (p o : Int) (w : World) :
    Calls Tryd.prog 22 #[.int .i64 p, .int .i64 o] w fun e w' => e = .returned (.int .i64 (Tm.tStep p o)) ∧ w = w' := by
  unfold Tm.tStep
  by_cases h : (0 ≤ p ∧ p ≤ 68719476736) ∧ 1000 ≤ o ∧ o ≤ 96000
  · rw [if_pos h]
    obtain ⟨⟨a1, a2⟩, a3, a4⟩ := h
    go_enter Tryd.func22, Tryd.ntmps22
    go_wp2_with (first | (go_at_call 33; ((with_reducible refine (within_yes _ _ _ _ a1 a2).mono ?_); rintro e w' ⟨rfl, rfl⟩)) | (go_at_call 33; ((with_reducible refine (within_yes _ _ _ _ a3 a4).mono ?_); rintro e w' ⟨rfl, rfl⟩)))
    all_goals
      go_ret
      exact ⟨ret_int (by omega), rfl⟩
  · rw [if_neg h]
    by_cases h1 : 0 ≤ p ∧ p ≤ 68719476736
    · have hno : o < 1000 ∨ 96000 < o := by omega
      go_enter Tryd.func22, Tryd.ntmps22
      go_wp2_with (first | (go_at_call 33; ((with_reducible refine (within_yes _ _ _ _ h1.1 h1.2).mono ?_); rintro e w' ⟨rfl, rfl⟩)) | (go_at_call 33; ((with_reducible refine (within_no _ _ _ _ hno).mono ?_); rintro e w' ⟨rfl, rfl⟩)))
      go_ret
      exact ⟨rfl, rfl⟩
    · go_enter Tryd.func22, Tryd.ntmps22
      go_wp2_with (first | (go_at_call 33; ((with_reducible refine (within_no _ _ _ _ (by omega)).mono ?_); rintro e w' ⟨rfl, rfl⟩)))
      go_ret
      exact ⟨rfl, rfl⟩

theorem t_semi (p : Int) (w : World) :
    Calls Tryd.prog 24 #[.int .i64 p] w fun e w' => e = .returned (.int .i64 (Tm.tSemi p)) ∧ w = w' := by
  unfold Tm.tSemi
  by_cases h : -3840 ≤ p ∧ p ≤ 11519
  · rw [if_pos h]
    obtain ⟨a1, a2⟩ := h
    go_enter Tryd.func24, Tryd.ntmps24
    go_wp2_with (first | (go_at_call 39; refine (isPitch_yes _ _ a1 a2).mono ?_; rintro e w' ⟨rfl, rfl⟩))
    go_ret
    exact ⟨ret_int (by omega), rfl⟩
  · rw [if_neg h]
    go_enter Tryd.func24, Tryd.ntmps24
    go_wp2_with (first | (go_at_call 39; refine (isPitch_no _ _ (by omega)).mono ?_; rintro e w' ⟨rfl, rfl⟩))
    go_ret
    exact ⟨rfl, rfl⟩

end Go.Proofs.YtgoeflfnlanlnaaDoor

/-
  Contracts of the reference's functions of numbers that make no memory: for the numbers that each theorem names, what the call returns.
-/
import Derived.Test.YtgoeflfnlanlnaaDoorRefNote
import Derived.Test.YtgoeflfnlanlnaaDoorTotal
import Derived.Test.YtgoeflfnlanlnaaDoorBits
namespace Go.Proofs.YtgoeflfnlanlnaaDoor
open Go.RowKit

theorem tdiv_below {a : Int} (b : Int) : a.tdiv b = -((-a).tdiv b) := by
  rw [Int.neg_tdiv]; omega
theorem tmod_below {a : Int} (b : Int) : a.tmod b = -((-a).tmod b) := by
  rw [Int.neg_tmod]; omega

theorem rfloor64 (a : Int) (w : World) (h1 : -9223372036854775808 ≤ a) (h2 : a ≤ 9223372036854775807) :
    Calls Tryd.prog 42 #[.int .i64 a, .int .i64 64] w fun e w' => e = .returned (.int .i64 (a / 64)) ∧ w = w' := by
  by_cases h : 0 ≤ a
  · go_enter Tryd.func42, Tryd.ntmps42
    go_wp2
    go_ret
    exact ⟨ret_int (by omega), rfl⟩
  · have t1 : a.tdiv 64 = -((-a) / 64) := by rw [tdiv_below, Int.tdiv_eq_ediv_of_nonneg (by omega)]
    have t2 : a.tmod 64 = -((-a) % 64) := by rw [tmod_below, Int.tmod_eq_emod_of_nonneg (by omega)]
    obtain ⟨q, hq⟩ : ∃ q, -((-a) / 64) = q := ⟨_, rfl⟩
    obtain ⟨r, hr⟩ : ∃ r, -((-a) % 64) = r := ⟨_, rfl⟩
    rw [hq] at t1
    rw [hr] at t2
    have hq1 : -9223372036854775807 ≤ q := by omega
    have hq2 : q ≤ 0 := by omega
    have HQ := Lib.hid (show (r < 0 → q - 1 = a / 64) ∧ (¬ r < 0 → q = a / 64) by omega)
    clear hq hr
    by_cases hn : r < 0
    · go_enter Tryd.func42, Tryd.ntmps42
      go_wp2
      go_ret
      exact ⟨ret_int (HQ.out.1 hn), rfl⟩
    · go_enter Tryd.func42, Tryd.ntmps42
      go_wp2
      go_ret
      exact ⟨ret_int (HQ.out.2 hn), rfl⟩

theorem rfloor768 (a : Int) (w : World) (h1 : -9223372036854775808 ≤ a) (h2 : a ≤ 9223372036854775807) :
    Calls Tryd.prog 42 #[.int .i64 a, .int .i64 768] w fun e w' => e = .returned (.int .i64 (a / 768)) ∧ w = w' := by
  by_cases h : 0 ≤ a
  · go_enter Tryd.func42, Tryd.ntmps42
    go_wp2
    go_ret
    exact ⟨ret_int (by omega), rfl⟩
  · have t1 : a.tdiv 768 = -((-a) / 768) := by rw [tdiv_below, Int.tdiv_eq_ediv_of_nonneg (by omega)]
    have t2 : a.tmod 768 = -((-a) % 768) := by rw [tmod_below, Int.tmod_eq_emod_of_nonneg (by omega)]
    obtain ⟨q, hq⟩ : ∃ q, -((-a) / 768) = q := ⟨_, rfl⟩
    obtain ⟨r, hr⟩ : ∃ r, -((-a) % 768) = r := ⟨_, rfl⟩
    rw [hq] at t1
    rw [hr] at t2
    have hq1 : -9223372036854775807 ≤ q := by omega
    have hq2 : q ≤ 0 := by omega
    have HQ := Lib.hid (show (r < 0 → q - 1 = a / 768) ∧ (¬ r < 0 → q = a / 768) by omega)
    clear hq hr
    by_cases hn : r < 0
    · go_enter Tryd.func42, Tryd.ntmps42
      go_wp2
      go_ret
      exact ⟨ret_int (HQ.out.1 hn), rfl⟩
    · go_enter Tryd.func42, Tryd.ntmps42
      go_wp2
      go_ret
      exact ⟨ret_int (HQ.out.2 hn), rfl⟩

theorem rmod64 (a : Int) (w : World) (h1 : -9223372036854775808 ≤ a) (h2 : a ≤ 9223372036854775807) :
    Calls Tryd.prog 46 #[.int .i64 a, .int .i64 64] w fun e w' => e = .returned (.int .i64 (a % 64)) ∧ w = w' := by
  go_enter Tryd.func46, Tryd.ntmps46
  go_wp2_with (go_at_call 42; refine (rfloor64 _ _ h1 h2).mono ?_; rintro e w' ⟨rfl, rfl⟩)
  go_ret
  exact ⟨ret_int (by omega), rfl⟩
theorem rpitched_yes (p : Int) (w : World) (h1 : -3840 ≤ p) (h2 : p ≤ 11519) :
    Calls Tryd.prog 40 #[.int .i64 p] w fun e w' => e = .returned (.bool true) ∧ w = w' := by
  go_enter Tryd.func40, Tryd.ntmps40
  go_wp2_with (go_at_call 34; refine (rwithin_yes _ _ _ _ h1 h2).mono ?_; rintro e w' ⟨rfl, rfl⟩)
  go_ret
  exact ⟨rfl, rfl⟩
theorem rpitched_no (p : Int) (w : World) (h : p < -3840 ∨ 11519 < p) :
    Calls Tryd.prog 40 #[.int .i64 p] w fun e w' => e = .returned (.bool false) ∧ w = w' := by
  go_enter Tryd.func40, Tryd.ntmps40
  go_wp2_with (go_at_call 34; refine (rwithin_no _ _ _ _ h).mono ?_; rintro e w' ⟨rfl, rfl⟩)
  go_ret
  exact ⟨rfl, rfl⟩
theorem rraised (r q : Int) (w : World) (h1 : -40 ≤ q) (h2 : q ≤ 23) :
    Calls Tryd.prog 36 #[.int .i64 r, .int .i64 q] w fun e w' => e = .returned (.int .i64 (r / 2 ^ (24 - q).toNat)) ∧ w = w' := by
  go_enter Tryd.func36, Tryd.ntmps36
  go_wp2
  go_ret
  exact ⟨ret_int rfl, rfl⟩

theorem r_next (s : Int) (w : World) :
    Calls Tryd.prog 9 #[.int .i64 s] w fun e w' => e = .returned (.int .i64 (Tm.tNext s)) ∧ w = w' := by
  unfold Tm.tNext
  by_cases h : 0 ≤ s ∧ s ≤ 2147483647
  · rw [if_pos h]
    have hb := Tm.and2147483647 (s * 1103515245 + 12345)
    obtain ⟨a1, a2⟩ := h
    go_enter Tryd.func9, Tryd.ntmps9
    go_wp2_with (first | (go_at_call 34; ((with_reducible refine (rwithin_yes _ _ _ _ a1 a2).mono ?_); rintro e w' ⟨rfl, rfl⟩)))
    go_ret
    exact ⟨ret_int (by unfold Tm.nx; omega), rfl⟩
  · rw [if_neg h]
    go_enter Tryd.func9, Tryd.ntmps9
    go_wp2_with (first | (go_at_call 34; ((with_reducible refine (rwithin_no _ _ _ _ (by omega)).mono ?_); rintro e w' ⟨rfl, rfl⟩)))
    go_ret
    exact ⟨rfl, rfl⟩

theorem r_freqOf (r n : Int) (w : World) :
    Calls Tryd.prog 21 #[.int .i64 r, .int .i64 n] w fun e w' => e = .returned (.int .i64 (Tm.tFrOf r n)) ∧ w = w' := by
  unfold Tm.tFrOf
  by_cases h : (1 ≤ r ∧ r ≤ 65535) ∧ 1 ≤ n ∧ n ≤ 1048576
  · rw [if_pos h]
    obtain ⟨⟨a1, a2⟩, a3, a4⟩ := h
    go_enter Tryd.func21, Tryd.ntmps21
    go_wp2_with (first | (go_at_call 34; ((with_reducible refine (rwithin_yes _ _ _ _ a1 a2).mono ?_); rintro e w' ⟨rfl, rfl⟩)) | (go_at_call 34; ((with_reducible refine (rwithin_yes _ _ _ _ a3 a4).mono ?_); rintro e w' ⟨rfl, rfl⟩)))
    go_ret
    exact ⟨ret_int rfl, rfl⟩
  · rw [if_neg h]
    by_cases h1 : 1 ≤ r ∧ r ≤ 65535
    · have hno : n < 1 ∨ 1048576 < n := by omega
      go_enter Tryd.func21, Tryd.ntmps21
      go_wp2_with (first | (go_at_call 34; ((with_reducible refine (rwithin_yes _ _ _ _ h1.1 h1.2).mono ?_); rintro e w' ⟨rfl, rfl⟩)) | (go_at_call 34; ((with_reducible refine (rwithin_no _ _ _ _ hno).mono ?_); rintro e w' ⟨rfl, rfl⟩)))
      go_ret
      exact ⟨rfl, rfl⟩
    · go_enter Tryd.func21, Tryd.ntmps21
      go_wp2_with (first | (go_at_call 34; ((with_reducible refine (rwithin_no _ _ _ _ (by omega)).mono ?_); rintro e w' ⟨rfl, rfl⟩)))
      go_ret
      exact ⟨rfl, rfl⟩

theorem r_step (p o : Int) (w : World) :
    Calls Tryd.prog 23 #[.int .i64 p, .int .i64 o] w fun e w' => e = .returned (.int .i64 (Tm.tStep p o)) ∧ w = w' := by
  unfold Tm.tStep
  by_cases h : (0 ≤ p ∧ p ≤ 68719476736) ∧ 1000 ≤ o ∧ o ≤ 96000
  · rw [if_pos h]
    obtain ⟨⟨a1, a2⟩, a3, a4⟩ := h
    go_enter Tryd.func23, Tryd.ntmps23
    go_wp2_with (first | (go_at_call 34; ((with_reducible refine (rwithin_yes _ _ _ _ a1 a2).mono ?_); rintro e w' ⟨rfl, rfl⟩)) | (go_at_call 34; ((with_reducible refine (rwithin_yes _ _ _ _ a3 a4).mono ?_); rintro e w' ⟨rfl, rfl⟩)))
    all_goals
      go_ret
      exact ⟨ret_int (by omega), rfl⟩
  · rw [if_neg h]
    by_cases h1 : 0 ≤ p ∧ p ≤ 68719476736
    · have hno : o < 1000 ∨ 96000 < o := by omega
      go_enter Tryd.func23, Tryd.ntmps23
      go_wp2_with (first | (go_at_call 34; ((with_reducible refine (rwithin_yes _ _ _ _ h1.1 h1.2).mono ?_); rintro e w' ⟨rfl, rfl⟩)) | (go_at_call 34; ((with_reducible refine (rwithin_no _ _ _ _ hno).mono ?_); rintro e w' ⟨rfl, rfl⟩)))
      go_ret
      exact ⟨rfl, rfl⟩
    · go_enter Tryd.func23, Tryd.ntmps23
      go_wp2_with (first | (go_at_call 34; ((with_reducible refine (rwithin_no _ _ _ _ (by omega)).mono ?_); rintro e w' ⟨rfl, rfl⟩)))
      go_ret
      exact ⟨rfl, rfl⟩

theorem r_semi (p : Int) (w : World) :
    Calls Tryd.prog 25 #[.int .i64 p] w fun e w' => e = .returned (.int .i64 (Tm.tSemi p)) ∧ w = w' := by
  unfold Tm.tSemi
  by_cases h : -3840 ≤ p ∧ p ≤ 11519
  · rw [if_pos h]
    obtain ⟨a1, a2⟩ := h
    go_enter Tryd.func25, Tryd.ntmps25
    go_wp2_with (first | (go_at_call 40; ((with_reducible refine (rpitched_yes _ _ a1 a2).mono ?_); rintro e w' ⟨rfl, rfl⟩)) | (go_at_call 42; ((with_reducible refine (rfloor64 _ _ (by omega) (by omega)).mono ?_); rintro e w' ⟨rfl, rfl⟩)))
    go_ret
    exact ⟨ret_int (by omega), rfl⟩
  · rw [if_neg h]
    go_enter Tryd.func25, Tryd.ntmps25
    go_wp2_with (first | (go_at_call 40; ((with_reducible refine (rpitched_no _ _ (by omega)).mono ?_); rintro e w' ⟨rfl, rfl⟩)))
    go_ret
    exact ⟨rfl, rfl⟩

end Go.Proofs.YtgoeflfnlanlnaaDoor

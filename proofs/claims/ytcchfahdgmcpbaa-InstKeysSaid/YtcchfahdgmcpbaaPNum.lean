/-
  Contracts of package inst's small functions on numbers (within, floor, validCircle): what the call returns; nothing that was there is changed.
-/
import Derived.Test.YtcchfahdgmcpbaaBase
namespace Go.Proofs.Ytcchfahdgmcpbaa
open Go.RowKit

theorem p_within (n lo hi : Int) (w : World) :
    Calls Try.prog 40 #[.int .i64 n, .int .i64 lo, .int .i64 hi] w fun x w' => x = .returned (.bool (In.wth n lo hi)) ∧ w = w' := by
  by_cases h1 : lo ≤ n
  · by_cases h2 : n ≤ hi
    · have HB := Lib.hid (show In.wth n lo hi = true from decide_eq_true ⟨h1, h2⟩)
      go_enter Try.func40, Try.ntmps40
      go_wp2
      go_ret
      exact ⟨ret_bool HB.out.symm, rfl⟩
    · have HB := Lib.hid (show In.wth n lo hi = false from decide_eq_false (by omega))
      have hd : decide (n ≤ hi) = false := decide_eq_false h2
      go_enter Try.func40, Try.ntmps40
      go_wp2
      go_ret
      exact ⟨ret_bool HB.out.symm, rfl⟩
  · have HB := Lib.hid (show In.wth n lo hi = false from decide_eq_false (by omega))
    have hd : decide (lo ≤ n) = false := decide_eq_false h1
    go_enter Try.func40, Try.ntmps40
    go_wp2
    go_ret
    exact ⟨ret_bool HB.out.symm, rfl⟩
theorem p_within_v (n lo hi : Int) (w : World) {v : Bool} (h : In.wth n lo hi = v) :
    Calls Try.prog 40 #[.int .i64 n, .int .i64 lo, .int .i64 hi] w fun x w' => x = .returned (.bool v) ∧ w = w' := h ▸ p_within n lo hi w
theorem p_circle (t : Bool) (s e n : Int) (w : World) :
    Calls Try.prog 29 #[.bool t, .int .i64 s, .int .i64 e, .int .i64 n] w fun x w' => x = .returned (.bool (In.cok t s e n)) ∧ w = w' := by
  cases t
  · by_cases hs : s = 0
    · by_cases he : e = 0
      · have HB := Lib.hid (show In.cok false s e n = true by unfold In.cok; rw [if_neg (by simp)]; exact decide_eq_true ⟨hs, he⟩)
        go_enter Try.func29, Try.ntmps29
        go_wp2
        go_ret
        exact ⟨ret_bool HB.out.symm, rfl⟩
      · have HB := Lib.hid (show In.cok false s e n = false by unfold In.cok; rw [if_neg (by simp)]; exact decide_eq_false (by omega))
        have he' : (e == 0) = false := by simpa using he
        go_enter Try.func29, Try.ntmps29
        go_wp2
        go_ret
        exact ⟨ret_bool HB.out.symm, rfl⟩
    · have HB := Lib.hid (show In.cok false s e n = false by unfold In.cok; rw [if_neg (by simp)]; exact decide_eq_false (by omega))
      have hs' : (s == 0) = false := by simpa using hs
      go_enter Try.func29, Try.ntmps29
      go_wp2
      go_ret
      exact ⟨ret_bool HB.out.symm, rfl⟩
  · by_cases ha : 0 ≤ s
    · by_cases hb : s ≤ e
      · by_cases hc : e < n
        · have HB := Lib.hid (show In.cok true s e n = true by unfold In.cok; rw [if_pos rfl]; exact decide_eq_true ⟨ha, hb, hc⟩)
          go_enter Try.func29, Try.ntmps29
          go_wp2
          go_ret
          exact ⟨ret_bool HB.out.symm, rfl⟩
        · have HB := Lib.hid (show In.cok true s e n = false by unfold In.cok; rw [if_pos rfl]; exact decide_eq_false (by omega))
          have hd : decide (e < n) = false := decide_eq_false hc
          go_enter Try.func29, Try.ntmps29
          go_wp2
          go_ret
          exact ⟨ret_bool HB.out.symm, rfl⟩
      · have HB := Lib.hid (show In.cok true s e n = false by unfold In.cok; rw [if_pos rfl]; exact decide_eq_false (by omega))
        have hd : decide (s ≤ e) = false := decide_eq_false hb
        go_enter Try.func29, Try.ntmps29
        go_wp2
        go_ret
        exact ⟨ret_bool HB.out.symm, rfl⟩
    · have HB := Lib.hid (show In.cok true s e n = false by unfold In.cok; rw [if_pos rfl]; exact decide_eq_false (by omega))
      have hd : decide (0 ≤ s) = false := decide_eq_false ha
      go_enter Try.func29, Try.ntmps29
      go_wp2
      go_ret
      exact ⟨ret_bool HB.out.symm, rfl⟩
/-- Division rounded down, as Go reckons it. -/
theorem fl_neg (a b : Int) (hb : 0 < b) : -((b - 1 - a) / b) = a / b := by
  have e1 := Int.mul_ediv_add_emod a b
  have m0 := Int.emod_nonneg a (by omega : b ≠ 0)
  have m1 := Int.emod_lt_of_pos a hb
  have : b - 1 - a = (b - 1 - a % b) + b * (-(a / b)) := by rw [Int.mul_neg]; omega
  rw [this, Int.add_mul_ediv_left _ _ (by omega : b ≠ 0), Int.ediv_eq_zero_of_lt (by omega) (by omega)]
  omega
theorem p_floor (a b : Int) (w : World) (h1 : -1152921504606846976 ≤ a) (h2 : a ≤ 1152921504606846976) (hb : 0 < b) (hb2 : b ≤ 1152921504606846976) :
    Calls Try.prog 53 #[.int .i64 a, .int .i64 b] w fun x w' => x = .returned (.int .i64 (a / b)) ∧ w = w' := by
  by_cases h0 : a < 0
  · have q0 : (b - 1 - a).tdiv b = (b - 1 - a) / b := Int.tdiv_eq_ediv_of_nonneg (by omega)
    have q1 := Int.ediv_nonneg (by omega : 0 ≤ b - 1 - a) (by omega : 0 ≤ b)
    have q2 : (b - 1 - a) / b ≤ b - 1 - a := Int.ediv_le_self _ (by omega)
    obtain ⟨r, hr⟩ : ∃ r, (b - 1 - a) / b = r := ⟨_, rfl⟩
    have HE := Lib.hid (show -r = a / b by rw [← hr]; exact fl_neg a b hb)
    rw [hr] at q0 q1 q2
    clear hr
    go_enter Try.func53, Try.ntmps53
    go_wp2
    go_ret
    exact ⟨ret_int HE.out, rfl⟩
  · have q0 : a.tdiv b = a / b := Int.tdiv_eq_ediv_of_nonneg (by omega)
    have q1 := Int.ediv_nonneg (by omega : 0 ≤ a) (by omega : 0 ≤ b)
    have q2 : a / b ≤ a := Int.ediv_le_self _ (by omega)
    go_enter Try.func53, Try.ntmps53
    go_wp2
    go_ret
    exact ⟨rfl, rfl⟩
end Go.Proofs.Ytcchfahdgmcpbaa

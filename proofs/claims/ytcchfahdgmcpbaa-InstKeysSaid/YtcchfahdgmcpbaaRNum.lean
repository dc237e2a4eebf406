/-
  Contracts of the reference's paired and Floor: what the call returns; nothing that was there is changed.
-/
import Derived.Test.YtcchfahdgmcpbaaPNum
namespace Go.Proofs.Ytcchfahdgmcpbaa
open Go.RowKit

theorem r_paired (t : Bool) (s e n : Int) (w : World) :
    Calls Try.prog 30 #[.bool t, .int .i64 s, .int .i64 e, .int .i64 n] w fun x w' => x = .returned (.bool (In.cok t s e n)) ∧ w = w' := by
  cases t
  · by_cases hs : s = 0
    · by_cases he : e = 0
      · have HB := Lib.hid (show In.cok false s e n = true by unfold In.cok; rw [if_neg (by simp)]; exact decide_eq_true ⟨hs, he⟩)
        go_enter Try.func30, Try.ntmps30
        go_wp2
        go_ret
        exact ⟨ret_bool HB.out.symm, rfl⟩
      · have HB := Lib.hid (show In.cok false s e n = false by unfold In.cok; rw [if_neg (by simp)]; exact decide_eq_false (by omega))
        have he' : (e == 0) = false := by simpa using he
        go_enter Try.func30, Try.ntmps30
        go_wp2
        go_ret
        exact ⟨ret_bool HB.out.symm, rfl⟩
    · have HB := Lib.hid (show In.cok false s e n = false by unfold In.cok; rw [if_neg (by simp)]; exact decide_eq_false (by omega))
      have hs' : (s == 0) = false := by simpa using hs
      go_enter Try.func30, Try.ntmps30
      go_wp2
      go_ret
      exact ⟨ret_bool HB.out.symm, rfl⟩
  · by_cases ha : 0 ≤ s
    · by_cases hb : s ≤ e
      · by_cases hc : e < n
        · have HB := Lib.hid (show In.cok true s e n = true by unfold In.cok; rw [if_pos rfl]; exact decide_eq_true ⟨ha, hb, hc⟩)
          go_enter Try.func30, Try.ntmps30
          go_wp2
          go_ret
          exact ⟨ret_bool HB.out.symm, rfl⟩
        · have HB := Lib.hid (show In.cok true s e n = false by unfold In.cok; rw [if_pos rfl]; exact decide_eq_false (by omega))
          have hd : decide (e < n) = false := decide_eq_false hc
          go_enter Try.func30, Try.ntmps30
          go_wp2
          go_ret
          exact ⟨ret_bool HB.out.symm, rfl⟩
      · have HB := Lib.hid (show In.cok true s e n = false by unfold In.cok; rw [if_pos rfl]; exact decide_eq_false (by omega))
        have hd : decide (s ≤ e) = false := decide_eq_false hb
        go_enter Try.func30, Try.ntmps30
        go_wp2
        go_ret
        exact ⟨ret_bool HB.out.symm, rfl⟩
    · have HB := Lib.hid (show In.cok true s e n = false by unfold In.cok; rw [if_pos rfl]; exact decide_eq_false (by omega))
      have hd : decide (0 ≤ s) = false := decide_eq_false ha
      go_enter Try.func30, Try.ntmps30
      go_wp2
      go_ret
      exact ⟨ret_bool HB.out.symm, rfl⟩
theorem fl_zero {a b q : Int} (hb : 0 < b) (h : -a = b * q + 0) : -q = a / b := by
  have : a = b * (-q) := by rw [Int.mul_neg]; omega
  rw [this, Int.mul_ediv_cancel_left _ (by omega : b ≠ 0)]
theorem fl_pos {a b q r : Int} (hb : 0 < b) (h : -a = b * q + r) (h1 : 0 < r) (h2 : r < b) : -q - 1 = a / b := by
  have : a = (b - r) + b * (-q - 1) := by rw [Int.mul_sub, Int.mul_neg]; omega
  rw [this, Int.add_mul_ediv_left _ _ (by omega : b ≠ 0), Int.ediv_eq_zero_of_lt (by omega) (by omega)]
  omega
theorem r_floor (a b : Int) (w : World) (h1 : -1152921504606846976 ≤ a) (h2 : a ≤ 1152921504606846976) (hb : 0 < b) (hb2 : b ≤ 1152921504606846976) :
    Calls Try.prog 34 #[.int .i64 a, .int .i64 b] w fun x w' => x = .returned (.int .i64 (a / b)) ∧ w = w' := by
  by_cases h0 : a < 0
  · have t1 : a.tdiv b = -((-a) / b) := by rw [show a = -(-a) by omega, Int.neg_tdiv, Int.tdiv_eq_ediv_of_nonneg (by omega)]; simp
    have t2 : a.tmod b = -((-a) % b) := by rw [show a = -(-a) by omega, Int.neg_tmod, Int.tmod_eq_emod_of_nonneg (by omega)]; simp
    have e := Int.mul_ediv_add_emod (-a) b
    have m0 := Int.emod_nonneg (-a) (by omega : b ≠ 0)
    have m1 := Int.emod_lt_of_pos (-a) hb
    have q1 := Int.ediv_nonneg (by omega : 0 ≤ -a) (by omega : 0 ≤ b)
    have q2 : (-a) / b ≤ -a := Int.ediv_le_self _ (by omega)
    obtain ⟨q, hq⟩ : ∃ q, (-a) / b = q := ⟨_, rfl⟩
    obtain ⟨r, hr⟩ : ∃ r, (-a) % b = r := ⟨_, rfl⟩
    rw [hq] at t1 e q1 q2
    rw [hr] at t2 e m0 m1
    clear hq hr
    by_cases hr0 : r = 0
    · subst hr0
      have HE := Lib.hid (fl_zero hb e.symm)
      have t2 : a.tmod b = 0 := by rw [t2]; rfl
      clear e m0 m1
      go_enter Try.func34, Try.ntmps34
      go_wp2
      go_ret
      exact ⟨ret_int HE.out, rfl⟩
    · have HE := Lib.hid (fl_pos hb e.symm (by omega) m1)
      have m2 : -r < 0 := by omega
      clear e
      go_enter Try.func34, Try.ntmps34
      go_wp2
      go_ret
      exact ⟨ret_int HE.out, rfl⟩
  · have q0 : a.tdiv b = a / b := Int.tdiv_eq_ediv_of_nonneg (by omega)
    have q3 : a.tmod b = a % b := Int.tmod_eq_emod_of_nonneg (by omega)
    have m0 := Int.emod_nonneg a (by omega : b ≠ 0)
    have q1 := Int.ediv_nonneg (by omega : 0 ≤ a) (by omega : 0 ≤ b)
    have q2 : a / b ≤ a := Int.ediv_le_self _ (by omega)
    go_enter Try.func34, Try.ntmps34
    go_wp2
    go_ret
    exact ⟨rfl, rfl⟩
end Go.Proofs.Ytcchfahdgmcpbaa

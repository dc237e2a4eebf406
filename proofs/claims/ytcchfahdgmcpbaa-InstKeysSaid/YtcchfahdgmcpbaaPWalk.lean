/-
  The contracts of package inst's walker.after and walker.over.
-/
import Derived.Test.YtcchfahdgmcpbaaPVal
namespace Go.Proofs.Ytcchfahdgmcpbaa
open Go.RowKit

theorem p_after (th : Bool) (a b l t : Int) (w : World) (hr : In.Rnd th a b l) :
    Calls Try.prog 36 #[.agg #[.bool th, .int .i64 a, .int .i64 b, .int .i64 l], .int .i64 t] w fun x w' => x = .returned (.int .i64 (In.aft th a b l t)) ∧ Below w.heap.size w w' := by
  have r1 := hr.ab
  have r2 := hr.bh
  have r3 := hr.lh
  have r4 := hr.a0
  have r5 := hr.l0
  clear hr
  cases th
  · rcases Int.lt_trichotomy t 0 with h0 | h0 | h0
    · by_cases hc : l ≤ 0
      · have HE := Lib.hid (show In.aft false a b l t = l by unfold In.aft; rw [show max t 0 = 0 by omega]; rw [if_neg (by simp)]; rw [if_pos (by omega)])
        go_enter Try.func36, Try.ntmps36
        go_wp2
        go_ret
        exact ⟨ret_int HE.out.symm, below_box _ _⟩
      · have hc' : 0 < l := by omega
        clear hc
        have HE := Lib.hid (show In.aft false a b l t = 1 by unfold In.aft; rw [show max t 0 = 0 by omega]; rw [if_neg (by simp)]; rw [if_neg (by omega)]; rfl)
        go_enter Try.func36, Try.ntmps36
        go_wp2
        go_ret
        exact ⟨ret_int HE.out.symm, below_box _ _⟩
    · by_cases hc : l ≤ 0
      · have HE := Lib.hid (show In.aft false a b l t = l by unfold In.aft; rw [show max t 0 = 0 by omega]; rw [if_neg (by simp)]; rw [if_pos (by omega)])
        subst h0
        go_enter Try.func36, Try.ntmps36
        go_wp2
        go_ret
        exact ⟨ret_int HE.out.symm, below_box _ _⟩
      · have hc' : 0 < l := by omega
        clear hc
        have HE := Lib.hid (show In.aft false a b l t = 1 by unfold In.aft; rw [show max t 0 = 0 by omega]; rw [if_neg (by simp)]; rw [if_neg (by omega)]; rfl)
        subst h0
        go_enter Try.func36, Try.ntmps36
        go_wp2
        go_ret
        exact ⟨ret_int HE.out.symm, below_box _ _⟩
    · by_cases hc : l ≤ t
      · have HE := Lib.hid (show In.aft false a b l t = l by unfold In.aft; rw [show max t 0 = t by omega]; rw [if_neg (by simp)]; rw [if_pos (by omega)])
        go_enter Try.func36, Try.ntmps36
        go_wp2
        go_ret
        exact ⟨ret_int HE.out.symm, below_box _ _⟩
      · have hc' : t < l := by omega
        clear hc
        have HE := Lib.hid (show In.aft false a b l t = t + 1 by unfold In.aft; rw [show max t 0 = t by omega]; rw [if_neg (by simp)]; rw [if_neg (by omega)])
        go_enter Try.func36, Try.ntmps36
        go_wp2
        go_ret
        exact ⟨ret_int HE.out.symm, below_box _ _⟩
  · rcases Int.lt_trichotomy t 0 with h0 | h0 | h0
    · by_cases hc : b ≤ 0
      · have HE := Lib.hid (show In.aft true a b l t = a by unfold In.aft; rw [show max t 0 = 0 by omega]; rw [if_pos rfl]; rw [if_pos (by omega)])
        go_enter Try.func36, Try.ntmps36
        go_wp2
        go_ret
        exact ⟨ret_int HE.out.symm, below_box _ _⟩
      · have hc' : 0 < b := by omega
        clear hc
        have HE := Lib.hid (show In.aft true a b l t = 1 by unfold In.aft; rw [show max t 0 = 0 by omega]; rw [if_pos rfl]; rw [if_neg (by omega)]; rfl)
        go_enter Try.func36, Try.ntmps36
        go_wp2
        go_ret
        exact ⟨ret_int HE.out.symm, below_box _ _⟩
    · by_cases hc : b ≤ 0
      · have HE := Lib.hid (show In.aft true a b l t = a by unfold In.aft; rw [show max t 0 = 0 by omega]; rw [if_pos rfl]; rw [if_pos (by omega)])
        subst h0
        go_enter Try.func36, Try.ntmps36
        go_wp2
        go_ret
        exact ⟨ret_int HE.out.symm, below_box _ _⟩
      · have hc' : 0 < b := by omega
        clear hc
        have HE := Lib.hid (show In.aft true a b l t = 1 by unfold In.aft; rw [show max t 0 = 0 by omega]; rw [if_pos rfl]; rw [if_neg (by omega)]; rfl)
        subst h0
        go_enter Try.func36, Try.ntmps36
        go_wp2
        go_ret
        exact ⟨ret_int HE.out.symm, below_box _ _⟩
    · by_cases hc : b ≤ t
      · have HE := Lib.hid (show In.aft true a b l t = a by unfold In.aft; rw [show max t 0 = t by omega]; rw [if_pos rfl]; rw [if_pos (by omega)])
        go_enter Try.func36, Try.ntmps36
        go_wp2
        go_ret
        exact ⟨ret_int HE.out.symm, below_box _ _⟩
      · have hc' : t < b := by omega
        clear hc
        have HE := Lib.hid (show In.aft true a b l t = t + 1 by unfold In.aft; rw [show max t 0 = t by omega]; rw [if_pos rfl]; rw [if_neg (by omega)])
        go_enter Try.func36, Try.ntmps36
        go_wp2
        go_ret
        exact ⟨ret_int HE.out.symm, below_box _ _⟩
theorem p_over (th : Bool) (a b l t : Int) (w : World) :
    Calls Try.prog 39 #[.agg #[.bool th, .int .i64 a, .int .i64 b, .int .i64 l], .int .i64 t] w fun x w' => x = .returned (.bool (In.ovr th l t)) ∧ Below w.heap.size w w' := by
  cases th
  · by_cases hc : l ≤ t
    · have HE := Lib.hid (show In.ovr false l t = true by unfold In.ovr; rw [decide_eq_true hc]; rfl)
      go_enter Try.func39, Try.ntmps39
      go_wp2
      go_ret
      exact ⟨ret_bool HE.out.symm, below_box _ _⟩
    · have HE := Lib.hid (show In.ovr false l t = false by unfold In.ovr; rw [decide_eq_false hc]; rfl)
      have hd : decide (l ≤ t) = false := decide_eq_false hc
      go_enter Try.func39, Try.ntmps39
      go_wp2
      go_ret
      exact ⟨ret_bool HE.out.symm, below_box _ _⟩
  · have HE := Lib.hid (show In.ovr true l t = false by rfl)
    go_enter Try.func39, Try.ntmps39
    go_wp2
    go_ret
    exact ⟨ret_bool HE.out.symm, below_box _ _⟩
end Go.Proofs.Ytcchfahdgmcpbaa

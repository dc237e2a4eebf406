/-
  Contracts of package tone's functions on numbers (within, power, Exp): for the arguments that each theorem names, what the call returns; memory stays as it was.
-/
import Derived.Test.YtgoeflfnlanlnaaDoorChecked
import Derived.Test.YtgoeflfnlanlnaaDoorMath
import Derived.WalkKit
import Derived.LoopTactic
namespace Go.Proofs.YtgoeflfnlanlnaaDoor
open Go.RowKit

theorem ret_int {k : IntKind} {a b : Int} (h : a = b) : Ending.returned (.int k a) = .returned (.int k b) := by rw [h]

theorem within_yes (n lo hi : Int) (w : World) (h1 : lo ≤ n) (h2 : n ≤ hi) :
    Calls Tryd.prog 33 #[.int .i64 n, .int .i64 lo, .int .i64 hi] w fun e w' => e = .returned (.bool true) ∧ w = w' := by
  go_enter Tryd.func33, Tryd.ntmps33
  go_wp2
  go_ret
  exact ⟨rfl, rfl⟩
theorem within_low (n lo hi : Int) (w : World) (h1 : n < lo) :
    Calls Tryd.prog 33 #[.int .i64 n, .int .i64 lo, .int .i64 hi] w fun e w' => e = .returned (.bool false) ∧ w = w' := by
  go_enter Tryd.func33, Tryd.ntmps33
  go_wp2
  go_ret
  exact ⟨rfl, rfl⟩
theorem within_high (n lo hi : Int) (w : World) (h1 : lo ≤ n) (h2 : hi < n) :
    Calls Tryd.prog 33 #[.int .i64 n, .int .i64 lo, .int .i64 hi] w fun e w' => e = .returned (.bool false) ∧ w = w' := by
  have hd : decide (n ≤ hi) = false := decide_eq_false (by omega)
  go_enter Tryd.func33, Tryd.ntmps33
  go_wp2
  go_ret
  exact ⟨rfl, rfl⟩
theorem within_no (n lo hi : Int) (w : World) (h : n < lo ∨ hi < n) :
    Calls Tryd.prog 33 #[.int .i64 n, .int .i64 lo, .int .i64 hi] w fun e w' => e = .returned (.bool false) ∧ w = w' := by
  by_cases h1 : n < lo
  · exact within_low n lo hi w h1
  · exact within_high n lo hi w (by omega) (by omega)

theorem power_any (i : Nat) (hi : i ≤ 767) (w : World) :
    Calls Tryd.prog 35 #[.int .i64 i] w fun e w' => e = .returned (.int .i64 (Tm.R i)) ∧ w = w' := by
  go_enter Tryd.func35, Tryd.ntmps35
  go_wp2
  go_loop [3, 5] (fun r k => ∃ n : Nat, n ≤ i ∧ r = .int .i64 (Tm.R n) ∧ k = .int .i64 n) (fun _ k => i - (intOf k).toNat)
  case atStart => exact ⟨0, by omega, by rw [Tm.R_zero], rfl⟩
  case round =>
    obtain ⟨n, hn, rfl, rfl⟩ := hrel
    have r1 := Tm.R_lo n
    have r2 := Tm.R_hi (i := n) (by omega)
    by_cases hlt : n < i
    · go_wp2
      go_round
      case rel => exact ⟨n + 1, by omega, by rw [Tm.R_succ], by go_num⟩
      case measure => simp [intOf]; omega
    · obtain rfl : i = n := by omega
      go_wp2
      go_ret
      exact ⟨rfl, rfl⟩

theorem isPitch_yes (p : Int) (w : World) (h1 : -3840 ≤ p) (h2 : p ≤ 11519) :
    Calls Tryd.prog 39 #[.int .i64 p] w fun e w' => e = .returned (.bool true) ∧ w = w' := by
  go_enter Tryd.func39, Tryd.ntmps39
  go_wp2_with (go_at_call 33; refine (within_yes _ _ _ _ h1 h2).mono ?_; rintro e w' ⟨rfl, rfl⟩)
  go_ret
  exact ⟨rfl, rfl⟩
theorem isPitch_no (p : Int) (w : World) (h : p < -3840 ∨ 11519 < p) :
    Calls Tryd.prog 39 #[.int .i64 p] w fun e w' => e = .returned (.bool false) ∧ w = w' := by
  go_enter Tryd.func39, Tryd.ntmps39
  go_wp2_with (go_at_call 33; refine (within_no _ _ _ _ h).mono ?_; rintro e w' ⟨rfl, rfl⟩)
  go_ret
  exact ⟨rfl, rfl⟩

theorem power_int (x : Int) (w : World) (h0 : 0 ≤ x) (h1 : x ≤ 767) :
    Calls Tryd.prog 35 #[.int .i64 x] w fun e w' => e = .returned (.int .i64 (Tm.R x.toNat)) ∧ w = w' := by
  obtain ⟨i, rfl⟩ := Int.eq_ofNat_of_zero_le h0
  exact power_any i (by omega) w

theorem exp_any (v : Int) (w : World) (h1 : -7680 ≤ v) (h2 : v ≤ 7680) :
    Calls Tryd.prog 12 #[.int .i64 v] w fun e w' => e = .returned (.int .i64 (Tm.ex v)) ∧ w = w' := by
  go_enter Tryd.func12, Tryd.ntmps12
  go_wp2_with (first | (go_at_call 33; refine (within_yes _ _ _ _ h1 h2).mono ?_; rintro e w' ⟨rfl, rfl⟩) | (go_at_call 35; refine (power_int _ _ (by omega) (by omega)).mono ?_; rintro e w' ⟨rfl, rfl⟩))
  go_ret
  exact ⟨ret_int (Tm.ex_walk v h1 h2), rfl⟩
end Go.Proofs.YtgoeflfnlanlnaaDoor

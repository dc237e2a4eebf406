/-
  Contracts of package pattern's small functions on numbers: what the call returns; the world stands.
-/
import Derived.Test.YtfjfnbeegojlbaaDoorBase
namespace Go.Proofs.YtfjfnbeegojlbaaDoor
open Go.RowKit

theorem p_within (n lo hi : Int) (w : World) :
    Calls Tryd.prog 17 #[.int .i64 n, .int .i64 lo, .int .i64 hi] w fun x w' => x = .returned (.bool (Pt.wth n lo hi)) ∧ w = w' := by
  by_cases h1 : lo ≤ n
  · by_cases h2 : n ≤ hi
    · have HB := Lib.hid (show Pt.wth n lo hi = true from decide_eq_true ⟨h1, h2⟩)
      go_enter Tryd.func17, Tryd.ntmps17
      go_wp2
      go_ret
      exact ⟨ret_bool HB.out.symm, rfl⟩
    · have HB := Lib.hid (show Pt.wth n lo hi = false from decide_eq_false (by omega))
      have hd : decide (n ≤ hi) = false := decide_eq_false h2
      go_enter Tryd.func17, Tryd.ntmps17
      go_wp2
      go_ret
      exact ⟨ret_bool HB.out.symm, rfl⟩
  · have HB := Lib.hid (show Pt.wth n lo hi = false from decide_eq_false (by omega))
    have hd : decide (lo ≤ n) = false := decide_eq_false h1
    go_enter Tryd.func17, Tryd.ntmps17
    go_wp2
    go_ret
    exact ⟨ret_bool HB.out.symm, rfl⟩
theorem p_within_v (n lo hi : Int) (w : World) {v : Bool} (h : Pt.wth n lo hi = v) :
    Calls Tryd.prog 17 #[.int .i64 n, .int .i64 lo, .int .i64 hi] w fun x w' => x = .returned (.bool v) ∧ w = w' := h ▸ p_within n lo hi w
theorem p_isPitched (n : Int) (w : World) :
    Calls Tryd.prog 44 #[.int .i64 n] w fun x w' => x = .returned (.bool (Pt.wth n 1 120)) ∧ w = w' := by
  have C := Lib.hid (fun w => p_within n 1 120 w)
  go_enter Tryd.func44, Tryd.ntmps44
  go_wp2_with (first | (go_at_call 17; ((with_reducible refine (C.out _).mono ?_); rintro x' w1 ⟨rfl, rfl⟩)))
  go_ret
  exact ⟨rfl, rfl⟩
theorem p_validChannels (n : Int) (w : World) :
    Calls Tryd.prog 59 #[.int .i64 n] w fun x w' => x = .returned (.bool (Pt.wth n 1 16)) ∧ w = w' := by
  have C := Lib.hid (fun w => p_within n 1 16 w)
  go_enter Tryd.func59, Tryd.ntmps59
  go_wp2_with (first | (go_at_call 17; ((with_reducible refine (C.out _).mono ?_); rintro x' w1 ⟨rfl, rfl⟩)))
  go_ret
  exact ⟨rfl, rfl⟩
theorem p_validRows (n : Int) (w : World) :
    Calls Tryd.prog 60 #[.int .i64 n] w fun x w' => x = .returned (.bool (Pt.wth n 1 64)) ∧ w = w' := by
  have C := Lib.hid (fun w => p_within n 1 64 w)
  go_enter Tryd.func60, Tryd.ntmps60
  go_wp2_with (first | (go_at_call 17; ((with_reducible refine (C.out _).mono ?_); rintro x' w1 ⟨rfl, rfl⟩)))
  go_ret
  exact ⟨rfl, rfl⟩
theorem vnt_of {n : Int} (h0 : n ≠ 0) (h1 : n ≠ 253) (h2 : n ≠ 254) (h3 : n ≠ 255) : Pt.vnt n = Pt.wth n 1 120 := by
  unfold Pt.vnt Pt.wth
  exact decide_eq_decide.2 (by omega)
theorem p_validNote (n : Int) (w : World) :
    Calls Tryd.prog 16 #[.int .i64 n] w fun x w' => x = .returned (.bool (Pt.vnt n)) ∧ w = w' := by
  have C := Lib.hid (fun w => p_isPitched n w)
  by_cases h0 : n = 0
  · subst h0
    go_enter Tryd.func16, Tryd.ntmps16
    go_wp2
    go_ret
    exact ⟨rfl, rfl⟩
  by_cases h1 : n = 253
  · subst h1
    go_enter Tryd.func16, Tryd.ntmps16
    go_wp2
    go_ret
    exact ⟨rfl, rfl⟩
  by_cases h2 : n = 254
  · subst h2
    go_enter Tryd.func16, Tryd.ntmps16
    go_wp2
    go_ret
    exact ⟨rfl, rfl⟩
  by_cases h3 : n = 255
  · subst h3
    go_enter Tryd.func16, Tryd.ntmps16
    go_wp2
    go_ret
    exact ⟨rfl, rfl⟩
  have HE := Lib.hid (vnt_of h0 h1 h2 h3)
  have e0 : (n == 0) = false := beq_eq_false_iff_ne.2 h0
  have e1 : (n == 253) = false := beq_eq_false_iff_ne.2 h1
  have e2 : (n == 254) = false := beq_eq_false_iff_ne.2 h2
  have e3 : (n == 255) = false := beq_eq_false_iff_ne.2 h3
  clear h0 h1 h2 h3
  go_enter Tryd.func16, Tryd.ntmps16
  go_wp2_with (first | (go_at_call 44; ((with_reducible refine (C.out _).mono ?_); rintro x' w1 ⟨rfl, rfl⟩)))
  go_ret
  exact ⟨ret_bool HE.out.symm, rfl⟩
theorem p_isPitched_v (n : Int) (w : World) {v : Bool} (h : Pt.pitched n = v) :
    Calls Tryd.prog 44 #[.int .i64 n] w fun x w' => x = .returned (.bool v) ∧ w = w' := h ▸ p_isPitched n w
end Go.Proofs.YtfjfnbeegojlbaaDoor

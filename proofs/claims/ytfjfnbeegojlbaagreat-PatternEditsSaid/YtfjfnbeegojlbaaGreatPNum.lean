/-
  Contracts of package pattern's small functions on numbers: what the call returns; the world stands.
-/
import Derived.Test.YtfjfnbeegojlbaaGreatBase
namespace Go.Proofs.YtfjfnbeegojlbaaGreat
open Go.RowKit

theorem p_within (n lo hi : Int) (w : World) :
    Calls Tryz.prog 53 #[.int .i64 n, .int .i64 lo, .int .i64 hi] w fun x w' => x = .returned (.bool (Pt.wth n lo hi)) ∧ w = w' := by
  by_cases h1 : lo ≤ n
  · by_cases h2 : n ≤ hi
    · have HB := Lib.hid (show Pt.wth n lo hi = true from decide_eq_true ⟨h1, h2⟩)
      go_enter Tryz.func53, Tryz.ntmps53
      go_wp2
      go_ret
      exact ⟨ret_bool HB.out.symm, rfl⟩
    · have HB := Lib.hid (show Pt.wth n lo hi = false from decide_eq_false (by omega))
      have hd : decide (n ≤ hi) = false := decide_eq_false h2
      go_enter Tryz.func53, Tryz.ntmps53
      go_wp2
      go_ret
      exact ⟨ret_bool HB.out.symm, rfl⟩
  · have HB := Lib.hid (show Pt.wth n lo hi = false from decide_eq_false (by omega))
    have hd : decide (lo ≤ n) = false := decide_eq_false h1
    go_enter Tryz.func53, Tryz.ntmps53
    go_wp2
    go_ret
    exact ⟨ret_bool HB.out.symm, rfl⟩
theorem p_within_v (n lo hi : Int) (w : World) {v : Bool} (h : Pt.wth n lo hi = v) :
    Calls Tryz.prog 53 #[.int .i64 n, .int .i64 lo, .int .i64 hi] w fun x w' => x = .returned (.bool v) ∧ w = w' := h ▸ p_within n lo hi w
theorem p_isPitched (n : Int) (w : World) :
    Calls Tryz.prog 67 #[.int .i64 n] w fun x w' => x = .returned (.bool (Pt.wth n 1 120)) ∧ w = w' := by
  have C := Lib.hid (fun w => p_within n 1 120 w)
  go_enter Tryz.func67, Tryz.ntmps67
  go_wp2_with (first | (go_at_call 53; ((with_reducible refine (C.out _).mono ?_); rintro x' w1 ⟨rfl, rfl⟩)))
  go_ret
  exact ⟨rfl, rfl⟩
theorem p_validChannels (n : Int) (w : World) :
    Calls Tryz.prog 37 #[.int .i64 n] w fun x w' => x = .returned (.bool (Pt.wth n 1 16)) ∧ w = w' := by
  have C := Lib.hid (fun w => p_within n 1 16 w)
  go_enter Tryz.func37, Tryz.ntmps37
  go_wp2_with (first | (go_at_call 53; ((with_reducible refine (C.out _).mono ?_); rintro x' w1 ⟨rfl, rfl⟩)))
  go_ret
  exact ⟨rfl, rfl⟩
theorem p_validRows (n : Int) (w : World) :
    Calls Tryz.prog 38 #[.int .i64 n] w fun x w' => x = .returned (.bool (Pt.wth n 1 64)) ∧ w = w' := by
  have C := Lib.hid (fun w => p_within n 1 64 w)
  go_enter Tryz.func38, Tryz.ntmps38
  go_wp2_with (first | (go_at_call 53; ((with_reducible refine (C.out _).mono ?_); rintro x' w1 ⟨rfl, rfl⟩)))
  go_ret
  exact ⟨rfl, rfl⟩
theorem p_isPlace (i n : Int) (w : World) (h1 : 1 ≤ n) (h2 : n ≤ 64) :
    Calls Tryz.prog 63 #[.int .i64 i, .int .i64 n] w fun x w' => x = .returned (.bool (Pt.plc i n)) ∧ w = w' := by
  have C := Lib.hid (fun w => p_within_v i 0 (n - 1) w (v := Pt.plc i n) (by unfold Pt.wth Pt.plc; exact decide_eq_decide.2 (by omega)))
  go_enter Tryz.func63, Tryz.ntmps63
  go_wp2_with (first | (go_at_call 53; ((with_reducible refine (C.out _).mono ?_); rintro x' w1 ⟨rfl, rfl⟩)))
  go_ret
  exact ⟨rfl, rfl⟩
theorem vnt_of {n : Int} (h0 : n ≠ 0) (h1 : n ≠ 253) (h2 : n ≠ 254) (h3 : n ≠ 255) : Pt.vnt n = Pt.wth n 1 120 := by
  unfold Pt.vnt Pt.wth
  exact decide_eq_decide.2 (by omega)
theorem p_validNote (n : Int) (w : World) :
    Calls Tryz.prog 65 #[.int .i64 n] w fun x w' => x = .returned (.bool (Pt.vnt n)) ∧ w = w' := by
  have C := Lib.hid (fun w => p_isPitched n w)
  by_cases h0 : n = 0
  · subst h0
    go_enter Tryz.func65, Tryz.ntmps65
    go_wp2
    go_ret
    exact ⟨rfl, rfl⟩
  by_cases h1 : n = 253
  · subst h1
    go_enter Tryz.func65, Tryz.ntmps65
    go_wp2
    go_ret
    exact ⟨rfl, rfl⟩
  by_cases h2 : n = 254
  · subst h2
    go_enter Tryz.func65, Tryz.ntmps65
    go_wp2
    go_ret
    exact ⟨rfl, rfl⟩
  by_cases h3 : n = 255
  · subst h3
    go_enter Tryz.func65, Tryz.ntmps65
    go_wp2
    go_ret
    exact ⟨rfl, rfl⟩
  have HE := Lib.hid (vnt_of h0 h1 h2 h3)
  have e0 : (n == 0) = false := beq_eq_false_iff_ne.2 h0
  have e1 : (n == 253) = false := beq_eq_false_iff_ne.2 h1
  have e2 : (n == 254) = false := beq_eq_false_iff_ne.2 h2
  have e3 : (n == 255) = false := beq_eq_false_iff_ne.2 h3
  clear h0 h1 h2 h3
  go_enter Tryz.func65, Tryz.ntmps65
  go_wp2_with (first | (go_at_call 67; ((with_reducible refine (C.out _).mono ?_); rintro x' w1 ⟨rfl, rfl⟩)))
  go_ret
  exact ⟨ret_bool HE.out.symm, rfl⟩
theorem p_isPitched_v (n : Int) (w : World) {v : Bool} (h : Pt.pitched n = v) :
    Calls Tryz.prog 67 #[.int .i64 n] w fun x w' => x = .returned (.bool v) ∧ w = w' := h ▸ p_isPitched n w
theorem p_transposed (n s : Int) (w : World) (s1 : -119 ≤ s) (s2 : s ≤ 119) :
    Calls Tryz.prog 54 #[.int .i64 n, .int .i64 s] w fun x w' => x = .returned (.int .i64 (Pt.trn n s)) ∧ w = w' := by
  by_cases h1 : Pt.pitched n = true
  · have hb : 1 ≤ n ∧ n ≤ 120 := Pt.wth_iff.1 h1
    obtain ⟨b1, b2⟩ := hb
    have C1 := Lib.hid (fun w => p_isPitched_v n w h1)
    by_cases h2 : Pt.pitched (n + s) = true
    all_goals
      first
      | (have HE := Lib.hid (show Pt.trn n s = n + s by unfold Pt.trn; rw [h1, h2]; rfl)
         have C2 := Lib.hid (fun w => p_isPitched_v (n + s) w h2))
      | (have h2' := Bool.eq_false_iff.2 h2
         have HE := Lib.hid (show Pt.trn n s = n by unfold Pt.trn; rw [h1, h2']; rfl)
         have C2 := Lib.hid (fun w => p_isPitched_v (n + s) w h2'))
      clear h1 h2
      go_enter Tryz.func54, Tryz.ntmps54
      go_wp2_with (first | (go_at_call 67; ((with_reducible refine (C1.out _).mono ?_); rintro x' w1 ⟨rfl, rfl⟩)) | (go_at_call 67; ((with_reducible refine (C2.out _).mono ?_); rintro x' w1 ⟨rfl, rfl⟩)))
      go_ret
      exact ⟨ret_int HE.out.symm, rfl⟩
  · have h1' := Bool.eq_false_iff.2 h1
    have C1 := Lib.hid (fun w => p_isPitched_v n w h1')
    have HE := Lib.hid (show Pt.trn n s = n by unfold Pt.trn; rw [h1']; rfl)
    clear h1 h1'
    go_enter Tryz.func54, Tryz.ntmps54
    go_wp2_with (first | (go_at_call 67; ((with_reducible refine (C1.out _).mono ?_); rintro x' w1 ⟨rfl, rfl⟩)))
    go_ret
    exact ⟨ret_int HE.out.symm, rfl⟩
end Go.Proofs.YtfjfnbeegojlbaaGreat

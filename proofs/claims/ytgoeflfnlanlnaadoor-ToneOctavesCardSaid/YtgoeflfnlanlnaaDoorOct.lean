/-
  The walk of the law ToneOctaves: for any two exponents it returns true, in a world whose variables letters and quarter hold what the program lays; memory stays as it was but for draws.
-/
import Derived.Test.YtgoeflfnlanlnaaDoorAwake
namespace Go.Proofs.YtgoeflfnlanlnaaDoor
open Go.RowKit

theorem oct_out (v w : Int) (W : World) (hl : Hid (LettersAre W)) (hq : Hid (QuarterIs W)) (h : v < -7680 ∨ 6912 < v ∨ w < v ∨ 7680 < w) :
    Calls Tryd.prog 5 #[.int .i64 v, .int .i64 w] W fun e w' => e = .returned (.bool true) ∧ ∃ d, w' = W.drewN d := by
  by_cases h1 : v < -7680
  · go_enter Tryd.func5, Tryd.ntmps5
    go_wp2_with (go_at_call 28; refine (awake_any _ hl hq).mono ?_; rintro e w' ⟨rfl, d, rfl⟩)
    go_ret
    exact ⟨rfl, _, rfl⟩
  by_cases h2 : 6912 < v
  · go_enter Tryd.func5, Tryd.ntmps5
    go_wp2_with (go_at_call 28; refine (awake_any _ hl hq).mono ?_; rintro e w' ⟨rfl, d, rfl⟩)
    go_ret
    exact ⟨rfl, _, rfl⟩
  by_cases h3 : w < v
  · go_enter Tryd.func5, Tryd.ntmps5
    go_wp2_with (go_at_call 28; refine (awake_any _ hl hq).mono ?_; rintro e w' ⟨rfl, d, rfl⟩)
    go_ret
    exact ⟨rfl, _, rfl⟩
  · have h4 : 7680 < w := by omega
    go_enter Tryd.func5, Tryd.ntmps5
    go_wp2_with (go_at_call 28; refine (awake_any _ hl hq).mono ?_; rintro e w' ⟨rfl, d, rfl⟩)
    go_ret
    exact ⟨rfl, _, rfl⟩
theorem oct_in (v w : Int) (W : World) (hl : Hid (LettersAre W)) (hq : Hid (QuarterIs W)) (h1 : -7680 ≤ v) (h2 : v ≤ 6912) (h3 : v ≤ w) (h4 : w ≤ 7680) :
    Calls Tryd.prog 5 #[.int .i64 v, .int .i64 w] W fun e w' => e = .returned (.bool true) ∧ ∃ d, w' = W.drewN d := by
  have b1 := Tm.ex_lo v h1
  have b2 := Tm.ex_hi v h1 (by omega)
  have b3 := Tm.ex_lo (v + 768) (by omega)
  have b4 := Tm.ex_hi (v + 768) (by omega) (by omega)
  have b5 := Tm.ex_mono v w h1 h3 h4
  rcases Tm.ex_double v h1 h2 with b6 | b6
  all_goals
    have H6 : Tm.ex (v + 768) = 2 * Tm.ex v ∨ Tm.ex (v + 768) = 2 * Tm.ex v + 1 := by omega
    go_enter Tryd.func5, Tryd.ntmps5
    go_wp2_with (first | (go_at_call 12; refine (exp_any _ _ (by omega) (by omega)).mono ?_; rintro e w' ⟨rfl, rfl⟩) | (go_at_call 28; refine (awake_any _ hl hq).mono ?_; rintro e w' ⟨rfl, d, rfl⟩))
    go_ret
    exact ⟨rfl, _, rfl⟩
theorem oct_any (v w : Int) (W : World) (hl : Hid (LettersAre W)) (hq : Hid (QuarterIs W)) :
    Calls Tryd.prog 5 #[.int .i64 v, .int .i64 w] W fun e w' => e = .returned (.bool true) ∧ ∃ d, w' = W.drewN d := by
  by_cases h : -7680 ≤ v ∧ v ≤ 6912 ∧ v ≤ w ∧ w ≤ 7680
  · exact oct_in v w W hl hq h.1 h.2.1 h.2.2.1 h.2.2.2
  · exact oct_out v w W hl hq (by omega)
end Go.Proofs.YtgoeflfnlanlnaaDoor

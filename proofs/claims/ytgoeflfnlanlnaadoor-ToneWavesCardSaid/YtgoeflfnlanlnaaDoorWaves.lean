/-
  The walk of the law ToneWaves: for any kind, place and seed it returns true, in a world whose variables letters and quarter hold what the program lays; memory stays as it was but for draws.
-/
import Derived.Test.YtgoeflfnlanlnaaDoorAwake
namespace Go.Proofs.YtgoeflfnlanlnaaDoor
open Go.RowKit

theorem waves_out (k p s : Int) (W : World) (hl : Hid (LettersAre W)) (hq : Hid (QuarterIs W)) (h : p < -1152921504606846976 ∨ 1152921504606846976 < p) :
    Calls Tryd.prog 7 #[.int .i64 k, .int .i64 p, .int .i64 s] W fun e w' => e = .returned (.bool true) ∧ ∃ d, w' = W.drewN d := by
  by_cases h1 : 1152921504606846976 < p
  · go_enter Tryd.func7, Tryd.ntmps7
    go_wp2_with (go_at_call 28; refine (awake_any _ hl hq).mono ?_; rintro e w' ⟨rfl, d, rfl⟩)
    go_ret
    exact ⟨rfl, _, rfl⟩
  · have h2 : p < -1152921504606846976 := by omega
    go_enter Tryd.func7, Tryd.ntmps7
    go_wp2_with (go_at_call 28; refine (awake_any _ hl hq).mono ?_; rintro e w' ⟨rfl, d, rfl⟩)
    go_ret
    exact ⟨rfl, _, rfl⟩
theorem waves_in (k p s : Int) (W : World) (hl : Hid (LettersAre W)) (hq : Hid (QuarterIs W)) (h1 : -1152921504606846976 ≤ p) (h2 : p ≤ 1152921504606846976) :
    Calls Tryd.prog 7 #[.int .i64 k, .int .i64 p, .int .i64 s] W fun e w' => e = .returned (.bool true) ∧ ∃ d, w' = W.drewN d := by
  obtain ⟨b1, b2⟩ := Tm.wv_bd k p s
  have b3 := Tm.wv_round k p s
  by_cases hk : k = 0 ∨ k = 2
  · have b4 := Tm.wv_turn k p s hk
    have t : (-Tm.wv k p s == -Tm.wv k p s) = true := by simp
    rcases hk with rfl | rfl
    all_goals
      go_enter Tryd.func7, Tryd.ntmps7
      go_wp2_with (first | (go_at_call 26; refine (wave_any _ _ _ _ hq).mono ?_; rintro e w' ⟨rfl, rfl⟩) | (go_at_call 28; refine (awake_any _ hl hq).mono ?_; rintro e w' ⟨rfl, d, rfl⟩))
      go_ret
      exact ⟨rfl, _, rfl⟩
  · have k0 : (k == 0) = false := by simp; omega
    have k2 : (k == 2) = false := by simp; omega
    have k0' : (k != 0) = true := by simp; omega
    have k2' : (k != 2) = true := by simp; omega
    go_enter Tryd.func7, Tryd.ntmps7
    go_wp2_with (first | (go_at_call 26; refine (wave_any _ _ _ _ hq).mono ?_; rintro e w' ⟨rfl, rfl⟩) | (go_at_call 28; refine (awake_any _ hl hq).mono ?_; rintro e w' ⟨rfl, d, rfl⟩))
    go_ret
    exact ⟨rfl, _, rfl⟩
theorem waves_any (k p s : Int) (W : World) (hl : Hid (LettersAre W)) (hq : Hid (QuarterIs W)) :
    Calls Tryd.prog 7 #[.int .i64 k, .int .i64 p, .int .i64 s] W fun e w' => e = .returned (.bool true) ∧ ∃ d, w' = W.drewN d := by
  by_cases h : -1152921504606846976 ≤ p ∧ p ≤ 1152921504606846976
  · exact waves_in k p s W hl hq h.1 h.2
  · exact waves_out k p s W hl hq (by omega)
end Go.Proofs.YtgoeflfnlanlnaaDoor

/-
  The walk of the law ToneRises: for any two pitches and any rate it returns true, in a world whose variables letters and quarter hold what the program lays; memory stays as it was but for draws.
-/
import Derived.Test.YtgoeflfnlanlnaaDoorAwake
namespace Go.Proofs.YtgoeflfnlanlnaaDoor
open Go.RowKit

theorem rises_out (p q r : Int) (W : World) (hl : Hid (LettersAre W)) (hq : Hid (QuarterIs W)) (h : p < -3840 ∨ 11519 < q ∨ q < p ∨ r < 1 ∨ 65535 < r) :
    Calls Tryd.prog 6 #[.int .i64 p, .int .i64 q, .int .i64 r] W fun e w' => e = .returned (.bool true) ∧ ∃ d, w' = W.drewN d := by
  by_cases h1 : p < -3840
  · clear h
    go_enter Tryd.func6, Tryd.ntmps6
    go_wp2_with (go_at_call 28; refine (awake_any _ hl hq).mono ?_; rintro e w' ⟨rfl, d, rfl⟩)
    go_ret
    exact ⟨rfl, _, rfl⟩
  by_cases h2 : 11519 < q
  · clear h
    go_enter Tryd.func6, Tryd.ntmps6
    go_wp2_with (go_at_call 28; refine (awake_any _ hl hq).mono ?_; rintro e w' ⟨rfl, d, rfl⟩)
    go_ret
    exact ⟨rfl, _, rfl⟩
  by_cases h3 : q < p
  · clear h
    go_enter Tryd.func6, Tryd.ntmps6
    go_wp2_with (go_at_call 28; refine (awake_any _ hl hq).mono ?_; rintro e w' ⟨rfl, d, rfl⟩)
    go_ret
    exact ⟨rfl, _, rfl⟩
  by_cases h4 : r < 1
  · clear h
    go_enter Tryd.func6, Tryd.ntmps6
    go_wp2_with (go_at_call 28; refine (awake_any _ hl hq).mono ?_; rintro e w' ⟨rfl, d, rfl⟩)
    go_ret
    exact ⟨rfl, _, rfl⟩
  · have h5 : 65535 < r := by omega
    clear h
    go_enter Tryd.func6, Tryd.ntmps6
    go_wp2_with (go_at_call 28; refine (awake_any _ hl hq).mono ?_; rintro e w' ⟨rfl, d, rfl⟩)
    go_ret
    exact ⟨rfl, _, rfl⟩
theorem pitchOf_back (p : Int) (w : World) (h1 : 0 ≤ p) (h2 : p < 7679) :
    Calls Tryd.prog 18 #[.int .i64 (Tm.per p)] w fun e w' => (∃ k : Int, e = .returned (.int .i64 k) ∧ p ≤ k ∧ k ≤ 7679 ∧ Tm.per k = Tm.per p ∧ (k = 7679 ∨ (k < 7679 ∧ Tm.per (k + 1) < Tm.per p))) ∧ w = w' :=
  (pitchOf_any (Tm.per p) w (Tm.per_one p) (by have := Tm.per_hi0 p h1 (by omega); omega)).mono fun e w' ⟨⟨k, he, h⟩, hw⟩ => ⟨⟨k, he, by
    obtain ⟨a1, a2, a3, a4⟩ := h
    have hpk : p ≤ k := by
      by_cases hx : p ≤ k
      · exact hx
      · have := a4 p (by omega) (by omega); omega
    have hle := Tm.per_anti p k (by omega) hpk (by omega)
    refine ⟨hpk, a2, ?_, ?_⟩
    · rcases a3 with rfl | a3
      · rw [show p = 0 by omega]
      · omega
    · by_cases hx : k = 7679
      · exact .inl hx
      · exact .inr ⟨by omega, a4 (k + 1) (by omega) (by omega)⟩⟩, hw⟩
set_option maxHeartbeats 1000000 in
theorem rises_in (p q r : Int) (W : World) (hl : Hid (LettersAre W)) (hq : Hid (QuarterIs W)) (h1 : -3840 ≤ p) (h2 : q ≤ 11519) (h3 : p ≤ q) (h4 : 1 ≤ r) (h5 : r ≤ 65535) :
    Calls Tryd.prog 6 #[.int .i64 p, .int .i64 q, .int .i64 r] W fun e w' => e = .returned (.bool true) ∧ ∃ d, w' = W.drewN d := by
  have b1 := Tm.fr_mono r p q h1 h3 h2 h4
  have b2 := Tm.per_anti p q h1 h3 h2
  have b3 := Tm.per_one q
  by_cases h6 : p < 0
  · go_enter Tryd.func6, Tryd.ntmps6
    go_wp2_with (first | (go_at_call 14; refine (freq_any _ _ _ h4 h5 (by omega) (by omega)).mono ?_; rintro e w' ⟨rfl, rfl⟩) | (go_at_call 16; refine (period_any _ _ (by omega) (by omega)).mono ?_; rintro e w' ⟨rfl, rfl⟩) | (go_at_call 28; refine (awake_any _ hl hq).mono ?_; rintro e w' ⟨rfl, d, rfl⟩))
    go_ret
    exact ⟨rfl, _, rfl⟩
  by_cases h7 : 7679 ≤ p
  · go_enter Tryd.func6, Tryd.ntmps6
    go_wp2_with (first | (go_at_call 14; refine (freq_any _ _ _ h4 h5 (by omega) (by omega)).mono ?_; rintro e w' ⟨rfl, rfl⟩) | (go_at_call 16; refine (period_any _ _ (by omega) (by omega)).mono ?_; rintro e w' ⟨rfl, rfl⟩) | (go_at_call 28; refine (awake_any _ hl hq).mono ?_; rintro e w' ⟨rfl, d, rfl⟩))
    go_ret
    exact ⟨rfl, _, rfl⟩
  · go_enter Tryd.func6, Tryd.ntmps6
    go_wp2_with (first | (go_at_call 14; refine (freq_any _ _ _ h4 h5 (by omega) (by omega)).mono ?_; rintro e w' ⟨rfl, rfl⟩) | (go_at_call 18; refine (pitchOf_back _ _ (by omega) (by omega)).mono ?_; rintro e w' ⟨⟨k, rfl, k1, k2, k3, k4⟩, rfl⟩; rcases k4 with rfl | ⟨k4, k5⟩) | (go_at_call 16; refine (period_any _ _ (by omega) (by omega)).mono ?_; rintro e w' ⟨rfl, rfl⟩) | (go_at_call 28; refine (awake_any _ hl hq).mono ?_; rintro e w' ⟨rfl, d, rfl⟩))
    all_goals go_ret
    all_goals exact ⟨rfl, _, rfl⟩
theorem rises_any (p q r : Int) (W : World) (hl : Hid (LettersAre W)) (hq : Hid (QuarterIs W)) :
    Calls Tryd.prog 6 #[.int .i64 p, .int .i64 q, .int .i64 r] W fun e w' => e = .returned (.bool true) ∧ ∃ d, w' = W.drewN d := by
  by_cases h : -3840 ≤ p ∧ q ≤ 11519 ∧ p ≤ q ∧ 1 ≤ r ∧ r ≤ 65535
  · exact rises_in p q r W hl hq h.1 h.2.1 h.2.2.1 h.2.2.2.1 h.2.2.2.2
  · exact rises_out p q r W hl hq (by omega)
end Go.Proofs.YtgoeflfnlanlnaaDoor

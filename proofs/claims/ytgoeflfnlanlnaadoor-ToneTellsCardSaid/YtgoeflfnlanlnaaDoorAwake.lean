/-
  The contract of the law's own check on the chapter's examples (awake): it returns true; memory stays as it was but for draws.
-/
import Derived.Test.YtgoeflfnlanlnaaDoorNote
namespace Go.Proofs.YtgoeflfnlanlnaaDoor
open Go.RowKit

theorem note_c5 (w : World) (hl : Hid (LettersAre w)) :
    Calls Tryd.prog 29 #[.string ⟨#[67, 45, 53]⟩] w fun e w' => e = .returned (.tuple #[.int .i64 60, .int .i64 0]) ∧ ∃ d, w' = w.drewN d :=
  (note_any _ w hl).mono fun e w' ⟨⟨n, x, he, hn⟩, hd⟩ => by
    obtain ⟨rfl, rfl⟩ := Tm.note_c5 hn
    exact ⟨he, hd⟩
theorem exp_a (w : World) : Calls Tryd.prog 12 #[.int .i64 (-768)] w fun e w' => e = .returned (.int .i64 32768) ∧ w = w' := by
  have := exp_any (-768) w (by decide) (by decide)
  rwa [show Tm.ex (-768) = 32768 by decide +kernel] at this
theorem freq_a (w : World) : Calls Tryd.prog 14 #[.int .i64 8363, .int .i64 3840] w fun e w' => e = .returned (.int .i64 2140928) ∧ w = w' := by
  have := freq_any 8363 3840 w (by decide) (by decide) (by decide) (by decide)
  rwa [show Tm.fr 8363 3840 = 2140928 by decide +kernel] at this
theorem per_856 : Tm.per 4608 = 856 := by decide +kernel
theorem period_a (w : World) : Calls Tryd.prog 16 #[.int .i64 4608] w fun e w' => e = .returned (.int .i64 856) ∧ w = w' := by
  have := period_any 4608 w (by decide) (by decide)
  rwa [per_856] at this
theorem pitchOf_a (w : World) : Calls Tryd.prog 18 #[.int .i64 856] w fun e w' => (∃ k : Int, e = .returned (.int .i64 k) ∧ 0 < k) ∧ w = w' :=
  (pitchOf_any 856 w (by decide) (by decide)).mono fun e w' ⟨⟨k, he, h⟩, hw⟩ => ⟨⟨k, he, by
    by_cases h0 : 0 < k
    · exact h0
    · have := h.2.2.2 4608 (by have := h.1; omega) (by decide)
      rw [per_856] at this
      omega⟩, hw⟩
theorem wave_a (w : World) (hq : Hid (QuarterIs w)) : Calls Tryd.prog 26 #[.int .i64 0, .int .i64 16, .int .i64 0] w fun e w' => e = .returned (.int .i64 255) ∧ w = w' := by
  have := wave_any 0 16 0 w hq
  rwa [show Tm.wv 0 16 0 = 255 by decide +kernel] at this
theorem next_a (w : World) : Calls Tryd.prog 8 #[.int .i64 0] w fun e w' => e = .returned (.int .i64 12345) ∧ w = w' := by
  have := next_any 0 w (by decide) (by decide)
  rwa [show Tm.nx 0 = 12345 by decide +kernel] at this

theorem awake_any (w : World) (hl : Hid (LettersAre w)) (hq : Hid (QuarterIs w)) :
    Calls Tryd.prog 28 #[] w fun e w' => e = .returned (.bool true) ∧ ∃ d, w' = w.drewN d := by
  go_enter Tryd.func28, Tryd.ntmps28
  go_wp2_with (first | (go_at_call 29; refine (note_c5 _ hl).mono ?_; rintro e w' ⟨rfl, d, rfl⟩) | (go_at_call 12; refine (exp_a _).mono ?_; rintro e w' ⟨rfl, rfl⟩) | (go_at_call 14; refine (freq_a _).mono ?_; rintro e w' ⟨rfl, rfl⟩) | (go_at_call 16; refine (period_a _).mono ?_; rintro e w' ⟨rfl, rfl⟩) | (go_at_call 18; refine (pitchOf_a _).mono ?_; rintro e w' ⟨⟨k, rfl, hk⟩, rfl⟩) | (go_at_call 26; refine (wave_a _ (hq.out.drewN _)).mono ?_; rintro e w' ⟨rfl, rfl⟩) | (go_at_call 8; refine (next_a _).mono ?_; rintro e w' ⟨rfl, rfl⟩))
  go_ret
  exact ⟨rfl, _, rfl⟩
end Go.Proofs.YtgoeflfnlanlnaaDoor

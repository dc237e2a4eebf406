/-
  Contracts of package tone's functions Freq, Period, PitchOf, Next and Wave: for the arguments that each theorem names, what the call returns; memory stays as it was.
-/
import Derived.Test.YtgoeflfnlanlnaaDoorWalkA
import Derived.Test.YtgoeflfnlanlnaaDoorBits
import Derived.Lib.Hide
namespace Go.Proofs.YtgoeflfnlanlnaaDoor
open Go.RowKit

theorem freq_any (r p : Int) (w : World) (h1 : 1 ≤ r) (h2 : r ≤ 65535) (h3 : -3840 ≤ p) (h4 : p ≤ 11519) :
    Calls Tryd.prog 14 #[.int .i64 r, .int .i64 p] w fun e w' => e = .returned (.int .i64 (Tm.fr r p)) ∧ w = w' := by
  have a1 := Tm.ex_lo (p - 3840) (by omega)
  have a2 := Tm.ex_hi (p - 3840) (by omega) (by omega)
  have a3 : 0 ≤ r * Tm.ex (p - 3840) := Int.mul_nonneg (by omega) (by omega)
  have a4 : r * Tm.ex (p - 3840) ≤ 65535 * 67108864 := Int.mul_le_mul h2 a2 (by omega) (by omega)
  go_enter Tryd.func14, Tryd.ntmps14
  go_wp2_with (first | (go_at_call 33; refine (within_yes _ _ _ _ h1 h2).mono ?_; rintro e w' ⟨rfl, rfl⟩) | (go_at_call 39; refine (isPitch_yes _ _ h3 h4).mono ?_; rintro e w' ⟨rfl, rfl⟩) | (go_at_call 12; refine (exp_any _ _ (by omega) (by omega)).mono ?_; rintro e w' ⟨rfl, rfl⟩))
  go_ret
  exact ⟨ret_int rfl, rfl⟩

theorem period_any (p : Int) (w : World) (h3 : -3840 ≤ p) (h4 : p ≤ 11519) :
    Calls Tryd.prog 16 #[.int .i64 p] w fun e w' => e = .returned (.int .i64 (Tm.per p)) ∧ w = w' := by
  have a1 := Tm.ex_lo (3840 - p) (by omega)
  have a2 := Tm.ex_hi (3840 - p) (by omega) (by omega)
  go_enter Tryd.func16, Tryd.ntmps16
  go_wp2_with (first | (go_at_call 39; refine (isPitch_yes _ _ h3 h4).mono ?_; rintro e w' ⟨rfl, rfl⟩) | (go_at_call 12; refine (exp_any _ _ (by omega) (by omega)).mono ?_; rintro e w' ⟨rfl, rfl⟩))
  all_goals
    go_ret
    exact ⟨ret_int (by unfold Tm.per; omega), rfl⟩

theorem next_any (s : Int) (w : World) (h3 : 0 ≤ s) (h4 : s ≤ 2147483647) :
    Calls Tryd.prog 8 #[.int .i64 s] w fun e w' => e = .returned (.int .i64 (Tm.nx s)) ∧ w = w' := by
  have hb := Tm.and2147483647 (s * 1103515245 + 12345)
  go_enter Tryd.func8, Tryd.ntmps8
  go_wp2_with (first | (go_at_call 33; refine (within_yes _ _ _ _ h3 h4).mono ?_; rintro e w' ⟨rfl, rfl⟩))
  go_ret
  exact ⟨ret_int (by unfold Tm.nx; omega), rfl⟩

theorem pitchOf_any (n : Int) (w : World) (h1 : 1 ≤ n) (h2 : n ≤ 1048576) :
    Calls Tryd.prog 18 #[.int .i64 n] w fun e w' => (∃ k : Int, e = .returned (.int .i64 k) ∧ Tm.Greatest n k) ∧ w = w' := by
  go_enter Tryd.func18, Tryd.ntmps18
  go_wp2_with (first | (go_at_call 33; refine (within_yes _ _ _ _ h1 h2).mono ?_; rintro e w' ⟨rfl, rfl⟩))
  go_loop [3, 4] (fun a b => ∃ lo hi : Int, 0 ≤ lo ∧ lo ≤ hi ∧ hi ≤ 7679 ∧ a = .int .i64 lo ∧ b = .int .i64 hi ∧ Tm.Pf n lo hi) (fun a b => (intOf b - intOf a).toNat)
  case atStart => exact ⟨0, 7679, by omega, by omega, by omega, rfl, rfl, Tm.Pf_start n⟩
  case round =>
    obtain ⟨lo, hi, b1, b2, b3, rfl, rfl, hp⟩ := hrel
    by_cases hlt : lo < hi
    · by_cases ht : n ≤ Tm.per ((lo + hi + 1) / 2)
      · go_wp2_with (go_at_call 16; refine (period_any _ _ (by omega) (by omega)).mono ?_; rintro e w' ⟨rfl, rfl⟩)
        go_round
        case rel => exact ⟨(lo + hi + 1) / 2, hi, by omega, by omega, by omega, rfl, rfl, Tm.Pf_up hp ht⟩
        case measure => simp [intOf]; omega
      · go_wp2_with (go_at_call 16; refine (period_any _ _ (by omega) (by omega)).mono ?_; rintro e w' ⟨rfl, rfl⟩)
        go_round
        case rel => exact ⟨lo, (lo + hi + 1) / 2 - 1, by omega, by omega, by omega, rfl, rfl, Tm.Pf_down hp (by omega) (by omega)⟩
        case measure => simp [intOf]; omega
    · go_wp2
      go_ret
      obtain rfl : lo = hi := by omega
      exact ⟨⟨lo, rfl, Tm.Pf_end hp (by omega) (by omega)⟩, rfl⟩

/-- The quarter of the sine, as the program's variable holds it. -/
def QuarterIs (w : World) : Prop := ∀ i : Nat, i < 17 → w.cell? ⟨1, i, none⟩ = some (.int .i64 (Tm.qt.getD i 0))

theorem sine_any (p : Int) (w : World) (hq : Hid (QuarterIs w)) (h1 : 0 ≤ p) (h2 : p < 64) :
    Calls Tryd.prog 43 #[.int .i64 p] w fun e w' => e = .returned (.int .i64 (Tm.sn p)) ∧ w = w' := by
  obtain ⟨h, hh⟩ : ∃ h : Nat, p % 32 = h := ⟨(p % 32).toNat, by omega⟩
  have hs : Tm.sn p = if p < 32 then Tm.qt.getD (min (h : Int) (32 - (h : Int))).toNat 0 else - Tm.qt.getD (min (h : Int) (32 - (h : Int))).toNat 0 := by
    unfold Tm.sn; rw [hh]
  have hb : bits .and .i64 p 31 = (h : Int) := (Tm.and31 p).trans hh
  have hk : h ≤ 31 := by omega
  clear hh
  by_cases hx : (h : Int) ≤ 32 - (h : Int)
  · have hc := hq.out h (by omega)
    rw [show (min (h : Int) (32 - (h : Int))).toNat = h by omega] at hs
    have hz := Tm.qt_bd h
    generalize Tm.qt.getD h 0 = z at hs hc hz
    have H := Lib.hid hs
    clear hs
    by_cases hy : (h : Int) < 32 - (h : Int)
    · clear hx
      by_cases hp : p < 32
      all_goals
        go_enter Tryd.func43, Tryd.ntmps43
        go_wp2
        go_ret
        exact ⟨ret_int (by rw [H.out]; omega), rfl⟩
    · obtain rfl : h = 16 := by omega
      clear hx hy hk
      by_cases hp : p < 32
      all_goals
        go_enter Tryd.func43, Tryd.ntmps43
        go_wp2
        go_ret
        exact ⟨ret_int (by rw [H.out]; omega), rfl⟩
  · have hc := hq.out (32 - h) (by omega)
    rw [show (min (h : Int) (32 - (h : Int))).toNat = 32 - h by omega] at hs
    have hz := Tm.qt_bd (32 - h)
    generalize Tm.qt.getD (32 - h) 0 = z at hs hc hz
    have H := Lib.hid hs
    clear hs
    have hy : 32 - (h : Int) < (h : Int) := by omega
    clear hx
    by_cases hp : p < 32
    all_goals
      go_enter Tryd.func43, Tryd.ntmps43
      go_wp2
      go_ret
      exact ⟨ret_int (by rw [H.out]; omega), rfl⟩

theorem square_low (p : Int) (w : World) (h : p < 32) :
    Calls Tryd.prog 44 #[.int .i64 p] w fun e w' => e = .returned (.int .i64 255) ∧ w = w' := by
  go_enter Tryd.func44, Tryd.ntmps44
  go_wp2
  go_ret
  exact ⟨rfl, rfl⟩
theorem square_high (p : Int) (w : World) (h : 32 ≤ p) :
    Calls Tryd.prog 44 #[.int .i64 p] w fun e w' => e = .returned (.int .i64 (-255)) ∧ w = w' := by
  go_enter Tryd.func44, Tryd.ntmps44
  go_wp2
  go_ret
  exact ⟨rfl, rfl⟩
theorem square_any (p : Int) (w : World) :
    Calls Tryd.prog 44 #[.int .i64 p] w fun e w' => e = .returned (.int .i64 (Tm.sqv p)) ∧ w = w' := by
  unfold Tm.sqv
  by_cases h : p < 32
  · rw [if_pos h]; exact square_low p w h
  · rw [if_neg h]; exact square_high p w (by omega)

theorem random_in (s : Int) (w : World) (h3 : 0 ≤ s) (h4 : s ≤ 2147483647) :
    Calls Tryd.prog 45 #[.int .i64 s] w fun e w' => e = .returned (.int .i64 (Tm.nx s / 256 % 511 - 255)) ∧ w = w' := by
  have hn : 0 ≤ Tm.nx s ∧ Tm.nx s < 2147483648 := by unfold Tm.nx; omega
  go_enter Tryd.func45, Tryd.ntmps45
  go_wp2_with (first | (go_at_call 33; refine (within_yes _ _ _ _ h3 h4).mono ?_; rintro e w' ⟨rfl, rfl⟩) | (go_at_call 8; refine (next_any _ _ h3 h4).mono ?_; rintro e w' ⟨rfl, rfl⟩))
  go_ret
  exact ⟨rfl, rfl⟩
theorem random_out (s : Int) (w : World) (h : s < 0 ∨ 2147483647 < s) :
    Calls Tryd.prog 45 #[.int .i64 s] w fun e w' => e = .returned (.int .i64 0) ∧ w = w' := by
  go_enter Tryd.func45, Tryd.ntmps45
  go_wp2_with (first | (go_at_call 33; refine (within_no _ _ _ _ h).mono ?_; rintro e w' ⟨rfl, rfl⟩))
  go_ret
  exact ⟨rfl, rfl⟩
theorem random_any (s : Int) (w : World) :
    Calls Tryd.prog 45 #[.int .i64 s] w fun e w' => e = .returned (.int .i64 (Tm.rnv s)) ∧ w = w' := by
  unfold Tm.rnv
  by_cases h : 0 ≤ s ∧ s ≤ 2147483647
  · rw [if_pos h]; exact random_in s w h.1 h.2
  · rw [if_neg h]; exact random_out s w (by omega)

theorem wave_any (k p s : Int) (w : World) (hq : Hid (QuarterIs w)) :
    Calls Tryd.prog 26 #[.int .i64 k, .int .i64 p, .int .i64 s] w fun e w' => e = .returned (.int .i64 (Tm.wv k p s)) ∧ w = w' := by
  have hb := Tm.and63 p
  have hb1 : 0 ≤ p % 64 := by omega
  have hb2 : p % 64 < 64 := by omega
  by_cases h0 : k = 0
  · subst h0
    go_enter Tryd.func26, Tryd.ntmps26
    go_wp2_with (first | (go_at_call 43; refine (sine_any _ _ hq (by omega) (by omega)).mono ?_; rintro e w' ⟨rfl, rfl⟩))
    go_ret
    exact ⟨ret_int (by simp [Tm.wv]), rfl⟩
  by_cases h1 : k = 1
  · subst h1
    go_enter Tryd.func26, Tryd.ntmps26
    go_wp2
    go_ret
    exact ⟨ret_int (by simp [Tm.wv]), rfl⟩
  by_cases h2 : k = 2
  · subst h2
    go_enter Tryd.func26, Tryd.ntmps26
    go_wp2_with (first | (go_at_call 44; refine (square_any _ _).mono ?_; rintro e w' ⟨rfl, rfl⟩))
    go_ret
    exact ⟨ret_int (by simp [Tm.wv]), rfl⟩
  by_cases h3 : k = 3
  · subst h3
    go_enter Tryd.func26, Tryd.ntmps26
    go_wp2_with (first | (go_at_call 45; refine (random_any _ _).mono ?_; rintro e w' ⟨rfl, rfl⟩))
    go_ret
    exact ⟨ret_int (by simp [Tm.wv]), rfl⟩
  · go_enter Tryd.func26, Tryd.ntmps26
    go_wp2
    go_ret
    exact ⟨ret_int (by unfold Tm.wv; rw [if_neg h0, if_neg h1, if_neg h2, if_neg h3]), rfl⟩
end Go.Proofs.YtgoeflfnlanlnaaDoor

/-
  Contracts of the reference's functions on powers, frequencies and periods, for any numbers: what the call returns; nothing that was there is changed.
-/
import Derived.Test.YtgoeflfnlanlnaaDoorRefRow
namespace Go.Proofs.YtgoeflfnlanlnaaDoor
open Go.RowKit

/-- Block g holds the row. -/
def RowIs (w : World) (g : Nat) : Prop := ∀ i : Nat, i < 768 → w.cell? ⟨g, i, none⟩ = some (.int .i64 (Tm.R i))
theorem rowIs_of {w : World} {base g cap : Nat} (h : w.ownsRow base 3 1 (.slice (some ⟨g, 0, none⟩) 768 cap) 768 (Rs 768)) : RowIs w g := fun i hi => by
  rw [h.cellAt i (by omega), Rs_at hi]
theorem rrow' (w : World) :
    Calls Tryd.prog 37 #[] w fun e w' => (∃ g cap, e = .returned (.slice (some ⟨g, 0, none⟩) 768 cap) ∧ Hid (RowIs w' g)) ∧ Below w.heap.size w w' :=
  (rrow w).mono fun _ _ ⟨⟨_, he, g, cap, hv, ho⟩, hb⟩ => ⟨⟨g, cap, by rw [he, hv], rowIs_of ho⟩, hb⟩

theorem rexp (v : Int) (g cap : Nat) (w : World) (hr : Hid (RowIs w g)) (h1 : -7680 ≤ v) (h2 : v ≤ 7680) :
    Calls Tryd.prog 38 #[.slice (some ⟨g, 0, none⟩) 768 cap, .int .i64 v] w fun e w' => e = .returned (.int .i64 (Tm.ex v)) ∧ w = w' := by
  obtain ⟨i, hi⟩ : ∃ i : Nat, v - 768 * (v / 768) = i := ⟨(v - 768 * (v / 768)).toNat, by omega⟩
  have hi' : (i : Int) < 768 := by omega
  have hc := hr.out i (by omega)
  have HX := Lib.hid (Tm.ex_ref v i h1 hi)
  have r1 := Tm.R_lo i
  go_enter Tryd.func38, Tryd.ntmps38
  go_wp2_with (first | (go_at_call 42; ((with_reducible refine (rfloor768 _ _ (by omega) (by omega)).mono ?_); rintro e w' ⟨rfl, rfl⟩)) | (go_at_call 36; ((with_reducible refine (rraised _ _ _ (by omega) (by omega)).mono ?_); rintro e w' ⟨rfl, rfl⟩)))
  go_ret
  exact ⟨ret_int HX.out, rfl⟩
theorem rperiod (p : Int) (g cap : Nat) (w : World) (hr : Hid (RowIs w g)) (h1 : -3840 ≤ p) (h2 : p ≤ 11519) :
    Calls Tryd.prog 41 #[.slice (some ⟨g, 0, none⟩) 768 cap, .int .i64 p] w fun e w' => e = .returned (.int .i64 (Tm.per p)) ∧ w = w' := by
  have a1 := Tm.ex_lo (3840 - p) (by omega)
  have a2 := Tm.ex_hi (3840 - p) (by omega) (by omega)
  have hn : 1 ≤ 1712 * Tm.ex (3840 - p) / 65536 := by omega
  go_enter Tryd.func41, Tryd.ntmps41
  go_wp2_with (first | (go_at_call 38; ((with_reducible refine (rexp _ _ _ _ hr (by omega) (by omega)).mono ?_); rintro e w' ⟨rfl, rfl⟩)))
  go_ret
  exact ⟨ret_int (by unfold Tm.per; omega), rfl⟩

theorem r_exp (v : Int) (w : World) :
    Calls Tryd.prog 13 #[.int .i64 v] w fun e w' => e = .returned (.int .i64 (Tm.tExp v)) ∧ Below w.heap.size w w' := by
  unfold Tm.tExp
  by_cases h : -7680 ≤ v ∧ v ≤ 7680
  · rw [if_pos h]
    obtain ⟨a1, a2⟩ := h
    go_enter Tryd.func13, Tryd.ntmps13
    go_wp2_with (first | (go_at_call 34; ((with_reducible refine (rwithin_yes _ _ _ _ a1 a2).mono ?_); rintro e w' ⟨rfl, rfl⟩)) | (go_at_call 37; ((with_reducible refine (rrow' _).mono ?_); rintro e w' ⟨⟨g, cap, rfl, hr⟩, hb⟩)) | (go_at_call 38; ((with_reducible refine (rexp _ _ _ _ (by assumption) a1 a2).mono ?_); rintro e w' ⟨rfl, rfl⟩)))
    go_ret
    exact ⟨rfl, by assumption⟩
  · rw [if_neg h]
    go_enter Tryd.func13, Tryd.ntmps13
    go_wp2_with (first | (go_at_call 34; ((with_reducible refine (rwithin_no _ _ _ _ (by omega)).mono ?_); rintro e w' ⟨rfl, rfl⟩)))
    go_ret
    exact ⟨rfl, Below.refl _ _⟩
theorem r_pow (i : Int) (w : World) :
    Calls Tryd.prog 11 #[.int .i64 i] w fun e w' => e = .returned (.int .i64 (Tm.tPow i)) ∧ Below w.heap.size w w' := by
  unfold Tm.tPow
  by_cases h : 0 ≤ i ∧ i ≤ 767
  · rw [if_pos h]
    obtain ⟨a1, a2⟩ := h
    obtain ⟨k, rfl⟩ := Int.eq_ofNat_of_zero_le a1
    have hk : (k : Int) < 768 := by omega
    go_enter Tryd.func11, Tryd.ntmps11
    go_wp2_with (first | (go_at_call 34; ((with_reducible refine (rwithin_yes _ _ _ _ a1 a2).mono ?_); rintro e w' ⟨rfl, rfl⟩)) | (go_at_call 37; ((with_reducible refine (rrow' _).mono ?_); rintro e w' ⟨⟨g, cap, rfl, hr⟩, hb⟩; have hc := hr.out k (by omega))) | (go_at_call 36; ((with_reducible refine (rraised _ _ _ (by omega) (by omega)).mono ?_); rintro e w' ⟨rfl, rfl⟩)))
    go_ret
    exact ⟨ret_int rfl, by assumption⟩
  · rw [if_neg h]
    go_enter Tryd.func11, Tryd.ntmps11
    go_wp2_with (first | (go_at_call 34; ((with_reducible refine (rwithin_no _ _ _ _ (by omega)).mono ?_); rintro e w' ⟨rfl, rfl⟩)))
    go_ret
    exact ⟨rfl, Below.refl _ _⟩
theorem r_period (p : Int) (w : World) :
    Calls Tryd.prog 17 #[.int .i64 p] w fun e w' => e = .returned (.int .i64 (Tm.tPer p)) ∧ Below w.heap.size w w' := by
  unfold Tm.tPer
  by_cases h : -3840 ≤ p ∧ p ≤ 11519
  · rw [if_pos h]
    obtain ⟨a1, a2⟩ := h
    go_enter Tryd.func17, Tryd.ntmps17
    go_wp2_with (first | (go_at_call 40; ((with_reducible refine (rpitched_yes _ _ a1 a2).mono ?_); rintro e w' ⟨rfl, rfl⟩)) | (go_at_call 37; ((with_reducible refine (rrow' _).mono ?_); rintro e w' ⟨⟨g, cap, rfl, hr⟩, hb⟩)) | (go_at_call 41; ((with_reducible refine (rperiod _ _ _ _ (by assumption) a1 a2).mono ?_); rintro e w' ⟨rfl, rfl⟩)))
    go_ret
    exact ⟨rfl, by assumption⟩
  · rw [if_neg h]
    go_enter Tryd.func17, Tryd.ntmps17
    go_wp2_with (first | (go_at_call 40; ((with_reducible refine (rpitched_no _ _ (by omega)).mono ?_); rintro e w' ⟨rfl, rfl⟩)))
    go_ret
    exact ⟨rfl, Below.refl _ _⟩
theorem r_freq (r p : Int) (w : World) :
    Calls Tryd.prog 15 #[.int .i64 r, .int .i64 p] w fun e w' => e = .returned (.int .i64 (Tm.tFreq r p)) ∧ Below w.heap.size w w' := by
  unfold Tm.tFreq
  by_cases h : (1 ≤ r ∧ r ≤ 65535) ∧ -3840 ≤ p ∧ p ≤ 11519
  · rw [if_pos h]
    obtain ⟨⟨a1, a2⟩, a3, a4⟩ := h
    have b1 := Tm.ex_lo (p - 3840) (by omega)
    have b2 := Tm.ex_hi (p - 3840) (by omega) (by omega)
    have b3 : 0 ≤ r * Tm.ex (p - 3840) := Int.mul_nonneg (by omega) (by omega)
    have b4 : r * Tm.ex (p - 3840) ≤ 65535 * 67108864 := Int.mul_le_mul a2 b2 (by omega) (by omega)
    have t : Tm.tExp (p - 3840) = Tm.ex (p - 3840) := by unfold Tm.tExp; rw [if_pos (by omega)]
    go_enter Tryd.func15, Tryd.ntmps15
    go_wp2_with (first | (go_at_call 34; ((with_reducible refine (rwithin_yes _ _ _ _ a1 a2).mono ?_); rintro e w' ⟨rfl, rfl⟩)) | (go_at_call 40; ((with_reducible refine (rpitched_yes _ _ a3 a4).mono ?_); rintro e w' ⟨rfl, rfl⟩)) | (go_at_call 13; ((with_reducible refine (r_exp _ _).mono ?_); rintro e w' ⟨rfl, hb⟩)))
    go_ret
    exact ⟨ret_int rfl, by assumption⟩
  · rw [if_neg h]
    by_cases h1 : 1 ≤ r ∧ r ≤ 65535
    · go_enter Tryd.func15, Tryd.ntmps15
      go_wp2_with (first | (go_at_call 34; ((with_reducible refine (rwithin_yes _ _ _ _ h1.1 h1.2).mono ?_); rintro e w' ⟨rfl, rfl⟩)) | (go_at_call 40; ((with_reducible refine (rpitched_no _ _ (by omega)).mono ?_); rintro e w' ⟨rfl, rfl⟩)))
      go_ret
      exact ⟨rfl, Below.refl _ _⟩
    · go_enter Tryd.func15, Tryd.ntmps15
      go_wp2_with (first | (go_at_call 34; ((with_reducible refine (rwithin_no _ _ _ _ (by omega)).mono ?_); rintro e w' ⟨rfl, rfl⟩)))
      go_ret
      exact ⟨rfl, Below.refl _ _⟩
theorem r_pitchOf (n : Int) (w : World) :
    Calls Tryd.prog 19 #[.int .i64 n] w fun e w' => e = .returned (.int .i64 (Tm.tPit n)) ∧ Below w.heap.size w w' := by
  unfold Tm.tPit
  by_cases h : 1 ≤ n ∧ n ≤ 1048576
  · rw [if_pos h]
    obtain ⟨a1, a2⟩ := h
    go_enter Tryd.func19, Tryd.ntmps19
    go_wp2_with (first | (go_at_call 34; ((with_reducible refine (rwithin_yes _ _ _ _ a1 a2).mono ?_); rintro e w' ⟨rfl, rfl⟩)) | (go_at_call 37; ((with_reducible refine (rrow' _).mono ?_); rintro e w' ⟨⟨g, cap, rfl, hr⟩, hb⟩)))
    go_loop [4] (fun i => ∃ k : Int, 0 ≤ k ∧ k ≤ 7679 ∧ i = .int .i64 k ∧ Tm.NoneAbove n k) (fun i => (intOf i).toNat)
    case atStart => exact ⟨7679, by omega, by omega, rfl, Tm.noneAbove_start n⟩
    case round =>
      obtain ⟨k, k1, k2, rfl, hn⟩ := hrel
      by_cases hlt : 0 < k
      · by_cases ht : n ≤ Tm.per k
        · have HA := Lib.hid (Tm.pit_eq (Tm.pit_at k1 k2 ht hn))
          go_wp2_with (first | (go_at_call 41; ((with_reducible refine (rperiod _ _ _ _ hr (by omega) (by omega)).mono ?_); rintro e w' ⟨rfl, rfl⟩)))
          go_ret
          exact ⟨ret_int HA.out, hb⟩
        · have HN := Tm.noneAbove_down hn (by omega)
          go_wp2_with (first | (go_at_call 41; ((with_reducible refine (rperiod _ _ _ _ hr (by omega) (by omega)).mono ?_); rintro e w' ⟨rfl, rfl⟩)))
          go_round
          case rel => exact ⟨k - 1, by omega, by omega, rfl, HN⟩
          case measure => simp [intOf]; omega
      · obtain rfl : k = 0 := by omega
        have HA := Lib.hid (Tm.pit_eq (Tm.pit_zero hn))
        go_wp2
        go_ret
        exact ⟨ret_int HA.out, hb⟩
  · rw [if_neg h]
    go_enter Tryd.func19, Tryd.ntmps19
    go_wp2_with (first | (go_at_call 34; ((with_reducible refine (rwithin_no _ _ _ _ (by omega)).mono ?_); rintro e w' ⟨rfl, rfl⟩)))
    go_ret
    exact ⟨rfl, Below.refl _ _⟩
end Go.Proofs.YtgoeflfnlanlnaaDoor

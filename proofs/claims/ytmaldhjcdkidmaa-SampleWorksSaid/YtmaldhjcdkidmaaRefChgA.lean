/-
  Contracts of the reference's kept, Clamp and times.
-/
import Derived.Test.YtmaldhjcdkidmaaPAmp
namespace Go.Proofs.Ytmaldhjcdkidmaa
open Go.RowKit

theorem r_kept_z (k s e f t : Int) (w : World) (h : k = 0) :
    Calls Try.prog 60 #[.int .i64 k, .int .i64 s, .int .i64 e, .int .i64 f, .int .i64 t] w fun x w' => x = .returned (.tuple #[.int .i64 (0), .int .i64 (0), .int .i64 (0)]) ∧ w = w' := by
  subst h
  go_enter Try.func60, Try.ntmps60
  go_wp2
  exact bodyPost_ret (v := .tuple #[.int .i64 (0), .int .i64 (0), .int .i64 (0)]) (by simp [results, Try.results60, go_sem]) rfl ⟨rfl, rfl⟩
theorem r_kept_a (k s e f t : Int) (w : World) (hk : ¬ k = 0) (h : s < f) :
    Calls Try.prog 60 #[.int .i64 k, .int .i64 s, .int .i64 e, .int .i64 f, .int .i64 t] w fun x w' => x = .returned (.tuple #[.int .i64 (0), .int .i64 (0), .int .i64 (0)]) ∧ w = w' := by
  have hk' : (k == 0) = false := by simpa using hk
  clear hk
  go_enter Try.func60, Try.ntmps60
  go_wp2
  exact bodyPost_ret (v := .tuple #[.int .i64 (0), .int .i64 (0), .int .i64 (0)]) (by simp [results, Try.results60, go_sem]) rfl ⟨rfl, rfl⟩
theorem r_kept_b (k s e f t : Int) (w : World) (hk : ¬ k = 0) (h : ¬ s < f) (h2 : t < e) :
    Calls Try.prog 60 #[.int .i64 k, .int .i64 s, .int .i64 e, .int .i64 f, .int .i64 t] w fun x w' => x = .returned (.tuple #[.int .i64 (0), .int .i64 (0), .int .i64 (0)]) ∧ w = w' := by
  have hk' : (k == 0) = false := by simpa using hk
  clear hk
  go_enter Try.func60, Try.ntmps60
  go_wp2
  exact bodyPost_ret (v := .tuple #[.int .i64 (0), .int .i64 (0), .int .i64 (0)]) (by simp [results, Try.results60, go_sem]) rfl ⟨rfl, rfl⟩
theorem r_kept_c (k s e f t : Int) (w : World) (hk : ¬ k = 0) (h : ¬ s < f) (h2 : ¬ t < e) (a1 : 0 ≤ s) (a2 : s ≤ 4096) (b1 : 0 ≤ e) (b2 : e ≤ 4096) (f1 : 0 ≤ f) (f2 : f ≤ 4096) :
    Calls Try.prog 60 #[.int .i64 k, .int .i64 s, .int .i64 e, .int .i64 f, .int .i64 t] w fun x w' => x = .returned (.tuple #[.int .i64 (k), .int .i64 (s - f), .int .i64 (e - f)]) ∧ w = w' := by
  have hk' : (k == 0) = false := by simpa using hk
  clear hk
  go_enter Try.func60, Try.ntmps60
  go_wp2
  exact bodyPost_ret (v := .tuple #[.int .i64 (k), .int .i64 (s - f), .int .i64 (e - f)]) (by simp [results, Try.results60, go_sem]) rfl ⟨rfl, rfl⟩
theorem r_kept (k s e f t : Int) (w : World) (a1 : 0 ≤ s) (a2 : s ≤ 4096) (b1 : 0 ≤ e) (b2 : e ≤ 4096) (f1 : 0 ≤ f) (f2 : f ≤ 4096) :
    Calls Try.prog 60 #[.int .i64 k, .int .i64 s, .int .i64 e, .int .i64 f, .int .i64 t] w fun x w' => x = .returned (.tuple #[.int .i64 (Sm.kpK k s e f t), .int .i64 (Sm.kpS k s e f t), .int .i64 (Sm.kpE k s e f t)]) ∧ w = w' := by
  unfold Sm.kpK Sm.kpS Sm.kpE
  by_cases hk : k = 0
  · rw [if_pos (.inl hk), if_pos (.inl hk), if_pos (.inl hk)]; exact r_kept_z k s e f t w hk
  · by_cases h : s < f
    · rw [if_pos (.inr (.inl h)), if_pos (.inr (.inl h)), if_pos (.inr (.inl h))]; exact r_kept_a k s e f t w hk h
    · by_cases h2 : t < e
      · rw [if_pos (.inr (.inr h2)), if_pos (.inr (.inr h2)), if_pos (.inr (.inr h2))]; exact r_kept_b k s e f t w hk h h2
      · rw [if_neg (by omega), if_neg (by omega), if_neg (by omega)]; exact r_kept_c k s e f t w hk h h2 a1 a2 b1 b2 f1 f2
theorem r_clamp_lo (x lo hi : Int) (w : World) (h : x < lo) :
    Calls Try.prog 66 #[.int .i64 x, .int .i64 lo, .int .i64 hi] w fun y w' => y = .returned (.int .i64 lo) ∧ w = w' := by
  go_enter Try.func66, Try.ntmps66
  go_wp2
  go_ret
  exact ⟨rfl, rfl⟩
theorem r_clamp_hi (x lo hi : Int) (w : World) (h : ¬ x < lo) (h2 : hi < x) :
    Calls Try.prog 66 #[.int .i64 x, .int .i64 lo, .int .i64 hi] w fun y w' => y = .returned (.int .i64 hi) ∧ w = w' := by
  go_enter Try.func66, Try.ntmps66
  go_wp2
  go_ret
  exact ⟨rfl, rfl⟩
theorem r_clamp_in (x lo hi : Int) (w : World) (h : ¬ x < lo) (h2 : ¬ hi < x) :
    Calls Try.prog 66 #[.int .i64 x, .int .i64 lo, .int .i64 hi] w fun y w' => y = .returned (.int .i64 x) ∧ w = w' := by
  go_enter Try.func66, Try.ntmps66
  go_wp2
  go_ret
  exact ⟨rfl, rfl⟩
theorem r_clamp (x lo hi : Int) (w : World) :
    Calls Try.prog 66 #[.int .i64 x, .int .i64 lo, .int .i64 hi] w fun y w' => y = .returned (.int .i64 (Sm.clp lo hi x)) ∧ w = w' := by
  unfold Sm.clp
  by_cases h : x < lo
  · rw [if_pos h]; exact r_clamp_lo x lo hi w h
  · rw [if_neg h]
    by_cases h2 : hi < x
    · rw [if_pos h2]; exact r_clamp_hi x lo hi w h h2
    · rw [if_neg h2]; exact r_clamp_in x lo hi w h h2
theorem r_times_hi (x num den y q : Int) (w : World) (hy : x * num = y) (m1 : 0 ≤ y) (m2 : y ≤ 655360000) (d1 : 0 < den) (d2 : den ≤ 10000) (hq : (2 * y + den) / (2 * den) = q) :
    Calls Try.prog 67 #[.int .i64 x, .int .i64 num, .int .i64 den] w fun z w' => z = .returned (.int .i64 q) ∧ w = w' := by
  have e : (2 * y + den).tdiv (2 * den) = q := (Int.tdiv_eq_ediv_of_nonneg (by omega)).trans hq
  have q1 : 0 ≤ q := hq ▸ Int.ediv_nonneg (by omega) (by omega)
  have q2 : q ≤ 4611686018427387904 := hq ▸ Int.le_trans (Int.ediv_le_self _ (by omega)) (by omega)
  have HQ := Lib.hid hq
  clear hq
  go_enter Try.func67, Try.ntmps67
  go_wp2
  go_ret
  exact ⟨rfl, rfl⟩
theorem r_times_lo (x num den y q : Int) (w : World) (hy : x * num = y) (m1 : y < 0) (m2 : -655360000 ≤ y) (d1 : 0 < den) (d2 : den ≤ 10000) (hq : (-2 * y + den) / (2 * den) = q) :
    Calls Try.prog 67 #[.int .i64 x, .int .i64 num, .int .i64 den] w fun z w' => z = .returned (.int .i64 (-q)) ∧ w = w' := by
  have e : (-2 * y + den).tdiv (2 * den) = q := (Int.tdiv_eq_ediv_of_nonneg (by omega)).trans hq
  have q1 : 0 ≤ q := hq ▸ Int.ediv_nonneg (by omega) (by omega)
  have q2 : q ≤ 4611686018427387904 := hq ▸ Int.le_trans (Int.ediv_le_self _ (by omega)) (by omega)
  have HQ := Lib.hid hq
  clear hq
  go_enter Try.func67, Try.ntmps67
  go_wp2
  go_ret
  exact ⟨rfl, rfl⟩
theorem r_times (x num den : Int) (w : World) (x1 : -65536 ≤ x) (x2 : x ≤ 65536) (n1 : -10000 ≤ num) (n2 : num ≤ 10000) (d1 : 0 < den) (d2 : den ≤ 10000) :
    Calls Try.prog 67 #[.int .i64 x, .int .i64 num, .int .i64 den] w fun z w' => z = .returned (.int .i64 (Sm.rnd (x * num) den)) ∧ w = w' := by
  obtain ⟨m1, m2⟩ := mul_bound x num x1 x2 n1 n2
  unfold Sm.rnd
  by_cases h : x * num < 0
  · rw [if_pos h]; exact r_times_lo x num den _ _ w rfl h m1 d1 d2 rfl
  · rw [if_neg h]; exact r_times_hi x num den _ _ w rfl (by omega) m2 d1 d2 rfl
end Go.Proofs.Ytmaldhjcdkidmaa

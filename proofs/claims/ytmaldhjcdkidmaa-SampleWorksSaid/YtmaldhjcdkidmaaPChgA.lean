/-
  Contracts of package sample's rounded and of the function literals of Reverse, Crop and Convert.
-/
import Derived.Test.YtmaldhjcdkidmaaChg
import Derived.Test.YtmaldhjcdkidmaaPValid
namespace Go.Proofs.Ytmaldhjcdkidmaa
open Go.RowKit

theorem p_rnd_hi (a b q : Int) (w : World) (h0 : 0 ≤ a) (h1 : a ≤ 1099511627776) (hb : 0 < b) (hb2 : b ≤ 1099511627776) (hq : (2 * a + b) / (2 * b) = q) :
    Calls Try.prog 64 #[.int .i64 a, .int .i64 b] w fun x w' => x = .returned (.int .i64 q) ∧ w = w' := by
  have HE := Lib.hid (show (2 * a + b).tdiv (2 * b) = q from (Int.tdiv_eq_ediv_of_nonneg (by omega)).trans hq)
  have HQ := Lib.hid hq
  clear hq
  go_enter Try.func64, Try.ntmps64
  go_wp2
  go_ret
  exact ⟨ret_int HQ.out, rfl⟩
theorem p_rnd (a b : Int) (w : World) (h0 : -1099511627776 ≤ a) (h1 : a ≤ 1099511627776) (hb : 0 < b) (hb2 : b ≤ 1099511627776) :
    Calls Try.prog 64 #[.int .i64 a, .int .i64 b] w fun x w' => x = .returned (.int .i64 (Sm.rnd a b)) ∧ w = w' := by
  by_cases hn : a < 0
  · obtain ⟨q, hq⟩ : ∃ q, (2 * -a + b) / (2 * b) = q := ⟨_, rfl⟩
    have HE := Lib.hid (show -q = Sm.rnd a b by rw [← hq]; unfold Sm.rnd; rw [if_pos hn]; rw [show 2 * -a = -2 * a by omega])
    have d1 : 0 ≤ q := hq ▸ Int.ediv_nonneg (by omega) (by omega)
    have d2 : q ≤ 4611686018427387904 := hq ▸ Int.le_trans (Int.ediv_le_self _ (by omega)) (by omega)
    have HQ := Lib.hid hq
    clear hq
    go_enter Try.func64, Try.ntmps64
    go_wp2_with (first | (go_at_call 64; ((with_reducible refine (p_rnd_hi (-a) b q _ (by omega) (by omega) hb hb2 HQ.out).mono ?_); rintro x w' ⟨rfl, rfl⟩)))
    go_ret
    exact ⟨ret_int HE.out, rfl⟩
  · have HE := Lib.hid (show (2 * a + b) / (2 * b) = Sm.rnd a b by unfold Sm.rnd; rw [if_neg hn])
    exact p_rnd_hi a b _ w (by omega) h1 hb hb2 HE.out
theorem c_rev (k s e n : Int) (c : Nat) (w : World) (hc : w.cell? ⟨c, 0, none⟩ = some (.int .i64 n)) (s1 : -1099511627776 ≤ s) (s2 : s ≤ 1099511627776) (e1 : -1099511627776 ≤ e) (e2 : e ≤ 1099511627776) (n1 : -1099511627776 ≤ n) (n2 : n ≤ 1099511627776) :
    Calls Try.prog 58 #[.agg #[.int .i64 k, .int .i64 s, .int .i64 e], .pointer (some ⟨c, 0, none⟩)] w fun x w' => x = .returned (.agg #[.int .i64 k, .int .i64 (n - e), .int .i64 (n - s)]) ∧ Below w.heap.size w w' := by
  have hlt := cell_lt hc
  go_enter Try.func58, Try.ntmps58
  go_wp2
  exact bodyPost_ret (v := .agg #[.int .i64 k, .int .i64 (n - e), .int .i64 (n - s)]) (by simp [results, Try.results58, go_sem]) rfl ⟨rfl, (((Below.refl _ _).alloc (Nat.le_refl _) _).alloc (by simp) _)⟩
theorem c_crop_a (k s e f t : Int) (c d : Nat) (w : World) (hc : w.cell? ⟨c, 0, none⟩ = some (.int .i64 f)) (hd : w.cell? ⟨d, 0, none⟩ = some (.int .i64 t)) (h : s < f) :
    Calls Try.prog 59 #[.agg #[.int .i64 k, .int .i64 s, .int .i64 e], .pointer (some ⟨c, 0, none⟩), .pointer (some ⟨d, 0, none⟩)] w fun x w' => x = .returned (.agg #[.int .i64 (0), .int .i64 (0), .int .i64 (0)]) ∧ Below w.heap.size w w' := by
  have hlc := cell_lt hc
  have hld := cell_lt hd
  go_enter Try.func59, Try.ntmps59
  go_wp2
  exact bodyPost_ret (v := .agg #[.int .i64 (0), .int .i64 (0), .int .i64 (0)]) (by simp [results, Try.results59, go_sem]) rfl ⟨rfl, (((Below.refl _ _).alloc (Nat.le_refl _) _).alloc (by simp) _)⟩
theorem c_crop_b (k s e f t : Int) (c d : Nat) (w : World) (hc : w.cell? ⟨c, 0, none⟩ = some (.int .i64 f)) (hd : w.cell? ⟨d, 0, none⟩ = some (.int .i64 t)) (h : ¬ s < f) (h2 : t < e) :
    Calls Try.prog 59 #[.agg #[.int .i64 k, .int .i64 s, .int .i64 e], .pointer (some ⟨c, 0, none⟩), .pointer (some ⟨d, 0, none⟩)] w fun x w' => x = .returned (.agg #[.int .i64 (0), .int .i64 (0), .int .i64 (0)]) ∧ Below w.heap.size w w' := by
  have hlc := cell_lt hc
  have hld := cell_lt hd
  go_enter Try.func59, Try.ntmps59
  go_wp2
  exact bodyPost_ret (v := .agg #[.int .i64 (0), .int .i64 (0), .int .i64 (0)]) (by simp [results, Try.results59, go_sem]) rfl ⟨rfl, (((Below.refl _ _).alloc (Nat.le_refl _) _).alloc (by simp) _)⟩
theorem c_crop_c (k s e f t : Int) (c d : Nat) (w : World) (hc : w.cell? ⟨c, 0, none⟩ = some (.int .i64 f)) (hd : w.cell? ⟨d, 0, none⟩ = some (.int .i64 t)) (s1 : -1099511627776 ≤ s) (s2 : s ≤ 1099511627776) (e1 : -1099511627776 ≤ e) (e2 : e ≤ 1099511627776) (f1 : -1099511627776 ≤ f) (f2 : f ≤ 1099511627776) (t1 : -1099511627776 ≤ t) (t2 : t ≤ 1099511627776) (h : ¬ s < f) (h2 : ¬ t < e) :
    Calls Try.prog 59 #[.agg #[.int .i64 k, .int .i64 s, .int .i64 e], .pointer (some ⟨c, 0, none⟩), .pointer (some ⟨d, 0, none⟩)] w fun x w' => x = .returned (.agg #[.int .i64 (k), .int .i64 (s - f), .int .i64 (e - f)]) ∧ Below w.heap.size w w' := by
  have hlc := cell_lt hc
  have hld := cell_lt hd
  go_enter Try.func59, Try.ntmps59
  go_wp2
  exact bodyPost_ret (v := .agg #[.int .i64 (k), .int .i64 (s - f), .int .i64 (e - f)]) (by simp [results, Try.results59, go_sem]) rfl ⟨rfl, (((Below.refl _ _).alloc (Nat.le_refl _) _).alloc (by simp) _)⟩
theorem c_crop (k s e f t : Int) (c d : Nat) (w : World) (hk : k ≠ 0) (hc : w.cell? ⟨c, 0, none⟩ = some (.int .i64 f)) (hd : w.cell? ⟨d, 0, none⟩ = some (.int .i64 t)) (s1 : -1099511627776 ≤ s) (s2 : s ≤ 1099511627776) (e1 : -1099511627776 ≤ e) (e2 : e ≤ 1099511627776) (f1 : -1099511627776 ≤ f) (f2 : f ≤ 1099511627776) (t1 : -1099511627776 ≤ t) (t2 : t ≤ 1099511627776) :
    Calls Try.prog 59 #[.agg #[.int .i64 k, .int .i64 s, .int .i64 e], .pointer (some ⟨c, 0, none⟩), .pointer (some ⟨d, 0, none⟩)] w fun x w' => x = .returned (.agg #[.int .i64 (Sm.kpK k s e f t), .int .i64 (Sm.kpS k s e f t), .int .i64 (Sm.kpE k s e f t)]) ∧ Below w.heap.size w w' := by
  unfold Sm.kpK Sm.kpS Sm.kpE
  by_cases h : s < f
  · rw [if_pos (.inr (.inl h)), if_pos (.inr (.inl h)), if_pos (.inr (.inl h))]
    exact c_crop_a k s e f t c d w hc hd h
  · by_cases h2 : t < e
    · rw [if_pos (.inr (.inr h2)), if_pos (.inr (.inr h2)), if_pos (.inr (.inr h2))]
      exact c_crop_b k s e f t c d w hc hd h h2
    · rw [if_neg (by omega), if_neg (by omega), if_neg (by omega)]
      exact c_crop_c k s e f t c d w hc hd s1 s2 e1 e2 f1 f2 t1 t2 h h2
theorem c_cvt_up (x b o : Int) (c d : Nat) (w : World) (hc : w.cell? ⟨c, 0, none⟩ = some (.int .i64 b)) (hd : w.cell? ⟨d, 0, none⟩ = some (.int .i64 o)) (x1 : -1099511627776 ≤ x) (x2 : x ≤ 1099511627776) (h : o < b) :
    Calls Try.prog 68 #[.int .i64 x, .pointer (some ⟨c, 0, none⟩), .pointer (some ⟨d, 0, none⟩)] w fun y w' => y = .returned (.int .i64 (256 * x)) ∧ w = w' := by
  go_enter Try.func68, Try.ntmps68
  go_wp2
  go_ret
  exact ⟨rfl, rfl⟩
theorem c_cvt_dn (x b o : Int) (c d : Nat) (w : World) (hc : w.cell? ⟨c, 0, none⟩ = some (.int .i64 b)) (hd : w.cell? ⟨d, 0, none⟩ = some (.int .i64 o)) (h : ¬ o < b) (h2 : b < o) :
    Calls Try.prog 68 #[.int .i64 x, .pointer (some ⟨c, 0, none⟩), .pointer (some ⟨d, 0, none⟩)] w fun y w' => y = .returned (.int .i64 (x / 256)) ∧ w = w' := by
  go_enter Try.func68, Try.ntmps68
  go_wp2
  go_ret
  exact ⟨rfl, rfl⟩
theorem c_cvt_eq (x b o : Int) (c d : Nat) (w : World) (hc : w.cell? ⟨c, 0, none⟩ = some (.int .i64 b)) (hd : w.cell? ⟨d, 0, none⟩ = some (.int .i64 o)) (h : ¬ o < b) (h2 : ¬ b < o) :
    Calls Try.prog 68 #[.int .i64 x, .pointer (some ⟨c, 0, none⟩), .pointer (some ⟨d, 0, none⟩)] w fun y w' => y = .returned (.int .i64 (x)) ∧ w = w' := by
  go_enter Try.func68, Try.ntmps68
  go_wp2
  go_ret
  exact ⟨rfl, rfl⟩
theorem c_cvt (x b o : Int) (c d : Nat) (w : World) (hc : w.cell? ⟨c, 0, none⟩ = some (.int .i64 b)) (hd : w.cell? ⟨d, 0, none⟩ = some (.int .i64 o)) (x1 : -1099511627776 ≤ x) (x2 : x ≤ 1099511627776) :
    Calls Try.prog 68 #[.int .i64 x, .pointer (some ⟨c, 0, none⟩), .pointer (some ⟨d, 0, none⟩)] w fun y w' => y = .returned (.int .i64 (Sm.cvtF o b x)) ∧ w = w' := by
  unfold Sm.cvtF
  by_cases h : o < b
  · rw [if_pos h]; exact c_cvt_up x b o c d w hc hd x1 x2 h
  · rw [if_neg h]
    by_cases h2 : b < o
    · rw [if_pos h2]; exact c_cvt_dn x b o c d w hc hd h h2
    · rw [if_neg h2]; exact c_cvt_eq x b o c d w hc hd h h2
end Go.Proofs.Ytmaldhjcdkidmaa

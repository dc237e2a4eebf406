/-
  Contracts of the reference's small functions on numbers (Floor, Mod, wrap, fits, right): what the call returns; nothing is changed.
-/
import Derived.Test.YtfljgdehbogimaaBase
import Derived.Test.YtfljgdehbogimaaPk
namespace Go.Proofs.Ytfljgdehbogimaa
open Go.RowKit

theorem floor_below {a : Int} (b : Int) (ha : a < 0) : a.tdiv b = -((-a) / b) ∧ a.tmod b = -((-a) % b) := by
  have h1 : a.tdiv b = -((-a).tdiv b) := by rw [Int.neg_tdiv]; omega
  have h2 : a.tmod b = -((-a).tmod b) := by rw [Int.neg_tmod]; omega
  rw [h1, h2, Int.tdiv_eq_ediv_of_nonneg (by omega), Int.tmod_eq_emod_of_nonneg (by omega)]
  exact ⟨rfl, rfl⟩
theorem floor_neg {a b : Int} (hb : 0 < b) : ((-((-a) % b) < 0) → -((-a) / b) - 1 = a / b) ∧ (¬ (-((-a) % b) < 0) → -((-a) / b) = a / b) := by
  have e := Int.mul_ediv_add_emod (-a) b
  have m0 := Int.emod_nonneg (-a) (by omega : b ≠ 0)
  have m1 := Int.emod_lt_of_pos (-a) hb
  refine ⟨fun h => ?_, fun h => ?_⟩
  · symm
    rw [Int.ediv_eq_iff_of_pos hb]
    have : b * (-(-a / b) - 1) = -(b * (-a / b)) - b := by rw [Int.mul_sub, Int.mul_neg, Int.mul_one]
    constructor
    · rw [Int.mul_comm]; omega
    · rw [Int.mul_comm]; omega
  · symm
    rw [Int.ediv_eq_iff_of_pos hb]
    have : b * (-(-a / b)) = -(b * (-a / b)) := by rw [Int.mul_neg]
    constructor
    · rw [Int.mul_comm]; omega
    · rw [Int.mul_comm]; omega
theorem rfloor (a b : Int) (w : World) (h1 : -4611686018427387904 ≤ a) (h2 : a ≤ 4611686018427387904) (hb : 0 < b) (hb2 : b ≤ 4611686018427387904) :
    Calls Try.prog 69 #[.int .i64 a, .int .i64 b] w fun e w' => e = .returned (.int .i64 (a / b)) ∧ w = w' := by
  by_cases h : 0 ≤ a
  · have q1 : 0 ≤ a / b := Int.ediv_nonneg h (by omega)
    have q2 : a / b ≤ a := Int.ediv_le_self b h
    have q3 : 0 ≤ a % b := Int.emod_nonneg a (by omega)
    go_enter Try.func69, Try.ntmps69
    go_wp2
    go_ret
    exact ⟨ret_int rfl, rfl⟩
  · obtain ⟨t1, t2⟩ := floor_below (a := a) b (by omega)
    obtain ⟨q, hq⟩ : ∃ q, -((-a) / b) = q := ⟨_, rfl⟩
    obtain ⟨r, hr⟩ : ∃ r, -((-a) % b) = r := ⟨_, rfl⟩
    have q1 : 0 ≤ (-a) / b := Int.ediv_nonneg (by omega) (by omega)
    have q2 : (-a) / b ≤ -a := Int.ediv_le_self b (by omega)
    have hf := floor_neg (a := a) hb
    rw [hq, hr] at hf
    rw [hq] at t1
    rw [hr] at t2
    have hq1 : -4611686018427387904 ≤ q := by omega
    have hq2 : q ≤ 0 := by omega
    have HQ := Lib.hid hf
    clear hq hr hf q1 q2
    by_cases hn : r < 0
    · go_enter Try.func69, Try.ntmps69
      go_wp2
      go_ret
      exact ⟨ret_int (HQ.out.1 hn), rfl⟩
    · go_enter Try.func69, Try.ntmps69
      go_wp2
      go_ret
      exact ⟨ret_int (HQ.out.2 hn), rfl⟩
theorem rmod (a b : Int) (w : World) (h1 : -4611686018427387904 ≤ a) (h2 : a ≤ 4611686018427387904) (hb : 0 < b) (hb2 : b ≤ 1099511627776) :
    Calls Try.prog 62 #[.int .i64 a, .int .i64 b] w fun e w' => e = .returned (.int .i64 (a % b)) ∧ w = w' := by
  have e0 := Int.mul_ediv_add_emod a b
  have m0 := Int.emod_nonneg a (by omega : b ≠ 0)
  have m1 := Int.emod_lt_of_pos a hb
  have b1 : b * (a / b) ≤ a := by omega
  have b2 : a - b ≤ b * (a / b) := by omega
  have E := Lib.hid e0
  clear e0
  go_enter Try.func62, Try.ntmps62
  go_wp2_with (first | (go_at_call 69; ((with_reducible refine (rfloor _ _ _ h1 h2 hb (by omega)).mono ?_); rintro x w' ⟨rfl, rfl⟩)))
  go_ret
  exact ⟨ret_int (by have := E.out; omega), rfl⟩
/-- Half of the range of so many bits. -/
def hlf (b : Int) : Int := 2 ^ (b.toNat - 1)
theorem hlf_pos (b : Int) : 0 < hlf b := by unfold hlf; exact Int.pow_pos (by omega)
theorem hlf_le {b : Int} (h2 : b ≤ 17) : hlf b ≤ 65536 := by
  unfold hlf
  obtain ⟨n, hn⟩ : ∃ n, b.toNat - 1 = n := ⟨_, rfl⟩
  have hn2 : n ≤ 16 := by omega
  rw [hn]
  have : (2 : Nat) ^ n ≤ 2 ^ 16 := Nat.pow_le_pow_right (by omega) hn2
  have e : ((2 ^ n : Nat) : Int) = (2 : Int) ^ n := by simp
  rw [← e]
  omega
theorem hlf_wrap {b : Int} (h2 : b ≤ 17) : wrap64 (2 ^ (b.toNat - 1)) = hlf b := by
  have h0 := hlf_pos b
  have h1 := hlf_le h2
  change wrap64 (hlf b) = hlf b
  unfold wrap64
  omega
theorem rwrap (x b : Int) (w : World) (h1 : -1099511627776 ≤ x) (h2 : x ≤ 1099511627776) (hb : 1 ≤ b) (hb2 : b ≤ 17) :
    Calls Try.prog 37 #[.int .i64 x, .int .i64 b] w fun e w' => e = .returned (.int .i64 (Pk.wrp (hlf b) x)) ∧ w = w' := by
  have hsh := hlf_wrap hb2
  have p0 := hlf_pos b
  have p1 := hlf_le hb2
  have lo := Pk.wrp_lo (x := x) p0
  have hi := Pk.wrp_hi (x := x) p0
  obtain ⟨h, eh⟩ : ∃ h, hlf b = h := ⟨_, rfl⟩
  rw [eh] at hsh p0 p1 lo hi ⊢
  have E : Hid ((x + h) % (2 * h) - h = Pk.wrp h x) := Lib.hid rfl
  have m0 := Int.emod_nonneg (x + h) (b := 2 * h) (by omega)
  have m1 := Int.emod_lt_of_pos (x + h) (b := 2 * h) (by omega)
  clear eh lo hi
  go_enter Try.func37, Try.ntmps37
  go_wp2_with (first | (go_at_call 62; ((with_reducible refine (rmod _ _ _ (by omega) (by omega) (by omega) (by omega)).mono ?_); rintro x' w' ⟨rfl, rfl⟩)))
  go_ret
  exact ⟨ret_int E.out, rfl⟩
theorem rfits (x b : Int) (w : World) (h1 : -1099511627776 ≤ x) (h2 : x ≤ 1099511627776) (hb : 1 ≤ b) (hb2 : b ≤ 17) :
    Calls Try.prog 54 #[.int .i64 x, .int .i64 b] w fun e w' => e = .returned (.bool (decide (Pk.wrp (hlf b) x = x))) ∧ w = w' := by
  have C := Lib.hid (rwrap x b w h1 h2 hb hb2)
  obtain ⟨y, ey⟩ : ∃ y, Pk.wrp (hlf b) x = y := ⟨_, rfl⟩
  rw [ey] at C ⊢
  clear ey
  go_enter Try.func54, Try.ntmps54
  go_wp2_with (first | (go_at_call 37; ((with_reducible refine C.out.mono ?_); rintro x' w' ⟨rfl, rfl⟩)))
  go_ret
  exact ⟨ret_bool rfl, rfl⟩
theorem rright (b : Int) (w : World) :
    Calls Try.prog 30 #[.int .i64 b] w fun e w' => e = .returned (.bool (b == 8 || b == 16)) ∧ w = w' := by
  go_enter Try.func30, Try.ntmps30
  go_wp2
  all_goals (go_ret; exact ⟨ret_bool (by rename_i h; simp [h]), rfl⟩)
end Go.Proofs.Ytfljgdehbogimaa

/-
  Contracts of the reference's wrap and fits for any number at all, of whole, versioned and asked.
-/
import Derived.Test.YtfljgdehbogimaaRefDif
namespace Go.Proofs.Ytfljgdehbogimaa
open Go.RowKit

theorem rfloor_any (a b : Int) (w : World) (h1 : -9223372036854775808 ≤ a) (h2 : a ≤ 9223372036854775807) (hb : 2 ≤ b) (hb2 : b ≤ 4611686018427387904) :
    Calls Try.prog 69 #[.int .i64 a, .int .i64 b] w fun e w' => e = .returned (.int .i64 (a / b)) ∧ w = w' := by
  by_cases h : 0 ≤ a
  · have q1 : 0 ≤ a / b := Int.ediv_nonneg h (by omega)
    have q2 : a / b ≤ a := Int.ediv_le_self b h
    have q3 : 0 ≤ a % b := Int.emod_nonneg a (by omega)
    go_enter Try.func69, Try.ntmps69
    go_wp2
    go_ret
    exact ⟨ret_int rfl, rfl⟩
  · obtain ⟨t1, t2⟩ := floor_below (a := a) b (by omega)
    have q2 : (-a) / b ≤ 4611686018427387904 := by
      have : (-a) / b < 4611686018427387905 := by
        rw [Int.ediv_lt_iff_lt_mul (by omega)]
        omega
      omega
    obtain ⟨q, hq⟩ : ∃ q, -((-a) / b) = q := ⟨_, rfl⟩
    obtain ⟨r, hr⟩ : ∃ r, -((-a) % b) = r := ⟨_, rfl⟩
    have q1 : 0 ≤ (-a) / b := Int.ediv_nonneg (by omega) (by omega)
    have hf := floor_neg (a := a) (b := b) (by omega)
    rw [hq, hr] at hf
    rw [hq] at t1
    rw [hr] at t2
    have hq1 : -4611686018427387904 ≤ q := by omega
    have hq2 : q ≤ 0 := by omega
    have HQ := Lib.hid hf
    clear hq hr hf q1 q2
    by_cases hn : r < 0
    · go_enter Try.func69, Try.ntmps69
      go_wp2
      go_ret
      exact ⟨ret_int (HQ.out.1 hn), rfl⟩
    · go_enter Try.func69, Try.ntmps69
      go_wp2
      go_ret
      exact ⟨ret_int (HQ.out.2 hn), rfl⟩
theorem floor_room {a b : Int} (h1 : -9223372036854775808 ≤ a) (hb : 0 < b) (hd : 9223372036854775808 % b = 0) : -9223372036854775808 ≤ b * (a / b) := by
  have e : b * (9223372036854775808 / b) = 9223372036854775808 := by
    have := Int.mul_ediv_add_emod 9223372036854775808 b
    omega
  have h : -(9223372036854775808 / b) ≤ a / b := by
    rw [Int.le_ediv_iff_mul_le hb, Int.neg_mul, Int.mul_comm, e]
    omega
  have := Int.mul_le_mul_of_nonneg_left h (by omega : 0 ≤ b)
  rw [Int.mul_neg, e] at this
  exact this
theorem rmod_any (a b : Int) (w : World) (h1 : -9223372036854775808 ≤ a) (h2 : a ≤ 9223372036854775807) (hb : 2 ≤ b) (hb2 : b ≤ 1099511627776) (hd : 9223372036854775808 % b = 0) :
    Calls Try.prog 62 #[.int .i64 a, .int .i64 b] w fun e w' => e = .returned (.int .i64 (a % b)) ∧ w = w' := by
  have e0 := Int.mul_ediv_add_emod a b
  have m0 := Int.emod_nonneg a (by omega : b ≠ 0)
  have m1 := Int.emod_lt_of_pos a (by omega : 0 < b)
  have b1 : b * (a / b) ≤ a := by omega
  have b2 := floor_room h1 (by omega) hd
  have E := Lib.hid e0
  have C := Lib.hid (rfloor_any a b w h1 h2 hb (by omega))
  have e1 : a - b * (a / b) = a % b := by omega
  obtain ⟨m, hm⟩ : ∃ m, a % b = m := ⟨_, rfl⟩
  have HM := Lib.hid hm
  rw [hm] at m0 m1 e1 ⊢
  clear e0 hd hm
  go_enter Try.func62, Try.ntmps62
  go_wp2_with (first | (go_at_call 69; ((with_reducible refine C.out.mono ?_); rintro x w' ⟨rfl, rfl⟩)))
  go_ret
  exact ⟨ret_int (by omega), rfl⟩
theorem hlf_div {b : Int} (h2 : b ≤ 17) : 9223372036854775808 % (2 * hlf b) = 0 := by
  unfold hlf
  obtain ⟨n, hn⟩ : ∃ n, b.toNat - 1 = n := ⟨_, rfl⟩
  have hn2 : n ≤ 16 := by omega
  rw [hn]
  have hd : 2 ^ (n + 1) ∣ 2 ^ 63 := Nat.pow_dvd_pow 2 (by omega)
  obtain ⟨k, hk⟩ := hd
  have e : (9223372036854775808 : Int) = ((2 ^ 63 : Nat) : Int) := by decide
  rw [e, hk, Nat.pow_succ]
  simp [Int.mul_comm]
theorem hlf_two {b : Int} (h2 : b ≤ 17) : 2 * hlf b * (9223372036854775808 / (2 * hlf b)) = 9223372036854775808 := by
  have := Int.mul_ediv_add_emod 9223372036854775808 (2 * hlf b)
  have := hlf_div h2
  omega
/-- Adding within 64 bits does not change a number modulo 2h. -/
theorem wrp_over {b x : Int} (h2 : b ≤ 17) : (x + hlf b - 18446744073709551616) % (2 * hlf b) - hlf b = Pk.wrp (hlf b) x := by
  have e := hlf_two h2
  obtain ⟨k, hk⟩ : ∃ k, 9223372036854775808 / (2 * hlf b) = k := ⟨_, rfl⟩
  rw [hk] at e
  unfold Pk.wrp
  have : x + hlf b - 18446744073709551616 = x + hlf b + 2 * hlf b * (-(2 * k)) := by
    rw [Int.mul_neg, show 2 * hlf b * (2 * k) = 2 * (2 * hlf b * k) by rw [Int.mul_left_comm], e]
    omega
  rw [this, Int.add_mul_emod_self_left]
theorem rwrap_any (x b : Int) (w : World) (h1 : -9223372036854775808 ≤ x) (h2 : x ≤ 9223372036854775807) (hb : 1 ≤ b) (hb2 : b ≤ 17) :
    Calls Try.prog 37 #[.int .i64 x, .int .i64 b] w fun e w' => e = .returned (.int .i64 (Pk.wrp (hlf b) x)) ∧ w = w' := by
  have hsh := hlf_wrap hb2
  have p0 := hlf_pos b
  have p1 := hlf_le hb2
  have dv := hlf_div hb2
  have ov := wrp_over (x := x) hb2
  obtain ⟨h, eh⟩ : ∃ h, hlf b = h := ⟨_, rfl⟩
  rw [eh] at hsh p0 p1 dv ov ⊢
  clear eh
  by_cases hx : x + h ≤ 9223372036854775807
  · have E : Hid ((x + h) % (2 * h) - h = Pk.wrp h x) := Lib.hid rfl
    have m0 := Int.emod_nonneg (x + h) (b := 2 * h) (by omega)
    have m1 := Int.emod_lt_of_pos (x + h) (b := 2 * h) (by omega)
    have C := Lib.hid (rmod_any (x + h) (2 * h) w (by omega) (by omega) (by omega) (by omega) dv)
    clear dv ov
    go_enter Try.func37, Try.ntmps37
    go_wp2_with (first | (go_at_call 62; ((with_reducible refine C.out.mono ?_); rintro x' w' ⟨rfl, rfl⟩)))
    go_ret
    exact ⟨ret_int E.out, rfl⟩
  · have E := Lib.hid ov
    have ew : IntKind.i64.wrap (x + h) = x + h - 18446744073709551616 := by
      have q : (x + h) % 18446744073709551616 = x + h := Int.emod_eq_of_lt (by omega) (by omega)
      unfold IntKind.wrap
      simp [IntKind.signed, IntKind.bits, q]
      omega
    obtain ⟨z, hz⟩ : ∃ z, x + h - 18446744073709551616 = z := ⟨_, rfl⟩
    rw [hz] at E ew
    have z1 : -9223372036854775808 ≤ z := by omega
    have z2 : z ≤ 9223372036854775807 := by omega
    have m0 := Int.emod_nonneg z (b := 2 * h) (by omega)
    have m1 := Int.emod_lt_of_pos z (b := 2 * h) (by omega)
    have C := Lib.hid (rmod_any z (2 * h) w z1 z2 (by omega) (by omega) dv)
    clear dv ov hz
    go_enter Try.func37, Try.ntmps37
    go_wp2_with (first | (go_at_call 62; ((with_reducible refine C.out.mono ?_); rintro x' w' ⟨rfl, rfl⟩)))
    go_ret
    exact ⟨ret_int E.out, rfl⟩
theorem rfits_any (x b : Int) (w : World) (h1 : -9223372036854775808 ≤ x) (h2 : x ≤ 9223372036854775807) (hb : 1 ≤ b) (hb2 : b ≤ 17) :
    Calls Try.prog 54 #[.int .i64 x, .int .i64 b] w fun e w' => e = .returned (.bool (decide (Pk.wrp (hlf b) x = x))) ∧ w = w' := by
  have C := Lib.hid (rwrap_any x b w h1 h2 hb hb2)
  obtain ⟨y, ey⟩ : ∃ y, Pk.wrp (hlf b) x = y := ⟨_, rfl⟩
  rw [ey] at C ⊢
  clear ey
  go_enter Try.func54, Try.ntmps54
  go_wp2_with (first | (go_at_call 37; ((with_reducible refine C.out.mono ?_); rintro x' w' ⟨rfl, rfl⟩)))
  go_ret
  exact ⟨ret_bool rfl, rfl⟩
end Go.Proofs.Ytfljgdehbogimaa

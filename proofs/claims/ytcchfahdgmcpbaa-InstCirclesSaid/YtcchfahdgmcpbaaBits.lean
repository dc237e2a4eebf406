/-
  What 'x & (2^n - 1)' is on int, for every x: the remainder of x by 2^n, from 0 on, also below 0.
-/
import Derived.WalkKit
namespace Go.Proofs.Ytcchfahdgmcpbaa.In

theorem and_mask (x : Int) (n : Nat) (hn : n ≤ 62) : bits .and .i64 x (((2 ^ n - 1 : Nat)) : Int) = x % ((2 ^ n : Nat) : Int) := by
  have hp : 2 ^ n ≤ 2 ^ 62 := Nat.pow_le_pow_right (by decide) hn
  have hq : 0 < 2 ^ n := Nat.two_pow_pos n
  have hd : (2 ^ n : Nat) ∣ 2 ^ 64 := Nat.pow_dvd_pow 2 (by omega)
  have hz : (((2 ^ n : Nat)) : Int) ∣ ((2 ^ 64 : Nat) : Int) := Int.ofNat_dvd.2 hd
  have e1 : (x % ((2 ^ 64 : Nat) : Int)).toNat % 2 ^ n = (x % ((2 ^ n : Nat) : Int)).toNat := by
    apply Int.ofNat_inj.1
    have h1 : 0 ≤ x % ((2 ^ 64 : Nat) : Int) := Int.emod_nonneg _ (by decide)
    have h2 : 0 ≤ x % ((2 ^ n : Nat) : Int) := Int.emod_nonneg _ (by omega)
    rw [Int.natCast_emod, Int.toNat_of_nonneg h1, Int.toNat_of_nonneg h2, Int.emod_emod_of_dvd _ hz]
  have e2 : (((2 ^ n - 1 : Nat) : Int) % ((2 ^ 64 : Nat) : Int)).toNat = 2 ^ n - 1 := by
    rw [Int.emod_eq_of_lt (by omega) (by omega)]; rfl
  have h2 : 0 ≤ x % ((2 ^ n : Nat) : Int) := Int.emod_nonneg _ (by omega)
  have h3 : x % ((2 ^ n : Nat) : Int) < ((2 ^ n : Nat) : Int) := Int.emod_lt_of_pos _ (by omega)
  show IntKind.i64.wrap ((BitVec.ofInt 64 x &&& BitVec.ofInt 64 ((2 ^ n - 1 : Nat) : Int)).toNat : Int) = _
  rw [BitVec.toNat_and, BitVec.toNat_ofInt, BitVec.toNat_ofInt, e2, Nat.and_two_pow_sub_one_eq_mod, e1]
  rw [Int.toNat_of_nonneg h2]
  generalize x % ((2 ^ n : Nat) : Int) = z at *
  simp [IntKind.wrap, IntKind.bits, IntKind.signed]
  omega
theorem and255 (x : Int) : bits .and .i64 x 255 = x % 256 := and_mask x 8 (by decide)
end Go.Proofs.Ytcchfahdgmcpbaa.In

/-
  Contracts of the reference's small functions on cursors (Floor, Mod, over, at, turn): what the call returns; nothing that was there is changed.
-/
import Derived.Test.YtmaldhjcdkidmaaBase
import Derived.Test.YtmaldhjcdkidmaaCur
namespace Go.Proofs.Ytmaldhjcdkidmaa
open Go.RowKit

theorem floor_below {a : Int} (b : Int) (ha : a < 0) : a.tdiv b = -((-a) / b) ∧ a.tmod b = -((-a) % b) := by
  have h1 : a.tdiv b = -((-a).tdiv b) := by rw [Int.neg_tdiv]; omega
  have h2 : a.tmod b = -((-a).tmod b) := by rw [Int.neg_tmod]; omega
  rw [h1, h2, Int.tdiv_eq_ediv_of_nonneg (by omega), Int.tmod_eq_emod_of_nonneg (by omega)]
  exact ⟨rfl, rfl⟩
theorem floor_neg {a b : Int} (hb : 0 < b) : ((-((-a) % b) < 0) → -((-a) / b) - 1 = a / b) ∧ (¬ (-((-a) % b) < 0) → -((-a) / b) = a / b) := by
  have e := Int.mul_ediv_add_emod (-a) b
  have m0 := Int.emod_nonneg (-a) (by omega : b ≠ 0)
  have m1 := Int.emod_lt_of_pos (-a) hb
  refine ⟨fun h => ?_, fun h => ?_⟩
  · symm
    rw [Int.ediv_eq_iff_of_pos hb]
    have : b * (-(-a / b) - 1) = -(b * (-a / b)) - b := by rw [Int.mul_sub, Int.mul_neg, Int.mul_one]
    constructor
    · rw [Int.mul_comm]; omega
    · rw [Int.mul_comm]; omega
  · symm
    rw [Int.ediv_eq_iff_of_pos hb]
    have : b * (-(-a / b)) = -(b * (-a / b)) := by rw [Int.mul_neg]
    constructor
    · rw [Int.mul_comm]; omega
    · rw [Int.mul_comm]; omega
theorem rfloor (a b : Int) (w : World) (h1 : -4611686018427387904 ≤ a) (h2 : a ≤ 4611686018427387904) (hb : 0 < b) (hb2 : b ≤ 4611686018427387904) :
    Calls Try.prog 69 #[.int .i64 a, .int .i64 b] w fun e w' => e = .returned (.int .i64 (a / b)) ∧ w = w' := by
  by_cases h : 0 ≤ a
  · have q1 : 0 ≤ a / b := Int.ediv_nonneg h (by omega)
    have q2 : a / b ≤ a := Int.ediv_le_self b h
    have q3 : 0 ≤ a % b := Int.emod_nonneg a (by omega)
    go_enter Try.func69, Try.ntmps69
    go_wp2
    go_ret
    exact ⟨ret_int rfl, rfl⟩
  · obtain ⟨t1, t2⟩ := floor_below (a := a) b (by omega)
    obtain ⟨q, hq⟩ : ∃ q, -((-a) / b) = q := ⟨_, rfl⟩
    obtain ⟨r, hr⟩ : ∃ r, -((-a) % b) = r := ⟨_, rfl⟩
    have q1 : 0 ≤ (-a) / b := Int.ediv_nonneg (by omega) (by omega)
    have q2 : (-a) / b ≤ -a := Int.ediv_le_self b (by omega)
    have hf := floor_neg (a := a) hb
    rw [hq, hr] at hf
    rw [hq] at t1
    rw [hr] at t2
    have hq1 : -4611686018427387904 ≤ q := by omega
    have hq2 : q ≤ 0 := by omega
    have HQ := Lib.hid hf
    clear hq hr hf q1 q2
    by_cases hn : r < 0
    · go_enter Try.func69, Try.ntmps69
      go_wp2
      go_ret
      exact ⟨ret_int (HQ.out.1 hn), rfl⟩
    · go_enter Try.func69, Try.ntmps69
      go_wp2
      go_ret
      exact ⟨ret_int (HQ.out.2 hn), rfl⟩
theorem rmod (a b : Int) (w : World) (h1 : -4611686018427387904 ≤ a) (h2 : a ≤ 4611686018427387904) (hb : 0 < b) (hb2 : b ≤ 1099511627776) :
    Calls Try.prog 71 #[.int .i64 a, .int .i64 b] w fun e w' => e = .returned (.int .i64 (a % b)) ∧ w = w' := by
  have e0 := Int.mul_ediv_add_emod a b
  have m0 := Int.emod_nonneg a (by omega : b ≠ 0)
  have m1 := Int.emod_lt_of_pos a hb
  have b1 : b * (a / b) ≤ a := by omega
  have b2 : a - b ≤ b * (a / b) := by omega
  have E := Lib.hid e0
  clear e0
  go_enter Try.func71, Try.ntmps71
  go_wp2_with (first | (go_at_call 69; ((with_reducible refine (rfloor _ _ _ h1 h2 hb (by omega)).mono ?_); rintro x w' ⟨rfl, rfl⟩)))
  go_ret
  exact ⟨ret_int (by have := E.out; omega), rfl⟩

theorem rover (w : World) :
    Calls Try.prog 47 #[] w fun e w' => RetCur Sm.over e ∧ Below w.heap.size w w' := by
  go_enter Try.func47, Try.ntmps47
  go_wp2
  exact bodyPost_ret (v := .agg #[.int .i64 0, .int .i64 0, .bool false, .bool true]) (by simp [results, Try.results47, go_sem]) rfl ⟨retCur Sm.over, ((Below.refl _ _).alloc (Nat.le_refl _) _)⟩
theorem rat (x : Int) (b : Bool) (w : World) (h : 0 ≤ x) (h2 : x ≤ 4611686018427387904) :
    Calls Try.prog 48 #[.int .i64 x, .bool b] w fun e w' => RetCur (Sm.curAt x b) e ∧ Below w.heap.size w w' := by
  go_enter Try.func48, Try.ntmps48
  go_wp2
  exact bodyPost_ret (v := .agg #[.int .i64 (x / 65536), .int .i64 (x % 65536), .bool b, .bool false]) (by simp [results, Try.results48, go_sem]) rfl ⟨retCur (Sm.curAt x b), ((Below.refl _ _).alloc (Nat.le_refl _) _)⟩
theorem rturn (s wd u : Int) (w : World) (h0 : 0 ≤ s) (h1 : s ≤ 1099511627776) (hw : 0 < wd) (hw2 : wd ≤ 268435456) (u1 : -4611686018427387904 ≤ u) (u2 : u ≤ 4611686018427387904) :
    Calls Try.prog 72 #[.int .i64 s, .int .i64 wd, .int .i64 u] w fun e w' => RetCur (Sm.turned s wd u) e ∧ Below w.heap.size w w' := by
  have m0 := Sm.mod_lo (x := u) (w := 2 * wd) (by omega)
  have m1 := Sm.mod_hi (x := u) (w := 2 * wd) (by omega)
  by_cases hv : u % (2 * wd) < wd
  · have HT := Lib.hid (show Sm.turned s wd u = Sm.curAt (s + u % (2 * wd)) false by unfold Sm.turned; rw [if_pos hv])
    go_enter Try.func72, Try.ntmps72
    go_wp2_with (first | (go_at_call 71; ((with_reducible refine (rmod _ _ _ u1 u2 (by omega) (by omega)).mono ?_); rintro x w' ⟨rfl, rfl⟩)) | (go_at_call 48; ((with_reducible refine (rat _ _ _ (by omega) (by omega)).mono ?_); rintro x w' ⟨⟨p, fr, bk, dn, rfl, HC⟩, hb⟩; obtain ⟨⟨k0, k1, k2, k3⟩, kf⟩ := kept4 hb)))
    exact bodyPost_ret (v := .agg #[.int .i64 p, .int .i64 fr, .bool bk, .bool dn]) (by simp [results, Try.results72, go_sem, k0, k1, k2, k3]) rfl ⟨⟨_, _, _, _, rfl, HT.out.trans HC.out⟩, end4 _ _ _ _ hb⟩
  · have HT := Lib.hid (show Sm.turned s wd u = Sm.curAt (s + 2 * wd - 1 - u % (2 * wd)) true by unfold Sm.turned; rw [if_neg hv])
    go_enter Try.func72, Try.ntmps72
    go_wp2_with (first | (go_at_call 71; ((with_reducible refine (rmod _ _ _ u1 u2 (by omega) (by omega)).mono ?_); rintro x w' ⟨rfl, rfl⟩)) | (go_at_call 48; ((with_reducible refine (rat _ _ _ (by omega) (by omega)).mono ?_); rintro x w' ⟨⟨p, fr, bk, dn, rfl, HC⟩, hb⟩; obtain ⟨⟨k0, k1, k2, k3⟩, kf⟩ := kept4 hb)))
    exact bodyPost_ret (v := .agg #[.int .i64 p, .int .i64 fr, .bool bk, .bool dn]) (by simp [results, Try.results72, go_sem, k0, k1, k2, k3]) rfl ⟨⟨_, _, _, _, rfl, HT.out.trans HC.out⟩, end4 _ _ _ _ hb⟩
end Go.Proofs.Ytmaldhjcdkidmaa

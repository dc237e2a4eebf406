/-
  Contracts of package sample's small numbers (mod, width, swing): what the call returns; nothing that was there is changed.
-/
import Derived.Test.YtmaldhjcdkidmaaBase
import Derived.Test.YtmaldhjcdkidmaaLex
import Derived.Test.YtmaldhjcdkidmaaMv
import Derived.Test.YtmaldhjcdkidmaaRefCur
import Derived.Deep.DeepCutAuto
namespace Go.Proofs.Ytmaldhjcdkidmaa
open Go.RowKit

theorem p_width (f t : Int) (w : World) (f1 : -1152921504606846976 ≤ f) (f2 : f ≤ 1152921504606846976) (t1 : -1152921504606846976 ≤ t) (t2 : t ≤ 1152921504606846976) :
    Calls Try.prog 81 #[.agg #[.int .i64 f, .int .i64 t]] w fun x w' => x = .returned (.int .i64 (t - f)) ∧ Below w.heap.size w w' := by
  go_enter Try.func81, Try.ntmps81
  go_wp2
  go_ret
  exact ⟨rfl, below_box _ _⟩
theorem neg_mod (a : Int) (b : Int) : (-((-a) % b) + b) % b = a % b := by
  have e := Int.mul_ediv_add_emod (-a) b
  have : -((-a) % b) + b = a + b * ((-a) / b + 1) := by rw [Int.mul_add]; omega
  rw [this, Int.add_mul_emod_self_left]
theorem p_mod (a b : Int) (w : World) (h1 : -1152921504606846976 ≤ a) (h2 : a ≤ 1152921504606846976) (hb : 0 < b) (hb2 : b ≤ 1152921504606846976) :
    Calls Try.prog 80 #[.int .i64 a, .int .i64 b] w fun x w' => x = .returned (.int .i64 (a % b)) ∧ w = w' := by
  by_cases h0 : 0 ≤ a
  · have q1 := Int.emod_nonneg a (by omega : b ≠ 0)
    have q2 := Int.emod_lt_of_pos a hb
    have HE := Lib.hid (show (a % b + b) % b = a % b by rw [Int.add_emod_right, Int.emod_emod])
    go_enter Try.func80, Try.ntmps80
    go_wp2
    go_ret
    exact ⟨ret_int HE.out, rfl⟩
  · have e1 : a.tmod b = -((-a) % b) := (floor_below b (by omega)).2
    have q1 := Int.emod_nonneg (-a) (by omega : b ≠ 0)
    have q2 := Int.emod_lt_of_pos (-a) hb
    obtain ⟨r, hr⟩ : ∃ r, (-a) % b = r := ⟨_, rfl⟩
    rw [hr] at e1 q1 q2
    have HE := Lib.hid (show -r % b = a % b by rw [← hr, ← Int.add_emod_right, neg_mod])
    clear hr
    go_enter Try.func80, Try.ntmps80
    go_wp2
    go_ret
    exact ⟨ret_int HE.out, rfl⟩
theorem ret_pl {a a' : Int} {b b' : Bool} (h1 : a = a') (h2 : b = b') : Ending.returned (.tuple #[.int .i64 a, .bool b]) = .returned (.tuple #[.int .i64 a', .bool b']) := by rw [h1, h2]
theorem p_swing_lo (f t u : Int) (w : World) (hf0 : 0 ≤ f) (hft : f < t) (ht : t ≤ 268435456) (u1 : -1152921504606846976 ≤ u) (u2 : u ≤ 1152921504606846976) (hv : u % (2 * (t - f)) < t - f) :
    Calls Try.prog 82 #[.agg #[.int .i64 f, .int .i64 t], .int .i64 u] w fun x w' => x = .returned (.tuple #[.int .i64 (f + u % (2 * (t - f))), .bool false]) ∧ Below w.heap.size w w' := by
  have m0 := Sm.mod_lo (x := u) (w := 2 * (t - f)) (by omega)
  have m1 := Sm.mod_hi (x := u) (w := 2 * (t - f)) (by omega)
  obtain ⟨W, hW⟩ : ∃ W, W = w.alloc (.cells #[.int .i64 f, .int .i64 t] 65) := ⟨_, rfl⟩
  have hWb : Below w.heap.size w W := by rw [hW]; exact below_box _ _
  obtain ⟨b, hbe⟩ : ∃ b, b = w.heap.size := ⟨_, rfl⟩
  have hb : b < W.heap.size := by rw [hW, hbe]; simp
  have k0 : ∀ u : Kin W, u.w.cell? ⟨b, 0, none⟩ = some (.int .i64 f) := fun u => by rw [u.below.cell hb, hW, hbe]; simp [World.cell?_alloc_new]
  have k1 : ∀ u : Kin W, u.w.cell? ⟨b, 1, none⟩ = some (.int .i64 t) := fun u => by rw [u.below.cell hb, hW, hbe]; simp [World.cell?_alloc_new]
  have c0 : W.cell? ⟨b, 0, none⟩ = some (.int .i64 f) := k0 ⟨W, Below.refl _ _⟩
  have c1 : W.cell? ⟨b, 1, none⟩ = some (.int .i64 t) := k1 ⟨W, Below.refl _ _⟩
  have hg : Below W.heap.size W W := Below.refl _ _
  have HWb := Lib.hid hWb
  clear hWb
  go_enter Try.func82, Try.ntmps82
  go_upto_region 1 with fail
  rw [← hW, ← hbe]
  clear hW hbe
  go_wp2_with (first | (go_at_call 81; ((with_reducible refine (onB (W := W) (by assumption) (p_width f t _ (by omega) (by omega) (by omega) (by omega))).mono ?_); rintro x w' ⟨rfl, hg'⟩; have c0' := k0 ⟨_, hg'⟩; have c1' := k1 ⟨_, hg'⟩; dsimp only at c0' c1')) | (go_at_call 80; ((with_reducible refine (p_mod _ _ _ (by omega) (by omega) (by omega) (by omega)).mono ?_); rintro x w' ⟨rfl, rfl⟩)))
  go_ret2
  exact ⟨rfl, HWb.out.trans ((by assumption : Below W.heap.size W _).mono HWb.out.size)⟩
theorem p_swing_hi (f t u : Int) (w : World) (hf0 : 0 ≤ f) (hft : f < t) (ht : t ≤ 268435456) (u1 : -1152921504606846976 ≤ u) (u2 : u ≤ 1152921504606846976) (hv : t - f ≤ u % (2 * (t - f))) :
    Calls Try.prog 82 #[.agg #[.int .i64 f, .int .i64 t], .int .i64 u] w fun x w' => x = .returned (.tuple #[.int .i64 (f + 2 * (t - f) - 1 - u % (2 * (t - f))), .bool true]) ∧ Below w.heap.size w w' := by
  have m0 := Sm.mod_lo (x := u) (w := 2 * (t - f)) (by omega)
  have m1 := Sm.mod_hi (x := u) (w := 2 * (t - f)) (by omega)
  obtain ⟨W, hW⟩ : ∃ W, W = w.alloc (.cells #[.int .i64 f, .int .i64 t] 65) := ⟨_, rfl⟩
  have hWb : Below w.heap.size w W := by rw [hW]; exact below_box _ _
  obtain ⟨b, hbe⟩ : ∃ b, b = w.heap.size := ⟨_, rfl⟩
  have hb : b < W.heap.size := by rw [hW, hbe]; simp
  have k0 : ∀ u : Kin W, u.w.cell? ⟨b, 0, none⟩ = some (.int .i64 f) := fun u => by rw [u.below.cell hb, hW, hbe]; simp [World.cell?_alloc_new]
  have k1 : ∀ u : Kin W, u.w.cell? ⟨b, 1, none⟩ = some (.int .i64 t) := fun u => by rw [u.below.cell hb, hW, hbe]; simp [World.cell?_alloc_new]
  have c0 : W.cell? ⟨b, 0, none⟩ = some (.int .i64 f) := k0 ⟨W, Below.refl _ _⟩
  have c1 : W.cell? ⟨b, 1, none⟩ = some (.int .i64 t) := k1 ⟨W, Below.refl _ _⟩
  have hg : Below W.heap.size W W := Below.refl _ _
  have HWb := Lib.hid hWb
  clear hWb
  go_enter Try.func82, Try.ntmps82
  go_upto_region 1 with fail
  rw [← hW, ← hbe]
  clear hW hbe
  go_wp2_with (first | (go_at_call 81; ((with_reducible refine (onB (W := W) (by assumption) (p_width f t _ (by omega) (by omega) (by omega) (by omega))).mono ?_); rintro x w' ⟨rfl, hg'⟩; have c0' := k0 ⟨_, hg'⟩; have c1' := k1 ⟨_, hg'⟩; dsimp only at c0' c1')) | (go_at_call 80; ((with_reducible refine (p_mod _ _ _ (by omega) (by omega) (by omega) (by omega)).mono ?_); rintro x w' ⟨rfl, rfl⟩)))
  refine kin_region (by kernel_rfl) (by kernel_rfl) (by assumption) ?_
  repeat (go_big_quiet_step (first | (go_at_call 81; exact kinB (p_width f t _ (by omega) (by omega) (by omega) (by omega))) | (go_at_call 80; exact kinS (p_mod _ _ _ (by omega) (by omega) (by omega) (by omega)))))
  refine wpQuiet_nil ?_
  intro w' hw
  go_wp2
  go_ret2
  exact ⟨rfl, HWb.out.trans (hw.mono HWb.out.size)⟩
theorem p_swing (f t u : Int) (w : World) (hf0 : 0 ≤ f) (hft : f < t) (ht : t ≤ 268435456) (u1 : -1152921504606846976 ≤ u) (u2 : u ≤ 1152921504606846976) :
    Calls Try.prog 82 #[.agg #[.int .i64 f, .int .i64 t], .int .i64 u] w fun x w' => x = .returned (.tuple #[.int .i64 (Sm.swP f t u), .bool (Sm.swB f t u)]) ∧ Below w.heap.size w w' := by
  unfold Sm.swP Sm.swB
  by_cases hv : u % (2 * (t - f)) < t - f
  · rw [if_pos hv, if_pos hv]; exact p_swing_lo f t u w hf0 hft ht u1 u2 hv
  · rw [if_neg hv, if_neg hv]; exact p_swing_hi f t u w hf0 hft ht u1 u2 (by omega)
end Go.Proofs.Ytmaldhjcdkidmaa

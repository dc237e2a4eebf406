/-
  Contracts of package sample's six courses (onward, backward, loopOnward, loopBackward, swingOnward, swingBackward): the place and the direction; nothing that was there is changed.
-/
import Derived.Test.YtmaldhjcdkidmaaPMod
namespace Go.Proofs.Ytmaldhjcdkidmaa
open Go.RowKit

theorem aP2_in {f t x y st : Int} (h : f ≤ x) (hy : (if t ≤ x then t - 1 else x) = y) : Sm.aP 2 f t x st = Sm.swP f t (2 * (t - f) - 1 - (y - f) + st) ∧ Sm.aB 2 f t x st = Sm.swB f t (2 * (t - f) - 1 - (y - f) + st) := by
  unfold Sm.aP Sm.aB
  rw [hy, if_neg (by omega : ¬((2 : Int) = 1 ∧ f ≤ x ∧ x - st < f)), if_pos (⟨rfl, h⟩ : (2 : Int) = 2 ∧ f ≤ x), if_pos (⟨rfl, h⟩ : (2 : Int) = 2 ∧ f ≤ x)]
  exact ⟨rfl, rfl⟩
theorem p_f0_a (f t x st : Int) (w : World)  (x0 : 0 ≤ x) (x1 : x ≤ 268435456) (s0 : 0 ≤ st) (s1 : st ≤ 536870912)  :
    Calls Try.prog 74 #[.agg #[.int .i64 f, .int .i64 t], .int .i64 x, .int .i64 st] w fun x' w' => x' = .returned (.tuple #[.int .i64 (Sm.fP 0 f t x st), .bool (Sm.fB 0 f t x st)]) ∧ Below w.heap.size w w' := by
  have _u := And.intro x0 (And.intro x1 (And.intro s0 s1))
  clear _u
  have HE := Lib.hid (show Sm.fP 0 f t x st = x + st ∧ Sm.fB 0 f t x st = false by unfold Sm.fP Sm.fB; rw [if_neg (by omega), if_neg (by omega), if_neg (by omega)]; exact ⟨rfl, rfl⟩)
  obtain ⟨W, hW⟩ : ∃ W, W = w.alloc (.cells #[.int .i64 f, .int .i64 t] 65) := ⟨_, rfl⟩
  have hWb : Below w.heap.size w W := by rw [hW]; exact below_box _ _
  obtain ⟨b, hbe⟩ : ∃ b, b = w.heap.size := ⟨_, rfl⟩
  have hb : b < W.heap.size := by rw [hW, hbe]; simp
  have k0 : ∀ u : Kin W, u.w.cell? ⟨b, 0, none⟩ = some (.int .i64 f) := fun u => by rw [u.below.cell hb, hW, hbe]; simp [World.cell?_alloc_new]
  have k1 : ∀ u : Kin W, u.w.cell? ⟨b, 1, none⟩ = some (.int .i64 t) := fun u => by rw [u.below.cell hb, hW, hbe]; simp [World.cell?_alloc_new]
  have c0 : W.cell? ⟨b, 0, none⟩ = some (.int .i64 f) := k0 ⟨W, Below.refl _ _⟩
  have c1 : W.cell? ⟨b, 1, none⟩ = some (.int .i64 t) := k1 ⟨W, Below.refl _ _⟩
  have hg : Below W.heap.size W W := Below.refl _ _
  have HWb := Lib.hid hWb
  clear hWb
  go_enter Try.func74, Try.ntmps74
  go_upto_region 1 with fail
  rw [← hW, ← hbe]
  clear hW hbe
  go_wp2
  go_ret2
  exact ⟨ret_pl (HE.out.1.symm) HE.out.2.symm, HWb.out.trans ((by assumption : Below W.heap.size W _).mono HWb.out.size)⟩
theorem p_b0_a (f t x st : Int) (w : World)  (x0 : 0 ≤ x) (x1 : x ≤ 268435456) (s0 : 0 ≤ st) (s1 : st ≤ 536870912)  :
    Calls Try.prog 75 #[.agg #[.int .i64 f, .int .i64 t], .int .i64 x, .int .i64 st] w fun x' w' => x' = .returned (.tuple #[.int .i64 (Sm.aP 0 f t x st), .bool (Sm.aB 0 f t x st)]) ∧ Below w.heap.size w w' := by
  have _u := And.intro x0 (And.intro x1 (And.intro s0 s1))
  clear _u
  have HE := Lib.hid (show Sm.aP 0 f t x st = x - st ∧ Sm.aB 0 f t x st = true by unfold Sm.aP Sm.aB; rw [if_neg (by omega), if_neg (by omega), if_neg (by omega)]; exact ⟨rfl, rfl⟩)
  obtain ⟨W, hW⟩ : ∃ W, W = w.alloc (.cells #[.int .i64 f, .int .i64 t] 65) := ⟨_, rfl⟩
  have hWb : Below w.heap.size w W := by rw [hW]; exact below_box _ _
  obtain ⟨b, hbe⟩ : ∃ b, b = w.heap.size := ⟨_, rfl⟩
  have hb : b < W.heap.size := by rw [hW, hbe]; simp
  have k0 : ∀ u : Kin W, u.w.cell? ⟨b, 0, none⟩ = some (.int .i64 f) := fun u => by rw [u.below.cell hb, hW, hbe]; simp [World.cell?_alloc_new]
  have k1 : ∀ u : Kin W, u.w.cell? ⟨b, 1, none⟩ = some (.int .i64 t) := fun u => by rw [u.below.cell hb, hW, hbe]; simp [World.cell?_alloc_new]
  have c0 : W.cell? ⟨b, 0, none⟩ = some (.int .i64 f) := k0 ⟨W, Below.refl _ _⟩
  have c1 : W.cell? ⟨b, 1, none⟩ = some (.int .i64 t) := k1 ⟨W, Below.refl _ _⟩
  have hg : Below W.heap.size W W := Below.refl _ _
  have HWb := Lib.hid hWb
  clear hWb
  go_enter Try.func75, Try.ntmps75
  go_upto_region 1 with fail
  rw [← hW, ← hbe]
  clear hW hbe
  go_wp2
  go_ret2
  exact ⟨ret_pl (HE.out.1.symm) HE.out.2.symm, HWb.out.trans ((by assumption : Below W.heap.size W _).mono HWb.out.size)⟩
theorem p_f1_a (f t x st : Int) (w : World) (hf0 : 0 ≤ f) (hft : f < t) (ht : t ≤ 268435456) (x0 : 0 ≤ x) (x1 : x ≤ 268435456) (s0 : 0 ≤ st) (s1 : st ≤ 536870912) (h : x + st < t) :
    Calls Try.prog 76 #[.agg #[.int .i64 f, .int .i64 t], .int .i64 x, .int .i64 st] w fun x' w' => x' = .returned (.tuple #[.int .i64 (Sm.fP 1 f t x st), .bool (Sm.fB 1 f t x st)]) ∧ Below w.heap.size w w' := by
  have _u := And.intro x0 (And.intro x1 (And.intro s0 s1))
  clear _u
  have _v := And.intro hf0 (And.intro hft ht)
  clear _v
  have HE := Lib.hid (show Sm.fP 1 f t x st = x + st ∧ Sm.fB 1 f t x st = false by unfold Sm.fP Sm.fB; rw [if_neg (by omega), if_neg (by omega), if_neg (by omega)]; exact ⟨rfl, rfl⟩)
  obtain ⟨W, hW⟩ : ∃ W, W = w.alloc (.cells #[.int .i64 f, .int .i64 t] 65) := ⟨_, rfl⟩
  have hWb : Below w.heap.size w W := by rw [hW]; exact below_box _ _
  obtain ⟨b, hbe⟩ : ∃ b, b = w.heap.size := ⟨_, rfl⟩
  have hb : b < W.heap.size := by rw [hW, hbe]; simp
  have k0 : ∀ u : Kin W, u.w.cell? ⟨b, 0, none⟩ = some (.int .i64 f) := fun u => by rw [u.below.cell hb, hW, hbe]; simp [World.cell?_alloc_new]
  have k1 : ∀ u : Kin W, u.w.cell? ⟨b, 1, none⟩ = some (.int .i64 t) := fun u => by rw [u.below.cell hb, hW, hbe]; simp [World.cell?_alloc_new]
  have c0 : W.cell? ⟨b, 0, none⟩ = some (.int .i64 f) := k0 ⟨W, Below.refl _ _⟩
  have c1 : W.cell? ⟨b, 1, none⟩ = some (.int .i64 t) := k1 ⟨W, Below.refl _ _⟩
  have hg : Below W.heap.size W W := Below.refl _ _
  have HWb := Lib.hid hWb
  clear hWb
  go_enter Try.func76, Try.ntmps76
  go_upto_region 1 with fail
  rw [← hW, ← hbe]
  clear hW hbe
  go_wp2
  go_ret2
  exact ⟨ret_pl (HE.out.1.symm) HE.out.2.symm, HWb.out.trans ((by assumption : Below W.heap.size W _).mono HWb.out.size)⟩
theorem p_f1_b (f t x st : Int) (w : World) (hf0 : 0 ≤ f) (hft : f < t) (ht : t ≤ 268435456) (x0 : 0 ≤ x) (x1 : x ≤ 268435456) (s0 : 0 ≤ st) (s1 : st ≤ 536870912) (h : t ≤ x + st) :
    Calls Try.prog 76 #[.agg #[.int .i64 f, .int .i64 t], .int .i64 x, .int .i64 st] w fun x' w' => x' = .returned (.tuple #[.int .i64 (Sm.fP 1 f t x st), .bool (Sm.fB 1 f t x st)]) ∧ Below w.heap.size w w' := by
  have _u := And.intro x0 (And.intro x1 (And.intro s0 s1))
  clear _u
  have _v := And.intro hf0 (And.intro hft ht)
  clear _v
  have HE := Lib.hid (show Sm.fP 1 f t x st = f + (x + st - f) % (t - f) ∧ Sm.fB 1 f t x st = false by unfold Sm.fP Sm.fB; rw [if_pos ⟨rfl, h⟩, if_neg (by omega)]; exact ⟨rfl, rfl⟩)
  have m0 := Sm.mod_lo (x := x + st - f) (w := t - f) (by omega)
  have m1 := Sm.mod_hi (x := x + st - f) (w := t - f) (by omega)
  obtain ⟨W, hW⟩ : ∃ W, W = w.alloc (.cells #[.int .i64 f, .int .i64 t] 65) := ⟨_, rfl⟩
  have hWb : Below w.heap.size w W := by rw [hW]; exact below_box _ _
  obtain ⟨b, hbe⟩ : ∃ b, b = w.heap.size := ⟨_, rfl⟩
  have hb : b < W.heap.size := by rw [hW, hbe]; simp
  have k0 : ∀ u : Kin W, u.w.cell? ⟨b, 0, none⟩ = some (.int .i64 f) := fun u => by rw [u.below.cell hb, hW, hbe]; simp [World.cell?_alloc_new]
  have k1 : ∀ u : Kin W, u.w.cell? ⟨b, 1, none⟩ = some (.int .i64 t) := fun u => by rw [u.below.cell hb, hW, hbe]; simp [World.cell?_alloc_new]
  have c0 : W.cell? ⟨b, 0, none⟩ = some (.int .i64 f) := k0 ⟨W, Below.refl _ _⟩
  have c1 : W.cell? ⟨b, 1, none⟩ = some (.int .i64 t) := k1 ⟨W, Below.refl _ _⟩
  have hg : Below W.heap.size W W := Below.refl _ _
  have HWb := Lib.hid hWb
  clear hWb
  go_enter Try.func76, Try.ntmps76
  go_upto_region 1 with fail
  rw [← hW, ← hbe]
  clear hW hbe
  go_wp2
  refine kin_region (W := W) (by kernel_rfl) (by kernel_rfl) (by assumption) ?_
  repeat (go_big_quiet_step (first | (go_at_call 81; exact kinB (p_width f t _ (by omega) (by omega) (by omega) (by omega))) | (go_at_call 80; exact kinS (p_mod _ _ _ (by omega) (by omega) (by omega) (by omega)))))
  refine wpQuiet_nil ?_
  intro w' hw
  go_wp2
  go_ret2
  exact ⟨ret_pl (HE.out.1.symm) HE.out.2.symm, HWb.out.trans ((by assumption : Below W.heap.size W _).mono HWb.out.size)⟩
theorem p_b1_a (f t x st : Int) (w : World) (hf0 : 0 ≤ f) (hft : f < t) (ht : t ≤ 268435456) (x0 : 0 ≤ x) (x1 : x ≤ 268435456) (s0 : 0 ≤ st) (s1 : st ≤ 536870912) (h : x < f) :
    Calls Try.prog 77 #[.agg #[.int .i64 f, .int .i64 t], .int .i64 x, .int .i64 st] w fun x' w' => x' = .returned (.tuple #[.int .i64 (Sm.aP 1 f t x st), .bool (Sm.aB 1 f t x st)]) ∧ Below w.heap.size w w' := by
  have _u := And.intro x0 (And.intro x1 (And.intro s0 s1))
  clear _u
  have _v := And.intro hf0 (And.intro hft ht)
  clear _v
  have HE := Lib.hid (show Sm.aP 1 f t x st = x - st ∧ Sm.aB 1 f t x st = true by unfold Sm.aP Sm.aB; rw [if_neg (by omega), if_neg (by omega), if_neg (by omega)]; exact ⟨rfl, rfl⟩)
  obtain ⟨W, hW⟩ : ∃ W, W = w.alloc (.cells #[.int .i64 f, .int .i64 t] 65) := ⟨_, rfl⟩
  have hWb : Below w.heap.size w W := by rw [hW]; exact below_box _ _
  obtain ⟨b, hbe⟩ : ∃ b, b = w.heap.size := ⟨_, rfl⟩
  have hb : b < W.heap.size := by rw [hW, hbe]; simp
  have k0 : ∀ u : Kin W, u.w.cell? ⟨b, 0, none⟩ = some (.int .i64 f) := fun u => by rw [u.below.cell hb, hW, hbe]; simp [World.cell?_alloc_new]
  have k1 : ∀ u : Kin W, u.w.cell? ⟨b, 1, none⟩ = some (.int .i64 t) := fun u => by rw [u.below.cell hb, hW, hbe]; simp [World.cell?_alloc_new]
  have c0 : W.cell? ⟨b, 0, none⟩ = some (.int .i64 f) := k0 ⟨W, Below.refl _ _⟩
  have c1 : W.cell? ⟨b, 1, none⟩ = some (.int .i64 t) := k1 ⟨W, Below.refl _ _⟩
  have hg : Below W.heap.size W W := Below.refl _ _
  have HWb := Lib.hid hWb
  clear hWb
  go_enter Try.func77, Try.ntmps77
  go_upto_region 1 with fail
  rw [← hW, ← hbe]
  clear hW hbe
  go_wp2
  go_ret2
  exact ⟨ret_pl (HE.out.1.symm) HE.out.2.symm, HWb.out.trans ((by assumption : Below W.heap.size W _).mono HWb.out.size)⟩
theorem p_b1_c (f t x st : Int) (w : World) (hf0 : 0 ≤ f) (hft : f < t) (ht : t ≤ 268435456) (x0 : 0 ≤ x) (x1 : x ≤ 268435456) (s0 : 0 ≤ st) (s1 : st ≤ 536870912) (h2 : f ≤ x) (h : f ≤ x - st) :
    Calls Try.prog 77 #[.agg #[.int .i64 f, .int .i64 t], .int .i64 x, .int .i64 st] w fun x' w' => x' = .returned (.tuple #[.int .i64 (Sm.aP 1 f t x st), .bool (Sm.aB 1 f t x st)]) ∧ Below w.heap.size w w' := by
  have _u := And.intro x0 (And.intro x1 (And.intro s0 s1))
  clear _u
  have _v := And.intro hf0 (And.intro hft ht)
  clear _v
  have HE := Lib.hid (show Sm.aP 1 f t x st = x - st ∧ Sm.aB 1 f t x st = true by unfold Sm.aP Sm.aB; rw [if_neg (by omega), if_neg (by omega), if_neg (by omega)]; exact ⟨rfl, rfl⟩)
  have hd : decide (x < f) = false := decide_eq_false (by omega)
  obtain ⟨W, hW⟩ : ∃ W, W = w.alloc (.cells #[.int .i64 f, .int .i64 t] 65) := ⟨_, rfl⟩
  have hWb : Below w.heap.size w W := by rw [hW]; exact below_box _ _
  obtain ⟨b, hbe⟩ : ∃ b, b = w.heap.size := ⟨_, rfl⟩
  have hb : b < W.heap.size := by rw [hW, hbe]; simp
  have k0 : ∀ u : Kin W, u.w.cell? ⟨b, 0, none⟩ = some (.int .i64 f) := fun u => by rw [u.below.cell hb, hW, hbe]; simp [World.cell?_alloc_new]
  have k1 : ∀ u : Kin W, u.w.cell? ⟨b, 1, none⟩ = some (.int .i64 t) := fun u => by rw [u.below.cell hb, hW, hbe]; simp [World.cell?_alloc_new]
  have c0 : W.cell? ⟨b, 0, none⟩ = some (.int .i64 f) := k0 ⟨W, Below.refl _ _⟩
  have c1 : W.cell? ⟨b, 1, none⟩ = some (.int .i64 t) := k1 ⟨W, Below.refl _ _⟩
  have hg : Below W.heap.size W W := Below.refl _ _
  have HWb := Lib.hid hWb
  clear hWb
  go_enter Try.func77, Try.ntmps77
  go_upto_region 1 with fail
  rw [← hW, ← hbe]
  clear hW hbe
  go_wp2
  go_ret2
  exact ⟨ret_pl (HE.out.1.symm) HE.out.2.symm, HWb.out.trans ((by assumption : Below W.heap.size W _).mono HWb.out.size)⟩
theorem p_b1_b (f t x st : Int) (w : World) (hf0 : 0 ≤ f) (hft : f < t) (ht : t ≤ 268435456) (x0 : 0 ≤ x) (x1 : x ≤ 268435456) (s0 : 0 ≤ st) (s1 : st ≤ 536870912) (h2 : f ≤ x) (h : x - st < f) :
    Calls Try.prog 77 #[.agg #[.int .i64 f, .int .i64 t], .int .i64 x, .int .i64 st] w fun x' w' => x' = .returned (.tuple #[.int .i64 (Sm.aP 1 f t x st), .bool (Sm.aB 1 f t x st)]) ∧ Below w.heap.size w w' := by
  have _u := And.intro x0 (And.intro x1 (And.intro s0 s1))
  clear _u
  have _v := And.intro hf0 (And.intro hft ht)
  clear _v
  have HE := Lib.hid (show Sm.aP 1 f t x st = f + (x - st - f) % (t - f) ∧ Sm.aB 1 f t x st = true by unfold Sm.aP Sm.aB; rw [if_pos ⟨rfl, h2, h⟩, if_neg (by omega)]; exact ⟨rfl, rfl⟩)
  have hd : decide (x < f) = false := decide_eq_false (by omega)
  have hd2 : decide (f ≤ x - st) = false := decide_eq_false (by omega)
  have m0 := Sm.mod_lo (x := x - st - f) (w := t - f) (by omega)
  have m1 := Sm.mod_hi (x := x - st - f) (w := t - f) (by omega)
  obtain ⟨W, hW⟩ : ∃ W, W = w.alloc (.cells #[.int .i64 f, .int .i64 t] 65) := ⟨_, rfl⟩
  have hWb : Below w.heap.size w W := by rw [hW]; exact below_box _ _
  obtain ⟨b, hbe⟩ : ∃ b, b = w.heap.size := ⟨_, rfl⟩
  have hb : b < W.heap.size := by rw [hW, hbe]; simp
  have k0 : ∀ u : Kin W, u.w.cell? ⟨b, 0, none⟩ = some (.int .i64 f) := fun u => by rw [u.below.cell hb, hW, hbe]; simp [World.cell?_alloc_new]
  have k1 : ∀ u : Kin W, u.w.cell? ⟨b, 1, none⟩ = some (.int .i64 t) := fun u => by rw [u.below.cell hb, hW, hbe]; simp [World.cell?_alloc_new]
  have c0 : W.cell? ⟨b, 0, none⟩ = some (.int .i64 f) := k0 ⟨W, Below.refl _ _⟩
  have c1 : W.cell? ⟨b, 1, none⟩ = some (.int .i64 t) := k1 ⟨W, Below.refl _ _⟩
  have hg : Below W.heap.size W W := Below.refl _ _
  have HWb := Lib.hid hWb
  clear hWb
  go_enter Try.func77, Try.ntmps77
  go_upto_region 1 with fail
  rw [← hW, ← hbe]
  clear hW hbe
  go_wp2
  refine kin_region (W := W) (by kernel_rfl) (by kernel_rfl) (by assumption) ?_
  repeat (go_big_quiet_step (first | (go_at_call 81; exact kinB (p_width f t _ (by omega) (by omega) (by omega) (by omega))) | (go_at_call 80; exact kinS (p_mod _ _ _ (by omega) (by omega) (by omega) (by omega)))))
  refine wpQuiet_nil ?_
  intro w' hw
  go_wp2
  go_ret2
  exact ⟨ret_pl (HE.out.1.symm) HE.out.2.symm, HWb.out.trans ((by assumption : Below W.heap.size W _).mono HWb.out.size)⟩
theorem p_f2_a (f t x st : Int) (w : World) (hf0 : 0 ≤ f) (hft : f < t) (ht : t ≤ 268435456) (x0 : 0 ≤ x) (x1 : x ≤ 268435456) (s0 : 0 ≤ st) (s1 : st ≤ 536870912) (h : x + st < t) :
    Calls Try.prog 78 #[.agg #[.int .i64 f, .int .i64 t], .int .i64 x, .int .i64 st] w fun x' w' => x' = .returned (.tuple #[.int .i64 (Sm.fP 2 f t x st), .bool (Sm.fB 2 f t x st)]) ∧ Below w.heap.size w w' := by
  have _u := And.intro x0 (And.intro x1 (And.intro s0 s1))
  clear _u
  have _v := And.intro hf0 (And.intro hft ht)
  clear _v
  have HE := Lib.hid (show Sm.fP 2 f t x st = x + st ∧ Sm.fB 2 f t x st = false by unfold Sm.fP Sm.fB; rw [if_neg (by omega), if_neg (by omega), if_neg (by omega)]; exact ⟨rfl, rfl⟩)
  obtain ⟨W, hW⟩ : ∃ W, W = w.alloc (.cells #[.int .i64 f, .int .i64 t] 65) := ⟨_, rfl⟩
  have hWb : Below w.heap.size w W := by rw [hW]; exact below_box _ _
  obtain ⟨b, hbe⟩ : ∃ b, b = w.heap.size := ⟨_, rfl⟩
  have hb : b < W.heap.size := by rw [hW, hbe]; simp
  have k0 : ∀ u : Kin W, u.w.cell? ⟨b, 0, none⟩ = some (.int .i64 f) := fun u => by rw [u.below.cell hb, hW, hbe]; simp [World.cell?_alloc_new]
  have k1 : ∀ u : Kin W, u.w.cell? ⟨b, 1, none⟩ = some (.int .i64 t) := fun u => by rw [u.below.cell hb, hW, hbe]; simp [World.cell?_alloc_new]
  have c0 : W.cell? ⟨b, 0, none⟩ = some (.int .i64 f) := k0 ⟨W, Below.refl _ _⟩
  have c1 : W.cell? ⟨b, 1, none⟩ = some (.int .i64 t) := k1 ⟨W, Below.refl _ _⟩
  have hg : Below W.heap.size W W := Below.refl _ _
  have HWb := Lib.hid hWb
  clear hWb
  go_enter Try.func78, Try.ntmps78
  go_upto_region 1 with fail
  rw [← hW, ← hbe]
  clear hW hbe
  go_wp2
  go_ret2
  exact ⟨ret_pl (HE.out.1.symm) HE.out.2.symm, HWb.out.trans ((by assumption : Below W.heap.size W _).mono HWb.out.size)⟩
theorem p_f2_b (f t x st : Int) (w : World) (hf0 : 0 ≤ f) (hft : f < t) (ht : t ≤ 268435456) (x0 : 0 ≤ x) (x1 : x ≤ 268435456) (s0 : 0 ≤ st) (s1 : st ≤ 536870912) (h : t ≤ x + st) :
    Calls Try.prog 78 #[.agg #[.int .i64 f, .int .i64 t], .int .i64 x, .int .i64 st] w fun x' w' => x' = .returned (.tuple #[.int .i64 (Sm.fP 2 f t x st), .bool (Sm.fB 2 f t x st)]) ∧ Below w.heap.size w w' := by
  have _u := And.intro x0 (And.intro x1 (And.intro s0 s1))
  clear _u
  have _v := And.intro hf0 (And.intro hft ht)
  clear _v
  have HE := Lib.hid (show Sm.fP 2 f t x st = Sm.swP f t (x + st - f) ∧ Sm.fB 2 f t x st = Sm.swB f t (x + st - f) by unfold Sm.fP Sm.fB; rw [if_neg (by omega), if_pos ⟨rfl, h⟩, if_pos ⟨rfl, h⟩]; exact ⟨rfl, rfl⟩)
  obtain ⟨W, hW⟩ : ∃ W, W = w.alloc (.cells #[.int .i64 f, .int .i64 t] 65) := ⟨_, rfl⟩
  have hWb : Below w.heap.size w W := by rw [hW]; exact below_box _ _
  obtain ⟨b, hbe⟩ : ∃ b, b = w.heap.size := ⟨_, rfl⟩
  have hb : b < W.heap.size := by rw [hW, hbe]; simp
  have k0 : ∀ u : Kin W, u.w.cell? ⟨b, 0, none⟩ = some (.int .i64 f) := fun u => by rw [u.below.cell hb, hW, hbe]; simp [World.cell?_alloc_new]
  have k1 : ∀ u : Kin W, u.w.cell? ⟨b, 1, none⟩ = some (.int .i64 t) := fun u => by rw [u.below.cell hb, hW, hbe]; simp [World.cell?_alloc_new]
  have c0 : W.cell? ⟨b, 0, none⟩ = some (.int .i64 f) := k0 ⟨W, Below.refl _ _⟩
  have c1 : W.cell? ⟨b, 1, none⟩ = some (.int .i64 t) := k1 ⟨W, Below.refl _ _⟩
  have hg : Below W.heap.size W W := Below.refl _ _
  have HWb := Lib.hid hWb
  clear hWb
  go_enter Try.func78, Try.ntmps78
  go_upto_region 1 with fail
  rw [← hW, ← hbe]
  clear hW hbe
  go_wp2_with (first | (go_at_call 82; ((with_reducible refine (onB (W := W) (by assumption) (p_swing f t _ _ hf0 hft ht (by omega) (by omega))).mono ?_); rintro x w' ⟨rfl, hg'⟩)))
  go_ret2
  exact ⟨ret_pl (HE.out.1.symm) HE.out.2.symm, HWb.out.trans ((by assumption : Below W.heap.size W _).mono HWb.out.size)⟩
theorem p_b2_a (f t x st : Int) (w : World) (hf0 : 0 ≤ f) (hft : f < t) (ht : t ≤ 268435456) (x0 : 0 ≤ x) (x1 : x ≤ 268435456) (s0 : 0 ≤ st) (s1 : st ≤ 536870912) (h : x < f) :
    Calls Try.prog 79 #[.agg #[.int .i64 f, .int .i64 t], .int .i64 x, .int .i64 st] w fun x' w' => x' = .returned (.tuple #[.int .i64 (Sm.aP 2 f t x st), .bool (Sm.aB 2 f t x st)]) ∧ Below w.heap.size w w' := by
  have _u := And.intro x0 (And.intro x1 (And.intro s0 s1))
  clear _u
  have _v := And.intro hf0 (And.intro hft ht)
  clear _v
  have HE := Lib.hid (show Sm.aP 2 f t x st = x - st ∧ Sm.aB 2 f t x st = true by unfold Sm.aP Sm.aB; rw [if_neg (by omega), if_neg (by omega), if_neg (by omega)]; exact ⟨rfl, rfl⟩)
  obtain ⟨W, hW⟩ : ∃ W, W = w.alloc (.cells #[.int .i64 f, .int .i64 t] 65) := ⟨_, rfl⟩
  have hWb : Below w.heap.size w W := by rw [hW]; exact below_box _ _
  obtain ⟨b, hbe⟩ : ∃ b, b = w.heap.size := ⟨_, rfl⟩
  have hb : b < W.heap.size := by rw [hW, hbe]; simp
  have k0 : ∀ u : Kin W, u.w.cell? ⟨b, 0, none⟩ = some (.int .i64 f) := fun u => by rw [u.below.cell hb, hW, hbe]; simp [World.cell?_alloc_new]
  have k1 : ∀ u : Kin W, u.w.cell? ⟨b, 1, none⟩ = some (.int .i64 t) := fun u => by rw [u.below.cell hb, hW, hbe]; simp [World.cell?_alloc_new]
  have c0 : W.cell? ⟨b, 0, none⟩ = some (.int .i64 f) := k0 ⟨W, Below.refl _ _⟩
  have c1 : W.cell? ⟨b, 1, none⟩ = some (.int .i64 t) := k1 ⟨W, Below.refl _ _⟩
  have hg : Below W.heap.size W W := Below.refl _ _
  have HWb := Lib.hid hWb
  clear hWb
  go_enter Try.func79, Try.ntmps79
  go_upto_region 1 with fail
  rw [← hW, ← hbe]
  clear hW hbe
  go_wp2
  go_ret2
  exact ⟨ret_pl (HE.out.1.symm) HE.out.2.symm, HWb.out.trans ((by assumption : Below W.heap.size W _).mono HWb.out.size)⟩
theorem p_b2_b (f t x st : Int) (w : World) (hf0 : 0 ≤ f) (hft : f < t) (ht : t ≤ 268435456) (x0 : 0 ≤ x) (x1 : x ≤ 268435456) (s0 : 0 ≤ st) (s1 : st ≤ 536870912) (h : f ≤ x) (h2 : x < t - 1) :
    Calls Try.prog 79 #[.agg #[.int .i64 f, .int .i64 t], .int .i64 x, .int .i64 st] w fun x' w' => x' = .returned (.tuple #[.int .i64 (Sm.aP 2 f t x st), .bool (Sm.aB 2 f t x st)]) ∧ Below w.heap.size w w' := by
  have _u := And.intro x0 (And.intro x1 (And.intro s0 s1))
  clear _u
  have _v := And.intro hf0 (And.intro hft ht)
  clear _v
  have HE := Lib.hid (show Sm.aP 2 f t x st = Sm.swP f t (2 * (t - f) - 1 - (x - f) + st) ∧ Sm.aB 2 f t x st = Sm.swB f t (2 * (t - f) - 1 - (x - f) + st) by exact aP2_in h (if_neg (by omega)))
  obtain ⟨W, hW⟩ : ∃ W, W = w.alloc (.cells #[.int .i64 f, .int .i64 t] 65) := ⟨_, rfl⟩
  have hWb : Below w.heap.size w W := by rw [hW]; exact below_box _ _
  obtain ⟨b, hbe⟩ : ∃ b, b = w.heap.size := ⟨_, rfl⟩
  have hb : b < W.heap.size := by rw [hW, hbe]; simp
  have k0 : ∀ u : Kin W, u.w.cell? ⟨b, 0, none⟩ = some (.int .i64 f) := fun u => by rw [u.below.cell hb, hW, hbe]; simp [World.cell?_alloc_new]
  have k1 : ∀ u : Kin W, u.w.cell? ⟨b, 1, none⟩ = some (.int .i64 t) := fun u => by rw [u.below.cell hb, hW, hbe]; simp [World.cell?_alloc_new]
  have c0 : W.cell? ⟨b, 0, none⟩ = some (.int .i64 f) := k0 ⟨W, Below.refl _ _⟩
  have c1 : W.cell? ⟨b, 1, none⟩ = some (.int .i64 t) := k1 ⟨W, Below.refl _ _⟩
  have hg : Below W.heap.size W W := Below.refl _ _
  have HWb := Lib.hid hWb
  clear hWb
  go_enter Try.func79, Try.ntmps79
  go_upto_region 1 with fail
  rw [← hW, ← hbe]
  clear hW hbe
  go_wp2
  refine kin_region (W := W) (by kernel_rfl) (by kernel_rfl) (by assumption) ?_
  repeat (go_big_quiet_step (first | (go_at_call 81; exact kinB (p_width f t _ (by omega) (by omega) (by omega) (by omega))) | (go_at_call 82; exact kinB (p_swing f t _ _ hf0 hft ht (by omega) (by omega)))))
  refine wpQuiet_nil ?_
  intro w' hw
  go_wp2
  go_ret2
  exact ⟨ret_pl (HE.out.1.symm) HE.out.2.symm, HWb.out.trans ((by assumption : Below W.heap.size W _).mono HWb.out.size)⟩
theorem p_b2_c (f t x st : Int) (w : World) (hf0 : 0 ≤ f) (hft : f < t) (ht : t ≤ 268435456) (x0 : 0 ≤ x) (x1 : x ≤ 268435456) (s0 : 0 ≤ st) (s1 : st ≤ 536870912) (h2 : t - 1 < x) :
    Calls Try.prog 79 #[.agg #[.int .i64 f, .int .i64 t], .int .i64 x, .int .i64 st] w fun x' w' => x' = .returned (.tuple #[.int .i64 (Sm.aP 2 f t x st), .bool (Sm.aB 2 f t x st)]) ∧ Below w.heap.size w w' := by
  have _u := And.intro x0 (And.intro x1 (And.intro s0 s1))
  clear _u
  have _v := And.intro hf0 (And.intro hft ht)
  clear _v
  have HE := Lib.hid (show Sm.aP 2 f t x st = Sm.swP f t (2 * (t - f) - 1 - (t - 1 - f) + st) ∧ Sm.aB 2 f t x st = Sm.swB f t (2 * (t - f) - 1 - (t - 1 - f) + st) by exact aP2_in (by omega) (if_pos (by omega)))
  obtain ⟨W, hW⟩ : ∃ W, W = w.alloc (.cells #[.int .i64 f, .int .i64 t] 65) := ⟨_, rfl⟩
  have hWb : Below w.heap.size w W := by rw [hW]; exact below_box _ _
  obtain ⟨b, hbe⟩ : ∃ b, b = w.heap.size := ⟨_, rfl⟩
  have hb : b < W.heap.size := by rw [hW, hbe]; simp
  have k0 : ∀ u : Kin W, u.w.cell? ⟨b, 0, none⟩ = some (.int .i64 f) := fun u => by rw [u.below.cell hb, hW, hbe]; simp [World.cell?_alloc_new]
  have k1 : ∀ u : Kin W, u.w.cell? ⟨b, 1, none⟩ = some (.int .i64 t) := fun u => by rw [u.below.cell hb, hW, hbe]; simp [World.cell?_alloc_new]
  have c0 : W.cell? ⟨b, 0, none⟩ = some (.int .i64 f) := k0 ⟨W, Below.refl _ _⟩
  have c1 : W.cell? ⟨b, 1, none⟩ = some (.int .i64 t) := k1 ⟨W, Below.refl _ _⟩
  have hg : Below W.heap.size W W := Below.refl _ _
  have HWb := Lib.hid hWb
  clear hWb
  go_enter Try.func79, Try.ntmps79
  go_upto_region 1 with fail
  rw [← hW, ← hbe]
  clear hW hbe
  go_wp2
  refine kin_region (W := W) (by kernel_rfl) (by kernel_rfl) (by assumption) ?_
  repeat (go_big_quiet_step (first | (go_at_call 81; exact kinB (p_width f t _ (by omega) (by omega) (by omega) (by omega))) | (go_at_call 82; exact kinB (p_swing f t _ _ hf0 hft ht (by omega) (by omega)))))
  refine wpQuiet_nil ?_
  intro w' hw
  go_wp2
  go_ret2
  exact ⟨ret_pl (HE.out.1.symm) HE.out.2.symm, HWb.out.trans ((by assumption : Below W.heap.size W _).mono HWb.out.size)⟩
theorem p_b2_d (f t st : Int) (w : World) (hf0 : 0 ≤ f) (hft : f < t) (ht : t ≤ 268435456) (s0 : 0 ≤ st) (s1 : st ≤ 536870912) :
    Calls Try.prog 79 #[.agg #[.int .i64 f, .int .i64 t], .int .i64 (t - 1), .int .i64 st] w fun x' w' => x' = .returned (.tuple #[.int .i64 (Sm.aP 2 f t (t - 1) st), .bool (Sm.aB 2 f t (t - 1) st)]) ∧ Below w.heap.size w w' := by
  have HE := Lib.hid (show Sm.aP 2 f t (t - 1) st = Sm.swP f t (2 * (t - f) - 1 - (t - 1 - f) + st) ∧ Sm.aB 2 f t (t - 1) st = Sm.swB f t (2 * (t - f) - 1 - (t - 1 - f) + st) by exact aP2_in (by omega) (if_neg (by omega)))
  obtain ⟨W, hW⟩ : ∃ W, W = w.alloc (.cells #[.int .i64 f, .int .i64 t] 65) := ⟨_, rfl⟩
  have hWb : Below w.heap.size w W := by rw [hW]; exact below_box _ _
  obtain ⟨b, hbe⟩ : ∃ b, b = w.heap.size := ⟨_, rfl⟩
  have hb : b < W.heap.size := by rw [hW, hbe]; simp
  have k0 : ∀ u : Kin W, u.w.cell? ⟨b, 0, none⟩ = some (.int .i64 f) := fun u => by rw [u.below.cell hb, hW, hbe]; simp [World.cell?_alloc_new]
  have k1 : ∀ u : Kin W, u.w.cell? ⟨b, 1, none⟩ = some (.int .i64 t) := fun u => by rw [u.below.cell hb, hW, hbe]; simp [World.cell?_alloc_new]
  have c0 : W.cell? ⟨b, 0, none⟩ = some (.int .i64 f) := k0 ⟨W, Below.refl _ _⟩
  have c1 : W.cell? ⟨b, 1, none⟩ = some (.int .i64 t) := k1 ⟨W, Below.refl _ _⟩
  have hg : Below W.heap.size W W := Below.refl _ _
  have HWb := Lib.hid hWb
  clear hWb
  go_enter Try.func79, Try.ntmps79
  go_upto_region 1 with fail
  rw [← hW, ← hbe]
  clear hW hbe
  go_wp2
  refine kin_region (W := W) (by kernel_rfl) (by kernel_rfl) (by assumption) ?_
  repeat (go_big_quiet_step (first | (go_at_call 81; exact kinB (p_width f t _ (by omega) (by omega) (by omega) (by omega))) | (go_at_call 82; exact kinB (p_swing f t _ _ hf0 hft ht (by omega) (by omega)))))
  refine wpQuiet_nil ?_
  intro w' hw
  go_wp2
  go_ret2
  exact ⟨ret_pl (HE.out.1.symm) HE.out.2.symm, HWb.out.trans (hw.mono HWb.out.size)⟩
theorem p_f1 (f t x st : Int) (w : World) (hf0 : 0 ≤ f) (hft : f < t) (ht : t ≤ 268435456) (x0 : 0 ≤ x) (x1 : x ≤ 268435456) (s0 : 0 ≤ st) (s1 : st ≤ 536870912) :
    Calls Try.prog 76 #[.agg #[.int .i64 f, .int .i64 t], .int .i64 x, .int .i64 st] w fun x' w' => x' = .returned (.tuple #[.int .i64 (Sm.fP 1 f t x st), .bool (Sm.fB 1 f t x st)]) ∧ Below w.heap.size w w' := by
  by_cases h : x + st < t
  · exact p_f1_a f t x st w hf0 hft ht x0 x1 s0 s1 h
  · exact p_f1_b f t x st w hf0 hft ht x0 x1 s0 s1 (by omega)
theorem p_b1 (f t x st : Int) (w : World) (hf0 : 0 ≤ f) (hft : f < t) (ht : t ≤ 268435456) (x0 : 0 ≤ x) (x1 : x ≤ 268435456) (s0 : 0 ≤ st) (s1 : st ≤ 536870912) :
    Calls Try.prog 77 #[.agg #[.int .i64 f, .int .i64 t], .int .i64 x, .int .i64 st] w fun x' w' => x' = .returned (.tuple #[.int .i64 (Sm.aP 1 f t x st), .bool (Sm.aB 1 f t x st)]) ∧ Below w.heap.size w w' := by
  by_cases h : x < f
  · exact p_b1_a f t x st w hf0 hft ht x0 x1 s0 s1 h
  · by_cases h2 : f ≤ x - st
    · exact p_b1_c f t x st w hf0 hft ht x0 x1 s0 s1 (by omega) h2
    · exact p_b1_b f t x st w hf0 hft ht x0 x1 s0 s1 (by omega) (by omega)
theorem p_f2 (f t x st : Int) (w : World) (hf0 : 0 ≤ f) (hft : f < t) (ht : t ≤ 268435456) (x0 : 0 ≤ x) (x1 : x ≤ 268435456) (s0 : 0 ≤ st) (s1 : st ≤ 536870912) :
    Calls Try.prog 78 #[.agg #[.int .i64 f, .int .i64 t], .int .i64 x, .int .i64 st] w fun x' w' => x' = .returned (.tuple #[.int .i64 (Sm.fP 2 f t x st), .bool (Sm.fB 2 f t x st)]) ∧ Below w.heap.size w w' := by
  by_cases h : x + st < t
  · exact p_f2_a f t x st w hf0 hft ht x0 x1 s0 s1 h
  · exact p_f2_b f t x st w hf0 hft ht x0 x1 s0 s1 (by omega)
theorem p_b2 (f t x st : Int) (w : World) (hf0 : 0 ≤ f) (hft : f < t) (ht : t ≤ 268435456) (x0 : 0 ≤ x) (x1 : x ≤ 268435456) (s0 : 0 ≤ st) (s1 : st ≤ 536870912) :
    Calls Try.prog 79 #[.agg #[.int .i64 f, .int .i64 t], .int .i64 x, .int .i64 st] w fun x' w' => x' = .returned (.tuple #[.int .i64 (Sm.aP 2 f t x st), .bool (Sm.aB 2 f t x st)]) ∧ Below w.heap.size w w' := by
  by_cases h : x < f
  · exact p_b2_a f t x st w hf0 hft ht x0 x1 s0 s1 h
  · by_cases h2 : x < t - 1
    · exact p_b2_b f t x st w hf0 hft ht x0 x1 s0 s1 (by omega) h2
    · by_cases h3 : x = t - 1
      · subst h3; exact p_b2_d f t st w hf0 hft ht s0 s1
      · exact p_b2_c f t x st w hf0 hft ht x0 x1 s0 s1 (by omega)
end Go.Proofs.Ytmaldhjcdkidmaa

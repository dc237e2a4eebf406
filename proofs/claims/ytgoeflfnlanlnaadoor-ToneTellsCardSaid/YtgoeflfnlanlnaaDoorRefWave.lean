/-
  Contracts of the reference's functions quarter and Wave, for any kind, place and seed: what the call returns; nothing that was there is changed.
-/
import Derived.Test.YtgoeflfnlanlnaaDoorRefExp
namespace Go.Proofs.YtgoeflfnlanlnaaDoor
open Go.RowKit

set_option maxHeartbeats 1000000 in
theorem rquarter (i : Nat) (w : World) (h : i < 17) :
    Calls Tryd.prog 47 #[.int .i64 i] w fun e w' => e = .returned (.int .i64 (Tm.qt.getD i 0)) ∧ Below w.heap.size w w' := by
  have hi : i = 0 ∨ i = 1 ∨ i = 2 ∨ i = 3 ∨ i = 4 ∨ i = 5 ∨ i = 6 ∨ i = 7 ∨ i = 8 ∨ i = 9 ∨ i = 10 ∨ i = 11 ∨ i = 12 ∨ i = 13 ∨ i = 14 ∨ i = 15 ∨ i = 16 := by omega
  clear h
  rcases hi with rfl | rfl | rfl | rfl | rfl | rfl | rfl | rfl | rfl | rfl | rfl | rfl | rfl | rfl | rfl | rfl | rfl
  all_goals
    go_enter Tryd.func47, Tryd.ntmps47
    go_wp2
    go_ret
    exact ⟨rfl, (Below.refl _ _).alloc (Nat.le_refl _) _⟩
theorem rquarter_int (x : Int) (w : World) (h0 : 0 ≤ x) (h1 : x ≤ 16) :
    Calls Tryd.prog 47 #[.int .i64 x] w fun e w' => (∃ z, e = .returned (.int .i64 z) ∧ (0 ≤ z ∧ z ≤ 255) ∧ Hid (z = Tm.qt.getD x.toNat 0)) ∧ Below w.heap.size w w' := by
  obtain ⟨i, rfl⟩ := Int.eq_ofNat_of_zero_le h0
  exact (rquarter i w (by omega)).mono fun _ _ ⟨he, hb⟩ => ⟨⟨_, he, Tm.qt_bd i, rfl⟩, hb⟩

theorem sn_low {q z : Int} {x : Nat} (h : q < 32) (hx : x = (min (q % 32) (32 - q % 32)).toNat) (hz : z = Tm.qt.getD x 0) : z = Tm.sn q := by
  unfold Tm.sn; rw [if_pos h, hz, hx]
theorem sn_high {q z : Int} {x : Nat} (h : 32 ≤ q) (hx : x = (min (q % 32) (32 - q % 32)).toNat) (hz : z = Tm.qt.getD x 0) : -z = Tm.sn q := by
  unfold Tm.sn; rw [if_neg (by omega), hz, hx]

theorem r_wave (k p s : Int) (w : World) (p1 : -9223372036854775808 ≤ p) (p2 : p ≤ 9223372036854775807) :
    Calls Tryd.prog 27 #[.int .i64 k, .int .i64 p, .int .i64 s] w fun e w' => e = .returned (.int .i64 (Tm.wv k p s)) ∧ Below w.heap.size w w' := by
  obtain ⟨q, hq⟩ : ∃ q, p % 64 = q := ⟨_, rfl⟩
  have hq1 : 0 ≤ q := by omega
  have hq2 : q < 64 := by omega
  have hm : ∀ W : World, Calls Tryd.prog 46 #[.int .i64 p, .int .i64 64] W fun e w' => e = .returned (.int .i64 q) ∧ W = w' := fun W => by
    have := rmod64 p W p1 p2
    rwa [hq] at this
  have HM := Lib.hid hm
  by_cases h0 : k = 0
  · subst h0
    have HW : Hid (Tm.wv 0 p s = Tm.sn q) := by rw [← hq]; rfl
    clear hm hq p1 p2
    by_cases hh : 16 < q % 32
    · by_cases hp : 32 ≤ q
      · go_enter Tryd.func27, Tryd.ntmps27
        go_wp2_with (first | (go_at_call 46; ((with_reducible refine (HM.out _).mono ?_); rintro e w' ⟨rfl, rfl⟩)) | (go_at_call 47; ((with_reducible refine (rquarter_int _ _ (by omega) (by omega)).mono ?_); rintro e w' ⟨⟨z, rfl, hz, HZ⟩, hb⟩)))
        go_ret
        exact ⟨ret_int (by rw [HW.out]; exact sn_high hp (by omega) HZ.out), hb⟩
      · go_enter Tryd.func27, Tryd.ntmps27
        go_wp2_with (first | (go_at_call 46; ((with_reducible refine (HM.out _).mono ?_); rintro e w' ⟨rfl, rfl⟩)) | (go_at_call 47; ((with_reducible refine (rquarter_int _ _ (by omega) (by omega)).mono ?_); rintro e w' ⟨⟨z, rfl, hz, HZ⟩, hb⟩)))
        go_ret
        exact ⟨ret_int (by rw [HW.out]; exact sn_low (by omega) (by omega) HZ.out), hb⟩
    · by_cases hp : 32 ≤ q
      · go_enter Tryd.func27, Tryd.ntmps27
        go_wp2_with (first | (go_at_call 46; ((with_reducible refine (HM.out _).mono ?_); rintro e w' ⟨rfl, rfl⟩)) | (go_at_call 47; ((with_reducible refine (rquarter_int _ _ (by omega) (by omega)).mono ?_); rintro e w' ⟨⟨z, rfl, hz, HZ⟩, hb⟩)))
        go_ret
        exact ⟨ret_int (by rw [HW.out]; exact sn_high hp (by omega) HZ.out), hb⟩
      · go_enter Tryd.func27, Tryd.ntmps27
        go_wp2_with (first | (go_at_call 46; ((with_reducible refine (HM.out _).mono ?_); rintro e w' ⟨rfl, rfl⟩)) | (go_at_call 47; ((with_reducible refine (rquarter_int _ _ (by omega) (by omega)).mono ?_); rintro e w' ⟨⟨z, rfl, hz, HZ⟩, hb⟩)))
        go_ret
        exact ⟨ret_int (by rw [HW.out]; exact sn_low (by omega) (by omega) HZ.out), hb⟩
  by_cases h1 : k = 1
  · subst h1
    have HW : Hid (Tm.wv 1 p s = 255 - 8 * q) := by rw [← hq]; rfl
    clear hm hq p1 p2
    go_enter Tryd.func27, Tryd.ntmps27
    go_wp2_with (first | (go_at_call 46; ((with_reducible refine (HM.out _).mono ?_); rintro e w' ⟨rfl, rfl⟩)))
    go_ret
    exact ⟨ret_int (by rw [HW.out]), Below.refl _ _⟩
  by_cases h2 : k = 2
  · subst h2
    have HW : Hid (Tm.wv 2 p s = Tm.sqv q) := by rw [← hq]; rfl
    clear hm hq p1 p2
    by_cases hp : q < 32
    · go_enter Tryd.func27, Tryd.ntmps27
      go_wp2_with (first | (go_at_call 46; ((with_reducible refine (HM.out _).mono ?_); rintro e w' ⟨rfl, rfl⟩)))
      go_ret
      exact ⟨ret_int (by rw [HW.out]; unfold Tm.sqv; rw [if_pos hp]), Below.refl _ _⟩
    · go_enter Tryd.func27, Tryd.ntmps27
      go_wp2_with (first | (go_at_call 46; ((with_reducible refine (HM.out _).mono ?_); rintro e w' ⟨rfl, rfl⟩)))
      go_ret
      exact ⟨ret_int (by rw [HW.out]; unfold Tm.sqv; rw [if_neg (by omega)]), Below.refl _ _⟩
  by_cases h3 : k = 3
  · subst h3
    have HW : Hid (Tm.wv 3 p s = Tm.rnv s) := rfl
    clear hm hq p1 p2
    by_cases hs : 0 ≤ s ∧ s ≤ 2147483647
    · have HT : Tm.tNext s = Tm.nx s := by unfold Tm.tNext; rw [if_pos hs]
      have hn : 0 ≤ Tm.nx s ∧ Tm.nx s < 2147483648 := by unfold Tm.nx; omega
      go_enter Tryd.func27, Tryd.ntmps27
      go_wp2_with (first | (go_at_call 46; ((with_reducible refine (HM.out _).mono ?_); rintro e w' ⟨rfl, rfl⟩)) | (go_at_call 34; ((with_reducible refine (rwithin_yes _ _ _ _ hs.1 hs.2).mono ?_); rintro e w' ⟨rfl, rfl⟩)) | (go_at_call 9; ((with_reducible refine (r_next _ _).mono ?_); rintro e w' ⟨rfl, rfl⟩)))
      go_ret
      exact ⟨ret_int (by rw [HW.out]; unfold Tm.rnv; rw [if_pos hs]), Below.refl _ _⟩
    · have hsn : s < 0 ∨ 2147483647 < s := by omega
      go_enter Tryd.func27, Tryd.ntmps27
      go_wp2_with (first | (go_at_call 46; ((with_reducible refine (HM.out _).mono ?_); rintro e w' ⟨rfl, rfl⟩)) | (go_at_call 34; ((with_reducible refine (rwithin_no _ _ _ _ hsn).mono ?_); rintro e w' ⟨rfl, rfl⟩)))
      go_ret
      exact ⟨ret_int (by rw [HW.out]; unfold Tm.rnv; rw [if_neg hs]), Below.refl _ _⟩
  · have HW : Hid (Tm.wv k p s = 0) := by show Tm.wv k p s = 0; unfold Tm.wv; rw [if_neg h0, if_neg h1, if_neg h2, if_neg h3]
    clear hm hq p1 p2
    go_enter Tryd.func27, Tryd.ntmps27
    go_wp2_with (first | (go_at_call 46; ((with_reducible refine (HM.out _).mono ?_); rintro e w' ⟨rfl, rfl⟩)))
    go_ret
    exact ⟨ret_int HW.out.symm, Below.refl _ _⟩
end Go.Proofs.YtgoeflfnlanlnaaDoor

/-
  Contracts of package pack's nearest and Nibbles.
-/
import Derived.Test.YtfljgdehbogimaaPNum
import Derived.Test.YtfljgdehbogimaaPkN
import Derived.Test.YtfljgdehbogimaaRefDel
namespace Go.Proofs.Ytfljgdehbogimaa
open Go.RowKit

set_option maxHeartbeats 1600000 in
theorem p_nearest (t : List Int) (pt : Option Addr) (cap : Nat) (p x : Int) (w : World) (hd : DatAt w pt t) (ht : t.length = 16) (hr : ∀ y ∈ t, -1048576 ≤ y ∧ y ≤ 1048576) (p1 : -128 ≤ p) (p2 : p ≤ 127) (x1 : -128 ≤ x) (x2 : x ≤ 127) :
    Calls Try.prog 50 #[.slice pt 16 cap, .int .i64 p, .int .i64 x] w fun e w' => e = .returned (.int .i64 (Pk.nidx t p x)) ∧ w = w' := by
  have HD := Lib.hid hd
  have HR := Lib.hid hr
  have HT := Lib.hid ht
  clear hd hr ht
  go_enter Try.func50, Try.ntmps50
  go_wp2
  go_loopw [7, 8, 14] (fun b l i wr => ∃ k : Nat, k ≤ 16 ∧ i = .int .i64 k ∧ b = .int .i64 (Pk.nst t p x 256 k).1 ∧ l = .int .i64 (Pk.nst t p x 256 k).2 ∧ wr = w) (fun _ _ i _ => 16 - (intOf i).toNat)
  case atStart => exact ⟨0, by omega, rfl, rfl, rfl, rfl⟩
  case round =>
    obtain ⟨k, hk, rfl, rfl, rfl, rfl⟩ := hrel
    have bnd := Pk.nst_bound (t := t) (p := p) (L := 256) (by omega) (by omega) x1 x2 k
    have bnd1 := Pk.nst_lt t p x 256 k
    by_cases hlt : k < 16
    · obtain ⟨bd, od, hp1, hc1⟩ := HD.out.at (i := k) (by rw [HT.out]; exact hlt)
      obtain ⟨y, hy⟩ : ∃ y, t.getD k 0 = y := ⟨_, rfl⟩
      have hyb := getD_in (P := fun x => -1048576 ≤ x ∧ x ≤ 1048576) HR.out (show k < t.length by rw [HT.out]; exact hlt)
      rw [hy] at hc1 hyb
      have C := Lib.hid (p_wrap (p + y) 8 wr (by omega) (by omega) (by omega) (by omega))
      rw [show hlf 8 = 128 by decide] at C
      have q0 := Pk.wrp_lo (h := 128) (x := p + y) (by omega)
      have q1 := Pk.wrp_hi (h := 128) (x := p + y) (by omega)
      have hof : Pk.off t p x k = max (Pk.wrp 128 (p + y) - x) (-(Pk.wrp 128 (p + y) - x)) := by unfold Pk.off; rw [hy]
      obtain ⟨q, hq⟩ : ∃ q, Pk.wrp 128 (p + y) = q := ⟨_, rfl⟩
      rw [hq] at C q0 q1 hof
      obtain ⟨d, hde⟩ : ∃ d, q - x = d := ⟨_, rfl⟩
      have hqd : q = d + x := by omega
      subst hqd
      rw [hde] at hof
      have HOF := Lib.hid hof
      obtain ⟨b0, hb0⟩ : ∃ b0, (Pk.nst t p x 256 k).1 = b0 := ⟨_, rfl⟩
      obtain ⟨L0, hL0⟩ : ∃ L0, (Pk.nst t p x 256 k).2 = L0 := ⟨_, rfl⟩
      have HB0 := Lib.hid hb0
      have HL0 := Lib.hid hL0
      rw [hb0] at bnd1
      rw [hL0] at bnd
      rw [hb0, hL0]
      clear hy hq hof hb0 hL0
      subst hp1
      rcases Int.lt_trichotomy d 0 with hd | hd | hd
      · have ho : Pk.off t p x k = -d := by have := HOF.out; omega
        by_cases hc : -d < L0
        · have HY := Lib.hid (show (Pk.nst t p x 256 (k + 1)).1 = k ∧ (Pk.nst t p x 256 (k + 1)).2 = -d by
            have := Pk.nst_yes (t := t) (p := p) (x := x) (L := 256) (j := k) (by rw [ho, HL0.out]; exact hc)
            rw [this, ho]
            exact ⟨rfl, rfl⟩)
          clear ho
          go_wp2_with (first | (go_at_call 43; ((with_reducible refine C.out.mono ?_); rintro x' w' ⟨rfl, rfl⟩)))
          go_roundw
          case rel => exact ⟨k + 1, by omega, by go_num, by rw [HY.out.1], by rw [HY.out.2], trivial⟩
          case measure => simp [intOf]; omega
        · have HY := Lib.hid (show (Pk.nst t p x 256 (k + 1)).1 = b0 ∧ (Pk.nst t p x 256 (k + 1)).2 = L0 by
            have := Pk.nst_no (t := t) (p := p) (x := x) (L := 256) (j := k) (by rw [ho, HL0.out]; exact hc)
            rw [this]
            exact ⟨HB0.out, HL0.out⟩)
          clear ho
          go_wp2_with (first | (go_at_call 43; ((with_reducible refine C.out.mono ?_); rintro x' w' ⟨rfl, rfl⟩)))
          go_roundw
          case rel => exact ⟨k + 1, by omega, by go_num, by rw [HY.out.1], by rw [HY.out.2], trivial⟩
          case measure => simp [intOf]; omega
      · subst hd
        have ho : Pk.off t p x k = 0 := by have := HOF.out; omega
        by_cases hc : (0 : Int) < L0
        · have HY := Lib.hid (show (Pk.nst t p x 256 (k + 1)).1 = k ∧ (Pk.nst t p x 256 (k + 1)).2 = (0 : Int) by
            have := Pk.nst_yes (t := t) (p := p) (x := x) (L := 256) (j := k) (by rw [ho, HL0.out]; exact hc)
            rw [this, ho]
            exact ⟨rfl, rfl⟩)
          clear ho
          go_wp2_with (first | (go_at_call 43; ((with_reducible refine C.out.mono ?_); rintro x' w' ⟨rfl, rfl⟩)))
          go_roundw
          case rel => exact ⟨k + 1, by omega, by go_num, by rw [HY.out.1], by rw [HY.out.2], trivial⟩
          case measure => simp [intOf]; omega
        · have HY := Lib.hid (show (Pk.nst t p x 256 (k + 1)).1 = b0 ∧ (Pk.nst t p x 256 (k + 1)).2 = L0 by
            have := Pk.nst_no (t := t) (p := p) (x := x) (L := 256) (j := k) (by rw [ho, HL0.out]; exact hc)
            rw [this]
            exact ⟨HB0.out, HL0.out⟩)
          clear ho
          go_wp2_with (first | (go_at_call 43; ((with_reducible refine C.out.mono ?_); rintro x' w' ⟨rfl, rfl⟩)))
          go_roundw
          case rel => exact ⟨k + 1, by omega, by go_num, by rw [HY.out.1], by rw [HY.out.2], trivial⟩
          case measure => simp [intOf]; omega
      · have ho : Pk.off t p x k = d := by have := HOF.out; omega
        by_cases hc : d < L0
        · have HY := Lib.hid (show (Pk.nst t p x 256 (k + 1)).1 = k ∧ (Pk.nst t p x 256 (k + 1)).2 = d by
            have := Pk.nst_yes (t := t) (p := p) (x := x) (L := 256) (j := k) (by rw [ho, HL0.out]; exact hc)
            rw [this, ho]
            exact ⟨rfl, rfl⟩)
          clear ho
          go_wp2_with (first | (go_at_call 43; ((with_reducible refine C.out.mono ?_); rintro x' w' ⟨rfl, rfl⟩)))
          go_roundw
          case rel => exact ⟨k + 1, by omega, by go_num, by rw [HY.out.1], by rw [HY.out.2], trivial⟩
          case measure => simp [intOf]; omega
        · have HY := Lib.hid (show (Pk.nst t p x 256 (k + 1)).1 = b0 ∧ (Pk.nst t p x 256 (k + 1)).2 = L0 by
            have := Pk.nst_no (t := t) (p := p) (x := x) (L := 256) (j := k) (by rw [ho, HL0.out]; exact hc)
            rw [this]
            exact ⟨HB0.out, HL0.out⟩)
          clear ho
          go_wp2_with (first | (go_at_call 43; ((with_reducible refine C.out.mono ?_); rintro x' w' ⟨rfl, rfl⟩)))
          go_roundw
          case rel => exact ⟨k + 1, by omega, by go_num, by rw [HY.out.1], by rw [HY.out.2], trivial⟩
          case measure => simp [intOf]; omega
    · have e : k = 16 := by omega
      subst e
      go_wp2
      go_ret
      exact ⟨rfl, rfl⟩
end Go.Proofs.Ytfljgdehbogimaa

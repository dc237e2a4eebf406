/-
  The contract of package inst's validPoints: for any points and bounds, what the call returns; nothing that was there is changed.
-/
import Derived.Test.YtcchfahdgmcpbaaPNum
namespace Go.Proofs.Ytcchfahdgmcpbaa
open Go.RowKit

theorem mos_le (k : Nat) : In.mos k ≤ 9999 := by unfold In.mos; split <;> omega
set_option maxHeartbeats 1600000 in
theorem p_points (ps : List (Int × Int)) (p : Option Addr) (cap : Nat) (lo hi : Int) (w : World) (hd : PtsAt w p ps) (hl : (ps.length : Int) ≤ 16) :
    Calls Try.prog 28 #[.slice p ps.length cap, .int .i64 lo, .int .i64 hi] w fun x w' => x = .returned (.bool (In.pts ps lo hi)) ∧ Below w.heap.size w w' := by
  have HD := Lib.hid hd
  clear hd
  go_enter Try.func28, Try.ntmps28
  go_wp2
  go_loopw [7, 8, 13] (fun a b i wr => ∃ k : Nat, k ≤ ps.length ∧ i = .int .i64 k ∧ a = .int .i64 (In.lea ps k) ∧ b = .int .i64 (In.mos k) ∧ 0 ≤ In.lea ps k ∧ Hid (∀ j, j < k → In.pok ps lo hi j = true) ∧ Hid (Below w.heap.size w wr)) (fun _ _ i _ => ps.length - (intOf i).toNat)
  case atStart => exact ⟨0, by omega, rfl, rfl, rfl, Int.le_refl _, fun _ h => by omega, Below.refl _ _⟩
  case round =>
    obtain ⟨k, hk, rfl, rfl, rfl, hL0, HN, HB⟩ := hrel
    by_cases hlt : k < ps.length
    · obtain ⟨b, off, hp, hc1, hc2⟩ := (HD.out.below HB.out).at hlt
      subst hp
      have HP := Lib.hid (In.pok_wth ps lo hi k)
      have hle : In.lea ps (k + 1) = In.tk ps k + 1 := by simp [In.lea]
      have hmo : In.mos (k + 1) = 9999 := by simp [In.mos]
      have hm := mos_le k
      obtain ⟨x, hx⟩ : ∃ x, In.tk ps k = x := ⟨_, rfl⟩
      obtain ⟨y, hy⟩ : ∃ y, In.vl ps k = y := ⟨_, rfl⟩
      obtain ⟨L, hL⟩ : ∃ L, In.lea ps k = L := ⟨_, rfl⟩
      obtain ⟨M, hM⟩ : ∃ M, In.mos k = M := ⟨_, rfl⟩
      rw [hx] at hc1 HP hle
      rw [hy] at hc2 HP
      rw [hL, hM] at HP
      rw [hM] at hm
      rw [hL] at hL0
      rw [hL, hM]
      clear hx hy hL hM
      have HLE := Lib.hid hle
      have HMO := Lib.hid hmo
      clear hle hmo
      cases hw1 : In.wth x L M
      · have C1 := Lib.hid (fun w => p_within_v x L M w hw1)
        have HE := Lib.hid (show In.pts ps lo hi = false from In.pts_bad k hlt (by rw [HP.out, hw1]; rfl))
        clear hw1
        go_wp2_with (first | (go_at_call 40; ((with_reducible refine (C1.out _).mono ?_); rintro x' w' ⟨rfl, rfl⟩)))
        go_ret
        exact ⟨ret_bool HE.out.symm, stepB HB.out (below_box wr _)⟩
      · cases hw2 : In.wth y lo hi
        · have C1 := Lib.hid (fun w => p_within_v x L M w hw1)
          have C2 := Lib.hid (fun w => p_within_v y lo hi w hw2)
          have HE := Lib.hid (show In.pts ps lo hi = false from In.pts_bad k hlt (by rw [HP.out, hw1, hw2]; rfl))
          clear hw1 hw2
          go_wp2_with (first | (go_at_call 40; ((with_reducible refine (C1.out _).mono ?_); rintro x' w' ⟨rfl, rfl⟩)) | (go_at_call 40; ((with_reducible refine (C2.out _).mono ?_); rintro x' w' ⟨rfl, rfl⟩)))
          go_ret
          exact ⟨ret_bool HE.out.symm, stepB HB.out (below_box wr _)⟩
        · have C1 := Lib.hid (fun w => p_within_v x L M w hw1)
          have C2 := Lib.hid (fun w => p_within_v y lo hi w hw2)
          have HE := Lib.hid (show In.pok ps lo hi k = true by rw [HP.out, hw1, hw2]; rfl)
          have hx := of_decide_eq_true hw1
          clear hw1 hw2
          go_wp2_with (first | (go_at_call 40; ((with_reducible refine (C1.out _).mono ?_); rintro x' w' ⟨rfl, rfl⟩)) | (go_at_call 40; ((with_reducible refine (C2.out _).mono ?_); rintro x' w' ⟨rfl, rfl⟩)))
          go_roundw
          case rel => exact ⟨k + 1, by omega, by go_num, by rw [HLE.out], by rw [HMO.out], by rw [HLE.out]; omega, fun j hj => by
            by_cases e : j = k
            · subst e; exact HE.out
            · exact HN.out j (by omega), stepB HB.out (below_box wr _)⟩
          case measure => simp [intOf]; omega
    · have HE := Lib.hid (show In.pts ps lo hi = true from In.pts_mk fun j hj => HN.out j (by omega))
      go_wp2
      go_ret
      exact ⟨ret_bool HE.out.symm, HB.out⟩
end Go.Proofs.Ytcchfahdgmcpbaa

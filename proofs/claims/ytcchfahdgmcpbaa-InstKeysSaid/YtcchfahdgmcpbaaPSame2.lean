/-
  The contracts of the law package's same at keys and at points over the same pairs.
-/
import Derived.Test.YtcchfahdgmcpbaaRSetK
import Derived.Deep.DeepCutAuto
namespace Go.Proofs.Ytcchfahdgmcpbaa
open Go.RowKit

set_option maxHeartbeats 1600000 in
theorem p_sameK (l : List (Int × Int)) (pa pb : Option Addr) (ca cb : Nat) (w : World) (ha : PtsAt w pa l) (hb : PtsAt w pb l) (hl : (l.length : Int) ≤ 1000) :
    Calls Try.prog 27 #[.slice pa l.length ca, .slice pb l.length cb] w fun x w' => x = .returned (.bool true) ∧ Below w.heap.size w w' := by
  have HA := Lib.hid ha
  have HB := Lib.hid hb
  obtain ⟨n, hn⟩ : ∃ n, l.length = n := ⟨_, rfl⟩
  have HN := Lib.hid hn
  rw [hn] at hl ⊢
  clear ha hb hn
  go_enter Try.func27, Try.ntmps27
  go_wp2
  go_loopw [13] (fun i wr => ∃ k : Nat, k ≤ n ∧ i = .int .i64 k ∧ Hid (Below w.heap.size w wr)) (fun i _ => n - (intOf i).toNat)
  case atStart => exact ⟨0, by omega, rfl, Below.refl _ _⟩
  case round =>
    obtain ⟨k, hk, rfl, HW⟩ := hrel
    by_cases hlt : k < n
    · obtain ⟨b1, o1, hp1, hc1, hc2⟩ := (HA.out.below HW.out).at (show k < l.length by rw [HN.out]; exact hlt)
      obtain ⟨b2, o2, hp2, hd1, hd2⟩ := (HB.out.below HW.out).at (show k < l.length by rw [HN.out]; exact hlt)
      obtain ⟨x, hx⟩ : ∃ v, In.tk l k = v := ⟨_, rfl⟩
      obtain ⟨y, hy⟩ : ∃ v, In.vl l k = v := ⟨_, rfl⟩
      rw [hx] at hc1 hd1
      rw [hy] at hc2 hd2
      clear hx hy
      subst hp1 hp2
      have hki : (k : Int) < (n : Int) := by omega
      go_upto_region 6 with fail
      go_quiet (fail)
      go_wp2
      go_roundw
      case rel => exact ⟨k + 1, by omega, by go_num, below_drewN' HW.out _⟩
      case measure => simp [intOf]; omega
    · go_wp2
      go_ret
      exact ⟨rfl, HW.out⟩
set_option maxHeartbeats 1600000 in
theorem p_sameP (l : List (Int × Int)) (pa pb : Option Addr) (ca cb : Nat) (w : World) (ha : PtsAt w pa l) (hb : PtsAt w pb l) (hl : (l.length : Int) ≤ 1000) :
    Calls Try.prog 52 #[.slice pa l.length ca, .slice pb l.length cb] w fun x w' => x = .returned (.bool true) ∧ Below w.heap.size w w' := by
  have HA := Lib.hid ha
  have HB := Lib.hid hb
  obtain ⟨n, hn⟩ : ∃ n, l.length = n := ⟨_, rfl⟩
  have HN := Lib.hid hn
  rw [hn] at hl ⊢
  clear ha hb hn
  go_enter Try.func52, Try.ntmps52
  go_wp2
  go_loopw [13] (fun i wr => ∃ k : Nat, k ≤ n ∧ i = .int .i64 k ∧ Hid (Below w.heap.size w wr)) (fun i _ => n - (intOf i).toNat)
  case atStart => exact ⟨0, by omega, rfl, Below.refl _ _⟩
  case round =>
    obtain ⟨k, hk, rfl, HW⟩ := hrel
    by_cases hlt : k < n
    · obtain ⟨b1, o1, hp1, hc1, hc2⟩ := (HA.out.below HW.out).at (show k < l.length by rw [HN.out]; exact hlt)
      obtain ⟨b2, o2, hp2, hd1, hd2⟩ := (HB.out.below HW.out).at (show k < l.length by rw [HN.out]; exact hlt)
      obtain ⟨x, hx⟩ : ∃ v, In.tk l k = v := ⟨_, rfl⟩
      obtain ⟨y, hy⟩ : ∃ v, In.vl l k = v := ⟨_, rfl⟩
      rw [hx] at hc1 hd1
      rw [hy] at hc2 hd2
      clear hx hy
      subst hp1 hp2
      have hki : (k : Int) < (n : Int) := by omega
      go_upto_region 6 with fail
      go_quiet (fail)
      go_wp2
      go_roundw
      case rel => exact ⟨k + 1, by omega, by go_num, below_drewN' HW.out _⟩
      case measure => simp [intOf]; omega
    · go_wp2
      go_ret
      exact ⟨rfl, HW.out⟩
end Go.Proofs.Ytcchfahdgmcpbaa

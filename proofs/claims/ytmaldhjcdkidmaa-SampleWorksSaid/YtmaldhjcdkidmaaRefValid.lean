/-
  The contract of the reference's function Valid: for any sample, what the call returns; nothing that was there is changed.
-/
import Derived.Test.YtmaldhjcdkidmaaRefVal
import Derived.Deep.QuietTactic
import Derived.BigQuiet
import Derived.Deep.Draws
namespace Go.Proofs.Ytmaldhjcdkidmaa
open Go.RowKit

theorem rvalid_named (s : Sm.Smp) (p : Option Addr) (cap : Nat) (w : World) (hm : s.name.size ≤ maxLen) (hn : Sm.nmd s.name = false) :
    Calls Try.prog 14 #[SV s p cap] w fun x w' => x = .returned (.bool (Sm.vld s)) ∧ Below w.heap.size w w' := by
  have HB := Lib.hid (headOk_named hn)
  unfold SV
  go_enter Try.func14, Try.ntmps14
  go_wp2_with (first | (go_at_call 44; ((with_reducible refine (rnamed _ _ hm).mono ?_); rintro x w' ⟨rfl, rfl⟩)))
  go_ret
  exact ⟨ret_bool HB.out.symm, below_box _ _⟩
theorem rvalid_bad0 (s : Sm.Smp) (p : Option Addr) (cap : Nat) (w : World) (hm : s.name.size ≤ maxLen) (hn : Sm.nmd s.name = true)  (bad : (s.bits ≠ 8 ∧ s.bits ≠ 16)) :
    Calls Try.prog 14 #[SV s p cap] w fun x w' => x = .returned (.bool (Sm.vld s)) ∧ Below w.heap.size w w' := by
  have HB := Lib.hid (headOk_num (s := s) (by omega))
  unfold SV
  obtain ⟨a1, a2⟩ := bad
  go_enter Try.func14, Try.ntmps14
  go_wp2_with (first | (go_at_call 44; ((with_reducible refine (rnamed _ _ hm).mono ?_); rintro x w' ⟨rfl, rfl⟩)))
  go_ret
  exact ⟨ret_bool HB.out.symm, below_box _ _⟩
theorem rvalid_bad1 (s : Sm.Smp) (p : Option Addr) (cap : Nat) (w : World) (hm : s.name.size ≤ maxLen) (hn : Sm.nmd s.name = true) (h2 : s.bits = 8 ∨ s.bits = 16) (bad : 4096 < (s.dat.length : Int)) :
    Calls Try.prog 14 #[SV s p cap] w fun x w' => x = .returned (.bool (Sm.vld s)) ∧ Below w.heap.size w w' := by
  have HB := Lib.hid (headOk_num (s := s) (by omega))
  unfold SV
  rcases h2 with h2 | h2
  all_goals
    go_enter Try.func14, Try.ntmps14
    go_wp2_with (first | (go_at_call 44; ((with_reducible refine (rnamed _ _ hm).mono ?_); rintro x w' ⟨rfl, rfl⟩)))
    go_ret
    exact ⟨ret_bool HB.out.symm, below_box _ _⟩
theorem rvalid_bad2 (s : Sm.Smp) (p : Option Addr) (cap : Nat) (w : World) (hm : s.name.size ≤ maxLen) (hn : Sm.nmd s.name = true) (h2 : s.bits = 8 ∨ s.bits = 16) (h3 : (s.dat.length : Int) ≤ 4096) (bad : s.rate < 1) :
    Calls Try.prog 14 #[SV s p cap] w fun x w' => x = .returned (.bool (Sm.vld s)) ∧ Below w.heap.size w w' := by
  have HB := Lib.hid (headOk_num (s := s) (by omega))
  unfold SV
  rcases h2 with h2 | h2
  all_goals
    go_enter Try.func14, Try.ntmps14
    go_wp2_with (first | (go_at_call 44; ((with_reducible refine (rnamed _ _ hm).mono ?_); rintro x w' ⟨rfl, rfl⟩)))
    go_ret
    exact ⟨ret_bool HB.out.symm, below_box _ _⟩
theorem rvalid_bad3 (s : Sm.Smp) (p : Option Addr) (cap : Nat) (w : World) (hm : s.name.size ≤ maxLen) (hn : Sm.nmd s.name = true) (h2 : s.bits = 8 ∨ s.bits = 16) (h3 : (s.dat.length : Int) ≤ 4096) (h4 : 1 ≤ s.rate) (bad : 65535 < s.rate) :
    Calls Try.prog 14 #[SV s p cap] w fun x w' => x = .returned (.bool (Sm.vld s)) ∧ Below w.heap.size w w' := by
  have HB := Lib.hid (headOk_num (s := s) (by omega))
  unfold SV
  rcases h2 with h2 | h2
  all_goals
    go_enter Try.func14, Try.ntmps14
    go_wp2_with (first | (go_at_call 44; ((with_reducible refine (rnamed _ _ hm).mono ?_); rintro x w' ⟨rfl, rfl⟩)))
    go_ret
    exact ⟨ret_bool HB.out.symm, below_box _ _⟩
theorem rvalid_bad4 (s : Sm.Smp) (p : Option Addr) (cap : Nat) (w : World) (hm : s.name.size ≤ maxLen) (hn : Sm.nmd s.name = true) (h2 : s.bits = 8 ∨ s.bits = 16) (h3 : (s.dat.length : Int) ≤ 4096) (h4 : 1 ≤ s.rate) (h5 : s.rate ≤ 65535) (bad : s.vol < 0) :
    Calls Try.prog 14 #[SV s p cap] w fun x w' => x = .returned (.bool (Sm.vld s)) ∧ Below w.heap.size w w' := by
  have HB := Lib.hid (headOk_num (s := s) (by omega))
  unfold SV
  rcases h2 with h2 | h2
  all_goals
    go_enter Try.func14, Try.ntmps14
    go_wp2_with (first | (go_at_call 44; ((with_reducible refine (rnamed _ _ hm).mono ?_); rintro x w' ⟨rfl, rfl⟩)))
    go_ret
    exact ⟨ret_bool HB.out.symm, below_box _ _⟩
theorem rvalid_bad5 (s : Sm.Smp) (p : Option Addr) (cap : Nat) (w : World) (hm : s.name.size ≤ maxLen) (hn : Sm.nmd s.name = true) (h2 : s.bits = 8 ∨ s.bits = 16) (h3 : (s.dat.length : Int) ≤ 4096) (h4 : 1 ≤ s.rate) (h5 : s.rate ≤ 65535) (h6 : 0 ≤ s.vol) (bad : 64 < s.vol) :
    Calls Try.prog 14 #[SV s p cap] w fun x w' => x = .returned (.bool (Sm.vld s)) ∧ Below w.heap.size w w' := by
  have HB := Lib.hid (headOk_num (s := s) (by omega))
  unfold SV
  rcases h2 with h2 | h2
  all_goals
    go_enter Try.func14, Try.ntmps14
    go_wp2_with (first | (go_at_call 44; ((with_reducible refine (rnamed _ _ hm).mono ?_); rintro x w' ⟨rfl, rfl⟩)))
    go_ret
    exact ⟨ret_bool HB.out.symm, below_box _ _⟩
theorem rvalid_bad6 (s : Sm.Smp) (p : Option Addr) (cap : Nat) (w : World) (hm : s.name.size ≤ maxLen) (hn : Sm.nmd s.name = true) (h2 : s.bits = 8 ∨ s.bits = 16) (h3 : (s.dat.length : Int) ≤ 4096) (h4 : 1 ≤ s.rate) (h5 : s.rate ≤ 65535) (h6 : 0 ≤ s.vol) (h7 : s.vol ≤ 64) (bad : s.pan < -1) :
    Calls Try.prog 14 #[SV s p cap] w fun x w' => x = .returned (.bool (Sm.vld s)) ∧ Below w.heap.size w w' := by
  have HB := Lib.hid (headOk_num (s := s) (by omega))
  unfold SV
  rcases h2 with h2 | h2
  all_goals
    go_enter Try.func14, Try.ntmps14
    go_wp2_with (first | (go_at_call 44; ((with_reducible refine (rnamed _ _ hm).mono ?_); rintro x w' ⟨rfl, rfl⟩)))
    go_ret
    exact ⟨ret_bool HB.out.symm, below_box _ _⟩
theorem rvalid_bad7 (s : Sm.Smp) (p : Option Addr) (cap : Nat) (w : World) (hm : s.name.size ≤ maxLen) (hn : Sm.nmd s.name = true) (h2 : s.bits = 8 ∨ s.bits = 16) (h3 : (s.dat.length : Int) ≤ 4096) (h4 : 1 ≤ s.rate) (h5 : s.rate ≤ 65535) (h6 : 0 ≤ s.vol) (h7 : s.vol ≤ 64) (h8 : -1 ≤ s.pan) (bad : 256 < s.pan) :
    Calls Try.prog 14 #[SV s p cap] w fun x w' => x = .returned (.bool (Sm.vld s)) ∧ Below w.heap.size w w' := by
  have HB := Lib.hid (headOk_num (s := s) (by omega))
  unfold SV
  rcases h2 with h2 | h2
  all_goals
    go_enter Try.func14, Try.ntmps14
    go_wp2_with (first | (go_at_call 44; ((with_reducible refine (rnamed _ _ hm).mono ?_); rintro x w' ⟨rfl, rfl⟩)))
    go_ret
    exact ⟨ret_bool HB.out.symm, below_box _ _⟩
set_option maxHeartbeats 400000 in
theorem rvalid_bad8 (s : Sm.Smp) (p : Option Addr) (cap : Nat) (w : World) (hm : s.name.size ≤ maxLen) (hn : Sm.nmd s.name = true) (h2 : s.bits = 8 ∨ s.bits = 16) (h3 : (s.dat.length : Int) ≤ 4096) (h4 : 1 ≤ s.rate) (h5 : s.rate ≤ 65535) (h6 : 0 ≤ s.vol) (h7 : s.vol ≤ 64) (h8 : -1 ≤ s.pan) (h9 : s.pan ≤ 256) (bad : s.fine < -64) :
    Calls Try.prog 14 #[SV s p cap] w fun x w' => x = .returned (.bool (Sm.vld s)) ∧ Below w.heap.size w w' := by
  have HB := Lib.hid (headOk_num (s := s) (by omega))
  unfold SV
  rcases h2 with h2 | h2
  all_goals
    go_enter Try.func14, Try.ntmps14
    go_wp2_with (first | (go_at_call 44; ((with_reducible refine (rnamed _ _ hm).mono ?_); rintro x w' ⟨rfl, rfl⟩)))
    go_ret
    exact ⟨ret_bool HB.out.symm, below_box _ _⟩
set_option maxHeartbeats 400000 in
theorem rvalid_bad9 (s : Sm.Smp) (p : Option Addr) (cap : Nat) (w : World) (hm : s.name.size ≤ maxLen) (hn : Sm.nmd s.name = true) (h2 : s.bits = 8 ∨ s.bits = 16) (h3 : (s.dat.length : Int) ≤ 4096) (h4 : 1 ≤ s.rate) (h5 : s.rate ≤ 65535) (h6 : 0 ≤ s.vol) (h7 : s.vol ≤ 64) (h8 : -1 ≤ s.pan) (h9 : s.pan ≤ 256) (h10 : -64 ≤ s.fine) (bad : 63 < s.fine) :
    Calls Try.prog 14 #[SV s p cap] w fun x w' => x = .returned (.bool (Sm.vld s)) ∧ Below w.heap.size w w' := by
  have HB := Lib.hid (headOk_num (s := s) (by omega))
  unfold SV
  rcases h2 with h2 | h2
  all_goals
    go_enter Try.func14, Try.ntmps14
    go_wp2_with (first | (go_at_call 44; ((with_reducible refine (rnamed _ _ hm).mono ?_); rintro x w' ⟨rfl, rfl⟩)))
    go_ret
    exact ⟨ret_bool HB.out.symm, below_box _ _⟩
end Go.Proofs.Ytmaldhjcdkidmaa

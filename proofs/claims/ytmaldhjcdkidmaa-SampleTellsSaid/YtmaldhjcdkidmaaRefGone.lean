/-
  Contracts of the reference's ring and gone: the loop that applies, and where a cursor stands after a step; nothing that was there is changed.
-/
import Derived.Deep.RegionWith
import Derived.Test.YtmaldhjcdkidmaaRefCur
namespace Go.Proofs.Ytmaldhjcdkidmaa
open Go.RowKit

theorem rring (s : Sm.Smp) (p : Option Addr) (cap : Nat) (h : Bool) (w : World) :
    Calls Try.prog 36 #[SV s p cap, .bool h] w fun x w' => x = .returned (.tuple #[.int .i64 (Sm.rk s h), .int .i64 (Sm.rs s h), .int .i64 (Sm.re s h)]) ∧ Below w.heap.size w w' := by
  by_cases hh : h = true
  · subst hh
    by_cases hs : s.sus = 0
    · have H1 := Lib.hid (show Sm.rk s true = s.loop ∧ Sm.rs s true = s.start ∧ Sm.re s true = s.fin by simp [Sm.rk, Sm.rs, Sm.re, hs])
      have t : (s.sus != 0) = false := by simp [hs]
      clear hs
      unfold SV
      go_enter Try.func36, Try.ntmps36
      go_wp2
      go_quiet (fail)
      go_wp2
      go_ret3
      exact ⟨ret_three H1.out.1.symm H1.out.2.1.symm H1.out.2.2.symm, below_drewN' (below_box _ _) _⟩
    · have H1 := Lib.hid (show Sm.rk s true = s.sus ∧ Sm.rs s true = s.sstart ∧ Sm.re s true = s.sfin by simp [Sm.rk, Sm.rs, Sm.re, hs])
      have t : (s.sus != 0) = true := by simp [hs]
      clear hs
      unfold SV
      go_enter Try.func36, Try.ntmps36
      go_wp2
      go_quiet (fail)
      go_wp2
      go_ret3
      exact ⟨ret_three H1.out.1.symm H1.out.2.1.symm H1.out.2.2.symm, below_drewN' (below_box _ _) _⟩
  · obtain rfl : h = false := by simpa using hh
    have H1 := Lib.hid (show Sm.rk s false = s.loop ∧ Sm.rs s false = s.start ∧ Sm.re s false = s.fin by simp [Sm.rk, Sm.rs, Sm.re])
    unfold SV
    go_enter Try.func36, Try.ntmps36
    go_wp2
    go_quiet (fail)
    go_wp2
    go_ret3
    exact ⟨ret_three H1.out.1.symm H1.out.2.1.symm H1.out.2.2.symm, below_drewN' (below_box _ _) _⟩

theorem rring' (s : Sm.Smp) (p : Option Addr) (cap : Nat) (h : Bool) (w : World) {k s0 e0 : Int} (hk : Hid (Sm.rk s h = k ∧ Sm.rs s h = s0 ∧ Sm.re s h = e0)) :
    Calls Try.prog 36 #[.agg #[.string s.name, .slice p s.dat.length cap, .int .i64 s.bits, .int .i64 s.rate, .int .i64 s.vol, .int .i64 s.pan, .int .i64 s.fine, .int .i64 s.loop, .int .i64 s.start, .int .i64 s.fin, .int .i64 s.sus, .int .i64 s.sstart, .int .i64 s.sfin], .bool h] w fun x w' => x = .returned (.tuple #[.int .i64 k, .int .i64 s0, .int .i64 e0]) ∧ Below w.heap.size w w' := by
  have := rring s p cap h w
  rwa [hk.out.1, hk.out.2.1, hk.out.2.2] at this
end Go.Proofs.Ytmaldhjcdkidmaa

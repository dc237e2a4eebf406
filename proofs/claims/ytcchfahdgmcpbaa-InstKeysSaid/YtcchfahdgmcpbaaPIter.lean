/-
  The iterator of package inst's ticks: each round gets its number and its tick; it returns when a round says 'no more'.
-/
import Derived.Test.YtcchfahdgmcpbaaPTick
import Derived.Test.YtcchfahdgmcpbaaPWalk
import Derived.Test.YtcchfahdgmcpbaaPRng
import Derived.RangeFuncNested
import Derived.Shelf.Abstract
import Derived.Shelf.RegionOpen
import Derived.OwnWalkIn
import Derived.TacticsInMore
import Derived.LoopNIn
import Derived.LoopIn
namespace Go.Proofs.Ytcchfahdgmcpbaa
open Go.RowKit

theorem grown_of_below {w w' : World} (h : Below w.heap.size w w') : w.grownBy w' none := ⟨h.os, h.tape, h.output, h.size, fun k hk _ => h.block k hk⟩
/-- What the iterator of an envelope has captured. -/
structure Cap (e : In.Env) (r : Int) (rb hb fb : Nat) (W : World) : Prop where
  rel : W.cell? ⟨rb, 0, none⟩ = some (.int .i64 r)
  held : Wb W hb (In.cT e true) (In.cF e true) (In.cE e true) (In.lst e)
  free : Wb W fb (In.cT e false) (In.cF e false) (In.cE e false) (In.lst e)
/-- The two values of the k-th round: its number and its tick. -/
def encT (e : In.Env) (r : Int) (k : Nat) : Array Value := #[.int .i64 k, .int .i64 (In.tks e r k)]
set_option maxHeartbeats 1600000 in
theorem p_iter (e : In.Env) (r : Int) (rb hb fb N : Nat) (hN : N ≤ 4000) (hv : In.lv e = true) (I : Nat → World → Prop) (hI : ∀ k W, I k W → k ≤ N ∧ Cap e r rb hb fb W) :
    NeverEnds Try.prog 55 #[.pointer (some ⟨rb, 0, none⟩), .pointer (some ⟨hb, 0, none⟩), .pointer (some ⟨fb, 0, none⟩)] (encT e r) I := by
  intro l J Jx W hJI hJa hY h0
  have HR := Lib.hid (fun h => In.rnd_of (e := e) hv h)
  have HA := Lib.hid (fun h t w => p_after (In.cT e h) (In.cF e h) (In.cE e h) (In.lst e) t w (HR.out h))
  refine callsIn_of_wp Try.func55 rfl trivial ?_ rfl
  simp only [Try.ntmps55, List.size_toArray, List.length_cons, List.length_nil, Nat.reduceAdd, Nat.reduceSub, Array.replicate_succ, Array.replicate_zero, List.push_toArray, List.append_toArray, List.nil_append, List.cons_append]
  gi_wp2
  gi_loopw [5, 6] (fun tv sv wr => ∃ k : Nat, k ≤ N ∧ sv = .int .i64 k ∧ tv = .int .i64 (In.tks e r k) ∧ J k wr) (fun _ sv _ => N + 1 - (intOf sv).toNat)
  case atStart => exact ⟨0, Nat.zero_le _, rfl, rfl, h0⟩
  case round =>
    obtain ⟨k, hk, rfl, rfl, hJk⟩ := hrel
    obtain ⟨fn, tmps, assign, body, hy, hR⟩ := hY k wr hJk
    unfold encT at hy
    gi_wp2
    refine hR.mono ?_
    rintro e2 W3 (⟨rfl, hJ3⟩ | ⟨rfl, hJx3⟩)
    · obtain ⟨hk3, hC3⟩ := hI _ _ (hJI _ _ hJ3)
      have hrel := hC3.rel
      by_cases hlt : (k : Int) < r
      · have HN := Lib.hid (show In.tks e r (k + 1) = In.aft (In.cT e true) (In.cF e true) (In.cE e true) (In.lst e) (In.tks e r k) by
          rw [In.tks, decide_eq_true hlt]; rfl)
        obtain ⟨⟨c0, c1, c2, c3⟩, _⟩ := hC3.held
        gi_wp2_with (refine ⟨trivial, ?_⟩; gi_at_call 36; refine (callsIn_wide.2 (HA.out true _ _)).mono ?_; rintro x' w4 ⟨rfl, hb4⟩)
        go_roundw
        case rel => exact ⟨k + 1, hk3, by go_num, by rw [HN.out], hJa _ _ _ hJ3 (grown_of_below hb4)⟩
        case measure => simp [intOf]; omega
      · have HN := Lib.hid (show In.tks e r (k + 1) = In.aft (In.cT e false) (In.cF e false) (In.cE e false) (In.lst e) (In.tks e r k) by
          rw [In.tks, decide_eq_false hlt]; rfl)
        have hlt' : r ≤ (k : Int) := by omega
        clear hlt
        obtain ⟨⟨c0, c1, c2, c3⟩, _⟩ := hC3.free
        gi_wp2_with (refine ⟨trivial, ?_⟩; gi_at_call 36; refine (callsIn_wide.2 (HA.out false _ _)).mono ?_; rintro x' w4 ⟨rfl, hb4⟩)
        go_roundw
        case rel => exact ⟨k + 1, hk3, by go_num, by rw [HN.out], hJa _ _ _ hJ3 (grown_of_below hb4)⟩
        case measure => simp [intOf]; omega
    · gi_wp2
      go_end0
      exact ⟨⟨_, rfl⟩, hJx3⟩
end Go.Proofs.Ytcchfahdgmcpbaa

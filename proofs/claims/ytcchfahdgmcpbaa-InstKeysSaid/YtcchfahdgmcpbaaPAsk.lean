/-
  What the laws on envelopes are asked, in memory.
-/
import Derived.Test.YtcchfahdgmcpbaaBase
import Derived.Test.YtcchfahdgmcpbaaMathB
namespace Go.Proofs.Ytcchfahdgmcpbaa
open Go.RowKit

/-- What a law on envelopes is asked, as a value. -/
def AV (x : In.Ask) (p : Option Addr) (cap : Nat) : Value := .agg #[.bool x.e.on, .slice p x.e.pts.length cap, .bool x.e.sus, .int .i64 x.e.ss, .int .i64 x.e.se, .bool x.e.lp, .int .i64 x.e.ls, .int .i64 x.e.le, .int .i64 x.lo, .int .i64 x.hi, .int .i64 x.t, .int .i64 x.n, .int .i64 x.r, .int .i64 x.o, .bool x.h]
/-- Its block: fifteen cells. -/
def AB (w : World) (b : Nat) (x : In.Ask) (p : Option Addr) (cap : Nat) : Prop := w.cell? ⟨b, 0, none⟩ = some (.bool x.e.on) ∧ w.cell? ⟨b, 1, none⟩ = some (.slice p x.e.pts.length cap) ∧ w.cell? ⟨b, 2, none⟩ = some (.bool x.e.sus) ∧ w.cell? ⟨b, 3, none⟩ = some (.int .i64 x.e.ss) ∧ w.cell? ⟨b, 4, none⟩ = some (.int .i64 x.e.se) ∧ w.cell? ⟨b, 5, none⟩ = some (.bool x.e.lp) ∧ w.cell? ⟨b, 6, none⟩ = some (.int .i64 x.e.ls) ∧ w.cell? ⟨b, 7, none⟩ = some (.int .i64 x.e.le) ∧ w.cell? ⟨b, 8, none⟩ = some (.int .i64 x.lo) ∧ w.cell? ⟨b, 9, none⟩ = some (.int .i64 x.hi) ∧ w.cell? ⟨b, 10, none⟩ = some (.int .i64 x.t) ∧ w.cell? ⟨b, 11, none⟩ = some (.int .i64 x.n) ∧ w.cell? ⟨b, 12, none⟩ = some (.int .i64 x.r) ∧ w.cell? ⟨b, 13, none⟩ = some (.int .i64 x.o) ∧ w.cell? ⟨b, 14, none⟩ = some (.bool x.h)
theorem ab_new (w : World) (x : In.Ask) (p : Option Addr) (cap : Nat) (t : TypeId) : AB (w.alloc (.cells #[.bool x.e.on, .slice p x.e.pts.length cap, .bool x.e.sus, .int .i64 x.e.ss, .int .i64 x.e.se, .bool x.e.lp, .int .i64 x.e.ls, .int .i64 x.e.le, .int .i64 x.lo, .int .i64 x.hi, .int .i64 x.t, .int .i64 x.n, .int .i64 x.r, .int .i64 x.o, .bool x.h] t)) w.heap.size x p cap := by
  refine ⟨?_, ?_, ?_, ?_, ?_, ?_, ?_, ?_, ?_, ?_, ?_, ?_, ?_, ?_, ?_⟩ <;> simp [World.cell?_alloc_new]
theorem AB.kept {w w' : World} {b : Nat} {x : In.Ask} {p : Option Addr} {cap : Nat} (h : AB w b x p cap) (hb : Below w.heap.size w w') : AB w' b x p cap := by
  have hl : b < w.heap.size := cell_lt h.1
  unfold AB at h ⊢
  have e : ∀ j, w'.cell? ⟨b, j, none⟩ = w.cell? ⟨b, j, none⟩ := fun j => hb.cell hl
  simp only [e]
  exact h
/-- A law's two blocks, in whatever later world: what was asked, and the envelope. -/
structure Two (w : World) (b : Nat) (x : In.Ask) (p : Option Addr) (cap : Nat) : Prop where
  ask : AB w b x p cap
  env : EB w (b + 1) x.e p cap
  pts : PtsAt w p x.e.pts
theorem Two.kept {w w' : World} {b : Nat} {x : In.Ask} {p : Option Addr} {cap : Nat} (h : Two w b x p cap) (hb : Below w.heap.size w w') : Two w' b x p cap := ⟨h.ask.kept hb, h.env.kept hb, h.pts.below hb⟩
theorem two_new (w : World) (x : In.Ask) (p : Option Addr) (cap : Nat) (hd : PtsAt w p x.e.pts) : Two (((w.alloc (.cells #[.bool x.e.on, .slice p x.e.pts.length cap, .bool x.e.sus, .int .i64 x.e.ss, .int .i64 x.e.se, .bool x.e.lp, .int .i64 x.e.ls, .int .i64 x.e.le, .int .i64 x.lo, .int .i64 x.hi, .int .i64 x.t, .int .i64 x.n, .int .i64 x.r, .int .i64 x.o, .bool x.h] 26)).alloc (.cells #[.bool x.e.on, .slice p x.e.pts.length cap, .bool x.e.sus, .int .i64 x.e.ss, .int .i64 x.e.se, .bool x.e.lp, .int .i64 x.e.ls, .int .i64 x.e.le] 24))) w.heap.size x p cap := by
  refine ⟨(ab_new w x p cap _).kept (below_box _ _), ?_, (hd.below (below_box _ _)).below (below_box _ _)⟩
  have := eb_new (w.alloc (.cells #[.bool x.e.on, .slice p x.e.pts.length cap, .bool x.e.sus, .int .i64 x.e.ss, .int .i64 x.e.se, .bool x.e.lp, .int .i64 x.e.ls, .int .i64 x.e.le, .int .i64 x.lo, .int .i64 x.hi, .int .i64 x.t, .int .i64 x.n, .int .i64 x.r, .int .i64 x.o, .bool x.h] 26)) x.e p cap 24
  rwa [World.size_alloc] at this
end Go.Proofs.Ytcchfahdgmcpbaa

/-
  A sample's block and a result's block that is still zero: what of both stays. No walk.
-/
import Derived.Test.YtmaldhjcdkidmaaBase
namespace Go.Proofs.Ytmaldhjcdkidmaa
open Go.RowKit

/-- A result's thirteen cells, still zero, and the sample's own: both may be written. -/
def Two (w : World) (b : Nat) (s : Sm.Smp) (p : Option Addr) (cap : Nat) : Prop :=
  Boxed w b s p cap ∧ (w.cell? ⟨b + 1, 0, none⟩ = some (.string ByteArray.empty) ∧ w.cell? ⟨b + 1, 1, none⟩ = some (.slice none 0 0) ∧ w.cell? ⟨b + 1, 2, none⟩ = some (.int .i64 0) ∧ w.cell? ⟨b + 1, 3, none⟩ = some (.int .i64 0) ∧ w.cell? ⟨b + 1, 4, none⟩ = some (.int .i64 0) ∧ w.cell? ⟨b + 1, 5, none⟩ = some (.int .i64 0) ∧ w.cell? ⟨b + 1, 6, none⟩ = some (.int .i64 0) ∧ w.cell? ⟨b + 1, 7, none⟩ = some (.int .i64 0) ∧ w.cell? ⟨b + 1, 8, none⟩ = some (.int .i64 0) ∧ w.cell? ⟨b + 1, 9, none⟩ = some (.int .i64 0) ∧ w.cell? ⟨b + 1, 10, none⟩ = some (.int .i64 0) ∧ w.cell? ⟨b + 1, 11, none⟩ = some (.int .i64 0) ∧ w.cell? ⟨b + 1, 12, none⟩ = some (.int .i64 0)) ∧ (∀ j, w.frozen? ⟨b, j, none⟩ = false) ∧ ∀ j, w.frozen? ⟨b + 1, j, none⟩ = false
theorem two_new (w : World) (s : Sm.Smp) (p : Option Addr) (cap : Nat) : Two ((w.alloc (.cells #[.string s.name, .slice p s.dat.length cap, .int .i64 s.bits, .int .i64 s.rate, .int .i64 s.vol, .int .i64 s.pan, .int .i64 s.fine, .int .i64 s.loop, .int .i64 s.start, .int .i64 s.fin, .int .i64 s.sus, .int .i64 s.sstart, .int .i64 s.sfin] 24)).alloc (.cells #[.string ByteArray.empty, .slice none 0 0, .int .i64 0, .int .i64 0, .int .i64 0, .int .i64 0, .int .i64 0, .int .i64 0, .int .i64 0, .int .i64 0, .int .i64 0, .int .i64 0, .int .i64 0] 24)) w.heap.size s p cap := by
  refine ⟨(boxed_new w s p cap 24).below (below_box _ _) (by simp), ⟨?_, ?_, ?_, ?_, ?_, ?_, ?_, ?_, ?_, ?_, ?_, ?_, ?_⟩, fun j => ?_, fun j => ?_⟩
  all_goals go_simp
theorem Two.kept {w w' : World} {b : Nat} {s : Sm.Smp} {p : Option Addr} {cap B : Nat} (h : Two w b s p cap) (hb : Below B w w') (hB : b + 1 < B) : Two w' b s p cap := by
  obtain ⟨hx, ⟨z0, z1, z2, z3, z4, z5, z6, z7, z8, z9, z10, z11, z12⟩, f1, f2⟩ := h
  have e : ∀ j, w'.cell? ⟨b + 1, j, none⟩ = w.cell? ⟨b + 1, j, none⟩ := fun j => hb.cell hB
  refine ⟨hx.below hb (Nat.lt_of_succ_lt hB), ⟨(e _).trans z0, (e _).trans z1, (e _).trans z2, (e _).trans z3, (e _).trans z4, (e _).trans z5, (e _).trans z6, (e _).trans z7, (e _).trans z8, (e _).trans z9, (e _).trans z10, (e _).trans z11, (e _).trans z12⟩, fun j => ?_, fun j => ?_⟩
  · rw [hb.frozen (Nat.lt_of_succ_lt hB)]; exact f1 j
  · rw [hb.frozen hB]; exact f2 j
theorem Two.store {w : World} {b r : Nat} {s : Sm.Smp} {p : Option Addr} {cap : Nat} (h : Two w b s p cap) (h1 : b ≠ r) (h2 : b + 1 ≠ r) (j : Nat) (v : Value) : Two (w.setCell ⟨r, j, none⟩ v) b s p cap := by
  have e1 : ∀ i, (w.setCell ⟨r, j, none⟩ v).cell? ⟨b, i, none⟩ = w.cell? ⟨b, i, none⟩ := fun i => World.cell?_setCell_other _ _ _ _ (fun h => h1 (congrArg Addr.block h).symm)
  have e2 : ∀ i, (w.setCell ⟨r, j, none⟩ v).cell? ⟨b + 1, i, none⟩ = w.cell? ⟨b + 1, i, none⟩ := fun i => World.cell?_setCell_other _ _ _ _ (fun h => h2 (congrArg Addr.block h).symm)
  unfold Two Boxed at *
  simp only [e1, e2, World.frozen?_setCell]
  exact h
end Go.Proofs.Ytmaldhjcdkidmaa

/-
  A sample's block that may be written. No walk.
-/
import Derived.Test.YtmaldhjcdkidmaaGrow
namespace Go.Proofs.Ytmaldhjcdkidmaa
open Go.RowKit

/-- A block that may be written: a sample's. -/
def BF (w : World) (b : Nat) (s : Sm.Smp) (p : Option Addr) (cap : Nat) : Prop := Boxed w b s p cap ∧ ∀ j, w.frozen? ⟨b, j, none⟩ = false
theorem BF.kept {w w' : World} {b : Nat} {s : Sm.Smp} {p : Option Addr} {cap : Nat} (h : BF w b s p cap) (hb : Below w.heap.size w w') : BF w' b s p cap := by
  refine ⟨h.1.below hb (cell_lt h.1.1), fun j => ?_⟩
  have hl : b < w.heap.size := cell_lt h.1.1
  rw [hb.frozen (p := ⟨b, j, none⟩) hl]; exact h.2 j
theorem BF.store {w : World} {b r : Nat} {s : Sm.Smp} {p : Option Addr} {cap : Nat} (h : BF w b s p cap) (hr : b ≠ r) (j : Nat) (v : Value) : BF (w.setCell ⟨r, j, none⟩ v) b s p cap :=
  ⟨h.1.store hr j v, by simpa using h.2⟩
theorem bf_new (w : World) (s : Sm.Smp) (p : Option Addr) (cap : Nat) : BF (w.alloc (.cells #[.string s.name, .slice p s.dat.length cap, .int .i64 s.bits, .int .i64 s.rate, .int .i64 s.vol, .int .i64 s.pan, .int .i64 s.fine, .int .i64 s.loop, .int .i64 s.start, .int .i64 s.fin, .int .i64 s.sus, .int .i64 s.sstart, .int .i64 s.sfin] 24)) w.heap.size s p cap := ⟨boxed_new w s p cap 24, fun _ => World.frozen?_alloc_at _ _ _ _ rfl⟩
theorem BF.loop1 {w : World} {b : Nat} {s : Sm.Smp} {p : Option Addr} {cap : Nat} (h : BF w b s p cap) (st fi : Int) :
    BF ((w.setCell ⟨b, 8, none⟩ (.int .i64 st)).setCell ⟨b, 9, none⟩ (.int .i64 fi)) b { s with start := st, fin := fi } p cap := by
  obtain ⟨⟨x0, x1, x2, x3, x4, x5, x6, x7, x8, x9, x10, x11, x12⟩, f1⟩ := h
  have ne : ∀ (x y : Nat), x ≠ y → (⟨b, x, none⟩ : Addr) ≠ ⟨b, y, none⟩ := fun x y hxy e => hxy (congrArg Addr.off e)
  have eo : ∀ i, i ≠ 8 → i ≠ 9 → ((w.setCell ⟨b, 8, none⟩ (.int .i64 st)).setCell ⟨b, 9, none⟩ (.int .i64 fi)).cell? ⟨b, i, none⟩ = w.cell? ⟨b, i, none⟩ := fun i h1 h2 => by
    rw [World.cell?_setCell_other _ _ _ _ (ne 9 i h2.symm), World.cell?_setCell_other _ _ _ _ (ne 8 i h1.symm)]
  refine ⟨⟨(eo 0 (by omega) (by omega)).trans x0, (eo 1 (by omega) (by omega)).trans x1, (eo 2 (by omega) (by omega)).trans x2, (eo 3 (by omega) (by omega)).trans x3, (eo 4 (by omega) (by omega)).trans x4, (eo 5 (by omega) (by omega)).trans x5, (eo 6 (by omega) (by omega)).trans x6, (eo 7 (by omega) (by omega)).trans x7, ?_, ?_, (eo 10 (by omega) (by omega)).trans x10, (eo 11 (by omega) (by omega)).trans x11, (eo 12 (by omega) (by omega)).trans x12⟩, by simpa using f1⟩
  · rw [World.cell?_setCell_other _ _ _ _ (ne 9 8 (by omega))]
    exact World.cell?_setCell_same _ _ _ x8
  · exact World.cell?_setCell_same _ _ _ (by rw [World.cell?_setCell_other _ _ _ _ (ne 8 9 (by omega))]; exact x9)
theorem BF.loop2 {w : World} {b : Nat} {s : Sm.Smp} {p : Option Addr} {cap : Nat} (h : BF w b s p cap) (st fi : Int) :
    BF ((w.setCell ⟨b, 11, none⟩ (.int .i64 st)).setCell ⟨b, 12, none⟩ (.int .i64 fi)) b { s with sstart := st, sfin := fi } p cap := by
  obtain ⟨⟨x0, x1, x2, x3, x4, x5, x6, x7, x8, x9, x10, x11, x12⟩, f1⟩ := h
  have ne : ∀ (x y : Nat), x ≠ y → (⟨b, x, none⟩ : Addr) ≠ ⟨b, y, none⟩ := fun x y hxy e => hxy (congrArg Addr.off e)
  have eo : ∀ i, i ≠ 11 → i ≠ 12 → ((w.setCell ⟨b, 11, none⟩ (.int .i64 st)).setCell ⟨b, 12, none⟩ (.int .i64 fi)).cell? ⟨b, i, none⟩ = w.cell? ⟨b, i, none⟩ := fun i h1 h2 => by
    rw [World.cell?_setCell_other _ _ _ _ (ne 12 i h2.symm), World.cell?_setCell_other _ _ _ _ (ne 11 i h1.symm)]
  refine ⟨⟨(eo 0 (by omega) (by omega)).trans x0, (eo 1 (by omega) (by omega)).trans x1, (eo 2 (by omega) (by omega)).trans x2, (eo 3 (by omega) (by omega)).trans x3, (eo 4 (by omega) (by omega)).trans x4, (eo 5 (by omega) (by omega)).trans x5, (eo 6 (by omega) (by omega)).trans x6, (eo 7 (by omega) (by omega)).trans x7, (eo 8 (by omega) (by omega)).trans x8, (eo 9 (by omega) (by omega)).trans x9, (eo 10 (by omega) (by omega)).trans x10, ?_, ?_⟩, by simpa using f1⟩
  · rw [World.cell?_setCell_other _ _ _ _ (ne 12 11 (by omega))]
    exact World.cell?_setCell_same _ _ _ x11
  · exact World.cell?_setCell_same _ _ _ (by rw [World.cell?_setCell_other _ _ _ _ (ne 11 12 (by omega))]; exact x12)
end Go.Proofs.Ytmaldhjcdkidmaa

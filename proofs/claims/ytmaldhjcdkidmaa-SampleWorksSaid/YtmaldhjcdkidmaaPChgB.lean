/-
  Small lemmas for package sample's placeLoops: stores into a sample's block. No walk.
-/
import Derived.Test.YtmaldhjcdkidmaaPChgA
import Derived.Test.YtmaldhjcdkidmaaTwo
import Derived.Test.YtmaldhjcdkidmaaPAsk
import Derived.RegionTactic
namespace Go.Proofs.Ytmaldhjcdkidmaa
open Go.RowKit

theorem Two.loop1 {w : World} {b : Nat} {s : Sm.Smp} {p : Option Addr} {cap : Nat} (h : Two w b s p cap) (k st fi : Int) :
    Two (((w.setCell ⟨b, 7, none⟩ (.int .i64 k)).setCell ⟨b, 8, none⟩ (.int .i64 st)).setCell ⟨b, 9, none⟩ (.int .i64 fi)) b { s with loop := k, start := st, fin := fi } p cap := by
  obtain ⟨⟨x0, x1, x2, x3, x4, x5, x6, x7, x8, x9, x10, x11, x12⟩, hz, f1, f2⟩ := h
  have ne : ∀ (x y : Nat), x ≠ y → (⟨b, x, none⟩ : Addr) ≠ ⟨b, y, none⟩ := fun x y hxy e => hxy (congrArg Addr.off e)
  have nb : ∀ (x y : Nat), (⟨b, x, none⟩ : Addr) ≠ ⟨b + 1, y, none⟩ := fun x y e => by have := congrArg Addr.block e; simp at this
  have eo : ∀ i, i ≠ 7 → i ≠ 8 → i ≠ 9 → (((w.setCell ⟨b, 7, none⟩ (.int .i64 k)).setCell ⟨b, 8, none⟩ (.int .i64 st)).setCell ⟨b, 9, none⟩ (.int .i64 fi)).cell? ⟨b, i, none⟩ = w.cell? ⟨b, i, none⟩ := fun i h1 h2 h3 => by
    rw [World.cell?_setCell_other _ _ _ _ (ne 9 i h3.symm), World.cell?_setCell_other _ _ _ _ (ne 8 i h2.symm), World.cell?_setCell_other _ _ _ _ (ne 7 i h1.symm)]
  have en : ∀ i, (((w.setCell ⟨b, 7, none⟩ (.int .i64 k)).setCell ⟨b, 8, none⟩ (.int .i64 st)).setCell ⟨b, 9, none⟩ (.int .i64 fi)).cell? ⟨b + 1, i, none⟩ = w.cell? ⟨b + 1, i, none⟩ := fun i => by
    rw [World.cell?_setCell_other _ _ _ _ (nb 9 i), World.cell?_setCell_other _ _ _ _ (nb 8 i), World.cell?_setCell_other _ _ _ _ (nb 7 i)]
  refine ⟨⟨(eo 0 (by omega) (by omega) (by omega)).trans x0, (eo 1 (by omega) (by omega) (by omega)).trans x1, (eo 2 (by omega) (by omega) (by omega)).trans x2, (eo 3 (by omega) (by omega) (by omega)).trans x3, (eo 4 (by omega) (by omega) (by omega)).trans x4, (eo 5 (by omega) (by omega) (by omega)).trans x5, (eo 6 (by omega) (by omega) (by omega)).trans x6, ?_, ?_, ?_, (eo 10 (by omega) (by omega) (by omega)).trans x10, (eo 11 (by omega) (by omega) (by omega)).trans x11, (eo 12 (by omega) (by omega) (by omega)).trans x12⟩, by simp only [en]; exact hz, by simpa using f1, by simpa using f2⟩
  · rw [World.cell?_setCell_other _ _ _ _ (ne 9 7 (by omega)), World.cell?_setCell_other _ _ _ _ (ne 8 7 (by omega))]
    exact World.cell?_setCell_same _ _ _ x7
  · rw [World.cell?_setCell_other _ _ _ _ (ne 9 8 (by omega))]
    exact World.cell?_setCell_same _ _ _ (by rw [World.cell?_setCell_other _ _ _ _ (ne 7 8 (by omega))]; exact x8)
  · exact World.cell?_setCell_same _ _ _ (by rw [World.cell?_setCell_other _ _ _ _ (ne 8 9 (by omega)), World.cell?_setCell_other _ _ _ _ (ne 7 9 (by omega))]; exact x9)
theorem Two.loop2 {w : World} {b : Nat} {s : Sm.Smp} {p : Option Addr} {cap : Nat} (h : Two w b s p cap) (k st fi : Int) :
    Two (((w.setCell ⟨b, 10, none⟩ (.int .i64 k)).setCell ⟨b, 11, none⟩ (.int .i64 st)).setCell ⟨b, 12, none⟩ (.int .i64 fi)) b { s with sus := k, sstart := st, sfin := fi } p cap := by
  obtain ⟨⟨x0, x1, x2, x3, x4, x5, x6, x7, x8, x9, x10, x11, x12⟩, hz, f1, f2⟩ := h
  have ne : ∀ (x y : Nat), x ≠ y → (⟨b, x, none⟩ : Addr) ≠ ⟨b, y, none⟩ := fun x y hxy e => hxy (congrArg Addr.off e)
  have nb : ∀ (x y : Nat), (⟨b, x, none⟩ : Addr) ≠ ⟨b + 1, y, none⟩ := fun x y e => by have := congrArg Addr.block e; simp at this
  have eo : ∀ i, i ≠ 10 → i ≠ 11 → i ≠ 12 → (((w.setCell ⟨b, 10, none⟩ (.int .i64 k)).setCell ⟨b, 11, none⟩ (.int .i64 st)).setCell ⟨b, 12, none⟩ (.int .i64 fi)).cell? ⟨b, i, none⟩ = w.cell? ⟨b, i, none⟩ := fun i h1 h2 h3 => by
    rw [World.cell?_setCell_other _ _ _ _ (ne 12 i h3.symm), World.cell?_setCell_other _ _ _ _ (ne 11 i h2.symm), World.cell?_setCell_other _ _ _ _ (ne 10 i h1.symm)]
  have en : ∀ i, (((w.setCell ⟨b, 10, none⟩ (.int .i64 k)).setCell ⟨b, 11, none⟩ (.int .i64 st)).setCell ⟨b, 12, none⟩ (.int .i64 fi)).cell? ⟨b + 1, i, none⟩ = w.cell? ⟨b + 1, i, none⟩ := fun i => by
    rw [World.cell?_setCell_other _ _ _ _ (nb 12 i), World.cell?_setCell_other _ _ _ _ (nb 11 i), World.cell?_setCell_other _ _ _ _ (nb 10 i)]
  refine ⟨⟨(eo 0 (by omega) (by omega) (by omega)).trans x0, (eo 1 (by omega) (by omega) (by omega)).trans x1, (eo 2 (by omega) (by omega) (by omega)).trans x2, (eo 3 (by omega) (by omega) (by omega)).trans x3, (eo 4 (by omega) (by omega) (by omega)).trans x4, (eo 5 (by omega) (by omega) (by omega)).trans x5, (eo 6 (by omega) (by omega) (by omega)).trans x6, (eo 7 (by omega) (by omega) (by omega)).trans x7, (eo 8 (by omega) (by omega) (by omega)).trans x8, (eo 9 (by omega) (by omega) (by omega)).trans x9, ?_, ?_, ?_⟩, by simp only [en]; exact hz, by simpa using f1, by simpa using f2⟩
  · rw [World.cell?_setCell_other _ _ _ _ (ne 12 10 (by omega)), World.cell?_setCell_other _ _ _ _ (ne 11 10 (by omega))]
    exact World.cell?_setCell_same _ _ _ x10
  · rw [World.cell?_setCell_other _ _ _ _ (ne 12 11 (by omega))]
    exact World.cell?_setCell_same _ _ _ (by rw [World.cell?_setCell_other _ _ _ _ (ne 10 11 (by omega))]; exact x11)
  · exact World.cell?_setCell_same _ _ _ (by rw [World.cell?_setCell_other _ _ _ _ (ne 11 12 (by omega)), World.cell?_setCell_other _ _ _ _ (ne 10 12 (by omega))]; exact x12)
theorem ne_cell3 {x b : Nat} (h : x ≠ b) (w : World) (i : Nat) (v v' v'' : Value) {j j' j'' : Nat} : (((w.setCell ⟨b, j, none⟩ v).setCell ⟨b, j', none⟩ v').setCell ⟨b, j'', none⟩ v'').cell? ⟨x, i, none⟩ = w.cell? ⟨x, i, none⟩ := by
  have e : ∀ (w : World) j v, (w.setCell ⟨b, j, none⟩ v).cell? ⟨x, i, none⟩ = w.cell? ⟨x, i, none⟩ := fun w j v => World.cell?_setCell_other _ _ _ _ (fun e => h (congrArg Addr.block e).symm)
  rw [e, e, e]
theorem Below13 {w w' : World} {B b : Nat} {v0 v1 v2 v3 v4 v5 v6 v7 v8 v9 v10 v11 v12 : Value} (h : Below B w w') (hb : B ≤ b) : Below B w (((((((((((((w'.setCell ⟨b, 0, none⟩ v0).setCell ⟨b, 1, none⟩ v1).setCell ⟨b, 2, none⟩ v2).setCell ⟨b, 3, none⟩ v3).setCell ⟨b, 4, none⟩ v4).setCell ⟨b, 5, none⟩ v5).setCell ⟨b, 6, none⟩ v6).setCell ⟨b, 7, none⟩ v7).setCell ⟨b, 8, none⟩ v8).setCell ⟨b, 9, none⟩ v9).setCell ⟨b, 10, none⟩ v10).setCell ⟨b, 11, none⟩ v11).setCell ⟨b, 12, none⟩ v12) :=
  ((((((((((((h.setCell hb _).setCell hb _).setCell hb _).setCell hb _).setCell hb _).setCell hb _).setCell hb _).setCell hb _).setCell hb _).setCell hb _).setCell hb _).setCell hb _).setCell hb _
end Go.Proofs.Ytmaldhjcdkidmaa

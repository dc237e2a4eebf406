/-
  Rows of cells that are filled one after another, from the front or from the back; memory of its own as a list of numbers. No walk.
-/
import Derived.Test.YtmaldhjcdkidmaaChg
import Derived.OneCell
import Derived.OwnWalk
namespace Go.Proofs.Ytmaldhjcdkidmaa
open Go.RowKit

/-- The row's cells after k rounds, from the front. -/
def frow (f : Nat → Int) (n k : Nat) : List Value := (List.range n).map fun j => .int .i64 (if j < k then f j else 0)
theorem frow_zero (f : Nat → Int) (n : Nat) : frow f n 0 = List.replicate n (.int .i64 0) := by
  apply List.ext_getElem?
  intro i
  by_cases hi : i < n <;> simp [frow, hi]
theorem frow_set (f : Nat → Int) {n k : Nat} (hk : k < n) {v : Int} (hv : v = f k) : (frow f n k).set k (.int .i64 v) = frow f n (k + 1) := by
  apply List.ext_getElem?
  intro i
  rw [List.getElem?_set]
  by_cases e : k = i
  · subst e
    simp [frow, hk, hv]
  · rw [if_neg e]
    simp only [frow, List.getElem?_map]
    by_cases hi : i < n
    · simp only [List.getElem?_range hi, Option.map_some]
      congr 3
      exact propext ⟨fun _ => by omega, fun _ => by omega⟩
    · simp [hi]
theorem frow_at (f : Nat → Int) {n k : Nat} (hk : k < n) : (frow f n k)[k]? = some (.int .i64 0) := by simp [frow, hk]
theorem frow_full (f : Nat → Int) {n : Nat} {l : List Int} (hl : l.length = n) (h : ∀ i, i < n → l.getD i 0 = f i) : frow f n n = l.map (Value.int .i64) := by
  apply List.ext_getElem
  · simp [frow, hl]
  · intro i h1 h2
    have hi : i < n := by simpa [frow] using h1
    have := h i hi
    rw [List.getD_eq_getElem?_getD, List.getElem?_eq_getElem (by omega)] at this
    simp at this
    simp [frow, hi, this]
/-- The row's cells after k rounds, from the back. -/
def brow (f : Nat → Int) (n k : Nat) : List Value := (List.range n).map fun j => .int .i64 (if n ≤ j + k then f (n - 1 - j) else 0)
theorem brow_zero (f : Nat → Int) (n : Nat) : brow f n 0 = List.replicate n (.int .i64 0) := by
  apply List.ext_getElem?
  intro i
  by_cases hi : i < n
  · simp [brow, hi]; omega
  · simp [brow, hi]
theorem brow_set (f : Nat → Int) {n k : Nat} (hk : k < n) {v : Int} (hv : v = f k) : (brow f n k).set (n - 1 - k) (.int .i64 v) = brow f n (k + 1) := by
  apply List.ext_getElem?
  intro i
  rw [List.getElem?_set]
  by_cases e : n - 1 - k = i
  · subst e
    have h1 : n - 1 - k < n := by omega
    have h2 : n ≤ n - 1 - k + (k + 1) := by omega
    have h3 : n - 1 - (n - 1 - k) = k := by omega
    simp [brow, h1, h2, h3, hv]
  · rw [if_neg e]
    simp only [brow, List.getElem?_map]
    by_cases hi : i < n
    · simp only [List.getElem?_range hi, Option.map_some]
      congr 3
      exact propext ⟨fun _ => by omega, fun _ => by omega⟩
    · simp [hi]
theorem brow_at (f : Nat → Int) {n k : Nat} (hk : k < n) : (brow f n k)[n - 1 - k]? = some (.int .i64 0) := by
  have h1 : n - 1 - k < n := by omega
  simp [brow, h1]; omega
theorem brow_full (f : Nat → Int) {n : Nat} {l : List Int} (hl : l.length = n) (h : ∀ i, i < n → l.getD i 0 = f (n - 1 - i)) : brow f n n = l.map (Value.int .i64) := by
  apply List.ext_getElem
  · simp [brow, hl]
  · intro i h1 h2
    have hi : i < n := by simpa [brow] using h1
    have := h i hi
    rw [List.getD_eq_getElem?_getD, List.getElem?_eq_getElem (by omega)] at this
    simp at this
    simp [brow, this]
/-- Numbers in memory of one's own, made since the block B. -/
def OwnS (w : World) (B g : Nat) (l : List Int) : Prop := w.ownsRow B 3 1 (.slice (some ⟨g, 0, none⟩) l.length l.length) l.length (l.map (Value.int .i64))
theorem OwnS.lt {w : World} {B g : Nat} {l : List Int} (h : OwnS w B g l) : g < w.heap.size := (World.ownsRow.lt h g rfl).2
theorem OwnS.ge {w : World} {B g : Nat} {l : List Int} (h : OwnS w B g l) : B ≤ g := (World.ownsRow.lt h g rfl).1
theorem OwnS.kept {w w' : World} {B g : Nat} {l : List Int} (h : OwnS w B g l) (hb : Below w.heap.size w w') : OwnS w' B g l :=
  World.ownsRow.kept (row := none) h ⟨hb.os, hb.tape, hb.output, hb.size, fun k hk _ => hb.block k hk⟩ (.inr (by simp [Value.ownBlock]))
theorem OwnS.store {w : World} {B g : Nat} {l : List Int} (h : OwnS w B g l) {b : Nat} (hb : g ≠ b) (j : Nat) (v : Value) : OwnS (w.setCell ⟨b, j, none⟩ v) B g l :=
  ownsRow_setCell_other h (by simp [Value.ownBlock, hb]) v
theorem OwnS.dat {w : World} {B g : Nat} {l : List Int} (h : OwnS w B g l) : DatAt w (some ⟨g, 0, none⟩) l := by
  refine .inr ⟨g, 0, rfl, h.lt, fun i hi => ?_⟩
  rw [Nat.zero_add, World.ownsRow.cellAt h i (by omega)]
  simp [hi, List.getD_eq_getElem?_getD]
theorem OwnS.mono {w : World} {B C g : Nat} {l : List Int} (h : OwnS w B g l) (hc : C ≤ B) : OwnS w C g l := by
  obtain ⟨h1, h2⟩ := h
  refine ⟨h1, ?_⟩
  rcases h2 with h2 | ⟨g', c', cur, e1, e2, e3⟩
  · exact .inl h2
  · exact .inr ⟨g', c', cur, e1, Nat.le_trans hc e2, e3⟩
/-- The sample that is zero. -/
def zer : Sm.Smp := ⟨ByteArray.empty, [], 0, 0, 0, 0, 0, 0, 0, 0, 0, 0, 0⟩
/-- A call has returned this sample, its frames in memory of their own, and no error. -/
def RetS (s : Sm.Smp) (B : Nat) (e : Ending) (w' : World) : Prop := ∃ g, e = .returned (.tuple #[SV s (some ⟨g, 0, none⟩) s.dat.length, .int .i64 0]) ∧ OwnS w' B g s.dat
end Go.Proofs.Ytmaldhjcdkidmaa

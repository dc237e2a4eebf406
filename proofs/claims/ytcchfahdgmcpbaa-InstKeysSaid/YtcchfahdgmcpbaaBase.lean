/-
  Words and small lemmas for package inst: points and envelopes in memory, what stays behind a call that changes nothing of what was there. No walk.
-/
import Derived.Test.YtcchfahdgmcpbaaChecked
import Derived.Test.YtcchfahdgmcpbaaMath
import Derived.WalkKit
import Derived.LoopTactic
import Derived.Lib.Hide
import Derived.Deep.QuietTactic
import Derived.BigQuiet
import Derived.Deep.Draws
import Derived.OneCell
import Derived.OwnWalk
import Derived.Outline
import Derived.Laws.AppendOwn
import Derived.Laws.CopyOwn
namespace Go.Proofs.Ytcchfahdgmcpbaa
open Go.RowKit

theorem ret_bool {a b : Bool} (h : a = b) : Ending.returned (.bool a) = .returned (.bool b) := by rw [h]
theorem ret_int {k : IntKind} {a b : Int} (h : a = b) : Ending.returned (.int k a) = .returned (.int k b) := by rw [h]
theorem below_box (w : World) (o : Obj) : Below w.heap.size w (w.alloc o) := (Below.refl _ _).alloc (Nat.le_refl _) _
/-- A cell that is there stays behind a call that changes nothing of what was there. -/
theorem cell_lt {w : World} {a : Addr} {v : Value} (h : w.cell? a = some v) : a.block < w.heap.size := World.block_lt_of_cell? w a h
theorem kept_cell {w w' : World} {a : Addr} {v : Value} (hb : Below w.heap.size w w') (h : w.cell? a = some v) : w'.cell? a = some v := by rw [hb.cell (cell_lt h)]; exact h
theorem below_drewN' {B : Nat} {a w : World} (h : Below B a w) (n : Nat) : Below B a (w.drewN n) := ⟨h.os, h.tape, h.output, h.size, h.block⟩
/-- From W on nothing that was there has changed: the next call. -/
theorem stepB {W w w' : World} (h : Below W.heap.size W w) (hb : Below w.heap.size w w') : Below W.heap.size W w' := h.trans (hb.mono h.size)
theorem cell_set {w : World} {x y : Nat} (h : x ≠ y) (i j : Nat) (v : Value) : (w.setCell ⟨y, j, none⟩ v).cell? ⟨x, i, none⟩ = w.cell? ⟨x, i, none⟩ :=
  World.cell?_setCell_other _ _ _ _ (fun e => h (congrArg Addr.block e).symm)
theorem grown_below {w w' : World} (h : w.grownBy w' none) : Below w.heap.size w w' := ⟨h.os, h.tape, h.output, h.size, fun k hk => h.block k hk (by simp)⟩
/-- Pairs of numbers that lie at p. -/
def PtsAt (w : World) (p : Option Addr) (ps : List (Int × Int)) : Prop := ps = [] ∨ ∃ b off, p = some ⟨b, off, none⟩ ∧ b < w.heap.size ∧ ∀ i, i < ps.length → w.cell? ⟨b, off + i * 2, none⟩ = some (.int .i64 (In.tk ps i)) ∧ w.cell? ⟨b, off + i * 2 + 1, none⟩ = some (.int .i64 (In.vl ps i))
theorem PtsAt.below {w w' : World} {p : Option Addr} {ps : List (Int × Int)} (h : PtsAt w p ps) (hb : Below w.heap.size w w') : PtsAt w' p ps := by
  rcases h with h | ⟨b, off, hp, hl, hc⟩
  · exact .inl h
  · exact .inr ⟨b, off, hp, Nat.lt_of_lt_of_le hl hb.size, fun i hi => by rw [hb.cell (p := ⟨b, _, none⟩) hl, hb.cell (p := ⟨b, _, none⟩) hl]; exact hc i hi⟩
theorem PtsAt.at {w : World} {p : Option Addr} {ps : List (Int × Int)} (h : PtsAt w p ps) {i : Nat} (hi : i < ps.length) : ∃ b off, p = some ⟨b, off, none⟩ ∧ w.cell? ⟨b, off + i * 2, none⟩ = some (.int .i64 (In.tk ps i)) ∧ w.cell? ⟨b, off + i * 2 + 1, none⟩ = some (.int .i64 (In.vl ps i)) := by
  rcases h with rfl | ⟨b, off, hp, _, hc⟩
  · exact absurd hi (by simp)
  · exact ⟨b, off, hp, hc i hi⟩
/-- An envelope as a value: its points lie at p, with a capacity. -/
def EV (e : In.Env) (p : Option Addr) (cap : Nat) : Value := .agg #[.bool e.on, .slice p e.pts.length cap, .bool e.sus, .int .i64 e.ss, .int .i64 e.se, .bool e.lp, .int .i64 e.ls, .int .i64 e.le]
/-- An envelope's block: its eight cells. -/
def EB (w : World) (b : Nat) (e : In.Env) (p : Option Addr) (cap : Nat) : Prop := w.cell? ⟨b, 0, none⟩ = some (.bool e.on) ∧ w.cell? ⟨b, 1, none⟩ = some (.slice p e.pts.length cap) ∧ w.cell? ⟨b, 2, none⟩ = some (.bool e.sus) ∧ w.cell? ⟨b, 3, none⟩ = some (.int .i64 e.ss) ∧ w.cell? ⟨b, 4, none⟩ = some (.int .i64 e.se) ∧ w.cell? ⟨b, 5, none⟩ = some (.bool e.lp) ∧ w.cell? ⟨b, 6, none⟩ = some (.int .i64 e.ls) ∧ w.cell? ⟨b, 7, none⟩ = some (.int .i64 e.le)
theorem eb_new (w : World) (e : In.Env) (p : Option Addr) (cap : Nat) (t : TypeId) : EB (w.alloc (.cells #[.bool e.on, .slice p e.pts.length cap, .bool e.sus, .int .i64 e.ss, .int .i64 e.se, .bool e.lp, .int .i64 e.ls, .int .i64 e.le] t)) w.heap.size e p cap := by
  refine ⟨?_, ?_, ?_, ?_, ?_, ?_, ?_, ?_⟩ <;> simp [World.cell?_alloc_new]
theorem EB.below {w w' : World} {b B : Nat} {e : In.Env} {p : Option Addr} {cap : Nat} (h : EB w b e p cap) (hb : Below B w w') (hl : b < B) : EB w' b e p cap := by
  unfold EB at h ⊢
  have e : ∀ j, w'.cell? ⟨b, j, none⟩ = w.cell? ⟨b, j, none⟩ := fun j => hb.cell hl
  simp only [e]
  exact h
theorem EB.kept {w w' : World} {b : Nat} {e : In.Env} {p : Option Addr} {cap : Nat} (h : EB w b e p cap) (hb : Below w.heap.size w w') : EB w' b e p cap := h.below hb (cell_lt h.1)
/-- A point's block, which may be written. -/
def Pt (w : World) (b : Nat) (x y : Int) : Prop := w.cell? ⟨b, 0, none⟩ = some (.int .i64 x) ∧ w.cell? ⟨b, 1, none⟩ = some (.int .i64 y) ∧ w.frozen? ⟨b, 0, none⟩ = false ∧ w.frozen? ⟨b, 1, none⟩ = false
theorem pt_new (w : World) (x y : Int) (t : TypeId) : Pt (w.alloc (.cells #[.int .i64 x, .int .i64 y] t)) w.heap.size x y := by
  refine ⟨?_, ?_, World.frozen?_alloc_at _ _ _ _ rfl, World.frozen?_alloc_at _ _ _ _ rfl⟩ <;> simp [World.cell?_alloc_new]
theorem Pt.lt {w : World} {b : Nat} {x y : Int} (h : Pt w b x y) : b < w.heap.size := cell_lt h.1
theorem Pt.kept {w w' : World} {b : Nat} {x y : Int} (h : Pt w b x y) (hb : Below w.heap.size w w') : Pt w' b x y := by
  have hl := h.lt
  obtain ⟨h1, h2, h3, h4⟩ := h
  exact ⟨kept_cell hb h1, kept_cell hb h2, by rw [hb.frozen (p := ⟨b, 0, none⟩) hl]; exact h3, by rw [hb.frozen (p := ⟨b, 1, none⟩) hl]; exact h4⟩
theorem Pt.set {w : World} {b : Nat} {x y : Int} (h : Pt w b x y) (x' y' : Int) : Pt ((w.setCell ⟨b, 0, none⟩ (.int .i64 x')).setCell ⟨b, 1, none⟩ (.int .i64 y')) b x' y' := by
  obtain ⟨h1, h2, h3, h4⟩ := h
  have ne : ∀ (i j : Nat), i ≠ j → (⟨b, i, none⟩ : Addr) ≠ ⟨b, j, none⟩ := fun i j hij e => hij (congrArg Addr.off e)
  refine ⟨?_, ?_, by simpa using h3, by simpa using h4⟩
  · rw [World.cell?_setCell_other _ _ _ _ (ne 1 0 (by omega))]
    exact World.cell?_setCell_same _ _ _ h1
  · exact World.cell?_setCell_same _ _ _ (by rw [World.cell?_setCell_other _ _ _ _ (ne 0 1 (by omega))]; exact h2)
/-- A circle's block, which may be written. -/
def Cb (w : World) (b : Nat) (th : Bool) (x y : Int) : Prop := (w.cell? ⟨b, 0, none⟩ = some (.bool th) ∧ w.cell? ⟨b, 1, none⟩ = some (.int .i64 x) ∧ w.cell? ⟨b, 2, none⟩ = some (.int .i64 y)) ∧ w.frozen? ⟨b, 0, none⟩ = false ∧ w.frozen? ⟨b, 1, none⟩ = false ∧ w.frozen? ⟨b, 2, none⟩ = false
theorem cb_new (w : World) (th : Bool) (x y : Int) (t : TypeId) : Cb (w.alloc (.cells #[.bool th, .int .i64 x, .int .i64 y] t)) w.heap.size th x y := by
  refine ⟨⟨?_, ?_, ?_⟩, World.frozen?_alloc_at _ _ _ _ rfl, World.frozen?_alloc_at _ _ _ _ rfl, World.frozen?_alloc_at _ _ _ _ rfl⟩ <;> simp [World.cell?_alloc_new]
theorem EB.lt {w : World} {b : Nat} {e : In.Env} {p : Option Addr} {cap : Nat} (h : EB w b e p cap) : b < w.heap.size := cell_lt h.1
theorem cell_new1 (w : World) (v : Value) (t : TypeId) : (w.alloc (.cells #[v] t)).cell? ⟨w.heap.size, 0, none⟩ = some v := by simp
theorem row_stays {e : TypeId} {w w' : World} {B n : Nat} {v : Value} {xs : List Value} (h : w.ownsRow B e 1 v n xs) (hb : Below w.heap.size w w') : w'.ownsRow B e 1 v n xs := by
  refine World.ownsRow.kept (row := none) h ⟨hb.os, hb.tape, hb.output, hb.size, fun k hk _ => hb.block k hk⟩ ?_
  rcases h.2 with ⟨rfl, _⟩ | ⟨g, cap, cur, rfl, _⟩
  · exact .inl rfl
  · exact .inr (by simp [Value.ownBlock])
end Go.Proofs.Ytcchfahdgmcpbaa

/-
  Cells in memory of one's own: the library's slices.Clone at cells, package pattern's clone and blank, and Area.line.
-/
import Derived.Test.YtfjfnbeegojlbaaDoorPAsk
import Derived.Laws.ResultCell
import Derived.Lib.SliceRun
import Derived.Laws.AppendOwnNone
namespace Go.Proofs.YtfjfnbeegojlbaaDoor
open Go.RowKit

theorem cc_rep : ∀ n : Nat, cc (List.replicate n Pt.zc) = List.replicate (n * 6) (.int .i64 0)
  | 0 => rfl
  | n + 1 => by rw [List.replicate_succ, cc_cons, cc_rep n, show (n + 1) * 6 = n * 6 + 1 + 1 + 1 + 1 + 1 + 1 by omega]; rfl
theorem made_cells (n : Nat) : (madeCells (Value.agg #[.int .i64 0, .int .i64 0, .int .i64 0, .int .i64 0, .int .i64 0, .int .i64 0]).cells (n * 6)).toList = cc (List.replicate n Pt.zc) := by
  rw [cc_rep]
  apply List.ext_getElem
  · simp [madeCells]
  · intro i h1 h2
    have : i % 6 = 0 ∨ i % 6 = 1 ∨ i % 6 = 2 ∨ i % 6 = 3 ∨ i % 6 = 4 ∨ i % 6 = 5 := by omega
    rcases this with e | e | e | e | e | e <;> simp [madeCells, Value.cells, e]
theorem grown_base {w w' : World} {B : Nat} {v : Value} (h : w.grownBy w' v.ownBlock) (hv : ∀ k, v.ownBlock = some k → B ≤ k) (hB : B ≤ w.heap.size) : Below B w w' :=
  ⟨h.os, h.tape, h.output, h.size, fun k hk => h.block k (Nat.lt_of_lt_of_le hk hB) (fun e => by have := hv k e.symm; omega)⟩
/-- What a row of one's own says: the value, where it lies. -/
theorem rows_own {w : World} {B n : Nat} {e : TypeId} {v : Value} {l : List Pt.Cl} (h : w.ownsRow B e 6 v n (cc l)) (hn : l.length = n) : ∃ p cap, v = .slice p l.length cap ∧ l.length ≤ cap ∧ Own w B p l := by
  rcases h.2 with ⟨rfl, hz⟩ | ⟨g, cap, cur, rfl, hb, hg, h1, h2, h3, h4⟩
  · have : l = [] := List.eq_nil_of_length_eq_zero (by omega)
    subst this
    exact ⟨none, 0, rfl, Nat.le_refl _, .inl rfl⟩
  · refine ⟨_, cap, by rw [hn], by omega, .inr ⟨g, rfl, hb, (Array.getElem?_eq_some_iff.1 hg).1, ?_, ?_⟩⟩
    · intro j u hu
      have := World.ownsRow.cells h (g := g) rfl j u hu
      rwa [Addr.add_mid] at this
    · intro j hj
      obtain ⟨u, hu⟩ : ∃ u, (cc l)[j]? = some u := ⟨_, List.getElem?_eq_getElem (by rw [cc_len]; exact hj)⟩
      have := World.ownsRow.cells h (g := g) rfl j u hu
      rw [Addr.add_mid] at this
      exact ⟨by rw [this]; rfl, by simp [World.frozen?, hg]⟩
/-- What a call hands back: these cells, in memory of their own. -/
def RetL (l : List Pt.Cl) (B : Nat) (x : Ending) (w' : World) : Prop := ∃ p cap, x = .returned (.slice p l.length cap) ∧ l.length ≤ cap ∧ Own w' B p l
def RetP (r : Int) (l : List Pt.Cl) (B : Nat) (x : Ending) (w' : World) : Prop := ∃ p cap, x = .returned (PV r p l.length cap) ∧ l.length ≤ cap ∧ Own w' B p l
theorem retl_row {w : World} {B n : Nat} {e : TypeId} {v : Value} {l : List Pt.Cl} (h : w.ownsRow B e 6 v n (cc l)) (hn : l.length = n) : RetL l B (.returned v) w := by
  obtain ⟨p, cap, rfl, h1, h2⟩ := rows_own h hn
  exact ⟨p, cap, rfl, h1, h2⟩
end Go.Proofs.YtfjfnbeegojlbaaDoor

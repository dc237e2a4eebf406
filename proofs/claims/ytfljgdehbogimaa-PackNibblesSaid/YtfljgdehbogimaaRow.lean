/-
  A row of one's own: what of a world it hangs on. No walk.
-/
import Derived.Test.YtfljgdehbogimaaBase
namespace Go.Proofs.Ytfljgdehbogimaa
open Go.RowKit

theorem row_of {e : TypeId} {w w' : World} {A g c n : Nat} {xs : List Value} (h : w.ownsRow A e 1 (.slice (some ⟨g, 0, none⟩) n c) n xs) (hb : w'.heap[g]? = w.heap[g]?) : w'.ownsRow A e 1 (.slice (some ⟨g, 0, none⟩) n c) n xs := by
  rcases h.2 with ⟨h0, _⟩ | ⟨g', cap, cur, h1, h2, h3, h4⟩
  · cases h0
  · have hh := h1
    simp only [Value.slice.injEq, Option.some.injEq, Addr.mk.injEq] at hh
    obtain ⟨⟨rfl, _⟩, _, rfl⟩ := hh
    exact ⟨h.1, .inr ⟨_, _, cur, rfl, h2, by rw [hb]; exact h3, h4⟩⟩
theorem row_base {e : TypeId} {w w' : World} {A B g c n : Nat} {xs : List Value} (h : w.ownsRow A e 1 (.slice (some ⟨g, 0, none⟩) n c) n xs) (hb : Below B w w') (hg : g < B) : w'.ownsRow A e 1 (.slice (some ⟨g, 0, none⟩) n c) n xs := by
  rcases h.2 with ⟨h0, _⟩ | ⟨g', cap, cur, h1, h2, h3, h4⟩
  · cases h0
  · have hh := h1
    simp only [Value.slice.injEq, Option.some.injEq, Addr.mk.injEq] at hh
    obtain ⟨⟨rfl, _⟩, _, rfl⟩ := hh
    exact ⟨h.1, .inr ⟨_, _, cur, rfl, h2, by rw [hb.block _ hg]; exact h3, h4⟩⟩
theorem row_lower {e : TypeId} {w : World} {A B n : Nat} {v : Value} {xs : List Value} (h : w.ownsRow B e 1 v n xs) (hA : A ≤ B) : w.ownsRow A e 1 v n xs := by
  rcases h.2 with h1 | ⟨g', cap, cur, h1, h2, h3⟩
  · exact ⟨h.1, .inl h1⟩
  · exact ⟨h.1, .inr ⟨g', cap, cur, h1, Nat.le_trans hA h2, h3⟩⟩
end Go.Proofs.Ytfljgdehbogimaa

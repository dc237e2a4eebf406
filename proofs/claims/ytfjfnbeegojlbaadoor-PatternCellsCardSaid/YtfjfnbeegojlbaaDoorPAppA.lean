/-
  Bytes that are gathered in a row of one's own: one more byte, two, another row; what is kept beside it.
-/
import Derived.Test.YtfjfnbeegojlbaaDoorPMix
import Derived.Deep.AppendLies
import Derived.Laws.OwnMore
import Derived.Laws.BitsAllLaws
namespace Go.Proofs.YtfjfnbeegojlbaaDoor
open Go.RowKit

theorem Tryd.infoU8 : (Tryd.prog.info? 5).map (fun i => (i.zero, i.size, i.bytes)) = some (some (.int .u8 0), 1, 1) := by kernel_rfl
def u8s (l : List Int) : List Value := l.map (Value.int .u8)
theorem u8s_len (l : List Int) : (u8s l).length = l.length := by simp [u8s]
theorem u8s_app (a b : List Int) : u8s (a ++ b) = u8s a ++ u8s b := by simp [u8s]
/-- Bytes in a row of one's own, which is no older than D. -/
def Br (w : World) (D : Nat) (v : Value) (l : List Int) : Prop := w.ownsRow D 5 1 v l.length (u8s l)
theorem br_nil (w : World) (D : Nat) : Br w D (.slice none 0 0) [] := World.ownsRow_nil w D _ _
theorem Br.form {w : World} {D : Nat} {v : Value} {l : List Int} (h : Br w D v l) (hn : 0 < l.length) : ∃ g cap, v = .slice (some ⟨g, 0, none⟩) l.length cap ∧ D ≤ g ∧ g < w.heap.size := World.ownsRow.form h hn
theorem Br.slice {w : World} {D : Nat} {v : Value} {l : List Int} (h : Br w D v l) : ∃ p cap, v = .slice p l.length cap := by
  rcases h.2 with ⟨rfl, h0⟩ | ⟨g, cap, cur, rfl, _⟩
  · exact ⟨none, 0, by rw [h0]⟩
  · exact ⟨_, cap, rfl⟩
theorem Br.lt {w : World} {D : Nat} {v : Value} {l : List Int} (h : Br w D v l) : ∀ k, v.ownBlock = some k → D ≤ k ∧ k < w.heap.size := World.ownsRow.lt h
theorem Br.grown {w w' : World} {D : Nat} {v : Value} {l : List Int} {r : Option Nat} (h : Br w D v l) (hg : w.grownBy w' r) (hne : v.ownBlock = none ∨ v.ownBlock ≠ r) : Br w' D v l := World.ownsRow.kept h hg hne
theorem Br.kept {w w' : World} {D : Nat} {v : Value} {l : List Int} (h : Br w D v l) (hb : Below w.heap.size w w') : Br w' D v l := by
  refine World.ownsRow.kept (row := none) h ⟨hb.os, hb.tape, hb.output, hb.size, fun k hk _ => hb.block k hk⟩ ?_
  rcases h.2 with ⟨rfl, _⟩ | ⟨g, cap, cur, rfl, _⟩
  · exact .inl rfl
  · exact .inr (by simp [Value.ownBlock])
theorem Br.drew {w : World} {D : Nat} {v : Value} {l : List Int} (h : Br w D v l) : Br w.drew D v l := h
theorem Br.byte {w : World} {D g cap n : Nat} {l : List Int} (h : Br w D (.slice (some ⟨g, 0, none⟩) n cap) l) {j : Nat} (hj : j < l.length) : w.cell? ⟨g, j, none⟩ = some (.int .u8 (l.getD j 0)) ∧ w.frozen? ⟨g, j, none⟩ = false := by
  have hn : n = l.length := by
    rcases h.2 with ⟨h', _⟩ | ⟨g', cap', cur, h', _⟩
    · simp at h'
    · simp only [Value.slice.injEq] at h'
      exact h'.2.1
  subst hn
  refine ⟨?_, World.ownsRow.frozenAt h j⟩
  have := World.ownsRow.cells h (g := g) rfl j (.int .u8 (l.getD j 0)) (by simp [u8s, List.getD_eq_getElem?_getD, hj])
  rwa [Addr.add_mid, Nat.zero_add] at this
theorem Br.len {w : World} {D g cap n : Nat} {l : List Int} (h : Br w D (.slice (some ⟨g, 0, none⟩) n cap) l) : n = l.length := by
  rcases h.2 with ⟨h', _⟩ | ⟨g', cap', cur, h', _⟩
  · simp at h'
  · simp only [Value.slice.injEq] at h'
    exact h'.2.1
theorem Br.set {w : World} {D g cap n : Nat} {l : List Int} (h : Br w D (.slice (some ⟨g, 0, none⟩) n cap) l) (j : Nat) (x : Int) : Br (w.setCell ⟨g, j, none⟩ (.int .u8 x)) D (.slice (some ⟨g, 0, none⟩) n cap) (l.set j x) := by
  obtain rfl := h.len
  have := (World.ownsRow.stored h j (.int .u8 x)).1
  unfold Br u8s at *
  rwa [List.length_set, List.map_set]
theorem one_new (w : World) (x : Value) (t : TypeId) : ∀ j u, ([x] : List Value)[j]? = some u → (w.alloc (.cells #[x] t)).cell? ((⟨w.heap.size, 0, none⟩ : Addr).add j) = some u := by
  intro j u hu
  rw [Addr.add_mid]
  have := range_box w [x] t j u hu
  exact this
section
variable {ops : Array Oper} {rest : List Oper} {o : Oper} {a : Act} {w : World} {Q : Exit → Act → World → Prop}
/-- One more byte. -/
theorem app_one (hgd : o.guard = none) (s x : Operand) (ho : o.op = .call { callee := .builtin .append, args := #[s, x], argTypes := #[46, 46] })
    {D : Nat} {v : Value} {l : List Int} {n : Int} (hs : a.eval s = v) (hb : Br w D v l) (hD : D ≤ w.heap.size) (hx : a.eval x = .slice (some ⟨w.heap.size, 0, none⟩) 1 1) (hl : l.length ≤ 1000000)
    (h : ∀ g cap w', Br w' D (.slice (some ⟨g, 0, none⟩) (l.length + 1) cap) (l ++ [n]) → w.grownBy w' v.ownBlock → (v.ownBlock = some g ∨ w.heap.size ≤ g) → D ≤ g → g < w'.heap.size → wpList Tryd.prog ops Q rest (a.put o.dst (.slice (some ⟨g, 0, none⟩) (l.length + 1) cap)) w') :
    wpList Tryd.prog ops Q (o :: rest) a (w.alloc (.cells #[.int .u8 n] 5)) := by
  obtain ⟨i0, hinf, hz0, hz1, hz2⟩ := info_parts Tryd.infoU8
  refine wpList_append_lies _ hgd s x 46 ho D 5 i0 (.int .u8 0) 1 1 Tryd.underlying46 hinf hz0 hz1 hz2 rfl (by decide) v l.length (u8s l) hs (World.ownsRow.alloc hb _) ⟨w.heap.size, 0, none⟩ 1 1 [.int .u8 n] hx rfl (one_new w _ _) (by simp [Value.oneCell']) (by decide) (by unfold maxLen; omega) (by omega) (by simp; omega) _ rfl ?_
  intro g cap w' h2 h3 h4 h5
  have hx2 : Br w' D (.slice (some ⟨g, 0, none⟩) (l.length + 1) cap) (l ++ [n]) := by
    unfold Br
    rw [List.length_append, u8s_app]
    exact h2
  refine h g cap w' hx2 (grownBy_trans (World.grownBy_alloc w _ _) h3) ?_ (hx2.lt g rfl).1 h5
  rcases h4 with h4 | h4
  · exact .inl h4
  · exact .inr (by rw [h4]; simp)
end
end Go.Proofs.YtfjfnbeegojlbaaDoor

/-
  The reference's Pack: the last parts of each channel as slices, words and laws.
-/
import Derived.Test.YtfjfnbeegojlbaaRPart
import Derived.Laws.AppendOwnNone
namespace Go.Proofs.Ytfjfnbeegojlbaa
open Go.RowKit

namespace Pt
theorem pv_inj {k : Nat} (hk : k < 4) {c d : Cl} (h : numsOf k (pv k c) = numsOf k (pv k d)) : pv k c = pv k d := by
  match k, hk with
  | 0, _ => simp [numsOf, num, pv] at h ⊢; exact h
  | 1, _ => simp [numsOf, num, pv] at h ⊢; exact h
  | 2, _ => simp [numsOf, num, pv] at h ⊢; exact h
  | 3, _ => simp [numsOf, num, pv] at h ⊢; exact h
theorem pv_pw_same {k : Nat} (hk : k < 4) (c d : Cl) : pv k (pw k c (pv k d)) = pv k d := by
  match k, hk with
  | 0, _ => rfl
  | 1, _ => rfl
  | 2, _ => rfl
  | 3, _ => rfl
theorem pv_pw_other {k j : Nat} (hk : k < 4) (hj : j < 4) (h : j ≠ k) (c : Cl) (v : Int × Int) : pv j (pw k c v) = pv j c := by
  match k, hk, j, hj with
  | 0, _, 0, _ => exact absurd rfl h
  | 0, _, 1, _ => rfl
  | 0, _, 2, _ => rfl
  | 0, _, 3, _ => rfl
  | 1, _, 0, _ => rfl
  | 1, _, 1, _ => exact absurd rfl h
  | 1, _, 2, _ => rfl
  | 1, _, 3, _ => rfl
  | 2, _, 0, _ => rfl
  | 2, _, 1, _ => rfl
  | 2, _, 2, _ => exact absurd rfl h
  | 2, _, 3, _ => rfl
  | 3, _, 0, _ => rfl
  | 3, _, 1, _ => rfl
  | 3, _, 2, _ => rfl
  | 3, _, 3, _ => exact absurd rfl h
theorem set_self (l : List Cl) (x : Nat) (h : x < l.length) : l.set x (at' l x) = l := by
  refine ext_at (by simp) fun k _ => ?_
  rw [at_set _ _ _ h]
  split
  · rename_i e; rw [e]
  · rfl
theorem set_set (l : List Cl) (x : Nat) (c d : Cl) : (l.set x c).set x d = l.set x d := by simp
end Pt
def sv (k : Nat) : Option Nat → Value | none => .slice none 0 0 | some g => sl k g
def Sl (w : World) (k : Nat) (v : Int × Int) : Option Nat → Prop | none => v.1 = 0 | some g => v.1 ≠ 0 ∧ Sv w k v g
/-- The last parts of each channel in memory. -/
structure La (w : World) (bL C : Nat) (ls : List Pt.Cl) (A : Nat → Prop) : Prop where
  lt : bL < w.heap.size
  cell : ∀ x k, x < C → k < 4 → ∃ o : Option Nat, w.cell? ⟨bL, x * 4 + k, none⟩ = some (sv k o) ∧ Sl w k (Pt.pv k (Pt.at' ls x)) o ∧ ∀ g, o = some g → g ≠ bL ∧ A g
  fz : ∀ x k, x < C → k < 4 → w.frozen? ⟨bL, x * 4 + k, none⟩ = false
theorem La.grown {w w' : World} {bL C : Nat} {ls : List Pt.Cl} {A A' : Nat → Prop} {r : Option Nat} (h : La w bL C ls A) (hg : w.grownBy w' r) (h1 : r ≠ some bL) (h2 : ∀ g, g < w.heap.size → A g → r ≠ some g) (h3 : ∀ g, g < w.heap.size → A g → A' g) : La w' bL C ls A' := by
  have hb : w'.heap[bL]? = w.heap[bL]? := hg.block bL h.lt (fun e => h1 e.symm)
  refine ⟨Nat.lt_of_lt_of_le h.lt hg.size, fun x k hx hk => ?_, fun x k hx hk => ?_⟩
  · obtain ⟨o, c1, c2, c3⟩ := h.cell x k hx hk
    refine ⟨o, by rw [World.cell?_of_block (a := ⟨bL, x * 4 + k, none⟩) hb]; exact c1, ?_, fun g e => ?_⟩
    · cases o with
      | none => exact c2
      | some g =>
        obtain ⟨d1, d2, d3⟩ := c2
        refine ⟨d1, Nat.lt_of_lt_of_le d2 hg.size, fun j v hv => ?_⟩
        rw [World.cell?_of_block (a := ⟨g, 0 + j, none⟩) (hg.block g d2 (fun e => h2 g d2 (c3 g rfl).2 e.symm))]
        exact d3 j v hv
    · subst e
      obtain ⟨d1, d2, d3⟩ := c2
      exact ⟨(c3 g rfl).1, h3 g d2 (c3 g rfl).2⟩
  · rw [World.frozen?_of_block (a := ⟨bL, x * 4 + k, none⟩) hb]
    exact h.fz x k hx hk
theorem La.below {w w' : World} {bL C : Nat} {ls : List Pt.Cl} {A : Nat → Prop} (h : La w bL C ls A) (hb : Below w.heap.size w w') : La w' bL C ls A :=
  h.grown (r := none) (grownBy_of hb) (by simp) (fun _ _ _ => by simp) (fun _ _ h => h)
theorem La.mono {w : World} {bL C : Nat} {ls : List Pt.Cl} {A A' : Nat → Prop} (h : La w bL C ls A) (h3 : ∀ g, g < w.heap.size → A g → A' g) : La w bL C ls A' :=
  h.grown (r := none) (grownBy_of (Below.refl _ _)) (by simp) (fun _ _ _ => by simp) h3
theorem La.put {w : World} {bL C : Nat} {ls : List Pt.Cl} {A : Nat → Prop} {x k g : Nat} {d : Pt.Cl} (h : La w bL C ls A) (hx : x < C) (hk : k < 4) (hl : x < ls.length) (hs : Sv w k (Pt.pv k d) g) (h1 : (Pt.pv k d).1 ≠ 0) (hg : g ≠ bL) (hA : A g) :
    La (w.setCell ⟨bL, x * 4 + k, none⟩ (sl k g)) bL C (ls.set x (Pt.pw k (Pt.at' ls x) (Pt.pv k d))) A := by
  have hgr : w.grownBy (w.setCell ⟨bL, x * 4 + k, none⟩ (sl k g)) (some bL) := grown_set _ _ _ _
  have hth : ∀ b : Nat, b ≠ bL → ∀ o v, w.cell? ⟨b, o, none⟩ = some v → (w.setCell ⟨bL, x * 4 + k, none⟩ (sl k g)).cell? ⟨b, o, none⟩ = some v := fun b hb o v hv => by
    rw [World.cell?_setCell_other _ _ _ _ (fun e => hb (congrArg Addr.block e).symm)]; exact hv
  obtain ⟨o0, e0, -, -⟩ := h.cell x k hx hk
  refine ⟨by simpa using h.lt, fun y j hy hj => ?_, fun y j hy hj => by simpa using h.fz y j hy hj⟩
  by_cases e : y = x ∧ j = k
  · obtain ⟨rfl, rfl⟩ := e
    refine ⟨some g, World.cell?_setCell_same _ _ _ e0, ?_, fun g' e => by cases e; exact ⟨hg, hA⟩⟩
    rw [Pt.at_set _ _ _ hl, if_pos rfl, Pt.pv_pw_same hk]
    exact ⟨h1, Nat.lt_of_lt_of_le hs.1 hgr.size, fun i v hv => hth g hg _ _ (hs.2 i v hv)⟩
  · obtain ⟨o, c1, c2, c3⟩ := h.cell y j hy hj
    refine ⟨o, ?_, ?_, c3⟩
    · rw [World.cell?_setCell_other _ _ _ _ (fun e' => by have := congrArg Addr.off e'; simp at this; exact e (by omega))]
      exact c1
    · have hv : Pt.pv j (Pt.at' (ls.set x (Pt.pw k (Pt.at' ls x) (Pt.pv k d))) y) = Pt.pv j (Pt.at' ls y) := by
        rw [Pt.at_set _ _ _ hl]
        by_cases ey : y = x
        · subst ey
          rw [if_pos rfl, Pt.pv_pw_other hk hj (fun ej => e ⟨rfl, ej⟩)]
        · rw [if_neg ey]
      rw [hv]
      cases o with
      | none => exact c2
      | some g' => exact ⟨c2.1, Nat.lt_of_lt_of_le c2.2.1 hgr.size, fun i v hv => hth g' (c3 g' rfl).1 _ _ (c2.2.2 i v hv)⟩
theorem or_bit_all : ∀ k : Fin 4, ∀ m : Fin 256, bits BinOp.or IntKind.i64 ((m.val : Nat) : Int) (wrap64 (2 ^ k.val)) = ((m.val ||| 1 <<< k.val : Nat) : Int) ∧ bits BinOp.or IntKind.i64 ((m.val : Nat) : Int) (wrap64 (16 * 2 ^ k.val)) = ((m.val ||| 16 <<< k.val : Nat) : Int) := by decide +kernel
theorem or_bit {m k : Nat} (hm : m < 256) (hk : k < 4) : bits BinOp.or IntKind.i64 (m : Int) (wrap64 (2 ^ k)) = ((m ||| 1 <<< k : Nat) : Int) ∧ bits BinOp.or IntKind.i64 (m : Int) (wrap64 (16 * 2 ^ k)) = ((m ||| 16 <<< k : Nat) : Int) := or_bit_all ⟨k, hk⟩ ⟨m, hm⟩
section
variable {ops : Array Oper} {rest : List Oper} {o : Oper} {a : Act} {w : World} {Q : Exit → Act → World → Prop}
theorem two_new (w : World) (x y : Value) (t : TypeId) : ∀ j u, ([x, y] : List Value)[j]? = some u → (w.alloc (.cells #[x, y] t)).cell? ((⟨w.heap.size, 0, none⟩ : Addr).add j) = some u := by
  intro j u hu
  rw [Addr.add_mid]
  have := range_box w [x, y] t j u hu
  exact this
/-- Two more bytes. -/
theorem app_two (hgd : o.guard = none) (s x : Operand) (ho : o.op = .call { callee := .builtin .append, args := #[s, x], argTypes := #[44, 44] })
    {D : Nat} {v : Value} {l : List Int} {n m : Int} (hs : a.eval s = v) (hb : Br w D v l) (hD : D ≤ w.heap.size) (hx : a.eval x = .slice (some ⟨w.heap.size, 0, none⟩) 2 2) (hl : l.length ≤ 1000000)
    (h : ∀ g cap w', Br w' D (.slice (some ⟨g, 0, none⟩) (l.length + 2) cap) (l ++ [n, m]) → w.grownBy w' v.ownBlock → (v.ownBlock = some g ∨ w.heap.size ≤ g) → D ≤ g → g < w'.heap.size → wpList Try.prog ops Q rest (a.put o.dst (.slice (some ⟨g, 0, none⟩) (l.length + 2) cap)) w') :
    wpList Try.prog ops Q (o :: rest) a (w.alloc (.cells #[.int .u8 n, .int .u8 m] 5)) := by
  obtain ⟨i0, hinf, hz0, hz1, hz2⟩ := info_parts Try.infoU8
  refine wpList_append_lies _ hgd s x 44 ho D 5 i0 (.int .u8 0) 1 1 Try.underlying44 hinf hz0 hz1 hz2 rfl (by decide) v l.length (u8s l) hs (World.ownsRow.alloc hb _) ⟨w.heap.size, 0, none⟩ 2 2 [.int .u8 n, .int .u8 m] hx rfl (two_new w _ _ _) (by simp [Value.oneCell']) (by decide) (by unfold maxLen; omega) (by omega) (by simp; omega) _ rfl ?_
  intro g cap w' h2 h3 h4 h5
  have hx2 : Br w' D (.slice (some ⟨g, 0, none⟩) (l.length + 2) cap) (l ++ [n, m]) := by
    unfold Br
    rw [List.length_append, u8s_app]
    exact h2
  refine h g cap w' hx2 (grownBy_trans (World.grownBy_alloc w _ _) h3) ?_ (hx2.lt g rfl).1 h5
  rcases h4 with h4 | h4
  · exact .inl h4
  · exact .inr (by rw [h4]; simp)
/-- All bytes that lie in a row of numbers. -/
theorem app_all (hgd : o.guard = none) (s x : Operand) (ho : o.op = .call { callee := .builtin .append, args := #[s, x], argTypes := #[44, 44] })
    {D : Nat} {v : Value} {l ys : List Int} {b off cap : Nat} (hs : a.eval s = v) (hb : Br w D v l) (hD : D ≤ w.heap.size) (hx : a.eval x = .slice (some ⟨b, off, none⟩) ys.length cap) (hr : w.rangeAt b off (u8s ys)) (hy : 0 < ys.length) (hl : l.length ≤ 1000000) (hl2 : ys.length ≤ 1000000)
    (h : ∀ g cap w', Br w' D (.slice (some ⟨g, 0, none⟩) (l.length + ys.length) cap) (l ++ ys) → w.grownBy w' v.ownBlock → (v.ownBlock = some g ∨ w.heap.size ≤ g) → D ≤ g → g < w'.heap.size → wpList Try.prog ops Q rest (a.put o.dst (.slice (some ⟨g, 0, none⟩) (l.length + ys.length) cap)) w') :
    wpList Try.prog ops Q (o :: rest) a w := by
  obtain ⟨i0, hinf, hz0, hz1, hz2⟩ := info_parts Try.infoU8
  refine wpList_append_lies _ hgd s x 44 ho D 5 i0 (.int .u8 0) 1 1 Try.underlying44 hinf hz0 hz1 hz2 rfl (by decide) v l.length (u8s l) hs hb ⟨b, off, none⟩ ys.length cap (u8s ys) hx (by rw [u8s_len]; omega) (fun j u hu => by rw [Addr.add_mid]; exact hr j u hu) (fun u hu => by simp [u8s] at hu; obtain ⟨z, -, rfl⟩ := hu; rfl) hy (by unfold maxLen; omega) (by omega) hD _ rfl ?_
  intro g cap w' h2 h3 h4 h5
  have hx2 : Br w' D (.slice (some ⟨g, 0, none⟩) (l.length + ys.length) cap) (l ++ ys) := by
    unfold Br
    rw [List.length_append, u8s_app]
    exact h2
  exact h g cap w' hx2 h3 (h4.imp id fun e => by omega) (hx2.lt g rfl).1 h5
/-- None more. -/
theorem app_none (hgd : o.guard = none) (s x : Operand) (ho : o.op = .call { callee := .builtin .append, args := #[s, x], argTypes := #[44, 44] })
    {D : Nat} {v : Value} {l : List Int} (hs : a.eval s = v) (hb : Br w D v l) (hx : a.eval x = .slice none 0 0)
    (h : wpList Try.prog ops Q rest (a.put o.dst v) w) : wpList Try.prog ops Q (o :: rest) a w := by
  obtain ⟨i0, hinf, hz0, hz1, hz2⟩ := info_parts Try.infoU8
  exact wpList_append_own_none hgd s x 44 ho D 5 i0 1 Try.underlying44 hinf v l.length (u8s l) hs hb hx h
end
theorem Try.infoSs3 : (Try.prog.info? 72).map (fun i => (i.zero, i.size, i.bytes)) = some (some (.agg #[.slice none 0 0, .slice none 0 0, .slice none 0 0, .slice none 0 0]), 4, 96) := by kernel_rfl
theorem made_ss (n : Nat) : (madeCells (Value.agg #[.slice none 0 0, .slice none 0 0, .slice none 0 0, .slice none 0 0]).cells (n * 4)).toList = List.replicate (n * 4) (.slice none 0 0) := by
  apply List.ext_getElem
  · simp [madeCells]
  · intro i h1 h2
    have : i % 4 = 0 ∨ i % 4 = 1 ∨ i % 4 = 2 ∨ i % 4 = 3 := by omega
    rcases this with e | e | e | e <;> simp [madeCells, Value.cells, e]
theorem La.made {w : World} {B g C cap : Nat} (h : w.ownsRow B 72 4 (.slice (some ⟨g, 0, none⟩) C cap) C (List.replicate (C * 4) (.slice none 0 0))) (A : Nat → Prop) : La w g C (List.replicate 16 Pt.zc) A := by
  have hlt := (World.ownsRow.lt h g rfl).2
  refine ⟨hlt, fun x k hx hk => ⟨none, ?_, ?_, fun _ e => by simp at e⟩, fun x k hx hk => World.ownsRow.frozenAt h _⟩
  · have := World.ownsRow.cells h (g := g) rfl (x * 4 + k) (.slice none 0 0) (by rw [List.getElem?_replicate, if_pos (by omega)])
    rwa [Addr.add_mid, Nat.zero_add] at this
  · show (Pt.pv k _).1 = 0
    have e : Pt.at' (List.replicate 16 Pt.zc) x = Pt.zc := by
      simp only [Pt.at', List.getD_eq_getElem?_getD, List.getElem?_replicate]
      split <;> rfl
    rw [e]
    unfold Pt.pv Pt.zc
    split <;> rfl
theorem Fy.of_put {D bL : Nat} {w w' : World} (hg : w.grownBy w' (some bL)) (hD : D ≤ w.heap.size) : Fy D bL w w' := ⟨hg.os, hg.tape, hg.output, hg.size, fun k hk hne => hg.block k (by omega) (fun e => hne (by simpa using e))⟩
end Go.Proofs.Ytfjfnbeegojlbaa

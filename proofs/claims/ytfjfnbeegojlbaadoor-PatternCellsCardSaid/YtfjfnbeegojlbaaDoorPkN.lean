/-
  Mathematics of packing: a pattern's bytes. No program.
-/
import Derived.Test.YtfjfnbeegojlbaaDoorPkM
import Derived.Test.YtfjfnbeegojlbaaDoorPEq
namespace Go.Proofs.YtfjfnbeegojlbaaDoor
open Go.RowKit

namespace Pt
/-- Packed so far: the bytes, the last parts of each channel. -/
structure Pq where
  bs : List Int
  ls : List Cl
def pkC (x : Nat) (c : Cl) (q : Pq) : Pq := if eqC c zc then q else ⟨q.bs ++ ((x + 1 : Nat) : Int) :: ((pst c (at' q.ls x) 4).m : Int) :: (pst c (at' q.ls x) 4).bs, q.ls.set x (pst c (at' q.ls x) 4).la⟩
def pkX (l : List Cl) (C y : Nat) : Nat → Pq → Pq
  | 0, q => q
  | x + 1, q => pkC x (at' l (y * C + x)) (pkX l C y x q)
def pkY (l : List Cl) (C : Nat) : Nat → Pq
  | 0 => ⟨[], List.replicate 16 zc⟩
  | y + 1 => ⟨(pkX l C y C (pkY l C y)).bs ++ [0], (pkX l C y C (pkY l C y)).ls⟩
def packL (l : List Cl) (R C : Nat) : List Int := (pkY l C R).bs
theorem pkC_ls (x : Nat) (c : Cl) (q : Pq) : (pkC x c q).ls.length = q.ls.length := by
  unfold pkC
  split
  · rfl
  · simp
theorem pkX_ls (l : List Cl) (C y : Nat) : ∀ x q, (pkX l C y x q).ls.length = q.ls.length
  | 0, _ => rfl
  | x + 1, q => by rw [pkX, pkC_ls, pkX_ls l C y x q]
theorem pkY_ls (l : List Cl) (C : Nat) : ∀ y, (pkY l C y).ls.length = 16
  | 0 => by simp [pkY]
  | y + 1 => by rw [pkY]; show (pkX l C y C (pkY l C y)).ls.length = 16; rw [pkX_ls, pkY_ls l C y]
theorem pkC_bs (x : Nat) (c : Cl) (q : Pq) : (pkC x c q).bs.length ≤ q.bs.length + 10 := by
  unfold pkC
  split
  · omega
  · have := pst_len c (at' q.ls x) 4
    simp
    omega
theorem pkX_bs (l : List Cl) (C y : Nat) : ∀ x q, (pkX l C y x q).bs.length ≤ q.bs.length + 10 * x
  | 0, _ => Nat.le_refl _
  | x + 1, q => by
    rw [pkX]
    have h1 := pkC_bs x (at' l (y * C + x)) (pkX l C y x q)
    have h2 := pkX_bs l C y x q
    omega
theorem pkY_bs (l : List Cl) (C : Nat) (hC : C ≤ 16) : ∀ y, (pkY l C y).bs.length ≤ 161 * y
  | 0 => Nat.le_refl _
  | y + 1 => by
    have h1 := pkX_bs l C y C (pkY l C y)
    have h2 := pkY_bs l C hC y
    show ((pkX l C y C (pkY l C y)).bs ++ [0]).length ≤ _
    simp
    omega
end Pt
end Go.Proofs.YtfjfnbeegojlbaaDoor

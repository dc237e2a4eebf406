/-
  Mathematics of packing: a cell's mask, its bytes, the last parts of its channel. No program.
-/
import Derived.Test.YtfjfnbeegojlbaaDoorBase
namespace Go.Proofs.YtfjfnbeegojlbaaDoor
open Go.RowKit

namespace Pt
/-- The numbers of a cell's part. -/
def pv (k : Nat) (c : Cl) : Int × Int := match k with | 0 => (c.nt, 0) | 1 => (c.it, 0) | 2 => (c.vc, c.va) | _ => (c.ef, c.pa)
/-- A cell with another part. -/
def pw (k : Nat) (c : Cl) (v : Int × Int) : Cl := match k with | 0 => { c with nt := v.1 } | 1 => { c with it := v.1 } | 2 => { c with vc := v.1, va := v.2 } | _ => { c with ef := v.1, pa := v.2 }
def isSet (v : Int × Int) : Bool := v.1 != 0
/-- How many numbers a part has; how many characters its text has. -/
def num (k : Nat) : Nat := match k with | 0 => 1 | 1 => 1 | _ => 2
def wid (k : Nat) : Nat := match k with | 1 => 2 | _ => 3
theorem num_le (k : Nat) : 1 ≤ num k ∧ num k ≤ 2 := by unfold num; split <;> decide
/-- Packed so far: the mask, the bytes behind it, the last parts. -/
structure Ps where
  m : Nat
  bs : List Int
  la : Cl
def numsOf (k : Nat) (v : Int × Int) : List Int := [v.1, v.2].take (num k)
def pst (c la : Cl) : Nat → Ps
  | 0 => ⟨0, [], la⟩
  | k + 1 => if isSet (pv k c) then (if pv k c = pv k (pst c la k).la then ⟨(pst c la k).m ||| 16 <<< k, (pst c la k).bs, (pst c la k).la⟩ else ⟨(pst c la k).m ||| 1 <<< k, (pst c la k).bs ++ numsOf k (pv k c), pw k (pst c la k).la (pv k c)⟩) else pst c la k
theorem pst_unset {c la : Cl} {k : Nat} (h : isSet (pv k c) = false) : pst c la (k + 1) = pst c la k := by show (if _ then _ else _) = _; rw [h]; rfl
theorem pst_same {c la : Cl} {k : Nat} (h : isSet (pv k c) = true) (h2 : pv k c = pv k (pst c la k).la) : pst c la (k + 1) = ⟨(pst c la k).m ||| 16 <<< k, (pst c la k).bs, (pst c la k).la⟩ := by show (if _ then _ else _) = _; rw [if_pos h, if_pos h2]
theorem pst_new {c la : Cl} {k : Nat} (h : isSet (pv k c) = true) (h2 : pv k c ≠ pv k (pst c la k).la) : pst c la (k + 1) = ⟨(pst c la k).m ||| 1 <<< k, (pst c la k).bs ++ numsOf k (pv k c), pw k (pst c la k).la (pv k c)⟩ := by show (if _ then _ else _) = _; rw [if_pos h, if_neg h2]
theorem pst_m (c la : Cl) : ∀ k, k ≤ 4 → (pst c la k).m < 256
  | 0, _ => show (0 : Nat) < 256 by decide
  | k + 1, hk => by
    have ih := pst_m c la k (by omega)
    have h1 : 16 <<< k < 2 ^ 8 := by
      match k, hk with
      | 0, _ => decide
      | 1, _ => decide
      | 2, _ => decide
      | 3, _ => decide
    have h2 : 1 <<< k < 2 ^ 8 := by
      match k, hk with
      | 0, _ => decide
      | 1, _ => decide
      | 2, _ => decide
      | 3, _ => decide
    show (if _ then _ else _ : Ps).m < 256
    by_cases e1 : isSet (pv k c) = true
    · rw [if_pos e1]
      by_cases e2 : pv k c = pv k (pst c la k).la
      · rw [if_pos e2]; exact Nat.or_lt_two_pow ih h1
      · rw [if_neg e2]; exact Nat.or_lt_two_pow ih h2
    · rw [if_neg e1]; exact ih
theorem pst_len (c la : Cl) : ∀ k, (pst c la k).bs.length ≤ 2 * k
  | 0 => Nat.le_refl _
  | k + 1 => by
    have ih := pst_len c la k
    show (if _ then _ else _ : Ps).bs.length ≤ _
    by_cases e1 : isSet (pv k c) = true
    · rw [if_pos e1]
      by_cases e2 : pv k c = pv k (pst c la k).la
      · rw [if_pos e2]; show (pst c la k).bs.length ≤ _; omega
      · rw [if_neg e2]
        show ((pst c la k).bs ++ numsOf k (pv k c)).length ≤ _
        have := (num_le k).2
        simp [numsOf]
        omega
    · rw [if_neg e1]; omega
/-- Numbers of valid cells are bytes. -/
theorem vcl_bytes {c : Cl} (h : vcl c = true) (k : Nat) : (0 ≤ (pv k c).1 ∧ (pv k c).1 ≤ 255) ∧ 0 ≤ (pv k c).2 ∧ (pv k c).2 ≤ 255 := by
  simp only [vcl, Bool.and_eq_true, wth_iff] at h
  obtain ⟨h1, h2, h3, h4, -, h5, h6, -⟩ := h
  simp only [vnt, decide_eq_true_eq] at h1
  unfold pv
  split <;> simp only <;> omega
end Pt
end Go.Proofs.YtfjfnbeegojlbaaDoor

/-
  Plain mathematics for package sample: a move as a place and a direction, by the kind of loop. It says nothing of the program.
-/
import Derived.Test.YtmaldhjcdkidmaaCur
namespace Go.Proofs.Ytmaldhjcdkidmaa.Sm

def swP (s e u : Int) : Int := if u % (2 * (e - s)) < e - s then s + u % (2 * (e - s)) else s + 2 * (e - s) - 1 - u % (2 * (e - s))
def swB (s e u : Int) : Bool := if u % (2 * (e - s)) < e - s then false else true
theorem turned_sw (s e u : Int) : turned s (e - s) u = curAt (swP s e u) (swB s e u) := by
  unfold turned swP swB
  split <;> rfl
theorem swP_in {s e : Int} (u : Int) (h : s < e) : s ≤ swP s e u ∧ swP s e u < e := by
  have a := mod_lo (x := u) (w := 2 * (e - s)) (by omega)
  have b := mod_hi (x := u) (w := 2 * (e - s)) (by omega)
  unfold swP
  split <;> omega
def fP (k s e x st : Int) : Int := if k = 1 ∧ e ≤ x + st then s + (x + st - s) % (e - s) else if k = 2 ∧ e ≤ x + st then swP s e (x + st - s) else x + st
def fB (k s e x st : Int) : Bool := if k = 2 ∧ e ≤ x + st then swB s e (x + st - s) else false
def aP (k s e x st : Int) : Int := if k = 1 ∧ s ≤ x ∧ x - st < s then s + (x - st - s) % (e - s) else if k = 2 ∧ s ≤ x then swP s e (2 * (e - s) - 1 - ((if e ≤ x then e - 1 else x) - s) + st) else x - st
def aB (k s e x st : Int) : Bool := if k = 2 ∧ s ≤ x then swB s e (2 * (e - s) - 1 - ((if e ≤ x then e - 1 else x) - s) + st) else true
/-- A place with a direction, or the end where it lies outside the data. -/
def mvd (p : Int) (b : Bool) (n : Int) : Cur := if 0 ≤ p ∧ p < n then curAt p b else over
theorem mvd_in {p n : Int} (b : Bool) (h : 0 ≤ p ∧ p < n) : mvd p b n = curAt p b := by unfold mvd; rw [if_pos h]
theorem mvd_out {p n : Int} (b : Bool) (h : p < 0 ∨ n ≤ p) : mvd p b n = over := by unfold mvd; rw [if_neg (by omega)]
theorem fore_mv {k s e n x st : Int} (hr : Ring k s e n) (h0 : 0 ≤ x) (hs : 0 ≤ st) : fore k s e n x st = mvd (fP k s e x st) (fB k s e x st) n := by
  have hl := hr.loop
  unfold fore fP fB
  by_cases h1 : k = 1 ∧ e ≤ x + st
  · have a := mod_lo (x := x + st - s) (w := e - s) (by omega)
    have b := mod_hi (x := x + st - s) (w := e - s) (by omega)
    rw [if_pos h1, if_pos h1, if_neg (by omega), mvd_in _ (by omega)]
  · rw [if_neg h1, if_neg h1]
    by_cases h2 : k = 2 ∧ e ≤ x + st
    · have a := swP_in (x + st - s) (s := s) (e := e) (by omega)
      rw [if_pos h2, if_pos h2, if_pos h2, turned_sw, mvd_in _ (by omega)]
    · rw [if_neg h2, if_neg h2, if_neg h2]
      by_cases h3 : n ≤ x + st
      · rw [if_pos h3, mvd_out _ (.inr h3)]
      · rw [if_neg h3, mvd_in _ (by omega)]
theorem aft_mv {k s e n x st : Int} (hr : Ring k s e n) (h1 : x < n) (hs : 0 ≤ st) : aft k s e x st = mvd (aP k s e x st) (aB k s e x st) n := by
  have hl := hr.loop
  unfold aft aP aB
  by_cases h1 : k = 1 ∧ s ≤ x ∧ x - st < s
  · have a := mod_lo (x := x - st - s) (w := e - s) (by omega)
    have b := mod_hi (x := x - st - s) (w := e - s) (by omega)
    rw [if_pos h1, if_pos h1, if_neg (by omega), mvd_in _ (by omega)]
  · rw [if_neg h1, if_neg h1]
    by_cases h2 : k = 2 ∧ s ≤ x
    · have a := swP_in (2 * (e - s) - 1 - ((if e ≤ x then e - 1 else x) - s) + st) (s := s) (e := e) (by omega)
      rw [if_pos h2, if_pos h2, if_pos h2, turned_sw, mvd_in _ (by omega)]
    · rw [if_neg h2, if_neg h2, if_neg h2]
      by_cases h3 : x - st < 0
      · rw [if_pos h3, mvd_out _ (.inl h3)]
      · rw [if_neg h3, mvd_in _ (by omega)]
end Go.Proofs.Ytmaldhjcdkidmaa.Sm

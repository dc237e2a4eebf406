/-
  What each function of numbers of package tone returns, for any numbers, as plain functions: 0 where an argument is out of range.
-/
import Derived.Test.YtgoeflfnlanlnaaDoorMath
namespace Go.Proofs.YtgoeflfnlanlnaaDoor.Tm
def tNext (s : Int) : Int := if 0 ≤ s ∧ s ≤ 2147483647 then nx s else 0
def tPow (i : Int) : Int := if 0 ≤ i ∧ i ≤ 767 then R i.toNat / 16777216 else 0
def tExp (v : Int) : Int := if -7680 ≤ v ∧ v ≤ 7680 then ex v else 0
def tFreq (r p : Int) : Int := if (1 ≤ r ∧ r ≤ 65535) ∧ -3840 ≤ p ∧ p ≤ 11519 then fr r p else 0
def tPer (p : Int) : Int := if -3840 ≤ p ∧ p ≤ 11519 then per p else 0
theorem greatest_ex (n : Int) : ∃ k, Greatest n k := by
  have step : ∀ m : Nat, (∀ j : Int, (m : Int) < j → j ≤ 7679 → per j < n) → m ≤ 7679 → ∃ k, Greatest n k := by
    intro m
    induction m with
    | zero => exact fun h _ => ⟨0, by omega, by omega, .inl rfl, h⟩
    | succ m ih =>
      intro h hm
      by_cases hp : n ≤ per ((m + 1 : Nat) : Int)
      · exact ⟨((m + 1 : Nat) : Int), by omega, by omega, .inr hp, h⟩
      · refine ih (fun j h1 h2 => ?_) (by omega)
        by_cases e : j = ((m + 1 : Nat) : Int)
        · subst e; omega
        · exact h j (by omega) h2
  exact step 7679 (fun j h1 h2 => by omega) (by omega)
noncomputable def pit (n : Int) : Int := (greatest_ex n).choose
theorem pit_is (n : Int) : Greatest n (pit n) := (greatest_ex n).choose_spec
theorem pit_eq {n k : Int} (h : Greatest n k) : k = pit n := greatest_unique h (pit_is n)
noncomputable def tPit (n : Int) : Int := if 1 ≤ n ∧ n ≤ 1048576 then pit n else 0
def tFrOf (r n : Int) : Int := if (1 ≤ r ∧ r ≤ 65535) ∧ 1 ≤ n ∧ n ≤ 1048576 then r * 438272 / n else 0
def tStep (f o : Int) : Int := if (0 ≤ f ∧ f ≤ 68719476736) ∧ 1000 ≤ o ∧ o ≤ 96000 then min 268435456 (f * 256 / o) else 0
def tSemi (p : Int) : Int := if -3840 ≤ p ∧ p ≤ 11519 then (p + 32) / 64 * 64 else 0
theorem ex_ref (v : Int) (i : Nat) (h1 : -7680 ≤ v) (h : v - 768 * (v / 768) = i) : R i / 2 ^ (24 - v / 768).toNat = ex v := by
  unfold ex
  rw [show ((v + 7680) % 768).toNat = i by omega, show 34 - ((v + 7680) / 768).toNat = (24 - v / 768).toNat by omega]
theorem pit_zero {n : Int} (h : ∀ j : Int, 0 < j → j ≤ 7679 → per j < n) : Greatest n 0 := ⟨by omega, by omega, .inl rfl, h⟩
theorem pit_at {n k : Int} (h0 : 0 ≤ k) (h1 : k ≤ 7679) (hn : n ≤ per k) (h : ∀ j, k < j → j ≤ 7679 → per j < n) : Greatest n k := ⟨h0, h1, .inr hn, h⟩
/-- No pitch above k has a period of n at least. -/
def NoneAbove (n k : Int) : Prop := ∀ j, k < j → j ≤ 7679 → per j < n
theorem noneAbove_start (n : Int) : NoneAbove n 7679 := fun j h1 h2 => by omega
theorem noneAbove_down {n k : Int} (h : NoneAbove n k) (hk : per k < n) : NoneAbove n (k - 1) := fun j h1 h2 => by
  by_cases e : j = k
  · subst e; exact hk
  · exact h j (by omega) h2
end Go.Proofs.YtgoeflfnlanlnaaDoor.Tm

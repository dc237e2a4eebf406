/-
  Plain mathematics for package pack: numbers taken into a range, differences and sums (P3.1 for Delta's list). It says nothing of the program.
-/
import Derived.WalkKit
namespace Go.Proofs.Ytfljgdehbogimaa.Pk

/-- A number modulo 2h, from -h to h - 1. -/
def wrp (h x : Int) : Int := (x + h) % (2 * h) - h
theorem wrp_lo {h x : Int} (hh : 0 < h) : -h ≤ wrp h x := by
  have := Int.emod_nonneg (x + h) (b := 2 * h) (by omega)
  unfold wrp; omega
theorem wrp_hi {h x : Int} (hh : 0 < h) : wrp h x < h := by
  have := Int.emod_lt_of_pos (x + h) (b := 2 * h) (by omega)
  unfold wrp; omega
theorem wrp_id {h x : Int} (h1 : -h ≤ x) (h2 : x < h) : wrp h x = x := by
  unfold wrp
  rw [Int.emod_eq_of_lt (by omega) (by omega)]
  omega
theorem wrp_iff {h x : Int} (hh : 0 < h) : wrp h x = x ↔ -h ≤ x ∧ x < h :=
  ⟨fun e => ⟨e ▸ wrp_lo hh, e ▸ wrp_hi hh⟩, fun ⟨a, b⟩ => wrp_id a b⟩
theorem wrp_more (h x k : Int) : wrp h (x + 2 * h * k) = wrp h x := by
  unfold wrp
  rw [show x + 2 * h * k + h = x + h + 2 * h * k by omega, Int.add_mul_emod_self_left]
theorem wrp_eq (h x : Int) : ∃ k, wrp h x = x + 2 * h * k := by
  refine ⟨-((x + h) / (2 * h)), ?_⟩
  have e := Int.mul_ediv_add_emod (x + h) (2 * h)
  unfold wrp
  rw [Int.mul_neg]
  omega
theorem wrp_add (h x y : Int) : wrp h (y + wrp h x) = wrp h (y + x) := by
  obtain ⟨k, hk⟩ := wrp_eq h x
  rw [hk, show y + (x + 2 * h * k) = y + x + 2 * h * k by omega, wrp_more]
/-- The wrapped differences of each number to the one before. -/
def difs (h : Int) : Int → List Int → List Int
  | _, [] => []
  | p, x :: l => wrp h (x - p) :: difs h x l
/-- The way back. -/
def sums (h : Int) : Int → List Int → List Int
  | _, [] => []
  | p, d :: l => wrp h (p + d) :: sums h (wrp h (p + d)) l
theorem difs_length (h : Int) : ∀ (p : Int) (l : List Int), (difs h p l).length = l.length
  | _, [] => rfl
  | _, x :: l => congrArg (· + 1) (difs_length h x l)
theorem sums_length (h : Int) : ∀ (p : Int) (l : List Int), (sums h p l).length = l.length
  | _, [] => rfl
  | _, _ :: l => congrArg (· + 1) (sums_length h _ l)
theorem sums_difs {h : Int} : ∀ (p : Int) (l : List Int), (∀ x ∈ l, -h ≤ x ∧ x < h) → sums h p (difs h p l) = l
  | _, [], _ => rfl
  | p, x :: l, hl => by
    have hx := hl x (by simp)
    have e : wrp h (p + wrp h (x - p)) = x := by rw [wrp_add, show p + (x - p) = x by omega, wrp_id hx.1 hx.2]
    simp only [difs, sums, e]
    rw [sums_difs x l fun y hy => hl y (by simp [hy])]
theorem difs_in {h : Int} (hh : 0 < h) : ∀ (p : Int) (l : List Int), ∀ d ∈ difs h p l, -h ≤ d ∧ d < h
  | _, [], d, hd => by simp [difs] at hd
  | p, x :: l, d, hd => by
    simp only [difs, List.mem_cons] at hd
    rcases hd with rfl | hd
    · exact ⟨wrp_lo hh, wrp_hi hh⟩
    · exact difs_in hh x l d hd
theorem sums_in {h : Int} (hh : 0 < h) : ∀ (p : Int) (l : List Int), ∀ d ∈ sums h p l, -h ≤ d ∧ d < h
  | _, [], d, hd => by simp [sums] at hd
  | p, x :: l, d, hd => by
    simp only [sums, List.mem_cons] at hd
    rcases hd with rfl | hd
    · exact ⟨wrp_lo hh, wrp_hi hh⟩
    · exact sums_in hh _ l d hd
/-- Twice over (version 2). -/
theorem sums_difs2 {h : Int} (hh : 0 < h) (l : List Int) (hl : ∀ x ∈ l, -h ≤ x ∧ x < h) : sums h 0 (sums h 0 (difs h 0 (difs h 0 l))) = l := by
  rw [sums_difs 0 (difs h 0 l) (difs_in hh 0 l), sums_difs 0 l hl]
/-- A beginning of the differences gives a beginning of the data (P3.2). -/
theorem sums_take (h : Int) : ∀ (p : Int) (l : List Int) (n : Nat), sums h p (l.take n) = (sums h p l).take n
  | _, [], n => by simp [sums]
  | _, _ :: _, 0 => by simp [sums]
  | p, d :: l, n + 1 => by simp [sums, sums_take h _ l n]
theorem difs_getD (h : Int) : ∀ (p : Int) (l : List Int) (i : Nat), i < l.length → (difs h p l).getD i 0 = wrp h (l.getD i 0 - (if i = 0 then p else l.getD (i - 1) 0))
  | _, [], i, hi => by simp at hi
  | p, x :: l, 0, _ => by simp [difs]
  | p, x :: l, i + 1, hi => by
    have := difs_getD h x l i (by simpa using hi)
    simp only [difs, List.getD_cons_succ, this]
    cases i with
    | zero => simp
    | succ i => simp
theorem sums_getD_zero (h p : Int) (l : List Int) (hl : 0 < l.length) : (sums h p l).getD 0 0 = wrp h (p + l.getD 0 0) := by
  cases l with
  | nil => simp at hl
  | cons d l => simp [sums]
theorem sums_getD_succ (h : Int) : ∀ (p : Int) (l : List Int) (i : Nat), i + 1 < l.length → (sums h p l).getD (i + 1) 0 = wrp h ((sums h p l).getD i 0 + l.getD (i + 1) 0)
  | _, [], i, hi => by simp at hi
  | p, d :: l, 0, hi => by
    simp only [sums, List.getD_cons_succ, List.getD_cons_zero]
    exact sums_getD_zero h _ l (by simpa using hi)
  | p, d :: l, i + 1, hi => by
    simp only [sums, List.getD_cons_succ]
    exact sums_getD_succ h _ l i (by simpa using hi)
end Go.Proofs.Ytfljgdehbogimaa.Pk

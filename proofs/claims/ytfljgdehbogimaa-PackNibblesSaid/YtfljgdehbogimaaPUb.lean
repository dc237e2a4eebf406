/-
  What the blocks hold: the mathematics of package pack's Unblocks. No walk.
-/
import Derived.Test.YtfljgdehbogimaaPRbW
import Derived.Test.YtfljgdehbogimaaPUnd
namespace Go.Proofs.Ytfljgdehbogimaa
open Go.RowKit

/-- What the blocks hold, f blocks at most, n frames wanted: the values and how many bytes they take; none for a width out of range. -/
def ub (b : Int) : Nat → Nat → List Int → Option (List Int × Nat)
  | 0, _, _ => some ([], 0)
  | _ + 1, _, [] => some ([], 0)
  | f + 1, n, y :: rest => if n = 0 then some ([], 0) else if 1 ≤ y ∧ y ≤ b then
      (if min (min n 256) (8 * rest.length / y.toNat) < min n 256 then some (rbL rest y.toNat (min (min n 256) (8 * rest.length / y.toNat)), 1 + min rest.length ((y.toNat * min n 256 + 7) / 8))
      else (ub b f (n - min n 256) ((y :: rest).drop (1 + min rest.length ((y.toNat * min n 256 + 7) / 8)))).map fun r => (rbL rest y.toNat (min (min n 256) (8 * rest.length / y.toNat)) ++ r.1, 1 + min rest.length ((y.toNat * min n 256 + 7) / 8) + r.2))
    else none
theorem ub_nil (b : Int) (f n : Nat) : ub b f n [] = some ([], 0) := by cases f <;> rfl
theorem ub_zero (b : Int) (f : Nat) (l : List Int) : ub b f 0 l = some ([], 0) := by
  cases f with
  | zero => rfl
  | succ f => cases l <;> simp [ub]
theorem ub_bad {b y : Int} {f n : Nat} {rest : List Int} (hn : n ≠ 0) (h : ¬ (1 ≤ y ∧ y ≤ b)) : ub b (f + 1) n (y :: rest) = none := by
  simp only [ub]
  rw [if_neg hn, if_neg h]
theorem ub_cut {b : Int} {wd f n : Nat} {rest : List Int} (hn : n ≠ 0) (h : 1 ≤ (wd : Int) ∧ (wd : Int) ≤ b) (hc : min (min n 256) (8 * rest.length / wd) < min n 256) : ub b (f + 1) n ((wd : Int) :: rest) = some (rbL rest wd (min (min n 256) (8 * rest.length / wd)), 1 + min rest.length ((wd * min n 256 + 7) / 8)) := by
  simp only [ub, Int.toNat_natCast]
  rw [if_neg hn, if_pos h, if_pos hc]
theorem ub_go {b : Int} {wd f n : Nat} {rest : List Int} (hn : n ≠ 0) (h : 1 ≤ (wd : Int) ∧ (wd : Int) ≤ b) (hc : ¬ min (min n 256) (8 * rest.length / wd) < min n 256) : ub b (f + 1) n ((wd : Int) :: rest) = (ub b f (n - min n 256) (((wd : Int) :: rest).drop (1 + min rest.length ((wd * min n 256 + 7) / 8)))).map fun r => (rbL rest wd (min (min n 256) (8 * rest.length / wd)) ++ r.1, 1 + min rest.length ((wd * min n 256 + 7) / 8) + r.2) := by
  simp only [ub, Int.toNat_natCast]
  rw [if_neg hn, if_pos h, if_neg hc]
/-- What is still to be read, behind what has been read. -/
def still (b : Int) (n : Nat) (bs a : List Int) (u : Nat) : Prop := ∃ f, n - a.length < f ∧ ub b (n + 1) n bs = (ub b f (n - a.length) (bs.drop u)).map fun r => (a ++ r.1, u + r.2)
theorem still_start (b : Int) (n : Nat) (bs : List Int) : still b n bs [] 0 := ⟨n + 1, by simp, by
  simp only [List.length_nil, Nat.sub_zero, List.drop_zero, List.nil_append, Nat.zero_add]
  cases ub b (n + 1) n bs <;> rfl⟩
theorem still_done {b : Int} {n u : Nat} {bs a : List Int} (h : still b n bs a u) (ha : a.length = n) : ub b (n + 1) n bs = some (a, u) := by
  obtain ⟨f, _, h⟩ := h
  rw [h, ha, Nat.sub_self, ub_zero]
  simp
theorem still_end {b : Int} {n u : Nat} {bs a : List Int} (h : still b n bs a u) (hu : bs.drop u = []) : ub b (n + 1) n bs = some (a, u) := by
  obtain ⟨f, _, h⟩ := h
  rw [h, hu, ub_nil]
  simp
theorem still_bad {b y : Int} {n u : Nat} {bs a rest : List Int} (h : still b n bs a u) (hu : bs.drop u = y :: rest) (hn : a.length < n) (hy : ¬ (1 ≤ y ∧ y ≤ b)) : ub b (n + 1) n bs = none := by
  obtain ⟨f, hf, h⟩ := h
  obtain ⟨f, rfl⟩ : ∃ g, f = g + 1 := ⟨f - 1, by omega⟩
  rw [h, hu, ub_bad (by omega) hy]
  rfl
theorem still_cut {b : Int} {wd n u m : Nat} {bs a rest : List Int} (h : still b n bs a u) (hu : bs.drop u = (wd : Int) :: rest) (hn : a.length < n) (hy : 1 ≤ (wd : Int) ∧ (wd : Int) ≤ b) (hm : min (n - a.length) 256 = m) (hc : min m (8 * rest.length / wd) < m) :
    ub b (n + 1) n bs = some (a ++ rbL rest wd (min m (8 * rest.length / wd)), u + (1 + min rest.length ((wd * m + 7) / 8))) := by
  obtain ⟨f, hf, h⟩ := h
  obtain ⟨f, rfl⟩ : ∃ g, f = g + 1 := ⟨f - 1, by omega⟩
  subst hm
  rw [h, hu, ub_cut (by omega) hy hc]
  rfl
theorem still_go {b : Int} {wd n u m : Nat} {bs a rest : List Int} (h : still b n bs a u) (hu : bs.drop u = (wd : Int) :: rest) (hn : a.length < n) (hy : 1 ≤ (wd : Int) ∧ (wd : Int) ≤ b) (hm : min (n - a.length) 256 = m) (hc : ¬ min m (8 * rest.length / wd) < m) :
    still b n bs (a ++ rbL rest wd (min m (8 * rest.length / wd))) (u + (1 + min rest.length ((wd * m + 7) / 8))) := by
  obtain ⟨f, hf, h⟩ := h
  obtain ⟨f, rfl⟩ : ∃ g, f = g + 1 := ⟨f - 1, by omega⟩
  subst hm
  refine ⟨f, by rw [List.length_append, rbL_length]; omega, ?_⟩
  rw [h, hu, ub_go (by omega) hy hc, ← hu, List.drop_drop, List.length_append, rbL_length, Option.map_map]
  rw [show n - (a.length + min (min (n - a.length) 256) (8 * rest.length / wd)) = n - a.length - min (n - a.length) 256 by omega]
  congr 1
  funext r
  simp [Nat.add_assoc]
/-- The error that Unblocks returns before it reads. -/
def ubE (m : Nat) (b v n : Int) : Int := if (v = 1 ∨ v = 2) ∧ (b = 8 ∨ b = 16) then ask m n else 1
/-- What Unblocks returns of what the blocks hold. -/
def ubPost (T' : List Int → List Int) (n B : Nat) (r : Option (List Int × Nat)) (e : Ending) (w' : World) : Prop :=
  (r = none → e = .returned (.tuple #[.slice none 0 0, .int .i64 0, .int .i64 0, .int .i64 9])) ∧
  ∀ vs u, r = some (vs, u) → vs.length ≤ n ∧ ∃ g, e = .returned (.tuple #[.slice (some ⟨g, 0, none⟩) n n, .int .i64 u, .int .i64 ((n - vs.length : Nat) : Int), .int .i64 0]) ∧ w'.ownsRow B 3 1 (.slice (some ⟨g, 0, none⟩) n n) n ((T' vs ++ List.replicate (n - vs.length) 0).map (Value.int .i64))
theorem ubPost_of {T' : List Int → List Int} {n A B g u u' : Nat} {r : Option (List Int × Nat)} {a : List Int} {x : Int} {w' : World} (hr : r = some (a, u)) (hu : u = u') (hl : a.length ≤ n) (hT : (T' a).length = a.length) (hrow : w'.ownsRow B 3 1 (.slice (some ⟨g, 0, none⟩) n n) n (frow (fun i => (T' a).getD i 0) n a.length)) (hA : A ≤ B) (hx : x = ((n - a.length : Nat) : Int)) :
    ubPost T' n A r (.returned (.tuple #[.slice (some ⟨g, 0, none⟩) n n, .int .i64 (u' : Int), .int .i64 x, .int .i64 0])) w' := by
  subst hr hu hx
  refine ⟨fun h => (by cases h), fun vs u' h => ?_⟩
  simp only [Option.some.injEq, Prod.mk.injEq] at h
  obtain ⟨rfl, rfl⟩ := h
  refine ⟨hl, g, rfl, ?_⟩
  rw [← frow_part hT hl]
  exact row_lower hrow hA
theorem ubPost_none {T' : List Int → List Int} {n A : Nat} {r : Option (List Int × Nat)} {w' : World} (hr : r = none) : ubPost T' n A r (.returned (.tuple #[.slice none 0 0, .int .i64 0, .int .i64 0, .int .i64 9])) w' :=
  ⟨fun _ => rfl, fun vs u h => by rw [hr] at h; cases h⟩
theorem pre_of {F : Nat} {cb : Array Value} {lo hi : Nat} {T : List Int → List Int} {S : List Int → World → Prop} (H : Trans F cb lo hi T S) : ∀ a, (T a).length = a.length := H.len
end Go.Proofs.Ytfljgdehbogimaa

/-
  An area's cells are changed one after the other: what has been done so far. No walk.
-/
import Derived.Test.YtfjfnbeegojlbaaDoorPCopy
namespace Go.Proofs.YtfjfnbeegojlbaaDoor
open Go.RowKit

/-- Changed so far: k rows of the area, and x cells of the next one. -/
def Up (l : List Pt.Cl) (C ar ac aw : Nat) (f : Nat → Pt.Cl) (k x : Nat) (L : List Pt.Cl) : Prop := L.length = l.length ∧ ∀ y z, z < C → y * C + z < l.length →
  Pt.at' L (y * C + z) = if ((ar ≤ y ∧ y < ar + k) ∨ (y = ar + k ∧ z < ac + x)) ∧ ac ≤ z ∧ z < ac + aw then f (y * C + z) else Pt.at' l (y * C + z)
theorem up_start (l : List Pt.Cl) (C ar ac aw : Nat) (f : Nat → Pt.Cl) : Up l C ar ac aw f 0 0 l := ⟨rfl, fun y z _ _ => by rw [if_neg (by omega)]⟩
theorem place_inj {C y z y' z' : Nat} (h1 : z < C) (h2 : z' < C) (h : y * C + z = y' * C + z') : y = y' ∧ z = z' := by
  have a1 := Pt.rc_div (C := C) (y := y) h1
  have a2 := Pt.rc_div (C := C) (y := y') h2
  have a3 := Pt.rc_mod (C := C) (y := y) h1
  have a4 := Pt.rc_mod (C := C) (y := y') h2
  rw [h] at a1 a3
  exact ⟨a1.symm.trans a2, a3.symm.trans a4⟩
theorem up_now {l : List Pt.Cl} {C ar ac aw : Nat} {f : Nat → Pt.Cl} {k x : Nat} {L : List Pt.Cl} (h : Up l C ar ac aw f k x L) (hx : x < aw) (hC : ac + aw ≤ C) {I : Nat} (hI : (ar + k) * C + (ac + x) = I) (hl : I < l.length) : Pt.at' L I = Pt.at' l I := by
  rw [← hI, h.2 _ _ (by omega) (by rw [hI]; exact hl), if_neg (by omega)]
theorem up_step {l : List Pt.Cl} {C ar ac aw : Nat} {f : Nat → Pt.Cl} {k x : Nat} {L : List Pt.Cl} (h : Up l C ar ac aw f k x L) (hx : x < aw) (hC : ac + aw ≤ C) {I : Nat} (hI : (ar + k) * C + (ac + x) = I) (hl : I < l.length) : Up l C ar ac aw f k (x + 1) (L.set I (f I)) := by
  refine ⟨by rw [List.length_set]; exact h.1, fun y z hz hyz => ?_⟩
  rw [Pt.at_set L I _ (by rw [h.1]; exact hl), h.2 y z hz hyz]
  by_cases e : y * C + z = I
  · obtain ⟨rfl, rfl⟩ := place_inj hz (show ac + x < C by omega) (e.trans hI.symm)
    rw [if_pos e, if_pos (by omega), e]
  · have e2 : ¬ (y = ar + k ∧ z = ac + x) := fun ⟨h1, h2⟩ => e (by rw [h1, h2]; exact hI)
    rw [if_neg e]
    by_cases c : ((ar ≤ y ∧ y < ar + k) ∨ (y = ar + k ∧ z < ac + x)) ∧ ac ≤ z ∧ z < ac + aw
    · rw [if_pos c, if_pos (by omega)]
    · rw [if_neg c, if_neg (by omega)]
theorem up_row {l : List Pt.Cl} {C ar ac aw : Nat} {f : Nat → Pt.Cl} {k : Nat} {L : List Pt.Cl} (h : Up l C ar ac aw f k aw L) : Up l C ar ac aw f (k + 1) 0 L := by
  refine ⟨h.1, fun y z hz hyz => ?_⟩
  rw [h.2 y z hz hyz]
  by_cases c : ((ar ≤ y ∧ y < ar + k) ∨ (y = ar + k ∧ z < ac + aw)) ∧ ac ≤ z ∧ z < ac + aw
  · rw [if_pos c, if_pos (by omega)]
  · rw [if_neg c, if_neg (by omega)]
theorem up_done {l : List Pt.Cl} {C ar ac aw ah R : Nat} {f : Nat → Pt.Cl} {L : List Pt.Cl} (h : Up l C ar ac aw f ah 0 L) (h1 : 1 ≤ C) (hl : l.length = R * C) : L = Pt.mk l.length fun k => if ar ≤ k / C ∧ k / C < ar + ah ∧ ac ≤ k % C ∧ k % C < ac + aw then f k else Pt.at' l k := by
  refine Pt.eq_mk h.1 fun k hk => ?_
  obtain ⟨y, z, hy, hz, rfl⟩ := Pt.rc_split h1 (hl ▸ hk)
  rw [h.2 y z hz hk, Pt.rc_div hz, Pt.rc_mod hz]
  by_cases c : ((ar ≤ y ∧ y < ar + ah) ∨ (y = ar + ah ∧ z < ac + 0)) ∧ ac ≤ z ∧ z < ac + aw
  · rw [if_pos c, if_pos (by omega)]
  · rw [if_neg c, if_neg (by omega)]
end Go.Proofs.YtfjfnbeegojlbaaDoor

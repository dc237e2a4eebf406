/-
  Plain mathematics for package sample: the cursor's way from frame 0 and its values. It says nothing of the program but of values as cells.
-/
import Derived.Test.YtmaldhjcdkidmaaBase
namespace Go.Proofs.Ytmaldhjcdkidmaa
open Go.RowKit

/-- A value, or 0 for a cursor that is done. -/
def orz (dn : Bool) (x : Int) : Int := if dn = true then 0 else x
/-- One of two values, by a direction. -/
def alt (bk : Bool) (a b : Int) : Int := if bk = true then a else b
/-- A move of a sample's cursor, the key held or not. -/
def mvS (s : Sm.Smp) (h : Bool) (c : Sm.Cur) (st : Int) : Sm.Cur := Sm.gone (Sm.rk s h) (Sm.rs s h * 65536) (Sm.re s h * 65536) (s.dat.length * 65536) c st
/-- The cursor after so many moves by a frame from frame 0. -/
def ucur (s : Sm.Smp) (h : Bool) : Nat → Sm.Cur
  | 0 => bgn s 0 false
  | k + 1 => mvS s h (ucur s h k) 65536
def uval (s : Sm.Smp) (h : Bool) (k : Nat) : Int := orz (ucur s h k).done (hrd s (ucur s h k).pos)
def unr (s : Sm.Smp) (h : Bool) (n : Nat) : List Int := (List.range n).map (uval s h)
theorem unr_length (s : Sm.Smp) (h : Bool) (n : Nat) : (unr s h n).length = n := by simp [unr]
theorem unr_getD (s : Sm.Smp) (h : Bool) {n i : Nat} (hi : i < n) : (unr s h n).getD i 0 = uval s h i := by
  simp [unr, List.getD_eq_getElem?_getD, hi]
theorem unr_snoc (s : Sm.Smp) (h : Bool) (n : Nat) : unr s h (n + 1) = unr s h n ++ [uval s h n] := by
  simp [unr, List.range_succ]
/-- The row's cells after k rounds. -/
def urow (s : Sm.Smp) (h : Bool) (n k : Nat) : List Value := (List.range n).map fun j => .int .i64 (if j < k then uval s h j else 0)
theorem urow_zero (s : Sm.Smp) (h : Bool) (n : Nat) : urow s h n 0 = List.replicate n (.int .i64 0) := by
  apply List.ext_getElem?
  intro i
  by_cases hi : i < n <;> simp [urow, hi]
theorem urow_set (s : Sm.Smp) (h : Bool) {n k : Nat} (hk : k < n) {v : Int} (hv : v = uval s h k) : (urow s h n k).set k (.int .i64 v) = urow s h n (k + 1) := by
  apply List.ext_getElem?
  intro i
  rw [List.getElem?_set]
  by_cases e : k = i
  · subst e
    simp [urow, hk, hv]
  · rw [if_neg e]
    simp only [urow, List.getElem?_map]
    by_cases hi : i < n
    · simp only [List.getElem?_range hi, Option.map_some]
      congr 3
      exact propext ⟨fun _ => by omega, fun _ => by omega⟩
    · simp [hi]
theorem urow_at (s : Sm.Smp) (h : Bool) {n k : Nat} (hk : k < n) : (urow s h n k)[k]? = some (.int .i64 0) := by simp [urow, hk]
theorem urow_full (s : Sm.Smp) (h : Bool) {n k i : Nat} (hk : n ≤ k) (hi : i < n) : (urow s h n k)[i]? = some (.int .i64 ((unr s h n).getD i 0)) := by
  rw [unr_getD s h hi]
  have : i < k := by omega
  simp [urow, hi, this]

/-- Valid for a sample of n frames, as the program asks. -/
def Okc (n : Int) (c : Sm.Cur) : Prop := std n c.pos c.frac c.back c.done = true
theorem okc_stands {n : Int} {c : Sm.Cur} (h : Sm.Stands (n * 65536) c) : Okc n c := by
  unfold Okc std
  rcases h with rfl | ⟨hd, h1, h2, h3, h4⟩
  · simp [Sm.over]
  · rw [hd, if_neg (by simp)]
    unfold Sm.place at h3 h4
    exact decide_eq_true ⟨by omega, by omega, h1, h2⟩
theorem okc_to {n : Int} {c : Sm.Cur} (h : Okc n c) : c.done = true ∨ Sm.Stands (n * 65536) c := by
  unfold Okc std at h
  cases hd : c.done
  · right
    rw [hd, if_neg (by simp)] at h
    have h := of_decide_eq_true h
    exact .inr ⟨hd, h.2.2.1, h.2.2.2, by unfold Sm.place; omega, by unfold Sm.place; omega⟩
  · exact .inl rfl
theorem okc_over (n : Int) : Okc n Sm.over := by simp [Okc, std, Sm.over]
theorem ring_of {s : Sm.Smp} (hv : Sm.vld s = true) (h : Bool) : Sm.Ring (Sm.rk s h) (Sm.rs s h * 65536) (Sm.re s h * 65536) (s.dat.length * 65536) := by
  obtain ⟨h1, h2, h3, h4, h5, h6⟩ := ring_ok hv h
  exact ⟨by omega, h1, by omega⟩
theorem okc_move {s : Sm.Smp} (hv : Sm.vld s = true) (h : Bool) {c : Sm.Cur} {st : Int} (hc : Okc s.dat.length c) (h0 : 0 ≤ st) : Okc s.dat.length (mvS s h c st) := by
  rcases okc_to hc with hd | hs
  · have : mvS s h c st = c := by unfold mvS Sm.gone; rw [if_pos hd]
    rw [this]; exact hc
  · exact okc_stands (Sm.stands_gone (ring_of hv h) hs h0)
theorem okc_bgn {s : Sm.Smp} (o : Int) (b : Bool) : Okc s.dat.length (bgn s o b) := by
  unfold bgn
  split
  · next hh =>
    refine okc_stands ?_
    split
    · exact Sm.stands_at _ (by omega) (by omega)
    · exact Sm.stands_at _ (by omega) (by omega)
  · exact okc_over _
theorem okc_ucur {s : Sm.Smp} (hv : Sm.vld s = true) (h : Bool) : ∀ k, Okc s.dat.length (ucur s h k)
  | 0 => okc_bgn 0 false
  | k + 1 => okc_move hv h (okc_ucur hv h k) (by omega)
/-- What a valid cursor's fields satisfy. -/
theorem okc_fields {n po fr : Int} {bk dn : Bool} (h : Okc n ⟨po, fr, bk, dn⟩) : dn = true ∨ (0 ≤ po ∧ po < n ∧ 0 ≤ fr ∧ fr ≤ 65535) := by
  unfold Okc std at h
  cases dn
  · right
    rw [if_neg (by simp)] at h
    exact of_decide_eq_true h
  · exact .inl rfl
end Go.Proofs.Ytmaldhjcdkidmaa

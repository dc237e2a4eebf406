/-
  Plain mathematics for package pack: tables of differences, the nearest index, half bytes (P3.3, P3.4). It says nothing of the program.
-/
import Derived.Test.YtfljgdehbogimaaPkB
namespace Go.Proofs.Ytfljgdehbogimaa.Pk

/-- How far index j of a table leads from x. -/
def off (t : List Int) (p x : Int) (j : Nat) : Int := max (wrp 128 (p + t.getD j 0) - x) (-(wrp 128 (p + t.getD j 0) - x))
theorem off_lo (t : List Int) (p x : Int) (j : Nat) : 0 ≤ off t p x j := by unfold off; omega
theorem off_hi (t : List Int) (p : Int) {x : Int} (h1 : -128 ≤ x) (h2 : x ≤ 127) (j : Nat) : off t p x j ≤ 255 := by
  have := wrp_lo (h := 128) (x := p + t.getD j 0) (by omega)
  have := wrp_hi (h := 128) (x := p + t.getD j 0) (by omega)
  unfold off; omega
theorem off_zero {t : List Int} {p x : Int} {j : Nat} : off t p x j = 0 ↔ wrp 128 (p + t.getD j 0) = x := by unfold off; omega
/-- The best index so far, and how far it leads from x: L at first. -/
def nst (t : List Int) (p x L : Int) : Nat → Nat × Int
  | 0 => (0, L)
  | j + 1 => if off t p x j < (nst t p x L j).2 then (j, off t p x j) else nst t p x L j
theorem nst_yes {t : List Int} {p x L : Int} {j : Nat} (h : off t p x j < (nst t p x L j).2) : nst t p x L (j + 1) = (j, off t p x j) := by
  simp only [nst]; rw [if_pos h]
theorem nst_no {t : List Int} {p x L : Int} {j : Nat} (h : ¬ off t p x j < (nst t p x L j).2) : nst t p x L (j + 1) = nst t p x L j := by
  simp only [nst]; rw [if_neg h]
theorem nst_lt (t : List Int) (p x L : Int) : ∀ n, (nst t p x L n).1 ≤ n - 1
  | 0 => Nat.le_refl _
  | j + 1 => by
    have ih := nst_lt t p x L j
    by_cases h : off t p x j < (nst t p x L j).2
    · rw [nst_yes h]; exact Nat.le_refl _
    · rw [nst_no h]; omega
theorem nst_le (t : List Int) (p x L : Int) : ∀ n j, j < n → (nst t p x L n).2 ≤ off t p x j
  | 0, j, h => by omega
  | n + 1, j, h => by
    by_cases hc : off t p x n < (nst t p x L n).2
    · rw [nst_yes hc]
      by_cases e : j = n
      · subst e; exact Int.le_refl _
      · have := nst_le t p x L n j (by omega); show off t p x n ≤ _; omega
    · rw [nst_no hc]
      by_cases e : j = n
      · subst e; omega
      · exact nst_le t p x L n j (by omega)
theorem nst_off {t : List Int} {p x L : Int} (hL : 255 < L) (h1 : -128 ≤ x) (h2 : x ≤ 127) : ∀ n, (nst t p x L (n + 1)).2 = off t p x (nst t p x L (n + 1)).1
  | 0 => by
    have : off t p x 0 < (nst t p x L 0).2 := by have := off_hi t p h1 h2 0; show _ < L; omega
    rw [nst_yes this]
  | n + 1 => by
    by_cases hc : off t p x (n + 1) < (nst t p x L (n + 1)).2
    · rw [nst_yes hc]
    · rw [nst_no hc]; exact nst_off hL h1 h2 n
theorem nst_same {t : List Int} {p x L M : Int} (hL : 255 < L) (hM : 255 < M) (h1 : -128 ≤ x) (h2 : x ≤ 127) : ∀ n, nst t p x L (n + 1) = nst t p x M (n + 1)
  | 0 => by
    have a : off t p x 0 < (nst t p x L 0).2 := by have := off_hi t p h1 h2 0; show _ < L; omega
    have b : off t p x 0 < (nst t p x M 0).2 := by have := off_hi t p h1 h2 0; show _ < M; omega
    rw [nst_yes a, nst_yes b]
  | n + 1 => by
    have ih := nst_same (t := t) (p := p) hL hM h1 h2 n
    by_cases hc : off t p x (n + 1) < (nst t p x L (n + 1)).2
    · have hd : off t p x (n + 1) < (nst t p x M (n + 1)).2 := by rw [← ih]; exact hc
      exact (nst_yes hc).trans (nst_yes hd).symm
    · have hd : ¬ off t p x (n + 1) < (nst t p x M (n + 1)).2 := by rw [← ih]; exact hc
      exact ((nst_no hc).trans ih).trans (nst_no hd).symm
theorem nst_bound {t : List Int} {p x L : Int} (hL : 0 ≤ L) (hL2 : L ≤ 1000) (h1 : -128 ≤ x) (h2 : x ≤ 127) : ∀ n, 0 ≤ (nst t p x L n).2 ∧ (nst t p x L n).2 ≤ 1000
  | 0 => ⟨hL, hL2⟩
  | n + 1 => by
    by_cases hc : off t p x n < (nst t p x L n).2
    · rw [nst_yes hc]
      have := off_lo t p x n
      have := off_hi t p h1 h2 n
      exact ⟨by assumption, by show off t p x n ≤ 1000; omega⟩
    · rw [nst_no hc]; exact nst_bound hL hL2 h1 h2 n
/-- The index of a table of 16 that leads nearest. -/
def nidx (t : List Int) (p x : Int) : Nat := (nst t p x 256 16).1
theorem nidx_lt (t : List Int) (p x : Int) : nidx t p x < 16 := by have := nst_lt t p x 256 16; unfold nidx; omega
theorem nidx_hit {t : List Int} {p x : Int} (h1 : -128 ≤ x) (h2 : x ≤ 127) {j : Nat} (hj : j < 16) (h : wrp 128 (p + t.getD j 0) = x) : wrp 128 (p + t.getD (nidx t p x) 0) = x := by
  have a := nst_le t p x 256 16 j hj
  rw [off_zero.2 h] at a
  have b := nst_off (t := t) (p := p) (L := 256) (by omega) h1 h2 15
  have c := off_lo t p x (nst t p x 256 16).1
  have d : (nst t p x 256 (15 + 1)).2 = (nst t p x 256 16).2 := rfl
  have e : off t p x (nst t p x 256 (15 + 1)).1 = off t p x (nst t p x 256 16).1 := rfl
  exact off_zero.1 (show off t p x (nst t p x 256 16).1 = 0 by omega)
/-- The indices, one for each frame. -/
def nib (t : List Int) : Int → List Int → List Int
  | _, [] => []
  | p, x :: l => (nidx t p x : Int) :: nib t (wrp 128 (p + t.getD (nidx t p x) 0)) l
/-- The frames that they lead to. -/
def pth (t : List Int) : Int → List Int → List Int
  | _, [] => []
  | p, x :: l => wrp 128 (p + t.getD (nidx t p x) 0) :: pth t (wrp 128 (p + t.getD (nidx t p x) 0)) l
theorem nib_length (t : List Int) : ∀ (p : Int) (l : List Int), (nib t p l).length = l.length
  | _, [] => rfl
  | _, _ :: l => congrArg (· + 1) (nib_length t _ l)
theorem pth_length (t : List Int) : ∀ (p : Int) (l : List Int), (pth t p l).length = l.length
  | _, [] => rfl
  | _, _ :: l => congrArg (· + 1) (pth_length t _ l)
theorem pth_in (t : List Int) : ∀ (p : Int) (l : List Int), ∀ x ∈ pth t p l, -128 ≤ x ∧ x < 128
  | _, [], x, h => by simp [pth] at h
  | p, y :: l, x, h => by
    simp only [pth, List.mem_cons] at h
    rcases h with rfl | h
    · exact ⟨wrp_lo (by omega), wrp_hi (by omega)⟩
    · exact pth_in t _ l x h
/-- What is read of the indices. -/
def unn (t : List Int) (js : List Int) : List Int := sums 128 0 (js.map fun j => t.getD j.toNat 0)
theorem sums_nib (t : List Int) : ∀ (p : Int) (l : List Int), sums 128 p ((nib t p l).map fun j => t.getD j.toNat 0) = pth t p l
  | _, [] => rfl
  | p, x :: l => by simp only [nib, pth, List.map_cons, sums, Int.toNat_natCast, sums_nib t _ l]
theorem unn_nib (t : List Int) (l : List Int) : unn t (nib t 0 l) = pth t 0 l := sums_nib t 0 l
/-- P3.4: what was read leads to itself. -/
theorem pth_pth (t : List Int) : ∀ (p : Int) (l : List Int), pth t p (pth t p l) = pth t p l
  | _, [] => rfl
  | p, x :: l => by
    have h0 := wrp_lo (h := 128) (x := p + t.getD (nidx t p x) 0) (by omega)
    have h1 := wrp_hi (h := 128) (x := p + t.getD (nidx t p x) 0) (by omega)
    have e := nidx_hit (t := t) (p := p) h0 (by omega) (nidx_lt t p x) rfl
    simp only [pth, e]
    rw [pth_pth t _ l]
/-- The plain differences. -/
def difs0 : Int → List Int → List Int
  | _, [] => []
  | p, x :: l => (x - p) :: difs0 x l
/-- P3.3: where each difference is in the table, nothing is changed. -/
theorem pth_self (t : List Int) : ∀ (p : Int) (l : List Int), (∀ x ∈ l, -128 ≤ x ∧ x ≤ 127) → (∀ d ∈ difs0 p l, ∃ j, j < 16 ∧ (t.getD j 0 - d) % 256 = 0) → pth t p l = l
  | _, [], _, _ => rfl
  | p, x :: l, hl, hd => by
    obtain ⟨j, hj, e⟩ := hd (x - p) (by simp [difs0])
    have hx := hl x (by simp)
    have h : wrp 128 (p + t.getD j 0) = x := by
      have : p + t.getD j 0 = x + 2 * 128 * ((t.getD j 0 - (x - p)) / 256) := by omega
      rw [this, wrp_more]
      exact wrp_id (by omega) (by omega)
    have e2 := nidx_hit hx.1 hx.2 hj h
    simp only [pth, e2]
    rw [pth_self t x l (fun y hy => hl y (by simp [hy])) (fun d hd' => hd d (by simp [difs0, hd']))]
/-- Byte m of the first k indices. -/
def nbyte (js : List Int) (k m : Nat) : Int := (if 2 * m < k then js.getD (2 * m) 0 else 0) + 16 * (if 2 * m + 1 < k then js.getD (2 * m + 1) 0 else 0)
def nby (js : List Int) (k : Nat) : List Int := (List.range ((js.length + 1) / 2)).map (nbyte js k)
theorem nby_length (js : List Int) (k : Nat) : (nby js k).length = (js.length + 1) / 2 := by simp [nby]
theorem nby_getD (js : List Int) (k : Nat) {m : Nat} (hm : m < (js.length + 1) / 2) : (nby js k).getD m 0 = nbyte js k m := by simp [nby, List.getD_eq_getElem?_getD, hm]
theorem nby_zero (js : List Int) : nby js 0 = List.replicate ((js.length + 1) / 2) 0 := by
  unfold nby
  apply List.ext_getElem
  · simp
  · intro i h1 h2; simp [nbyte]
theorem nby_step (js : List Int) {k : Nat} (_hk : k < js.length) : nby js (k + 1) = (nby js k).set (k / 2) (nbyte js k (k / 2) + js.getD k 0 * 2 ^ (k % 2 * 4)) := by
  apply List.ext_getElem
  · simp [nby]
  · intro i h1 h2
    rw [List.getElem_set]
    have h3 : i < (js.length + 1) / 2 := by simpa [nby] using h1
    by_cases e : k / 2 = i
    · rw [if_pos e]
      subst e
      simp only [nby, List.getElem_map, List.getElem_range, nbyte]
      rcases Nat.mod_two_eq_zero_or_one k with h | h
      · rw [h, show 2 * (k / 2) = k by omega, if_pos (by omega), if_neg (by omega), if_neg (by omega), if_neg (by omega)]
        simp
      · rw [h, show 2 * (k / 2) + 1 = k by omega, show 2 * (k / 2) = k - 1 by omega, if_pos (by omega), if_pos (by omega), if_pos (by omega), if_neg (by omega)]
        simp
        omega
    · rw [if_neg e]
      simp only [nby, List.getElem_map, List.getElem_range, nbyte]
      have a : (2 * i < k + 1) ↔ (2 * i < k) := by omega
      have b : (2 * i + 1 < k + 1) ↔ (2 * i + 1 < k) := by omega
      simp only [a, b]
/-- The index that stands at i. -/
def nat_ (b : List Int) (i : Nat) : Int := b.getD (i / 2) 0 / 2 ^ (i % 2 * 4) % 16
theorem nat_nby {js : List Int} (hj : ∀ j ∈ js, 0 ≤ j ∧ j < 16) {i : Nat} (hi : i < js.length) : nat_ (nby js js.length) i = js.getD i 0 := by
  have hg : ∀ m, 0 ≤ js.getD m 0 ∧ js.getD m 0 < 16 := fun m => by
    by_cases h : m < js.length
    · rw [List.getD_eq_getElem?_getD, List.getElem?_eq_getElem h]; exact hj _ (List.getElem_mem h)
    · rw [List.getD_eq_getElem?_getD, List.getElem?_eq_none (by omega)]; simp
  unfold nat_
  rw [nby_getD js _ (by omega)]
  unfold nbyte
  rcases Nat.mod_two_eq_zero_or_one i with h | h
  · rw [h, show 2 * (i / 2) = i by omega, if_pos hi]
    have := hg i
    have := hg (i + 1)
    show (_ + 16 * _) / 1 % 16 = _
    rw [Int.ediv_one]
    omega
  · rw [h, show 2 * (i / 2) + 1 = i by omega, show 2 * (i / 2) = i - 1 by omega, if_pos hi, if_pos (by omega)]
    have := hg i
    have := hg (i - 1)
    simp only [Nat.one_mul]
    show (_ + 16 * _) / 16 % 16 = _
    omega
theorem nbyte_in {js : List Int} (hj : ∀ j ∈ js, 0 ≤ j ∧ j < 16) (k m : Nat) : 0 ≤ nbyte js k m ∧ nbyte js k m < 256 := by
  have hg : ∀ m, 0 ≤ js.getD m 0 ∧ js.getD m 0 < 16 := fun m => by
    by_cases h : m < js.length
    · rw [List.getD_eq_getElem?_getD, List.getElem?_eq_getElem h]; exact hj _ (List.getElem_mem h)
    · rw [List.getD_eq_getElem?_getD, List.getElem?_eq_none (by omega)]; simp
  have := hg (2 * m)
  have := hg (2 * m + 1)
  unfold nbyte
  by_cases h1 : 2 * m < k <;> by_cases h2 : 2 * m + 1 < k <;> simp only [h1, h2, if_true, if_false] <;> omega
theorem nbyte_small {js : List Int} (hj : ∀ j ∈ js, 0 ≤ j ∧ j < 16) (k : Nat) : 0 ≤ nbyte js k (k / 2) ∧ nbyte js k (k / 2) < 2 ^ (k % 2 * 4) := by
  have hg : ∀ m, 0 ≤ js.getD m 0 ∧ js.getD m 0 < 16 := fun m => by
    by_cases h : m < js.length
    · rw [List.getD_eq_getElem?_getD, List.getElem?_eq_getElem h]; exact hj _ (List.getElem_mem h)
    · rw [List.getD_eq_getElem?_getD, List.getElem?_eq_none (by omega)]; simp
  unfold nbyte
  rcases Nat.mod_two_eq_zero_or_one k with h | h
  · rw [h, if_neg (by omega), if_neg (by omega)]; decide
  · have := hg (2 * (k / 2))
    rw [h, if_pos (by omega), if_neg (by omega)]
    show _ ∧ _ < (16 : Int)
    omega
theorem nib_in (t : List Int) : ∀ (p : Int) (l : List Int), ∀ j ∈ nib t p l, 0 ≤ j ∧ j < 16
  | _, [], j, h => by simp [nib] at h
  | p, x :: l, j, h => by
    simp only [nib, List.mem_cons] at h
    rcases h with rfl | h
    · have := nidx_lt t p x; omega
    · exact nib_in t _ l j h
end Go.Proofs.Ytfljgdehbogimaa.Pk

/-
  Plain mathematics for package tone: the row R of powers, Exp, Freq, Period and the search for a pitch, as functions on integers. It says nothing of the program.
-/
namespace Go.Proofs.YtgoeflfnlanlnaaDoor.Tm

/-- One step of the row. -/
def stepN (r : Nat) : Nat := r + r * 3878110 / 4294967296
def rowN : Nat → Nat
  | 0 => 1099511627776
  | n + 1 => stepN (rowN n)

theorem rowN_lo : ∀ n, 1099511627776 ≤ rowN n
  | 0 => Nat.le_refl _
  | n + 1 => Nat.le_trans (rowN_lo n) (by show rowN n ≤ rowN n + _; omega)
theorem rowN_step (n : Nat) : rowN n ≤ rowN (n + 1) := by show rowN n ≤ rowN n + _; omega
theorem rowN_mono {a b : Nat} (h : a ≤ b) : rowN a ≤ rowN b := by
  induction h with
  | refl => exact Nat.le_refl _
  | step _ ih => exact Nat.le_trans ih (rowN_step _)
theorem rowN_top : rowN 767 < 2199023255552 := by decide +kernel
theorem rowN_hi {n : Nat} (h : n ≤ 767) : rowN n < 2199023255552 := Nat.lt_of_le_of_lt (rowN_mono h) rowN_top

/-- R(i). -/
def R (i : Nat) : Int := rowN i
theorem R_zero : R 0 = 1099511627776 := rfl
theorem R_succ (i : Nat) : R (i + 1) = R i + R i * 3878110 / 4294967296 := by
  show ((rowN i + rowN i * 3878110 / 4294967296 : Nat) : Int) = _
  unfold R; omega
theorem R_lo (i : Nat) : 1099511627776 ≤ R i := by have := rowN_lo i; unfold R; omega
theorem R_hi {i : Nat} (h : i ≤ 767) : R i < 2199023255552 := by have := rowN_hi h; unfold R; omega
theorem R_mono {a b : Nat} (h : a ≤ b) : R a ≤ R b := by have := rowN_mono h; unfold R; omega

/-- Exp(v) for v from -7,680 to 7,680. -/
def ex (v : Int) : Int := R ((v + 7680) % 768).toNat / 2 ^ (34 - ((v + 7680) / 768).toNat)

theorem ex_at (v : Int) (q i : Nat) (h : v + 7680 = 768 * q + i) (hi : i ≤ 767) : ex v = R i / 2 ^ (34 - q) := by
  unfold ex
  have e1 : ((v + 7680) % 768).toNat = i := by omega
  have e2 : ((v + 7680) / 768).toNat = q := by omega
  rw [e1, e2]
theorem split (v : Int) (h : -7680 ≤ v) : ∃ q i : Nat, v + 7680 = 768 * q + i ∧ i ≤ 767 :=
  ⟨((v + 7680) / 768).toNat, ((v + 7680) % 768).toNat, by omega, by omega⟩

theorem pow_le {a b : Nat} (h : a ≤ b) : (2 : Int) ^ a ≤ 2 ^ b := by
  have := Nat.pow_le_pow_right (n := 2) (by decide) h
  exact_mod_cast this
theorem pow_pos (n : Nat) : (0 : Int) < 2 ^ n := Int.pow_pos (by decide)
theorem ex_lo (v : Int) (h1 : -7680 ≤ v) : 64 ≤ ex v := by
  obtain ⟨q, i, e, hi⟩ := split v h1
  rw [ex_at v q i e hi]
  rw [Int.le_ediv_iff_mul_le (pow_pos _)]
  have h3 : (2 : Int) ^ (34 - q) ≤ 2 ^ 34 := pow_le (by omega)
  have := R_lo i
  omega
theorem ex_mono (v w : Int) (h1 : -7680 ≤ v) (h2 : v ≤ w) (h3 : w ≤ 7680) : ex v ≤ ex w := by
  obtain ⟨q, i, e, hi⟩ := split v h1
  obtain ⟨q', i', e', hi'⟩ := split w (by omega)
  rw [ex_at v q i e hi, ex_at w q' i' e' hi']
  by_cases hq : q = q'
  · subst hq
    exact Int.ediv_le_ediv (pow_pos _) (R_mono (by omega))
  · have hlt : q + 1 ≤ q' := by omega
    have hq' : q' ≤ 20 := by omega
    rw [Int.le_ediv_iff_mul_le (pow_pos _)]
    have a1 : (2 : Int) ^ (34 - q') ≤ 2 ^ (33 - q) := pow_le (by omega)
    have a2 : (2 : Int) ^ (34 - q) = 2 ^ (33 - q) * 2 := by rw [show 34 - q = (33 - q) + 1 by omega, Int.pow_succ]
    have a3 : R i / 2 ^ (34 - q) * 2 ^ (34 - q) ≤ R i := Int.ediv_mul_le _ (Int.ne_of_gt (pow_pos _))
    have a4 : 0 ≤ R i / 2 ^ (34 - q) := Int.ediv_nonneg (by have := R_lo i; omega) (Int.le_of_lt (pow_pos _))
    have a5 : R i / 2 ^ (34 - q) * 2 ^ (34 - q') ≤ R i / 2 ^ (34 - q) * 2 ^ (33 - q) := Int.mul_le_mul_of_nonneg_left a1 a4
    have a6 : R i / 2 ^ (34 - q) * 2 ^ (34 - q) = R i / 2 ^ (34 - q) * 2 ^ (33 - q) * 2 := by rw [a2, Int.mul_assoc]
    have := R_hi hi
    have := R_lo i'
    omega
theorem ex_hi (v : Int) (h1 : -7680 ≤ v) (h2 : v ≤ 7680) : ex v ≤ 67108864 := by
  have := ex_mono v 7680 h1 h2 (by omega)
  have e : ex 7680 = 67108864 := by decide +kernel
  omega
theorem ex_double (v : Int) (h1 : -7680 ≤ v) (h2 : v ≤ 6912) : ex (v + 768) - 2 * ex v = 0 ∨ ex (v + 768) - 2 * ex v = 1 := by
  obtain ⟨q, i, e, hi⟩ := split v h1
  rw [ex_at v q i e hi, ex_at (v + 768) (q + 1) i (by omega) hi]
  have hq : q ≤ 19 := by omega
  have a2 : (2 : Int) ^ (34 - q) = 2 ^ (34 - (q + 1)) * 2 := by rw [show 34 - q = (34 - (q + 1)) + 1 by omega, Int.pow_succ]
  rw [a2, ← Int.ediv_ediv_of_nonneg (Int.le_of_lt (pow_pos _))]
  omega

theorem ex_walk (v : Int) (h1 : -7680 ≤ v) (h2 : v ≤ 7680) : R ((v + 7680) % 768).toNat / 2 ^ (24 - ((v + 7680) / 768 - 10)).toNat = ex v := by
  unfold ex
  rw [show (24 - ((v + 7680) / 768 - 10)).toNat = 34 - ((v + 7680) / 768).toNat by omega]
/-- Freq(rate, pitch). -/
def fr (rate p : Int) : Int := rate * ex (p - 3840) / 256
theorem fr_mono (rate p q : Int) (h1 : -3840 ≤ p) (h2 : p ≤ q) (h3 : q ≤ 11519) (hr : 1 ≤ rate) : fr rate p ≤ fr rate q := by
  unfold fr
  exact Int.ediv_le_ediv (by decide) (Int.mul_le_mul_of_nonneg_left (ex_mono _ _ (by omega) (by omega) (by omega)) (by omega))

/-- Period(pitch). -/
def per (p : Int) : Int := max 1 (1712 * ex (3840 - p) / 65536)
theorem per_anti (p q : Int) (h1 : -3840 ≤ p) (h2 : p ≤ q) (h3 : q ≤ 11519) : per q ≤ per p := by
  unfold per
  have := ex_mono (3840 - q) (3840 - p) (by omega) (by omega) (by omega)
  omega
theorem per_one (p : Int) : 1 ≤ per p := by unfold per; omega
theorem per_hi (p : Int) (h1 : -3840 ≤ p) (h2 : p ≤ 11519) : per p ≤ 1753088 := by
  unfold per
  have := ex_hi (3840 - p) (by omega) (by omega)
  omega
theorem per_hi0 (p : Int) (h1 : 0 ≤ p) (h2 : p ≤ 11519) : per p ≤ 54784 := by
  have := per_anti 0 p (by omega) h1 h2
  have e : per 0 = 54784 := by decide +kernel
  omega

/-- What PitchOf finds: the greatest pitch from 0 to 7,679 whose period is at least n, or 0. -/
def Greatest (n k : Int) : Prop := 0 ≤ k ∧ k ≤ 7679 ∧ (k = 0 ∨ n ≤ per k) ∧ ∀ j, k < j → j ≤ 7679 → per j < n

theorem greatest_unique {n k k' : Int} (h : Greatest n k) (h' : Greatest n k') : k = k' := by
  obtain ⟨a1, a2, a3, a4⟩ := h
  obtain ⟨b1, b2, b3, b4⟩ := h'
  rcases Int.lt_trichotomy k k' with c | c | c
  · have := a4 k' c b2; omega
  · exact c
  · have := b4 k c a2; omega
/-- What a round of the search keeps. -/
def Pf (n lo hi : Int) : Prop := (lo = 0 ∨ n ≤ per lo) ∧ ∀ j, hi < j → j ≤ 7679 → per j < n
theorem Pf_start (n : Int) : Pf n 0 7679 := ⟨.inl rfl, fun _ _ _ => by omega⟩
theorem Pf_up {n lo hi m : Int} (h : Pf n lo hi) (hm : n ≤ per m) : Pf n m hi := ⟨.inr hm, h.2⟩
theorem Pf_down {n lo hi m : Int} (h : Pf n lo hi) (h0 : 0 ≤ m) (hm : per m < n) : Pf n lo (m - 1) :=
  ⟨h.1, fun j h1 h2 => by have := per_anti m j (by omega) (by omega) (by omega); omega⟩
theorem Pf_end {n k : Int} (h : Pf n k k) (h0 : 0 ≤ k) (h1 : k ≤ 7679) : Greatest n k := ⟨h0, h1, h.1, h.2⟩

/-- S(0) to S(16). -/
def qt : List Int := [0, 25, 50, 74, 98, 120, 142, 162, 180, 197, 212, 225, 236, 244, 250, 254, 255]
/-- The sine at a place from 0 to 63. -/
def sn (p : Int) : Int := if p < 32 then qt.getD (min (p % 32) (32 - p % 32)).toNat 0 else - qt.getD (min (p % 32) (32 - p % 32)).toNat 0
theorem qt_bd (i : Nat) : 0 ≤ qt.getD i 0 ∧ qt.getD i 0 ≤ 255 := by
  by_cases h : i < 17
  · have all : ∀ k : Fin 17, 0 ≤ qt.getD k.val 0 ∧ qt.getD k.val 0 ≤ 255 := by decide +kernel
    exact all ⟨i, h⟩
  · rw [List.getD_eq_getElem?_getD, List.getElem?_eq_none (by simp [qt]; omega)]; decide
def nx (s : Int) : Int := (s * 1103515245 + 12345) % 2147483648
def sqv (p : Int) : Int := if p < 32 then 255 else -255
def rnv (s : Int) : Int := if 0 ≤ s ∧ s ≤ 2147483647 then nx s / 256 % 511 - 255 else 0
/-- Wave(kind, pos, seed). -/
def wv (kind pos seed : Int) : Int :=
  if kind = 0 then sn (pos % 64) else
  if kind = 1 then 255 - 8 * (pos % 64) else
  if kind = 2 then sqv (pos % 64) else
  if kind = 3 then rnv seed else 0
theorem sn_bd (p : Int) (h1 : 0 ≤ p) (h2 : p < 64) : -255 ≤ sn p ∧ sn p ≤ 255 := by
  have all : ∀ k : Fin 64, -255 ≤ sn (k.val : Int) ∧ sn (k.val : Int) ≤ 255 := by decide +kernel
  have := all ⟨p.toNat, by omega⟩
  rwa [show ((⟨p.toNat, by omega⟩ : Fin 64).val : Int) = p by simp; omega] at this
theorem sn_turn (p : Int) (h1 : 0 ≤ p) (h2 : p < 64) : sn ((p + 32) % 64) = - sn p := by
  have all : ∀ k : Fin 64, sn (((k.val : Int) + 32) % 64) = - sn (k.val : Int) := by decide +kernel
  have := all ⟨p.toNat, by omega⟩
  rwa [show ((⟨p.toNat, by omega⟩ : Fin 64).val : Int) = p by simp; omega] at this
theorem wv_bd (kind pos seed : Int) : -255 ≤ wv kind pos seed ∧ wv kind pos seed ≤ 255 := by
  have := sn_bd (pos % 64) (by omega) (by omega)
  unfold wv sqv rnv
  repeat' split
  all_goals omega
theorem wv_round (kind pos seed : Int) : wv kind (pos + 64) seed = wv kind pos seed := by
  unfold wv
  rw [show (pos + 64) % 64 = pos % 64 by omega]
theorem wv_turn (kind pos seed : Int) (h : kind = 0 ∨ kind = 2) : wv kind (pos + 32) seed = - wv kind pos seed := by
  unfold wv
  rcases h with rfl | rfl
  · have := sn_turn (pos % 64) (by omega) (by omega)
    rw [show (pos % 64 + 32) % 64 = (pos + 32) % 64 by omega] at this
    simpa using this
  · simp [sqv]
    split <;> split <;> omega
end Go.Proofs.YtgoeflfnlanlnaaDoor.Tm

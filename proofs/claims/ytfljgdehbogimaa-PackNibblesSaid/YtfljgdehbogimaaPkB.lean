/-
  Plain mathematics for package pack: bits of numbers, bits packed into bytes, and the width of a block. It says nothing of the program.
-/
import Derived.Test.YtfljgdehbogimaaPk
namespace Go.Proofs.Ytfljgdehbogimaa.Pk

/-- Bit k of a number, also below 0. -/
def bitI (v : Int) (k : Nat) : Int := v / 2 ^ k % 2
theorem bitI_01 (v : Int) (k : Nat) : bitI v k = 0 ∨ bitI v k = 1 := by unfold bitI; omega
/-- The number of the first n bits. -/
def bsum (f : Nat → Int) : Nat → Int
  | 0 => 0
  | n + 1 => bsum f n + f n * 2 ^ n
theorem pow_pos2 (n : Nat) : (0 : Int) < 2 ^ n := Int.pow_pos (by omega)
theorem bsum_bits (v : Int) : ∀ n, bsum (bitI v) n = v % 2 ^ n
  | 0 => by simp [bsum, Int.emod_one]
  | n + 1 => by
    have e := Int.mul_ediv_add_emod v (2 ^ n)
    have h0 := Int.emod_nonneg v (b := 2 ^ n) (by have := pow_pos2 n; omega)
    have h1 := Int.emod_lt_of_pos v (pow_pos2 n)
    have e2 := Int.mul_ediv_add_emod (v / 2 ^ n) 2
    have b0 : 0 ≤ v / 2 ^ n % 2 := by omega
    have b1 : v / 2 ^ n % 2 < 2 := by omega
    simp only [bsum, bsum_bits v n, bitI]
    have key : v = 2 ^ (n + 1) * (v / 2 ^ n / 2) + (v % 2 ^ n + v / 2 ^ n % 2 * 2 ^ n) := by
      have : 2 ^ (n + 1) * (v / 2 ^ n / 2) = 2 ^ n * (2 * (v / 2 ^ n / 2)) := by rw [Int.pow_succ, Int.mul_assoc]
      rw [this, Int.mul_comm (v / 2 ^ n % 2)]
      have h3 : 2 ^ n * (2 * (v / 2 ^ n / 2)) + 2 ^ n * (v / 2 ^ n % 2) = 2 ^ n * (v / 2 ^ n) := by rw [← Int.mul_add, e2]
      omega
    have lo : 0 ≤ v % 2 ^ n + v / 2 ^ n % 2 * 2 ^ n := by
      have := Int.mul_nonneg b0 (Int.le_of_lt (pow_pos2 n))
      omega
    have hi : v % 2 ^ n + v / 2 ^ n % 2 * 2 ^ n < 2 ^ (n + 1) := by
      have h4 : v / 2 ^ n % 2 * 2 ^ n ≤ 1 * 2 ^ n := Int.mul_le_mul_of_nonneg_right (by omega) (Int.le_of_lt (pow_pos2 n))
      rw [Int.pow_succ]
      omega
    conv => rhs; rw [key]
    rw [Int.mul_add_emod_self_left, Int.emod_eq_of_lt lo hi]
/-- All of f's values are bits. -/
def Bits (f : Nat → Int) : Prop := ∀ k, f k = 0 ∨ f k = 1
theorem bits_bitI (v : Int) : Bits (bitI v) := bitI_01 v
theorem bsum_lo {f : Nat → Int} (hf : Bits f) : ∀ n, 0 ≤ bsum f n
  | 0 => by simp [bsum]
  | n + 1 => by
    have := bsum_lo hf n
    have := pow_pos2 n
    rcases hf n with h | h <;> simp only [bsum, h] <;> omega
theorem bsum_hi {f : Nat → Int} (hf : Bits f) : ∀ n, bsum f n < 2 ^ n
  | 0 => by simp [bsum]
  | n + 1 => by
    have := bsum_hi hf n
    have := pow_pos2 n
    have e : (2 : Int) ^ (n + 1) = 2 * 2 ^ n := by rw [Int.pow_succ, Int.mul_comm]
    rcases hf n with h | h <;> simp only [bsum, h, e] <;> omega
theorem bsum_congr {f g : Nat → Int} : ∀ {n : Nat}, (∀ k, k < n → f k = g k) → bsum f n = bsum g n
  | 0, _ => rfl
  | n + 1, h => by
    simp only [bsum]
    rw [bsum_congr fun k hk => h k (by omega), h n (by omega)]
/-- The bits of a number of bits. -/
theorem bitI_bsum {f : Nat → Int} (hf : Bits f) : ∀ (n k : Nat), k < n → bitI (bsum f n) k = f k
  | 0, k, h => by omega
  | n + 1, k, h => by
    by_cases e : k = n
    · subst e
      unfold bitI
      simp only [bsum]
      have h0 := bsum_lo hf k
      have h1 := bsum_hi hf k
      rw [Int.add_mul_ediv_right _ _ (by have := pow_pos2 k; omega), Int.ediv_eq_zero_of_lt h0 h1]
      rcases hf k with h | h <;> rw [h] <;> decide
    · have ih := bitI_bsum hf n k (by omega)
      unfold bitI at ih ⊢
      simp only [bsum]
      obtain ⟨j, hj⟩ : ∃ j, n = k + 1 + j := ⟨n - k - 1, by omega⟩
      have e2 : f n * 2 ^ n = (f n * (2 ^ j * 2)) * 2 ^ k := by
        rw [hj, Int.pow_add, Int.pow_succ]
        ac_rfl
      rw [e2, Int.add_mul_ediv_right _ _ (by have := pow_pos2 k; omega), ← Int.mul_assoc, Int.add_mul_emod_self_right]
      exact ih
/-- Byte i of the first n bits of f: what is beyond them is 0. -/
def pbyte (f : Nat → Int) (n i : Nat) : Int := bsum (fun k => if 8 * i + k < n then f (8 * i + k) else 0) 8
theorem cut_bits {f : Nat → Int} (hf : Bits f) (n i : Nat) : Bits (fun k => if 8 * i + k < n then f (8 * i + k) else 0) := fun k => by
  by_cases h : 8 * i + k < n
  · simp only [h, if_true]; exact hf _
  · simp only [h, if_false]; exact .inl trivial
theorem pbyte_lo {f : Nat → Int} (hf : Bits f) (n i : Nat) : 0 ≤ pbyte f n i := bsum_lo (cut_bits hf n i) 8
theorem pbyte_hi {f : Nat → Int} (hf : Bits f) (n i : Nat) : pbyte f n i < 256 := bsum_hi (cut_bits hf n i) 8
/-- The first n bits, in bytes. -/
def pby (f : Nat → Int) (n : Nat) : List Int := (List.range ((n + 7) / 8)).map (pbyte f n)
theorem pby_length (f : Nat → Int) (n : Nat) : (pby f n).length = (n + 7) / 8 := by simp [pby]
theorem pbyte_far {f : Nat → Int} {n i : Nat} (h : i ≠ n / 8) : pbyte f (n + 1) i = pbyte f n i := by
  refine bsum_congr fun k hk => ?_
  by_cases h1 : 8 * i + k < n
  · rw [if_pos h1, if_pos (by omega)]
  · rw [if_neg h1, if_neg (by omega)]
theorem pbyte_none {f : Nat → Int} {n i : Nat} (h : n ≤ 8 * i) : pbyte f n i = 0 := by
  unfold pbyte
  have : ∀ m, bsum (fun k => if 8 * i + k < n then f (8 * i + k) else 0) m = 0 := fun m => by
    induction m with
    | zero => rfl
    | succ m ih => simp only [bsum, ih]; rw [if_neg (by omega)]; simp
  exact this 8
theorem bsum_zero {g : Nat → Int} (r : Nat) : ∀ m, (∀ k, r ≤ k → k < r + m → g k = 0) → bsum g (r + m) = bsum g r
  | 0, _ => rfl
  | m + 1, h => by
    rw [← Nat.add_assoc]
    simp only [bsum]
    rw [bsum_zero r m fun k h1 h2 => h k h1 (by omega), h (r + m) (by omega) (by omega)]
    simp
theorem bsum_part {g : Nat → Int} {r m : Nat} (h : r ≤ m) (hz : ∀ k, r ≤ k → k < m → g k = 0) : bsum g m = bsum g r := by
  obtain ⟨d, rfl⟩ : ∃ d, m = r + d := ⟨m - r, by omega⟩
  exact bsum_zero r d hz
theorem pbyte_part {f : Nat → Int} (n : Nat) : pbyte f n (n / 8) = bsum (fun k => f (8 * (n / 8) + k)) (n % 8) := by
  unfold pbyte
  rw [bsum_part (r := n % 8) (by omega) fun k h1 h2 => if_neg (by omega)]
  exact bsum_congr fun k hk => if_pos (by omega)
theorem pbyte_add {f : Nat → Int} (n : Nat) : pbyte f (n + 1) (n / 8) = pbyte f n (n / 8) + f n * 2 ^ (n % 8) := by
  rw [pbyte_part (f := f) n]
  unfold pbyte
  rw [bsum_part (r := n % 8 + 1) (by omega) fun k h1 h2 => if_neg (by omega)]
  simp only [bsum]
  rw [if_pos (by omega), show 8 * (n / 8) + n % 8 = n by omega]
  congr 1
  exact bsum_congr fun k hk => if_pos (by omega)
theorem pbyte_small {f : Nat → Int} (hf : Bits f) (n : Nat) : 0 ≤ pbyte f n (n / 8) ∧ pbyte f n (n / 8) < 2 ^ (n % 8) := by
  rw [pbyte_part]
  exact ⟨bsum_lo (fun k => hf _) _, bsum_hi (fun k => hf _) _⟩
/-- The bytes so far, with a new one where it is wanted. -/
def room (f : Nat → Int) (n : Nat) : List Int := if n % 8 = 0 then pby f n ++ [0] else pby f n
theorem room_length (f : Nat → Int) (n : Nat) : (room f n).length = n / 8 + 1 := by
  unfold room
  by_cases h : n % 8 = 0
  · rw [if_pos h, List.length_append, pby_length]; simp; omega
  · rw [if_neg h, pby_length]; omega
theorem room_getD {f : Nat → Int} (n i : Nat) (hi : i < n / 8 + 1) : (room f n).getD i 0 = pbyte f n i := by
  unfold room
  by_cases h : n % 8 = 0
  · rw [if_pos h]
    by_cases h2 : i < n / 8
    · simp [List.getD_eq_getElem?_getD, pby, List.getElem?_append, show i < (n + 7) / 8 by omega]
    · have : i = n / 8 := by omega
      subst this
      rw [pbyte_none (by omega)]
      simp [List.getD_eq_getElem?_getD, pby, List.getElem?_append, show ¬ n / 8 < (n + 7) / 8 by omega, show n / 8 - (n + 7) / 8 = 0 by omega]
  · rw [if_neg h]
    simp [List.getD_eq_getElem?_getD, pby, show i < (n + 7) / 8 by omega]
theorem pby_step (f : Nat → Int) (n : Nat) : pby f (n + 1) = (room f n).set (n / 8) (pbyte f n (n / 8) + f n * 2 ^ (n % 8)) := by
  apply List.ext_getElem?
  intro i
  rw [List.getElem?_set]
  by_cases e : n / 8 = i
  · subst e
    rw [if_pos rfl, if_pos (by rw [room_length]; omega)]
    simp [pby, show n / 8 < (n + 1 + 7) / 8 by omega, pbyte_add]
  · rw [if_neg e]
    by_cases hi : i < n / 8 + 1
    · have h1 := room_getD (f := f) n i hi
      rw [List.getD_eq_getElem?_getD] at h1
      have h2 : (room f n)[i]? = some (pbyte f n i) := by
        rw [List.getElem?_eq_getElem (by rw [room_length]; exact hi)] at h1 ⊢
        exact congrArg some (by simpa using h1)
      rw [h2]
      simp [pby, show i < (n + 1 + 7) / 8 by omega, pbyte_far (f := f) (fun h => e h.symm)]
    · rw [List.getElem?_eq_none (l := room f n) (by rw [room_length]; omega), List.getElem?_eq_none (l := pby f (n + 1)) (by rw [pby_length]; omega)]
theorem pby_zero (f : Nat → Int) : pby f 0 = [] := rfl
/-- Bit j of the packed bytes. -/
theorem pby_bit {f : Nat → Int} (hf : Bits f) {n j : Nat} (hj : j < n) : bitI ((pby f n).getD (j / 8) 0) (j % 8) = f j := by
  have e : (pby f n).getD (j / 8) 0 = pbyte f n (j / 8) := by simp [List.getD_eq_getElem?_getD, pby, show j / 8 < (n + 7) / 8 by omega]
  rw [e]
  unfold pbyte
  rw [bitI_bsum (cut_bits hf n (j / 8)) 8 (j % 8) (by omega), if_pos (by omega), show 8 * (j / 8) + j % 8 = j by omega]
/-- The number in the w bits of b from bit i on. -/
def rdv (b : List Int) (i w : Nat) : Int := bsum (fun k => bitI (b.getD ((i + k) / 8) 0) ((i + k) % 8)) w
theorem rdv_bits (b : List Int) (i : Nat) : Bits (fun k => bitI (b.getD ((i + k) / 8) 0) ((i + k) % 8)) := fun _ => bitI_01 _ _
/-- The bits of the values of a block of width w, one behind the other. -/
def bitsOf (l : List Int) (w m : Nat) : Int := bitI (l.getD (m / w) 0) (m % w)
theorem bitsOf_bits (l : List Int) (w : Nat) : Bits (bitsOf l w) := fun _ => bitI_01 _ _
theorem bitsOf_at (l : List Int) {w j i : Nat} (hi : i < w) : bitsOf l w (j * w + i) = bitI (l.getD j 0) i := by
  unfold bitsOf
  rw [Nat.mul_comm j w, Nat.mul_add_div (by omega), Nat.div_eq_of_lt hi, Nat.mul_add_mod, Nat.mod_eq_of_lt hi, Nat.add_zero]
/-- What is read of a packed value is the value modulo 2^w. -/
theorem rdv_pby (l : List Int) {w n j : Nat} (hj : j * w + w ≤ n) : rdv (pby (bitsOf l w) n) (j * w) w = l.getD j 0 % 2 ^ w := by
  rw [← bsum_bits]
  refine bsum_congr fun k hk => ?_
  rw [pby_bit (bitsOf_bits l w) (by omega), bitsOf_at l hk]
end Go.Proofs.Ytfljgdehbogimaa.Pk

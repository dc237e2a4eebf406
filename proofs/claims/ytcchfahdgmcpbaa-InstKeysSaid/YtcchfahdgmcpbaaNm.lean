/-
  Valid names: what strings.ContainsFunc says of a name's runes is what its bytes say. No program.
-/
import Derived.Shelf.GgClosure.StringsIndexFunc
import Derived.Lib.Hide
namespace Go.Proofs.Ytcchfahdgmcpbaa
namespace In
/-- A byte of a valid name. -/
def byt (c : UInt8) : Bool := decide (32 ≤ c.toNat ∧ c.toNat ≤ 126)
/-- A name is valid: 22 bytes at most, each from 32 to 126. -/
def nmd (s : ByteArray) : Bool := decide ((s.size : Int) ≤ 22) && s.data.toList.all byt
theorem all_iff {s : ByteArray} : s.data.toList.all byt = true ↔ ∀ (i : Nat) (hi : i < s.size), 32 ≤ (s[i].toNat : Int) ∧ (s[i].toNat : Int) ≤ 126 := by
  rw [List.all_eq_true]
  constructor
  · intro h i hi
    have := h (s[i]) (by
      have hm : s.data[i] ∈ s.data.toList := by simp
      exact hm)
    have := of_decide_eq_true this
    omega
  · intro h c hc
    obtain ⟨i, hi, rfl⟩ := List.mem_iff_getElem.1 hc
    have := h i (by simpa using hi)
    have e : s[i] = s.data.toList[i] := by simp; rfl
    rw [← e]
    exact decide_eq_true (by omega)
theorem nmd_mk {s : ByteArray} (h1 : (s.size : Int) ≤ 22) (h2 : ∀ (i : Nat) (hi : i < s.size), 32 ≤ (s[i].toNat : Int) ∧ (s[i].toNat : Int) ≤ 126) : nmd s = true := by
  unfold nmd; rw [decide_eq_true h1, all_iff.2 h2]; rfl
theorem nmd_long {s : ByteArray} (h : 22 < (s.size : Int)) : nmd s = false := by
  unfold nmd; rw [decide_eq_false (by omega)]; rfl
theorem nmd_bad {s : ByteArray} (i : Nat) (hi : i < s.size) (h : (s[i].toNat : Int) < 32 ∨ 126 < (s[i].toNat : Int)) : nmd s = false := by
  rw [Bool.eq_false_iff]
  intro hn
  simp only [nmd, Bool.and_eq_true] at hn
  have := all_iff.1 hn.2 i hi
  omega
/-- A rune that no valid name has. -/
def bad (r : Nat) : Bool := decide (r < 32 ∨ 126 < r)
theorem dec_low (s : ByteArray) (i : Nat) (h : (s.get! i).toNat < 128) : Utf8.decode s i = ((s.get! i).toNat, 1) := by
  unfold Utf8.decode
  simp only [Nat.add_zero]
  rw [if_pos h]
theorem dec_high (s : ByteArray) (i : Nat) (h : ¬ (s.get! i).toNat < 128) : 128 ≤ (Utf8.decode s i).1 := by
  unfold Utf8.decode
  simp only [Nat.add_zero]
  rw [if_neg h]
  have e : 128 ≤ Utf8.runeError := by decide
  split
  · split
    · rename_i h2; exact h2
    · exact e
  · split
    · split
      · rename_i h2
        simp only [Bool.and_eq_true, decide_eq_true_eq] at h2
        exact Nat.le_trans (by omega) h2.1
      · exact e
    · split
      · split
        · rename_i h2
          simp only [Bool.and_eq_true, decide_eq_true_eq] at h2
          exact Nat.le_trans (by omega) h2.1
        · exact e
      · exact e
theorem get_eq (s : ByteArray) (i : Nat) (h : i < s.size) : s.get! i = s[i] := by
  have hd : i < s.data.size := h
  have : s.get! i = s.data[i]! := by cases s; rfl
  rw [this, getElem!_pos s.data i hd]
  rfl
theorem idx_iff (s : ByteArray) : ∀ (f pos : Nat), s.size ≤ pos + f → (Lib.idxFuncFrom bad true s f pos = -1 ↔ ∀ (i : Nat) (hi : i < s.size), pos ≤ i → 32 ≤ (s[i].toNat : Int) ∧ (s[i].toNat : Int) ≤ 126)
  | 0, pos, hf => by
    simp only [Lib.idxFuncFrom, true_iff]
    intro i hi hp
    omega
  | f + 1, pos, hf => by
    unfold Lib.idxFuncFrom
    by_cases hp : pos < s.size
    · rw [if_pos hp]
      by_cases hb : (s.get! pos).toNat < 128
      · rw [dec_low s pos hb]
        have eg := get_eq s pos hp
        rw [eg] at hb ⊢
        by_cases hk : bad s[pos].toNat = true
        · rw [if_pos hk]
          have := of_decide_eq_true hk
          constructor
          · intro h; omega
          · intro h; have := h pos hp (Nat.le_refl _); omega
        · rw [if_neg hk]
          have hk' : ¬ (s[pos].toNat < 32 ∨ 126 < s[pos].toNat) := fun h => hk (decide_eq_true h)
          rw [idx_iff s f (pos + 1) (by omega)]
          constructor
          · intro h i hi hpi
            by_cases e : i = pos
            · subst e; omega
            · exact h i hi (by omega)
          · intro h i hi hpi
            exact h i hi (by omega)
      · have hh := dec_high s pos hb
        have hk : bad (Utf8.decode s pos).1 = true := decide_eq_true (by omega)
        rw [if_pos hk]
        rw [get_eq s pos hp] at hb
        constructor
        · intro h; omega
        · intro h; have := h pos hp (Nat.le_refl _); omega
    · rw [if_neg hp]
      simp only [true_iff]
      intro i hi hpi
      omega
/-- Whether a name holds a rune that no valid name has. -/
theorem idx_all (s : ByteArray) : decide (0 ≤ Lib.idxFunc bad true s) = !s.data.toList.all byt := by
  have h1 := Lib.idxFunc_range bad true s
  have h2 := idx_iff s s.size 0 (by omega)
  cases ha : s.data.toList.all byt
  · have hn : ¬ Lib.idxFunc bad true s = -1 := by
      intro h
      have := all_iff.2 fun i hi => h2.1 h i hi (Nat.zero_le _)
      rw [ha] at this; cases this
    exact decide_eq_true (by omega)
  · have h3 : Lib.idxFunc bad true s = -1 := h2.2 fun i hi _ => all_iff.1 ha i hi
    rw [h3]; rfl
theorem nmd_idx {s : ByteArray} {v : Bool} (h1 : (s.size : Int) ≤ 22) (h : decide (0 ≤ Lib.idxFunc bad true s) = v) : nmd s = !v := by
  rw [idx_all] at h
  unfold nmd
  rw [decide_eq_true h1, ← h]
  simp
end In
end Go.Proofs.Ytcchfahdgmcpbaa

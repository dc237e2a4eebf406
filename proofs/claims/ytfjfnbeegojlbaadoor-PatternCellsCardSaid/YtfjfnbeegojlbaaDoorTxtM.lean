/-
  A cell as text. No program.
-/
import Derived.Test.YtfjfnbeegojlbaaDoorPkM
namespace Go.Proofs.YtfjfnbeegojlbaaDoor
open Go.RowKit

namespace Pt
def DG : ByteArray := ⟨#[48, 49, 50, 51, 52, 53, 54, 55, 56, 57, 65, 66, 67, 68, 69, 70, 71, 72, 73, 74, 75, 76, 77, 78, 79, 80, 81, 82, 83, 84, 85, 86, 87, 88, 89, 90]⟩
def NM : ByteArray := ⟨#[67, 45, 67, 35, 68, 45, 68, 35, 69, 45, 70, 45, 70, 35, 71, 45, 71, 35, 65, 45, 65, 35, 66, 45]⟩
def VO : ByteArray := ⟨#[97, 98, 99, 100, 101, 102, 103, 104, 105, 106, 107, 108]⟩
def dots (n : Nat) : ByteArray := (⟨#[46, 46, 46]⟩ : ByteArray).extract 0 n
/-- One digit. -/
def dg (k : Nat) : ByteArray := (DG.extract k 36).extract 0 1
def txt2 (n b : Nat) : ByteArray := dg (n / b) ++ dg (n % b)
def noteT (n : Int) : ByteArray := if n = 255 then ⟨#[61, 61, 61]⟩ else if n = 254 then ⟨#[94, 94, 94]⟩ else if n = 253 then ⟨#[126, 126, 126]⟩ else
  (NM.extract (2 * ((n.toNat - 1) % 12)) 24).extract 0 2 ++ dg ((n.toNat - 1) / 12)
def partT (k : Nat) (v : Int × Int) : ByteArray := match k with
  | 0 => noteT v.1
  | 1 => txt2 v.1.toNat 10
  | 2 => (VO.extract (v.1.toNat - 1) 12).extract 0 1 ++ txt2 v.2.toNat 10
  | _ => dg (v.1.toNat - 1) ++ txt2 v.2.toNat 16
def fieldT (k : Nat) (c : Cl) : ByteArray := if isSet (pv k c) then partT k (pv k c) else dots (wid k)
def fields (c : Cl) : List ByteArray := [fieldT 0 c, fieldT 1 c, fieldT 2 c, fieldT 3 c]
/-- A part that a valid cell may have. -/
def okV (k : Nat) (v : Int × Int) : Prop := match k with
  | 0 => (1 ≤ v.1 ∧ v.1 ≤ 120) ∨ v.1 = 253 ∨ v.1 = 254 ∨ v.1 = 255
  | 1 => 1 ≤ v.1 ∧ v.1 ≤ 31
  | 2 => 1 ≤ v.1 ∧ v.1 ≤ 12 ∧ 0 ≤ v.2 ∧ v.2 ≤ 99
  | _ => 1 ≤ v.1 ∧ v.1 ≤ 36 ∧ 0 ≤ v.2 ∧ v.2 ≤ 255
theorem vcl_ok {c : Cl} (h : vcl c = true) {k : Nat} (hk : k < 4) (hs : isSet (pv k c) = true) : okV k (pv k c) := by
  simp only [vcl, Bool.and_eq_true, wth_iff] at h
  obtain ⟨h1, h2, h3, h4, -, h5, h6, -⟩ := h
  simp only [vnt, decide_eq_true_eq] at h1
  simp only [isSet, bne_iff_ne, ne_eq] at hs
  match k, hk with
  | 0, _ => simp only [pv, okV] at hs ⊢; omega
  | 1, _ => simp only [pv, okV] at hs ⊢; omega
  | 2, _ => simp only [pv, okV] at hs ⊢; omega
  | 3, _ => simp only [pv, okV] at hs ⊢; omega
theorem ext_size (B : ByteArray) (k L m : Nat) (hk : k + m ≤ L) (hL : L ≤ B.size) : ((B.extract k L).extract 0 m).size = m := by
  rw [ByteArray.size_extract, ByteArray.size_extract]
  omega
theorem dg_size {k : Nat} (h : k < 36) : (dg k).size = 1 := ext_size DG k 36 1 (by omega) (by decide)
theorem txt2_size {n b : Nat} (h1 : n / b < 36) (h2 : n % b < 36) : (txt2 n b).size = 2 := by
  unfold txt2
  rw [ByteArray.size_append, dg_size h1, dg_size h2]
theorem ext_le (B : ByteArray) (k L m : Nat) : ((B.extract k L).extract 0 m).size ≤ m := by
  rw [ByteArray.size_extract]
  omega
theorem dg_le (k : Nat) : (dg k).size ≤ 1 := ext_le _ _ _ _
theorem fieldT_size (k : Nat) (c : Cl) : (fieldT k c).size ≤ 3 := by
  unfold fieldT
  split
  · unfold partT
    split
    · unfold noteT
      split
      · exact Nat.le_refl 3
      · split
        · exact Nat.le_refl 3
        · split
          · exact Nat.le_refl 3
          · rw [ByteArray.size_append]
            have := ext_le NM (2 * (((pv 0 c).1.toNat - 1) % 12)) 24 2
            have := dg_le (((pv 0 c).1.toNat - 1) / 12)
            omega
    · unfold txt2
      rw [ByteArray.size_append]
      have := dg_le ((pv 1 c).1.toNat / 10)
      have := dg_le ((pv 1 c).1.toNat % 10)
      omega
    · unfold txt2
      rw [ByteArray.size_append, ByteArray.size_append]
      have := ext_le VO ((pv 2 c).1.toNat - 1) 12 1
      have := dg_le ((pv 2 c).2.toNat / 10)
      have := dg_le ((pv 2 c).2.toNat % 10)
      omega
    · unfold txt2
      rw [ByteArray.size_append, ByteArray.size_append]
      have := dg_le ((pv k c).1.toNat - 1)
      have := dg_le ((pv k c).2.toNat / 16)
      have := dg_le ((pv k c).2.toNat % 16)
      omega
  · unfold dots
    rw [ByteArray.size_extract]
    show min (wid k) 3 - 0 ≤ 3
    omega
end Pt
end Go.Proofs.YtfjfnbeegojlbaaDoor

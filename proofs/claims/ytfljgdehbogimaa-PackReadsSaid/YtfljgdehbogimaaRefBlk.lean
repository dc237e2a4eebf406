/-
  The contract of the reference's block: the width, and the values bit by bit.
-/
import Derived.Test.YtfljgdehbogimaaRefApz
import Derived.Test.YtfljgdehbogimaaRefDel
import Derived.Test.YtfljgdehbogimaaPBlocks
import Derived.Deep.DeepCutAuto
import Derived.Deep.CutBlock
namespace Go.Proofs.Ytfljgdehbogimaa
open Go.RowKit

theorem hlf_mono {V : Nat} : hlf (V : Int) ≤ hlf ((V : Int) + 1) := by
  unfold hlf
  rw [show ((V : Int) + 1).toNat - 1 = V by omega, show (V : Int).toNat - 1 = V - 1 by omega]
  have : (2 : Nat) ^ (V - 1) ≤ 2 ^ V := Nat.pow_le_pow_right (by decide) (by omega)
  have e1 : ((2 ^ (V - 1) : Nat) : Int) = (2 : Int) ^ (V - 1) := by norm_cast
  have e2 : ((2 ^ V : Nat) : Int) = (2 : Int) ^ V := by norm_cast
  omega
theorem alw_mono {l : List Int} {V : Nat} (h : alw l (V : Int) = true) : alw l ((V : Int) + 1) = true := by
  unfold alw at h ⊢
  have h := of_decide_eq_true h
  refine decide_eq_true fun x hx => ?_
  have := (Pk.wrp_iff (hlf_pos _)).mp (h x hx)
  have := hlf_mono (V := V)
  exact (Pk.wrp_iff (hlf_pos _)).mpr (by omega)
theorem alw_next {l : List Int} {k : Nat} {b : Int} (hk : k < l.length) (h : alw (l.take k) b = true) (hx : Pk.wrp (hlf b) (l.getD k 0) = l.getD k 0) : alw (l.take (k + 1)) b = true := by
  unfold alw at h ⊢
  have h := of_decide_eq_true h
  refine decide_eq_true fun x hm => ?_
  rw [List.take_add_one, List.mem_append] at hm
  rcases hm with hm | hm
  · exact h x hm
  · rw [List.getD_eq_getElem?_getD] at hx
    rw [List.getElem?_eq_getElem hk] at hm hx
    simp at hm hx
    rw [hm]; exact hx
theorem alw_not {l : List Int} {k : Nat} {b : Int} (hk : k < l.length) (hx : ¬ Pk.wrp (hlf b) (l.getD k 0) = l.getD k 0) : alw l b = false := by
  unfold alw
  refine decide_eq_false fun h => hx (h _ ?_)
  rw [List.getD_eq_getElem?_getD, List.getElem?_eq_getElem hk]
  exact List.getElem_mem hk
theorem bit_and_i (x : Int) (k : Nat) : bits .and .i64 (x / 2 ^ k) 1 = Pk.bitI x k := by
  have := and_mask (x / 2 ^ k) 1 (by omega)
  simpa [Pk.bitI] using this
/-- The bytes of a block of which k bits are laid. -/
def bkL (l : List Int) (W k : Nat) : List Int := (W : Int) :: (List.range ((l.length * W + 7) / 8)).map (Pk.pbyte (Pk.bitsOf l W) k)
theorem bkL_length (l : List Int) (W k : Nat) : (bkL l W k).length = 1 + (l.length * W + 7) / 8 := by simp [bkL]; omega
theorem bkL_zero (l : List Int) (W : Nat) : bkL l W 0 = (W : Int) :: List.replicate ((l.length * W + 7) / 8) 0 := by
  unfold bkL
  congr 1
  apply List.ext_getElem
  · simp
  · intro i h1 h2
    simp [Pk.pbyte_none]
theorem bkL_full (l : List Int) : bkL l (wid l) (l.length * wid l) = blk l := rfl
theorem bkL_at (l : List Int) (W k : Nat) {i : Nat} (hi : i < (l.length * W + 7) / 8) : (bkL l W k).getD (1 + i) 0 = Pk.pbyte (Pk.bitsOf l W) k i := by
  unfold bkL
  rw [show 1 + i = i + 1 by omega, List.getD_cons_succ, List.getD_eq_getElem?_getD]
  simp [hi]
theorem bkL_step (l : List Int) (W k : Nat) : bkL l W (k + 1) = (bkL l W k).set (1 + k / 8) (Pk.pbyte (Pk.bitsOf l W) k (k / 8) + Pk.bitsOf l W k * 2 ^ (k % 8)) := by
  unfold bkL
  rw [show 1 + k / 8 = k / 8 + 1 by omega, List.set_cons_succ]
  congr 1
  apply List.ext_getElem
  · simp
  · intro i h1 h2
    rw [List.getElem_set]
    simp only [List.getElem_map, List.getElem_range]
    split
    · next h => subst h; exact Pk.pbyte_add k
    · next h => exact Pk.pbyte_far (fun e => h e.symm)
theorem bkL_same (l : List Int) (W k : Nat) (hk : k / 8 < (l.length * W + 7) / 8) (h0 : Pk.bitsOf l W k = 0) : bkL l W (k + 1) = bkL l W k := by
  rw [bkL_step l W k, h0, Int.zero_mul, Int.add_zero, ← bkL_at l W k hk]
  apply List.ext_getElem
  · simp
  · intro i h1 h2
    rw [List.getElem_set]
    split
    · next h => subst h; rw [List.getD_eq_getElem?_getD, List.getElem?_eq_getElem h2]; rfl
    · rfl
end Go.Proofs.Ytfljgdehbogimaa

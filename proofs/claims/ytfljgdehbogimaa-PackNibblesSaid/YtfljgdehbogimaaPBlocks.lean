/-
  The contract of package pack's Blocks.
-/
import Derived.Test.YtfljgdehbogimaaPBlk
import Derived.Test.YtfljgdehbogimaaRefDel
namespace Go.Proofs.Ytfljgdehbogimaa
open Go.RowKit

theorem ent_cod1 (args : Array Value) (w : World) : (callFunc 55 args).run Try.prog w = .ok (.enter 55 args) w := by kernel_rfl
theorem ent_cod2 (args : Array Value) (w : World) : (callFunc 56 args).run Try.prog w = .ok (.enter 56 args) w := by kernel_rfl
/-- A beginning's values are the values' beginning. -/
theorem Trans.app {F : Nat} {cb : Array Value} {lo hi : Nat} {T : List Int → List Int} {S : List Int → World → Prop} (H : Trans F cb lo hi T S) (a : List Int) : ∀ b : List Int, ∃ r, T (a ++ b) = T a ++ r := by
  intro b
  induction b generalizing a with
  | nil => exact ⟨[], by simp⟩
  | cons x b ih =>
    obtain ⟨r, hr⟩ := ih (a ++ [x])
    rw [List.append_assoc] at hr
    exact ⟨_ :: r, by rw [show a ++ x :: b = a ++ ([x] ++ b) by simp, hr, H.snoc a x, List.append_assoc]; rfl⟩
theorem Trans.at {F : Nat} {cb : Array Value} {lo hi : Nat} {T : List Int → List Int} {S : List Int → World → Prop} (H : Trans F cb lo hi T S) (l : List Int) {k : Nat} (hk : k < l.length) : (T (l.take k ++ [l.getD k 0])).getD (l.take k).length 0 = (T l).getD k 0 := by
  have e : l.take k ++ [l.getD k 0] = l.take (k + 1) := by
    rw [List.take_add_one]
    simp [List.getD_eq_getElem?_getD, hk]
  obtain ⟨r, hr⟩ := H.app (l.take (k + 1)) (l.drop (k + 1))
  rw [List.take_append_drop] at hr
  have hl : (T (l.take (k + 1))).length = k + 1 := by rw [H.len, List.length_take]; omega
  rw [e, hr, List.length_take, Nat.min_eq_left (by omega), List.getD_eq_getElem?_getD, List.getD_eq_getElem?_getD, List.getElem?_append_left (by omega)]
/-- The first blocks. -/
def blksN (l : List Int) (n : Nat) : List Int := (List.range n).flatMap fun i => blk (part l i)
theorem blksN_succ (l : List Int) (n : Nat) : blksN l (n + 1) = blksN l n ++ blk (part l n) := by
  unfold blksN
  rw [List.range_succ, List.flatMap_append]
  simp
theorem part_length (l : List Int) (i : Nat) : (part l i).length = min 256 (l.length - 256 * i) := by simp [part]
theorem blk_length (l : List Int) (h : l.length ≤ 256) : (blk l).length ≤ 513 := by
  unfold blk
  rw [List.length_cons, Pk.pby_length]
  have h1 := wid_hi l
  have : l.length * wid l ≤ 256 * 16 := Nat.mul_le_mul h h1
  omega
theorem blksN_length (l : List Int) : ∀ n, (blksN l n).length ≤ 513 * n
  | 0 => by simp [blksN]
  | n + 1 => by
    have h1 := blk_length (part l n) (by rw [part_length]; omega)
    have h2 := blksN_length l n
    rw [blksN_succ, List.length_append]
    omega
theorem alw_part {l : List Int} {b : Int} (h : alw l b = true) (i : Nat) : alw (part l i) b = true := by
  unfold alw at *
  rw [decide_eq_true_eq] at *
  intro x hx
  exact h x (List.mem_of_mem_drop (List.mem_of_mem_take hx))
theorem part_at (l : List Int) (i j : Nat) (hj : j < (part l i).length) : (part l i).getD j 0 = l.getD (256 * i + j) 0 := by
  have h1 := part_length l i
  unfold part
  simp only [List.getD_eq_getElem?_getD, List.getElem?_take, List.getElem?_drop]
  rw [if_pos (by omega)]
/-- A block of values lies in the row of all. -/
theorem part_dat {e : TypeId} {B g c : Nat} {L : List Int} {w : World} (h : w.ownsRow B e 1 (.slice (some ⟨g, 0, none⟩) L.length c) L.length (L.map (Value.int .i64))) (i : Nat) : DatAt w (some ⟨g, 256 * i, none⟩) (part L i) := by
  refine .inr ⟨g, 256 * i, rfl, (World.ownsRow.lt h g rfl).2, fun j hj => ?_⟩
  have h1 := part_length L i
  rw [World.ownsRow.cellAt h (256 * i + j) (by omega), map_getD (by omega), part_at L i j hj]
theorem row_mid {e : TypeId} {w w' : World} {A lo hi g c n : Nat} {xs : List Value} (h : w.ownsRow A e 1 (.slice (some ⟨g, 0, none⟩) n c) n xs) (hm : Mid lo hi w w') (hg : hi ≤ g) : w'.ownsRow A e 1 (.slice (some ⟨g, 0, none⟩) n c) n xs := by
  exact row_of h (hm.block g (World.ownsRow.lt h g rfl).2 (.inr hg))
end Go.Proofs.Ytfljgdehbogimaa

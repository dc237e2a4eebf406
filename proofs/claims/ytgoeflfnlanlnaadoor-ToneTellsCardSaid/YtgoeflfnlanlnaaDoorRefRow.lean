/-
  The contract of the reference's function row: it makes a slice of 768 numbers, R(0) to R(767), in memory of its own; nothing that was there is changed.
-/
import Derived.Test.YtgoeflfnlanlnaaDoorRefNum
namespace Go.Proofs.YtgoeflfnlanlnaaDoor
open Go.RowKit

/-- The first n numbers of the row, as values. -/
def Rs (n : Nat) : List Value := (List.range n).map fun i => Value.int .i64 (Tm.R i)
theorem Rs_len (n : Nat) : (Rs n).length = n := by simp [Rs]
theorem Rs_at {n i : Nat} (h : i < n) : (Rs n)[i]? = some (.int .i64 (Tm.R i)) := by simp [Rs, h]
theorem Rs_succ (n : Nat) : Rs n ++ [.int .i64 (Tm.R n)] = Rs (n + 1) := by simp [Rs, List.range_succ]
def lenOf : Value → Nat
  | .slice _ n _ => n
  | _ => 0
theorem info_int : (Tryd.prog.info? 3).map (fun i => (i.zero, i.size, i.bytes)) = some (some (.int .i64 0), 1, 8) := by kernel_rfl

/-- A slice value that holds the row, in a block from base on. -/
def RowAt (w : World) (base : Nat) (v : Value) (n : Nat) : Prop := ∃ g cap, v = .slice (some ⟨g, 0, none⟩) n cap ∧ w.ownsRow base 3 1 (.slice (some ⟨g, 0, none⟩) n cap) n (Rs n)

theorem rowAt_of {w : World} {base n : Nat} {v : Value} (hn : 0 < n) (h : w.ownsRow base 3 1 v n (Rs n)) : RowAt w base v n := by
  obtain ⟨hl, h2 | ⟨g, cap, cur, hv, h3⟩⟩ := h
  · omega
  · exact ⟨g, cap, hv, hl, .inr ⟨g, cap, cur, rfl, h3⟩⟩

set_option maxHeartbeats 800000 in
set_option maxRecDepth 100000 in
theorem rrow (w : World) :
    Calls Tryd.prog 37 #[] w fun e w' => (∃ v, e = .returned v ∧ RowAt w' w.heap.size v 768) ∧ Below w.heap.size w w' := by
  obtain ⟨i0, hi, hz0, hz1, hz2⟩ := info_parts info_int
  go_enter Tryd.func37, Tryd.ntmps37
  go_wp2
  go_loopw [1] (fun v wr => ∃ n : Nat, 1 ≤ n ∧ (n : Int) ≤ 768 ∧ RowAt wr w.heap.size v n ∧ Below w.heap.size w wr) (fun v _ => 768 - lenOf v)
  case atStart => exact ⟨1, by omega, by omega, rowAt_of (by omega) (World.ownsRow_lit w _ 1 (Nat.le_refl _) (by unfold maxLen; omega) rfl), (Below.refl _ _).alloc (Nat.le_refl _) _⟩
  case round =>
    obtain ⟨n, hn1, hn2, ⟨g, cap, rfl, hown⟩, hb⟩ := hrel
    have hc : wr.cell? ⟨g, n - 1, none⟩ = some (.int .i64 (Tm.R (n - 1))) := by rw [hown.cellAt (n - 1) (by omega), Rs_at (by omega)]
    have r1 := Tm.R_lo (n - 1)
    have r2 := Tm.R_hi (i := n - 1) (by omega)
    have hsz := hb.size
    by_cases hlt : (n : Int) < 768
    · go_wp2_with (at_builtin; refine wpList_append_own _ rfl _ _ 37 rfl w.heap.size 3 i0 (.int .i64 0) 1 8 Tryd.underlying37 hi hz0 hz1 hz2 rfl (by decide) _ _ _ rfl (hown.alloc _) ⟨wr.heap.size, 0, none⟩ 1 1 [.int .i64 (Tm.R (n - 1) + Tm.R (n - 1) * 3878110 / 4294967296)] rfl rfl ?c1 ?c2 ?c3 ?c4 ?c5 ?_)
      case c1 =>
        intro j u hj
        match j, hj with
        | 0, hj => simp at hj; subst hj; simp [Addr.add]
      case c2 => intro u hu; simp at hu; subst hu; rfl
      case c3 => unfold maxLen; omega
      case c4 => omega
      case c5 => simp; omega
      · intro v' w1 hown' hgrow _
        have R1 : RowAt w1 w.heap.size v' (n + 1) := rowAt_of (by omega) (by rw [show Rs (n + 1) = Rs n ++ [.int .i64 (Tm.R (n - 1) + Tm.R (n - 1) * 3878110 / 4294967296)] by rw [← Tm.R_succ, show n - 1 + 1 = n by omega, Rs_succ]]; exact hown')
        have R2 : Below w.heap.size w w1 := (hb.alloc hsz _).grown hgrow (by simp; omega) (fun k hk => (hown.lt k hk).1)
        have HL : Hid (lenOf v' = n + 1) := by obtain ⟨g', cap', rfl, _⟩ := R1; rfl
        clear hown' hgrow hown hc
        go_wp2
        go_roundw
        case rel => exact ⟨n + 1, by omega, by omega, R1, R2⟩
        case measure => rw [HL.out]; simp [lenOf]; omega
    · obtain rfl : n = 768 := by omega
      go_wp2
      go_ret
      exact ⟨⟨_, rfl, g, cap, rfl, hown⟩, hb⟩
end Go.Proofs.YtgoeflfnlanlnaaDoor

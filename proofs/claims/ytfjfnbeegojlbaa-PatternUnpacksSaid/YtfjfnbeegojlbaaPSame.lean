/-
  The law package's light and Same.
-/
import Derived.Test.YtfjfnbeegojlbaaPText
import Derived.Test.YtfjfnbeegojlbaaPEq
import Derived.Test.YtfjfnbeegojlbaaPPack
namespace Go.Proofs.Ytfjfnbeegojlbaa
open Go.RowKit

theorem p_light (r : Int) (p : Option Addr) (n cap : Nat) (w : World) (h : (n : Int) ≤ 9223372036854775807) :
    Calls Try.prog 6 #[PV r p n cap] w fun x w' => x = .returned (.bool (decide (n ≤ 2000))) ∧ Below w.heap.size w w' := by
  unfold PV
  by_cases hn : (n : Int) ≤ 2000
  · have HE := Lib.hid (show decide (n ≤ 2000) = true from decide_eq_true (by omega))
    go_enter Try.func6, Try.ntmps6
    go_wp2
    go_ret
    exact ⟨ret_bool HE.out.symm, below_box _ _⟩
  · have HE := Lib.hid (show decide (n ≤ 2000) = false from decide_eq_false (by omega))
    have hd : decide ((n : Int) ≤ 2000) = false := decide_eq_false hn
    go_enter Try.func6, Try.ntmps6
    go_wp2
    go_ret
    exact ⟨ret_bool HE.out.symm, below_box _ _⟩
set_option maxHeartbeats 1600000 in
/-- Equal patterns are the same. -/
theorem p_Same (r : Int) (l : List Pt.Cl) (p q : Option Addr) (cap cap' : Nat) (w : World) (hp : CellsAt w p l) (hq : CellsAt w q l) (hl : (l.length : Int) ≤ 9223372036854775807) :
    Calls Try.prog 11 #[PV r p l.length cap, PV r q l.length cap'] w fun x w' => x = .returned (.bool true) ∧ Below w.heap.size w w' := by
  obtain ⟨W, hW⟩ : ∃ W, W = (w.alloc (.cells #[.int .i64 r, .slice p l.length cap] 24)).alloc (.cells #[.int .i64 r, .slice q l.length cap'] 24) := ⟨_, rfl⟩
  have hB : Below w.heap.size w W := by rw [hW]; exact stepB (below_box _ _) (below_box _ _)
  obtain ⟨b, hb⟩ : ∃ b, b = w.heap.size := ⟨_, rfl⟩
  have hx : Pb W b r (.slice p l.length cap) := by rw [hW, hb]; exact (pb_box _ _ _ _).kept (below_box _ _)
  have hy : Pb W (b + 1) r (.slice q l.length cap') := by
    rw [hW, hb]
    have := pb_box (w.alloc (.cells #[.int .i64 r, .slice p l.length cap] 24)) r (.slice q l.length cap') 24
    simpa using this
  have HB := Lib.hid hB
  have HP := Lib.hid (hp.below hB)
  have HQ := Lib.hid (hq.below hB)
  obtain ⟨n, hn⟩ : ∃ n, l.length = n := ⟨_, rfl⟩
  rw [hn] at hx hy hW hl ⊢
  obtain ⟨x0, x1, -, -⟩ := hx.cells
  obtain ⟨y0, y1, -, -⟩ := hy.cells
  have HN := Lib.hid hn
  unfold PV
  clear hp hq hB hx hy hn
  go_enter Try.func11, Try.ntmps11
  go_upto_region 1 with fail
  rw [← hW, ← hb]
  clear hW hb
  go_wp2
  go_loopw [23] (fun i wr => ∃ k m : Nat, k ≤ n ∧ i = .int .i64 k ∧ wr = W.drewN m) (fun i _ => n - (intOf i).toNat)
  case atStart => exact ⟨0, 0, by omega, rfl, rfl⟩
  case round =>
    obtain ⟨k, m, hk, rfl, rfl⟩ := hrel
    by_cases hlt : k < n
    · obtain ⟨bp, op, hpe, _, hr⟩ := HP.out.at (i := k) (by rw [HN.out]; exact hlt)
      obtain ⟨bq, oq, hqe, _, hs⟩ := HQ.out.at (i := k) (by rw [HN.out]; exact hlt)
      subst hpe hqe
      obtain ⟨c, hc⟩ : ∃ c, Pt.at' l k = c := ⟨_, rfl⟩
      rw [hc] at hr hs
      have EQ := eq_cl_v c c (Pt.eqC_iff.2 rfl)
      rw [cl_arr c] at EQ
      obtain ⟨a0, a1, a2, a3, a4, a5⟩ := rng_cells hr
      obtain ⟨c0, c1, c2, c3, c4, c5⟩ := rng_cells hs
      have hlt' : (k : Int) < (n : Int) := by omega
      have HLT := Lib.hid hlt
      clear hr hs hc hlt
      go_wp2
      go_quiet (fail)
      go_wp2
      go_roundw
      case rel => exact ⟨k + 1, _, HLT.out, by go_num, rfl⟩
      case measure => simp [intOf]; have := HLT.out; omega
    · go_wp2
      go_ret
      exact ⟨rfl, below_drewN' HB.out _⟩
end Go.Proofs.Ytfjfnbeegojlbaa

/-
  The contract of package inst's circleOf.
-/
import Derived.Test.YtcchfahdgmcpbaaPVal
import Derived.StillTailTactics
namespace Go.Proofs.Ytcchfahdgmcpbaa
open Go.RowKit

set_option maxHeartbeats 1600000 in
theorem p_co_none (on : Bool) (pts : List (Int × Int)) (sus : Bool) (ss se : Int) (lp : Bool) (ls le : Int) (p : Option Addr) (cap : Nat) (h : Bool) (w : World) (hd : PtsAt w p pts) (hs : (h && sus) = false) (hl : lp = false) :
    Calls Try.prog 54 #[EV (⟨on, pts, sus, ss, se, lp, ls, le⟩ : In.Env) p cap, .bool h] w fun x w' => x = .returned (.agg #[.bool false, .int .i64 0, .int .i64 0]) ∧ Below w.heap.size w w' := by
  obtain ⟨W, hW⟩ : ∃ W, W = (w.alloc (.cells #[.bool on, .slice p pts.length cap, .bool sus, .int .i64 ss, .int .i64 se, .bool lp, .int .i64 ls, .int .i64 le] 24)).alloc (.cells #[.bool false, .int .i64 0, .int .i64 0] 61) := ⟨_, rfl⟩
  have hWb : Below w.heap.size w W := by rw [hW]; exact stepB (below_box _ _) (below_box _ _)
  obtain ⟨b, hbe⟩ : ∃ b, b = w.heap.size := ⟨_, rfl⟩
  have hE : EB W b (⟨on, pts, sus, ss, se, lp, ls, le⟩ : In.Env) p cap := by rw [hW, hbe]; exact (eb_new w (⟨on, pts, sus, ss, se, lp, ls, le⟩ : In.Env) p cap _).kept (below_box _ _)
  have hC : Cb W (b + 1) false 0 0 := by rw [hW, hbe]; have := cb_new (w.alloc (.cells #[.bool on, .slice p pts.length cap, .bool sus, .int .i64 ss, .int .i64 se, .bool lp, .int .i64 ls, .int .i64 le] 24)) false 0 0 61; rwa [World.size_alloc] at this
  have hD := hd.below hWb
  have q1 : h = false ∨ (h = true ∧ sus = false) := by revert hs; cases h <;> simp
  have HWb := Lib.hid hWb
  obtain ⟨x0, x1, x2, x3, x4, x5, x6, x7⟩ := hE
  obtain ⟨⟨c0, c1, c2⟩, f0, f1, f2⟩ := hC
  subst hl
  have hwb : w.heap.size ≤ b := Nat.le_of_eq hbe.symm
  clear hWb hs hd hD
  unfold EV
  rcases q1 with rfl | ⟨rfl, rfl⟩
  all_goals
    go_enter Try.func54, Try.ntmps54
    go_upto_region 1 with fail
    rw [← hW, ← hbe]
    clear hW hbe
    go_wp2
    exact bodyPost_ret (v := .agg #[.bool false, .int .i64 0, .int .i64 0]) (by simp [results, Try.results54, go_sem, c0, c1, c2, World.cell?_setCell_other]) rfl ⟨rfl, ((HWb.out.setCell (p := ⟨b + 1, 0, none⟩) (Nat.le_succ_of_le hwb) _).setCell (p := ⟨b + 1, 1, none⟩) (Nat.le_succ_of_le hwb) _).setCell (p := ⟨b + 1, 2, none⟩) (Nat.le_succ_of_le hwb) _⟩
set_option maxHeartbeats 1600000 in
theorem p_co_sus (on : Bool) (pts : List (Int × Int)) (sus : Bool) (ss se : Int) (lp : Bool) (ls le : Int) (p : Option Addr) (cap : Nat) (h : Bool) (w : World) (hd : PtsAt w p pts) (hs : (h && sus) = true) (i j : Nat) (hi : i < pts.length) (hj : j < pts.length) (ei : ss = (i : Int)) (ej : se = (j : Int)) :
    Calls Try.prog 54 #[EV (⟨on, pts, sus, ss, se, lp, ls, le⟩ : In.Env) p cap, .bool h] w fun x w' => x = .returned (.agg #[.bool true, .int .i64 (In.tk pts i), .int .i64 (In.tk pts j)]) ∧ Below w.heap.size w w' := by
  obtain ⟨W, hW⟩ : ∃ W, W = (w.alloc (.cells #[.bool on, .slice p pts.length cap, .bool sus, .int .i64 ss, .int .i64 se, .bool lp, .int .i64 ls, .int .i64 le] 24)).alloc (.cells #[.bool false, .int .i64 0, .int .i64 0] 61) := ⟨_, rfl⟩
  have hWb : Below w.heap.size w W := by rw [hW]; exact stepB (below_box _ _) (below_box _ _)
  obtain ⟨b, hbe⟩ : ∃ b, b = w.heap.size := ⟨_, rfl⟩
  have hE : EB W b (⟨on, pts, sus, ss, se, lp, ls, le⟩ : In.Env) p cap := by rw [hW, hbe]; exact (eb_new w (⟨on, pts, sus, ss, se, lp, ls, le⟩ : In.Env) p cap _).kept (below_box _ _)
  have hC : Cb W (b + 1) false 0 0 := by rw [hW, hbe]; have := cb_new (w.alloc (.cells #[.bool on, .slice p pts.length cap, .bool sus, .int .i64 ss, .int .i64 se, .bool lp, .int .i64 ls, .int .i64 le] 24)) false 0 0 61; rwa [World.size_alloc] at this
  have hD := hd.below hWb
  obtain ⟨b1, off, hp, hc1, _⟩ := hD.at hi
  obtain ⟨b2, off2, hp2, hc2, _⟩ := hD.at hj
  subst hp
  simp only [Option.some.injEq, Addr.mk.injEq, and_true] at hp2
  obtain ⟨e1, e2⟩ := hp2
  subst e1 e2 ei ej
  obtain ⟨x, hx⟩ : ∃ x, In.tk pts i = x := ⟨_, rfl⟩
  obtain ⟨y, hy⟩ : ∃ y, In.tk pts j = y := ⟨_, rfl⟩
  rw [hx] at hc1 ⊢
  rw [hy] at hc2 ⊢
  have HWb := Lib.hid hWb
  have ⟨x0, x1, x2, x3, x4, x5, x6, x7⟩ := hE
  have hwb : w.heap.size ≤ b := Nat.le_of_eq hbe.symm
  have hi' : (i : Int) < (pts.length : Int) := by omega
  have hj' : (j : Int) < (pts.length : Int) := by omega
  obtain ⟨rfl, rfl⟩ : h = true ∧ sus = true := by revert hs; cases h <;> simp
  clear hs
  clear hWb hd hD hx hy
  unfold EV
  all_goals
    go_enter Try.func54, Try.ntmps54
    go_upto_region 1 with fail
    rw [← hW, ← hbe]
    clear hW hbe
    go_wp2
    refine wp_region_still_tail 15 (by kernel_rfl) (by kernel_rfl) ?_
    obtain ⟨W', hW'⟩ : ∃ W', W' = W.drew := ⟨_, rfl⟩
    rw [show ({ W with drawn := W.drawn + 1 } : World) = W' from hW'.symm]
    have HWb' := Lib.hid (show Below w.heap.size w W' by rw [hW']; exact HWb.out.drew)
    have hc1' : W'.cell? ⟨b1, off + i * 2, none⟩ = some (.int .i64 x) := by rw [hW']; exact hc1
    have hc2' : W'.cell? ⟨b1, off + j * 2, none⟩ = some (.int .i64 y) := by rw [hW']; exact hc2
    have hE' := hE
    replace hE' := (show EB W.drew b _ _ _ from hE')
    rw [← hW'] at hE'
    have hC' : Cb W' (b + 1) false 0 0 := by rw [hW']; exact hC
    clear hc1 hc2 hE hC hW'
    obtain ⟨x0, x1, x2, x3, x4, x5, x6, x7⟩ := hE'
    obtain ⟨⟨c0, c1, c2⟩, f0, f1, f2⟩ := hC'
    simp only [List.take_succ_cons, List.take_zero, List.drop_succ_cons, List.drop_zero]
    repeat still_step
    refine wpStill_nil ?_
    go_wp2
    exact bodyPost_ret (v := .agg #[.bool true, .int .i64 x, .int .i64 y]) (by simp [results, Try.results54, go_sem, c0, c1, c2, World.cell?_setCell_other]) rfl ⟨rfl, ((HWb'.out.setCell (p := ⟨b + 1, 0, none⟩) (Nat.le_succ_of_le hwb) _).setCell (p := ⟨b + 1, 1, none⟩) (Nat.le_succ_of_le hwb) _).setCell (p := ⟨b + 1, 2, none⟩) (Nat.le_succ_of_le hwb) _⟩
set_option maxHeartbeats 1600000 in
theorem p_co_lp (on : Bool) (pts : List (Int × Int)) (sus : Bool) (ss se : Int) (lp : Bool) (ls le : Int) (p : Option Addr) (cap : Nat) (h : Bool) (w : World) (hd : PtsAt w p pts) (hs : (h && sus) = false) (hl : lp = true) (i j : Nat) (hi : i < pts.length) (hj : j < pts.length) (ei : ls = (i : Int)) (ej : le = (j : Int)) :
    Calls Try.prog 54 #[EV (⟨on, pts, sus, ss, se, lp, ls, le⟩ : In.Env) p cap, .bool h] w fun x w' => x = .returned (.agg #[.bool true, .int .i64 (In.tk pts i), .int .i64 (In.tk pts j)]) ∧ Below w.heap.size w w' := by
  obtain ⟨W, hW⟩ : ∃ W, W = (w.alloc (.cells #[.bool on, .slice p pts.length cap, .bool sus, .int .i64 ss, .int .i64 se, .bool lp, .int .i64 ls, .int .i64 le] 24)).alloc (.cells #[.bool false, .int .i64 0, .int .i64 0] 61) := ⟨_, rfl⟩
  have hWb : Below w.heap.size w W := by rw [hW]; exact stepB (below_box _ _) (below_box _ _)
  obtain ⟨b, hbe⟩ : ∃ b, b = w.heap.size := ⟨_, rfl⟩
  have hE : EB W b (⟨on, pts, sus, ss, se, lp, ls, le⟩ : In.Env) p cap := by rw [hW, hbe]; exact (eb_new w (⟨on, pts, sus, ss, se, lp, ls, le⟩ : In.Env) p cap _).kept (below_box _ _)
  have hC : Cb W (b + 1) false 0 0 := by rw [hW, hbe]; have := cb_new (w.alloc (.cells #[.bool on, .slice p pts.length cap, .bool sus, .int .i64 ss, .int .i64 se, .bool lp, .int .i64 ls, .int .i64 le] 24)) false 0 0 61; rwa [World.size_alloc] at this
  have hD := hd.below hWb
  obtain ⟨b1, off, hp, hc1, _⟩ := hD.at hi
  obtain ⟨b2, off2, hp2, hc2, _⟩ := hD.at hj
  subst hp
  simp only [Option.some.injEq, Addr.mk.injEq, and_true] at hp2
  obtain ⟨e1, e2⟩ := hp2
  subst e1 e2 ei ej
  obtain ⟨x, hx⟩ : ∃ x, In.tk pts i = x := ⟨_, rfl⟩
  obtain ⟨y, hy⟩ : ∃ y, In.tk pts j = y := ⟨_, rfl⟩
  rw [hx] at hc1 ⊢
  rw [hy] at hc2 ⊢
  have HWb := Lib.hid hWb
  have ⟨x0, x1, x2, x3, x4, x5, x6, x7⟩ := hE
  have hwb : w.heap.size ≤ b := Nat.le_of_eq hbe.symm
  have hi' : (i : Int) < (pts.length : Int) := by omega
  have hj' : (j : Int) < (pts.length : Int) := by omega
  have q1 : h = false ∨ (h = true ∧ sus = false) := by revert hs; cases h <;> simp
  subst hl
  clear hs
  clear hWb hd hD hx hy
  unfold EV
  rcases q1 with rfl | ⟨rfl, rfl⟩
  all_goals
    go_enter Try.func54, Try.ntmps54
    go_upto_region 1 with fail
    rw [← hW, ← hbe]
    clear hW hbe
    go_wp2
    refine wp_region_still_tail 15 (by kernel_rfl) (by kernel_rfl) ?_
    obtain ⟨W', hW'⟩ : ∃ W', W' = W.drew := ⟨_, rfl⟩
    rw [show ({ W with drawn := W.drawn + 1 } : World) = W' from hW'.symm]
    have HWb' := Lib.hid (show Below w.heap.size w W' by rw [hW']; exact HWb.out.drew)
    have hc1' : W'.cell? ⟨b1, off + i * 2, none⟩ = some (.int .i64 x) := by rw [hW']; exact hc1
    have hc2' : W'.cell? ⟨b1, off + j * 2, none⟩ = some (.int .i64 y) := by rw [hW']; exact hc2
    have hE' := hE
    replace hE' := (show EB W.drew b _ _ _ from hE')
    rw [← hW'] at hE'
    have hC' : Cb W' (b + 1) false 0 0 := by rw [hW']; exact hC
    clear hc1 hc2 hE hC hW'
    obtain ⟨x0, x1, x2, x3, x4, x5, x6, x7⟩ := hE'
    obtain ⟨⟨c0, c1, c2⟩, f0, f1, f2⟩ := hC'
    simp only [List.take_succ_cons, List.take_zero, List.drop_succ_cons, List.drop_zero]
    repeat still_step
    refine wpStill_nil ?_
    go_wp2
    exact bodyPost_ret (v := .agg #[.bool true, .int .i64 x, .int .i64 y]) (by simp [results, Try.results54, go_sem, c0, c1, c2, World.cell?_setCell_other]) rfl ⟨rfl, ((HWb'.out.setCell (p := ⟨b + 1, 0, none⟩) (Nat.le_succ_of_le hwb) _).setCell (p := ⟨b + 1, 1, none⟩) (Nat.le_succ_of_le hwb) _).setCell (p := ⟨b + 1, 2, none⟩) (Nat.le_succ_of_le hwb) _⟩
end Go.Proofs.Ytcchfahdgmcpbaa

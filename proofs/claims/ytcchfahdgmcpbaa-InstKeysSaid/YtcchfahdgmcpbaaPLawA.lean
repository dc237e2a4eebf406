/-
  Words of the law InstKeys, and its walk where the lists are long.
-/
import Derived.Test.YtcchfahdgmcpbaaPInst
import Derived.Test.YtcchfahdgmcpbaaPOpk
import Derived.Test.YtcchfahdgmcpbaaPAwake
import Derived.Test.YtcchfahdgmcpbaaPSmp
import Derived.Test.YtcchfahdgmcpbaaRSmp
import Derived.Test.YtcchfahdgmcpbaaPSame
import Derived.Deep.DeepCutAuto
import Derived.Deep.RegionHeld3
import Derived.Laws.AppendOwnNone
import Derived.Deep.MidRow
namespace Go.Proofs.Ytcchfahdgmcpbaa
open Go.RowKit

/-- The law's two blocks, in whatever later world: what was asked, and the instrument. -/
structure Lw (w : World) (b c : Nat) (x : In.Kyd) (a : In.Loc) : Prop where
  ask : w.rangeAt b 0 (KL x a)
  ins : w.rangeAt c 0 (IL x.i a)
  pts : IPts w x.i a
theorem kl_lt {w : World} {b : Nat} {x : In.Kyd} {a : In.Loc} (h : w.rangeAt b 0 (KL x a)) : b < w.heap.size := cell_lt (h 0 _ rfl)
theorem kl_il {w : World} {b : Nat} {x : In.Kyd} {a : In.Loc} (h : w.rangeAt b 0 (KL x a)) : w.rangeAt b 0 (IL x.i a) := by
  intro j v hv
  refine h j v ?_
  unfold KL
  rw [List.getElem?_append_left (List.getElem?_eq_some_iff.1 hv).1]
  exact hv
theorem Lw.kept {w w' : World} {b c : Nat} {x : In.Kyd} {a : In.Loc} (h : Lw w b c x a) (hb : Below w.heap.size w w') : Lw w' b c x a := ⟨range_below h.ask hb (kl_lt h.ask), range_kept h.ins hb, h.pts.below hb⟩
theorem Lw.num {w : World} {b c : Nat} {x : In.Kyd} {a : In.Loc} (h : Lw w b c x a) : w.cell? ⟨b, 33, none⟩ = some (.int .i64 x.note) ∧ w.cell? ⟨b, 34, none⟩ = some (.int .i64 x.own) ∧ w.cell? ⟨b, 35, none⟩ = some (.int .i64 x.f) ∧ w.cell? ⟨b, 36, none⟩ = some (.int .i64 x.t) ∧ w.cell? ⟨b, 37, none⟩ = some (.int .i64 x.s) ∧ w.cell? ⟨b, 38, none⟩ = some (.int .i64 x.m) := by
  have g := fun j v hv => h.ask j v hv
  simp only [Nat.zero_add] at g
  exact ⟨g 33 _ rfl, g 34 _ rfl, g 35 _ rfl, g 36 _ rfl, g 37 _ rfl, g 38 _ rfl⟩
theorem range_grown {w w' : World} {b row : Nat} {cs : List Value} (h : w.rangeAt b 0 cs) (hg : w.grownBy w' (some row)) (hne : b ≠ row) (hl : b < w.heap.size) : w'.rangeAt b 0 cs := by
  intro j v hv
  rw [World.cell?_of_block (a := ⟨b, 0 + j, none⟩) (hg.block b hl (by simpa using hne))]
  exact h j v hv
/-- A struct has been laid into a new block. -/
theorem ipts_laid {w w' : World} {c : Nat} {i : In.Ins} {a : In.Loc} {o : Obj} (hp : IPts w i a) (hc : c = w.heap.size) (hg : (w.alloc o).grownBy w' (some c)) : IPts w' i a := by
  have A : Ap c c (w.alloc o) w' := ap_grown hg (Nat.le_refl c) (Nat.le_refl c)
  have one : ∀ {p l}, PtsAt w p l → PtsAt w' p l := fun {p l} h => (h.below (below_box w o)).ap (ou_old h (Nat.le_of_eq hc.symm)) A
  exact ⟨one hp.1, one hp.2.1, one hp.2.2.1, one hp.2.2.2⟩
theorem below_laid {w w' : World} {c : Nat} {o : Obj} (hc : c = w.heap.size) (hg : (w.alloc o).grownBy w' (some c)) : Below w.heap.size w w' := (below_box w o).grown hg (by simp) (fun k hk => by simp at hk; omega)
theorem lw_new {w w' : World} {c : Nat} {x : In.Kyd} {a : In.Loc} {o : Obj} (hd : IPts w x.i a) (hc : c = w.heap.size + 1) (hg : ((w.alloc (.cells (KL x a).toArray 42)).alloc o).grownBy w' (some c)) (hr : w'.rangeAt c 0 (IL x.i a)) : Lw w' w.heap.size c x a := by
  have hc' : c = (w.alloc (.cells (KL x a).toArray 42)).heap.size := by rw [hc]; simp
  exact ⟨range_below (range_box w (KL x a) _) (below_laid hc' hg) (by simp), hr, ipts_laid ⟨hd.1.below (below_box _ _), hd.2.1.below (below_box _ _), hd.2.2.1.below (below_box _ _), hd.2.2.2.below (below_box _ _)⟩ hc' hg⟩
set_option maxRecDepth 100000 in
set_option maxHeartbeats 6400000 in
theorem keys_long (x : In.Kyd) (a : In.Loc) (w : World) (hd : IPts w x.i a) (h1 : 500 < (x.i.keys.length : Int)) :
    Calls Try.prog 5 #[.agg (KL x a).toArray] w fun z w' => z = .returned (.bool true) ∧ Below w.heap.size w w' := by
  have d1 : decide (500 < (x.i.keys.length : Int)) = true := decide_eq_true h1
  obtain ⟨W1, hW⟩ : ∃ W, W = w.alloc (.cells (KL x a).toArray 42) := ⟨_, rfl⟩
  obtain ⟨b, hbe⟩ : ∃ b, b = w.heap.size := ⟨_, rfl⟩
  have HR1 := Lib.hid (show W1.rangeAt b 0 (IL x.i a) by rw [hW, hbe]; exact kl_il (range_box w (KL x a) _))
  have HT1 := Lib.hid (there_box W1 (IL In.zer In.zel) 40)
  have HD := Lib.hid hd
  have HW1 := Lib.hid hW
  have HBE := Lib.hid hbe
  clear hd
  go_enter Try.func5, Try.ntmps5
  go_upto_region 1 with fail
  rw [← hW, ← hbe]
  clear hW hbe
  go_upto_region 2 with (first | (refine ld_inst (by rfl) _ rfl rfl HR1.out ?_) | (refine al_inst (by rfl) rfl ?_) | ((refine st_inst (by rfl) _ _ rfl rfl rfl HT1.out ?_); intro w4 hr4 ht4 hg4))
  obtain ⟨c, hc⟩ : ∃ c, c = W1.heap.size := ⟨_, rfl⟩
  rw [← hc] at hr4 hg4 ⊢
  obtain ⟨W, hW4⟩ : ∃ W, W = w4 := ⟨_, rfl⟩
  rw [← hW4] at hr4 hg4 ⊢
  have HL := Lib.hid (show Lw W b c x a by
    rw [HBE.out]
    rw [HW1.out] at hg4 hc
    exact lw_new HD.out (by rw [hc]; simp) hg4 hr4)
  have HWb := Lib.hid (show Below w.heap.size w W from (show Below w.heap.size w W1 by rw [HW1.out]; exact below_box _ _).trans ((below_laid hc hg4).mono (by rw [HW1.out]; simp)))
  clear hr4 ht4 hg4 hc hW4 HR1 HT1 HW1
  obtain ⟨-, x1, -, x3, -, -, -, -, -, -, -, x11, -, -, -, -, -, -, -, x19, -⟩ := range_ib HL.out.ins
  go_wp2_with (first | (go_at_call 6; ((with_reducible refine (p_awake _).mono ?_); rintro x' w99 ⟨rfl, hb99⟩)))
  go_ret
  exact ⟨rfl, HWb.out.trans (hb99.mono HWb.out.size)⟩
end Go.Proofs.Ytcchfahdgmcpbaa

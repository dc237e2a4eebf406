/-
  The reference's ValidCell, wide and Valid.
-/
import Derived.Test.YtfjfnbeegojlbaaDoorPPack
import Derived.Deep.DeepCutAuto
import Derived.Deep.Light
namespace Go.Proofs.YtfjfnbeegojlbaaDoor
open Go.RowKit

namespace Pt
def cvol (c : Cl) : Bool := decide ((c.vc = 0 ∧ c.va = 0) ∨ (1 ≤ c.vc ∧ c.vc ≤ 12 ∧ 0 ≤ c.va ∧ c.va ≤ 99))
def ceff (c : Cl) : Bool := decide ((c.ef = 0 ∧ c.pa = 0) ∨ (1 ≤ c.ef ∧ c.ef ≤ 36 ∧ 0 ≤ c.pa ∧ c.pa ≤ 255))
theorem vcl_ref (c : Cl) : vcl c = (vnt c.nt && (cvol c && (ceff c && decide (0 ≤ c.it ∧ c.it ≤ 31)))) := by
  unfold vcl vnt wth zro cvol ceff
  rw [Bool.eq_iff_iff]
  simp only [Bool.and_eq_true, decide_eq_true_eq]
  omega
end Pt
set_option maxHeartbeats 1600000 in
set_option maxRecDepth 100000 in
theorem r_ValidCell (c : Pt.Cl) (w : World) :
    Calls Tryd.prog 7 #[.agg (CL c).toArray] w fun x w' => x = .returned (.bool (Pt.vcl c)) ∧ Below w.heap.size w w' := by
  obtain ⟨d3, hd3⟩ : ∃ d, (c.nt == 253) = d := ⟨_, rfl⟩
  obtain ⟨d4, hd4⟩ : ∃ d, (c.nt == 254) = d := ⟨_, rfl⟩
  obtain ⟨d5, hd5⟩ : ∃ d, (c.nt == 255) = d := ⟨_, rfl⟩
  obtain ⟨d6, hd6⟩ : ∃ d, (c.vc == 0) = d := ⟨_, rfl⟩
  obtain ⟨d7, hd7⟩ : ∃ d, (c.va == 0) = d := ⟨_, rfl⟩
  obtain ⟨d8, hd8⟩ : ∃ d, (c.ef == 0) = d := ⟨_, rfl⟩
  obtain ⟨d9, hd9⟩ : ∃ d, (c.pa == 0) = d := ⟨_, rfl⟩
  obtain ⟨v1, hv1⟩ : ∃ v, Pt.vnt c.nt = v := ⟨_, rfl⟩
  obtain ⟨v2, hv2⟩ : ∃ v, Pt.cvol c = v := ⟨_, rfl⟩
  obtain ⟨v3, hv3⟩ : ∃ v, Pt.ceff c = v := ⟨_, rfl⟩
  have HN := Lib.hid (show d3 = decide (c.nt = 253) ∧ d4 = decide (c.nt = 254) ∧ d5 = decide (c.nt = 255) from ⟨hd3.symm, hd4.symm, hd5.symm⟩)
  have HV := Lib.hid (show (d6 = decide (c.vc = 0) ∧ d7 = decide (c.va = 0)) ∧ d8 = decide (c.ef = 0) ∧ d9 = decide (c.pa = 0) from ⟨⟨hd6.symm, hd7.symm⟩, hd8.symm, hd9.symm⟩)
  have HW := Lib.hid (show Pt.vnt c.nt = v1 ∧ Pt.cvol c = v2 ∧ Pt.ceff c = v3 from ⟨hv1, hv2, hv3⟩)
  obtain ⟨W, hW⟩ : ∃ W, W = w.alloc (.cells (CL c).toArray 23) := ⟨_, rfl⟩
  have HB := Lib.hid (show Below w.heap.size w W by rw [hW]; exact below_box _ _)
  have hr : W.rangeAt w.heap.size 0 (CL c) := by rw [hW]; exact range_box w (CL c) _
  obtain ⟨b, hb⟩ : ∃ b, b = w.heap.size := ⟨_, rfl⟩
  rw [← hb] at hr
  obtain ⟨g0, g1, g2, g3, g4, g5⟩ := rng_cells hr
  simp only [Nat.zero_add] at g1 g2 g3 g4 g5
  rw [cl_arr] at hW ⊢
  clear hr hv1 hv2 hv3
  go_enter Tryd.func7, Tryd.ntmps7
  go_upto_region 1 with fail
  rw [← hW, ← hb]
  clear hW hb
  go_cut [3] (fun u wx => u = .bool v1 ∧ wx = W)
  case first =>
    go_wp2
    all_goals
      go_meet
      case rel =>
        refine ⟨?_, rfl⟩
        go_light
        clear HB g0 g1 g2 g3 g4 g5
        have hnn := HN.out
        have hw := HW.out.1
        simp only [Value.bool.injEq]
        rw [← hw]
        clear hw HN HV HW
        clear v1 v2 v3
        first
          | (simp only [hnn] at *; rw [Bool.eq_iff_iff]; simp [Pt.vnt] at *; omega)
          | (simp only [hnn] at *; simp [Pt.vnt] at *; omega)
          | (simp only [hnn] at *; simp [Pt.vnt] at *)
  obtain ⟨rfl, hwc⟩ := hcut
  rw [hwc]
  clear hwc
  go_upto_region 2 with fail
  go_cut [4] (fun u wx => u = .bool v2 ∧ wx = W)
  case first =>
    go_wp2
    all_goals
      go_meet
      case rel =>
        refine ⟨?_, rfl⟩
        go_light
        clear HB g0 g1 g2 g3 g4 g5
        have hnn := HV.out.1
        have hw := HW.out.2.1
        simp only [Value.bool.injEq]
        rw [← hw]
        clear hw HN HV HW
        clear v1 v2 v3
        first
          | (simp only [hnn] at *; rw [Bool.eq_iff_iff]; simp [Pt.cvol] at *; omega)
          | (simp only [hnn] at *; simp [Pt.cvol] at *; omega)
          | (simp only [hnn] at *; simp [Pt.cvol] at *)
  obtain ⟨rfl, hwc⟩ := hcut
  rw [hwc]
  clear hwc
  go_upto_region 3 with fail
  go_cut [5] (fun u wx => u = .bool v3 ∧ wx = W)
  case first =>
    go_wp2
    all_goals
      go_meet
      case rel =>
        refine ⟨?_, rfl⟩
        go_light
        clear HB g0 g1 g2 g3 g4 g5
        have hnn := HV.out.2
        have hw := HW.out.2.2
        simp only [Value.bool.injEq]
        rw [← hw]
        clear hw HN HV HW
        clear v1 v2 v3
        first
          | (simp only [hnn] at *; rw [Bool.eq_iff_iff]; simp [Pt.ceff] at *; omega)
          | (simp only [hnn] at *; simp [Pt.ceff] at *; omega)
          | (simp only [hnn] at *; simp [Pt.ceff] at *)
  obtain ⟨rfl, hwc⟩ := hcut
  rw [hwc]
  clear hwc
  have HF := Lib.hid (show Pt.vcl c = (v1 && (v2 && (v3 && decide (0 ≤ c.it ∧ c.it ≤ 31)))) by rw [Pt.vcl_ref, HW.out.1, HW.out.2.1, HW.out.2.2])
  clear HN HV HW hd3 hd4 hd5 hd6 hd7 hd8 hd9
  cases v1 <;> cases v2 <;> cases v3
  all_goals
    go_wp2
    all_goals
      go_ret
      refine ⟨?_, HB.out⟩
      rw [HF.out]
      go_light
      first
        | (simp_all; done)
        | (simp_all; omega)
end Go.Proofs.YtfjfnbeegojlbaaDoor

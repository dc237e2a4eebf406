/-
  The reference's ValidCell, wide and Valid.
-/
import Derived.Test.YtfjfnbeegojlbaaPPack
import Derived.Deep.DeepCutAuto
import Derived.Deep.Light
namespace Go.Proofs.Ytfjfnbeegojlbaa
open Go.RowKit

namespace Pt
def cvol (c : Cl) : Bool := decide ((c.vc = 0 ∧ c.va = 0) ∨ (1 ≤ c.vc ∧ c.vc ≤ 12 ∧ 0 ≤ c.va ∧ c.va ≤ 99))
def ceff (c : Cl) : Bool := decide ((c.ef = 0 ∧ c.pa = 0) ∨ (1 ≤ c.ef ∧ c.ef ≤ 36 ∧ 0 ≤ c.pa ∧ c.pa ≤ 255))
theorem vcl_ref (c : Cl) : vcl c = (vnt c.nt && (cvol c && (ceff c && decide (0 ≤ c.it ∧ c.it ≤ 31)))) := by
  unfold vcl vnt wth zro cvol ceff
  rw [Bool.eq_iff_iff]
  simp only [Bool.and_eq_true, decide_eq_true_eq]
  omega
end Pt
set_option maxHeartbeats 1600000 in
set_option maxRecDepth 100000 in
theorem r_ValidCell (c : Pt.Cl) (w : World) :
    Calls Try.prog 56 #[.agg (CL c).toArray] w fun x w' => x = .returned (.bool (Pt.vcl c)) ∧ Below w.heap.size w w' := by
  obtain ⟨d3, hd3⟩ : ∃ d, (c.nt == 253) = d := ⟨_, rfl⟩
  obtain ⟨d4, hd4⟩ : ∃ d, (c.nt == 254) = d := ⟨_, rfl⟩
  obtain ⟨d5, hd5⟩ : ∃ d, (c.nt == 255) = d := ⟨_, rfl⟩
  obtain ⟨d6, hd6⟩ : ∃ d, (c.vc == 0) = d := ⟨_, rfl⟩
  obtain ⟨d7, hd7⟩ : ∃ d, (c.va == 0) = d := ⟨_, rfl⟩
  obtain ⟨d8, hd8⟩ : ∃ d, (c.ef == 0) = d := ⟨_, rfl⟩
  obtain ⟨d9, hd9⟩ : ∃ d, (c.pa == 0) = d := ⟨_, rfl⟩
  obtain ⟨v1, hv1⟩ : ∃ v, Pt.vnt c.nt = v := ⟨_, rfl⟩
  obtain ⟨v2, hv2⟩ : ∃ v, Pt.cvol c = v := ⟨_, rfl⟩
  obtain ⟨v3, hv3⟩ : ∃ v, Pt.ceff c = v := ⟨_, rfl⟩
  have HN := Lib.hid (show d3 = decide (c.nt = 253) ∧ d4 = decide (c.nt = 254) ∧ d5 = decide (c.nt = 255) from ⟨hd3.symm, hd4.symm, hd5.symm⟩)
  have HV := Lib.hid (show (d6 = decide (c.vc = 0) ∧ d7 = decide (c.va = 0)) ∧ d8 = decide (c.ef = 0) ∧ d9 = decide (c.pa = 0) from ⟨⟨hd6.symm, hd7.symm⟩, hd8.symm, hd9.symm⟩)
  have HW := Lib.hid (show Pt.vnt c.nt = v1 ∧ Pt.cvol c = v2 ∧ Pt.ceff c = v3 from ⟨hv1, hv2, hv3⟩)
  obtain ⟨W, hW⟩ : ∃ W, W = w.alloc (.cells (CL c).toArray 28) := ⟨_, rfl⟩
  have HB := Lib.hid (show Below w.heap.size w W by rw [hW]; exact below_box _ _)
  have hr : W.rangeAt w.heap.size 0 (CL c) := by rw [hW]; exact range_box w (CL c) _
  obtain ⟨b, hb⟩ : ∃ b, b = w.heap.size := ⟨_, rfl⟩
  rw [← hb] at hr
  obtain ⟨g0, g1, g2, g3, g4, g5⟩ := rng_cells hr
  simp only [Nat.zero_add] at g1 g2 g3 g4 g5
  rw [cl_arr] at hW ⊢
  clear hr hv1 hv2 hv3
  go_enter Try.func56, Try.ntmps56
  go_upto_region 1 with fail
  rw [← hW, ← hb]
  clear hW hb
  go_cut [3] (fun u wx => u = .bool v1 ∧ wx = W)
  case first =>
    go_wp2
    all_goals
      go_meet
      case rel =>
        refine ⟨?_, rfl⟩
        go_light
        clear HB g0 g1 g2 g3 g4 g5
        have hnn := HN.out
        have hw := HW.out.1
        simp only [Value.bool.injEq]
        rw [← hw]
        clear hw HN HV HW
        clear v1 v2 v3
        first
          | (simp only [hnn] at *; rw [Bool.eq_iff_iff]; simp [Pt.vnt] at *; omega)
          | (simp only [hnn] at *; simp [Pt.vnt] at *; omega)
          | (simp only [hnn] at *; simp [Pt.vnt] at *)
  obtain ⟨rfl, hwc⟩ := hcut
  rw [hwc]
  clear hwc
  go_upto_region 2 with fail
  go_cut [4] (fun u wx => u = .bool v2 ∧ wx = W)
  case first =>
    go_wp2
    all_goals
      go_meet
      case rel =>
        refine ⟨?_, rfl⟩
        go_light
        clear HB g0 g1 g2 g3 g4 g5
        have hnn := HV.out.1
        have hw := HW.out.2.1
        simp only [Value.bool.injEq]
        rw [← hw]
        clear hw HN HV HW
        clear v1 v2 v3
        first
          | (simp only [hnn] at *; rw [Bool.eq_iff_iff]; simp [Pt.cvol] at *; omega)
          | (simp only [hnn] at *; simp [Pt.cvol] at *; omega)
          | (simp only [hnn] at *; simp [Pt.cvol] at *)
  obtain ⟨rfl, hwc⟩ := hcut
  rw [hwc]
  clear hwc
  go_upto_region 3 with fail
  go_cut [5] (fun u wx => u = .bool v3 ∧ wx = W)
  case first =>
    go_wp2
    all_goals
      go_meet
      case rel =>
        refine ⟨?_, rfl⟩
        go_light
        clear HB g0 g1 g2 g3 g4 g5
        have hnn := HV.out.2
        have hw := HW.out.2.2
        simp only [Value.bool.injEq]
        rw [← hw]
        clear hw HN HV HW
        clear v1 v2 v3
        first
          | (simp only [hnn] at *; rw [Bool.eq_iff_iff]; simp [Pt.ceff] at *; omega)
          | (simp only [hnn] at *; simp [Pt.ceff] at *; omega)
          | (simp only [hnn] at *; simp [Pt.ceff] at *)
  obtain ⟨rfl, hwc⟩ := hcut
  rw [hwc]
  clear hwc
  have HF := Lib.hid (show Pt.vcl c = (v1 && (v2 && (v3 && decide (0 ≤ c.it ∧ c.it ≤ 31)))) by rw [Pt.vcl_ref, HW.out.1, HW.out.2.1, HW.out.2.2])
  clear HN HV HW hd3 hd4 hd5 hd6 hd7 hd8 hd9
  cases v1 <;> cases v2 <;> cases v3
  all_goals
    go_wp2
    all_goals
      go_ret
      refine ⟨?_, HB.out⟩
      rw [HF.out]
      go_light
      first
        | (simp_all; done)
        | (simp_all; omega)
theorem r_wide (n : Int) (w : World) :
    Calls Try.prog 45 #[.int .i64 n] w fun x w' => x = .returned (.bool (Pt.wth n 1 16)) ∧ w = w' := by
  by_cases h1 : 1 ≤ n
  · by_cases h2 : n ≤ 16
    · have HB := Lib.hid (show Pt.wth n 1 16 = true from decide_eq_true ⟨h1, h2⟩)
      go_enter Try.func45, Try.ntmps45
      go_wp2
      go_ret
      exact ⟨ret_bool HB.out.symm, rfl⟩
    · have HB := Lib.hid (show Pt.wth n 1 16 = false from decide_eq_false (by omega))
      have hd : decide (n ≤ 16) = false := decide_eq_false h2
      go_enter Try.func45, Try.ntmps45
      go_wp2
      go_ret
      exact ⟨ret_bool HB.out.symm, rfl⟩
  · have HB := Lib.hid (show Pt.wth n 1 16 = false from decide_eq_false (by omega))
    have hd : decide (1 ≤ n) = false := decide_eq_false h1
    go_enter Try.func45, Try.ntmps45
    go_wp2
    go_ret
    exact ⟨ret_bool HB.out.symm, rfl⟩
set_option maxHeartbeats 1600000 in
theorem r_Valid (r : Int) (l : List Pt.Cl) (p : Option Addr) (cap : Nat) (ch : Int) (w : World) (hd : CellsAt w p l) :
    Calls Try.prog 38 #[PV r p l.length cap, .int .i64 ch] w fun x w' => x = .returned (.bool (Pt.vpat r l ch)) ∧ Below w.heap.size w w' := by
  have C1 := Lib.hid (fun w => r_wide ch w)
  unfold PV
  cases h1 : Pt.wth ch 1 16 with
  | false =>
    have HE := Lib.hid (show Pt.vpat r l ch = false by unfold Pt.vpat; rw [h1]; rfl)
    rw [h1] at C1
    clear h1 hd
    go_enter Try.func38, Try.ntmps38
    go_wp2_with (first | (go_at_call 45; ((with_reducible refine (C1.out _).mono ?_); rintro x' w1 ⟨rfl, rfl⟩)))
    go_ret
    exact ⟨ret_bool HE.out.symm, below_box _ _⟩
  | true =>
    cases h2 : Pt.wth r 1 64 with
    | false =>
      have HE := Lib.hid (show Pt.vpat r l ch = false by unfold Pt.vpat; rw [h1, h2]; rfl)
      rw [h1] at C1
      clear h1 hd
      by_cases h3 : r < 1
      · clear h2
        go_enter Try.func38, Try.ntmps38
        go_wp2_with (first | (go_at_call 45; ((with_reducible refine (C1.out _).mono ?_); rintro x' w1 ⟨rfl, rfl⟩)))
        go_ret
        exact ⟨ret_bool HE.out.symm, below_box _ _⟩
      · have h4 : 64 < r := by
          have : ¬ (1 ≤ r ∧ r ≤ 64) := fun hh => by rw [Pt.wth_iff.2 hh] at h2; exact absurd h2 (by simp)
          omega
        have h5 : decide (r < 1) = false := decide_eq_false h3
        clear h2 h3
        go_enter Try.func38, Try.ntmps38
        go_wp2_with (first | (go_at_call 45; ((with_reducible refine (C1.out _).mono ?_); rintro x' w1 ⟨rfl, rfl⟩)))
        go_ret
        exact ⟨ret_bool HE.out.symm, below_box _ _⟩
    | true =>
      have hm : 1 ≤ r * ch ∧ r * ch ≤ 1024 := by
        obtain ⟨a1, a2⟩ := Pt.wth_iff.1 h1
        obtain ⟨b1, b2⟩ := Pt.wth_iff.1 h2
        obtain ⟨R, rfl⟩ : ∃ R : Nat, r = R := ⟨r.toNat, by omega⟩
        obtain ⟨C, rfl⟩ : ∃ C : Nat, ch = C := ⟨ch.toNat, by omega⟩
        have h1 := Pt.rc_bound (R := R) (C := C) (by omega) (by omega)
        have h2 := Nat.mul_le_mul (show 1 ≤ R by omega) (show 1 ≤ C by omega)
        rw [← Int.natCast_mul]
        omega
      have j1 : decide (r < 1) = false := decide_eq_false (by have := (Pt.wth_iff.1 h2).1; omega)
      have j2 : decide (64 < r) = false := decide_eq_false (by have := (Pt.wth_iff.1 h2).2; omega)
      obtain ⟨W, hW⟩ : ∃ W, W = w.alloc (.cells #[.int .i64 r, .slice p l.length cap] 24) := ⟨_, rfl⟩
      have hB : Below w.heap.size w W := by rw [hW]; exact below_box _ _
      have hp : Pb W w.heap.size r (.slice p l.length cap) := by rw [hW]; exact pb_box _ _ _ _
      obtain ⟨b, hb⟩ : ∃ b, b = w.heap.size := ⟨_, rfl⟩
      rw [← hb] at hp
      obtain ⟨k0, k1⟩ := two_cells' hp
      by_cases h3 : (l.length : Int) = r * ch
      · have HE := Lib.hid (show Pt.vpat r l ch = Pt.all l by unfold Pt.vpat; rw [h1, h2, decide_eq_true h3]; rfl)
        rw [h1] at C1
        have HD := Lib.hid (hd.below hB)
        have HB := Lib.hid hB
        obtain ⟨m, hm0⟩ : ∃ m, r * ch = m := ⟨_, rfl⟩
        obtain ⟨n, hn0⟩ : ∃ n, l.length = n := ⟨_, rfl⟩
        have HN := Lib.hid hn0
        rw [hn0] at h3 hp k1 hW ⊢
        rw [hm0] at h3 hm
        have hz : ((n : Int) == m) = true := by rw [h3]; simp
        have hz2 : ((n : Int) != m) = false := by rw [h3]; simp
        have HP := Lib.hid hp
        have hm2 : n ≤ 1024 := by omega
        clear h1 h2 hd hn0 h3 hB hp
        go_enter Try.func38, Try.ntmps38
        go_upto_region 1 with fail
        rw [← hW, ← hb]
        clear hW hb
        go_wp2_with (first | (go_at_call 45; ((with_reducible refine (C1.out _).mono ?_); rintro x' w1 ⟨rfl, rfl⟩)))
        clear k0 k1
        go_loopw [4, 5] (fun _ i wr => ∃ k : Nat, k ≤ n ∧ i = .int .i64 k ∧ Hid (∀ j, j < k → Pt.vcl (Pt.at' l j) = true) ∧ Hid (Below W.heap.size W wr)) (fun _ i _ => n - (intOf i).toNat)
        case atStart => exact ⟨0, by omega, rfl, fun _ h => by omega, Below.refl _ _⟩
        case round =>
          obtain ⟨k, hk, rfl, HQ, HBw⟩ := hrel
          obtain ⟨k0, k1⟩ := two_cells HP.out HBw.out
          by_cases hlt : k < n
          · obtain ⟨bb, off, hpp, _, hr⟩ := (HD.out.below HBw.out).at (i := k) (by rw [HN.out]; exact hlt)
            subst hpp
            have HR := Lib.hid hr
            clear hr
            obtain ⟨c, hc⟩ : ∃ c, Pt.at' l k = c := ⟨_, rfl⟩
            have C := Lib.hid (fun w => r_ValidCell c w)
            rw [hc] at HR
            obtain ⟨v, hv⟩ : ∃ v, Pt.vcl c = v := ⟨_, rfl⟩
            have HV := Lib.hid (show Pt.vcl (Pt.at' l k) = v by rw [hc]; exact hv)
            rw [hv] at C
            have hlt' : (k : Int) < (n : Int) := by omega
            clear hv hc
            cases v
            · have HX := Lib.hid (show Pt.all l = false from Pt.all_bad k (by rw [HN.out]; exact hlt) HV.out)
              go_wp2_with (first | (refine ld_cell (by rfl) _ rfl rfl HR.out ?_) | (go_at_call 56; ((with_reducible refine (C.out _).mono ?_); rintro x' w1 ⟨rfl, hb1⟩)))
              go_ret
              exact ⟨ret_bool (by rw [HE.out, HX.out]), stepB HB.out (stepB HBw.out hb1)⟩
            · go_wp2_with (first | (refine ld_cell (by rfl) _ rfl rfl HR.out ?_) | (go_at_call 56; ((with_reducible refine (C.out _).mono ?_); rintro x' w1 ⟨rfl, hb1⟩)))
              go_roundw
              case rel =>
                have hq : ∀ j, j < k + 1 → Pt.vcl (Pt.at' l j) = true := fun j hj => by
                  by_cases e : j = k
                  · subst e; exact HV.out
                  · exact HQ.out j (by omega)
                exact ⟨k + 1, by omega, by go_num, hq, stepB HBw.out hb1⟩
              case measure => simp [intOf]; omega
          · have HX := Lib.hid (show Pt.all l = true from Pt.all_mk fun j hj => HQ.out j (by have := HN.out; omega))
            go_wp2
            go_ret
            exact ⟨ret_bool (by rw [HE.out, HX.out]), stepB HB.out HBw.out⟩
      · have HE := Lib.hid (show Pt.vpat r l ch = false by unfold Pt.vpat; rw [h1, h2, decide_eq_false h3]; rfl)
        rw [h1] at C1
        have HB := Lib.hid hB
        obtain ⟨m, hm0⟩ : ∃ m, r * ch = m := ⟨_, rfl⟩
        obtain ⟨n, hn0⟩ : ∃ n, l.length = n := ⟨_, rfl⟩
        rw [hn0] at h3 hp k1 hW ⊢
        rw [hm0] at h3 hm
        have hz : ((n : Int) == m) = false := beq_eq_false_iff_ne.2 h3
        clear h1 h2 hd hn0 h3 hB hp
        go_enter Try.func38, Try.ntmps38
        go_upto_region 1 with fail
        rw [← hW, ← hb]
        clear hW hb
        go_wp2_with (first | (go_at_call 45; ((with_reducible refine (C1.out _).mono ?_); rintro x' w1 ⟨rfl, rfl⟩)))
        go_ret
        exact ⟨ret_bool HE.out.symm, HB.out⟩
theorem r_Valid_v {r : Int} {l : List Pt.Cl} {p : Option Addr} {cap : Nat} {ch : Int} {w : World} (hd : CellsAt w p l) {v : Bool} (h : Pt.vpat r l ch = v) :
    Calls Try.prog 38 #[PV r p l.length cap, .int .i64 ch] w fun x w' => x = .returned (.bool v) ∧ Below w.heap.size w w' := h ▸ r_Valid r l p cap ch w hd
end Go.Proofs.Ytfjfnbeegojlbaa

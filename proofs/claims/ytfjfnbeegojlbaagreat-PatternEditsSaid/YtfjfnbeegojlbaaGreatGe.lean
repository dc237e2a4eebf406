/-
  The reference's ValidCell, wide and Valid. Package pattern's Get and Set. The reference's inside, Empty, Blank and Get.
-/
import Derived.Test.YtfjfnbeegojlbaaGreatPPack
import Derived.Deep.DeepCutAuto
import Derived.Deep.Light
namespace Go.Proofs.YtfjfnbeegojlbaaGreat
open Go.RowKit

namespace Pt
def cvol (c : Cl) : Bool := decide ((c.vc = 0 ∧ c.va = 0) ∨ (1 ≤ c.vc ∧ c.vc ≤ 12 ∧ 0 ≤ c.va ∧ c.va ≤ 99))
def ceff (c : Cl) : Bool := decide ((c.ef = 0 ∧ c.pa = 0) ∨ (1 ≤ c.ef ∧ c.ef ≤ 36 ∧ 0 ≤ c.pa ∧ c.pa ≤ 255))
theorem vcl_ref (c : Cl) : vcl c = (vnt c.nt && (cvol c && (ceff c && decide (0 ≤ c.it ∧ c.it ≤ 31)))) := by
  unfold vcl vnt wth zro cvol ceff
  rw [Bool.eq_iff_iff]
  simp only [Bool.and_eq_true, decide_eq_true_eq]
  omega
end Pt
set_option maxHeartbeats 1600000 in
set_option maxRecDepth 100000 in
theorem r_ValidCell (c : Pt.Cl) (w : World) :
    Calls Tryz.prog 43 #[.agg (CL c).toArray] w fun x w' => x = .returned (.bool (Pt.vcl c)) ∧ Below w.heap.size w w' := by
  obtain ⟨d3, hd3⟩ : ∃ d, (c.nt == 253) = d := ⟨_, rfl⟩
  obtain ⟨d4, hd4⟩ : ∃ d, (c.nt == 254) = d := ⟨_, rfl⟩
  obtain ⟨d5, hd5⟩ : ∃ d, (c.nt == 255) = d := ⟨_, rfl⟩
  obtain ⟨d6, hd6⟩ : ∃ d, (c.vc == 0) = d := ⟨_, rfl⟩
  obtain ⟨d7, hd7⟩ : ∃ d, (c.va == 0) = d := ⟨_, rfl⟩
  obtain ⟨d8, hd8⟩ : ∃ d, (c.ef == 0) = d := ⟨_, rfl⟩
  obtain ⟨d9, hd9⟩ : ∃ d, (c.pa == 0) = d := ⟨_, rfl⟩
  obtain ⟨v1, hv1⟩ : ∃ v, Pt.vnt c.nt = v := ⟨_, rfl⟩
  obtain ⟨v2, hv2⟩ : ∃ v, Pt.cvol c = v := ⟨_, rfl⟩
  obtain ⟨v3, hv3⟩ : ∃ v, Pt.ceff c = v := ⟨_, rfl⟩
  have HN := Lib.hid (show d3 = decide (c.nt = 253) ∧ d4 = decide (c.nt = 254) ∧ d5 = decide (c.nt = 255) from ⟨hd3.symm, hd4.symm, hd5.symm⟩)
  have HV := Lib.hid (show (d6 = decide (c.vc = 0) ∧ d7 = decide (c.va = 0)) ∧ d8 = decide (c.ef = 0) ∧ d9 = decide (c.pa = 0) from ⟨⟨hd6.symm, hd7.symm⟩, hd8.symm, hd9.symm⟩)
  have HW := Lib.hid (show Pt.vnt c.nt = v1 ∧ Pt.cvol c = v2 ∧ Pt.ceff c = v3 from ⟨hv1, hv2, hv3⟩)
  obtain ⟨W, hW⟩ : ∃ W, W = w.alloc (.cells (CL c).toArray 28) := ⟨_, rfl⟩
  have HB := Lib.hid (show Below w.heap.size w W by rw [hW]; exact below_box _ _)
  have hr : W.rangeAt w.heap.size 0 (CL c) := by rw [hW]; exact range_box w (CL c) _
  obtain ⟨b, hb⟩ : ∃ b, b = w.heap.size := ⟨_, rfl⟩
  rw [← hb] at hr
  obtain ⟨g0, g1, g2, g3, g4, g5⟩ := rng_cells hr
  simp only [Nat.zero_add] at g1 g2 g3 g4 g5
  rw [cl_arr] at hW ⊢
  clear hr hv1 hv2 hv3
  go_enter Tryz.func43, Tryz.ntmps43
  go_upto_region 1 with fail
  rw [← hW, ← hb]
  clear hW hb
  go_cut [3] (fun u wx => u = .bool v1 ∧ wx = W)
  case first =>
    go_wp2
    all_goals
      go_meet
      case rel =>
        refine ⟨?_, rfl⟩
        go_light
        clear HB g0 g1 g2 g3 g4 g5
        have hnn := HN.out
        have hw := HW.out.1
        simp only [Value.bool.injEq]
        rw [← hw]
        clear hw HN HV HW
        clear v1 v2 v3
        first
          | (simp only [hnn] at *; rw [Bool.eq_iff_iff]; simp [Pt.vnt] at *; omega)
          | (simp only [hnn] at *; simp [Pt.vnt] at *; omega)
          | (simp only [hnn] at *; simp [Pt.vnt] at *)
  obtain ⟨rfl, hwc⟩ := hcut
  rw [hwc]
  clear hwc
  go_upto_region 2 with fail
  go_cut [4] (fun u wx => u = .bool v2 ∧ wx = W)
  case first =>
    go_wp2
    all_goals
      go_meet
      case rel =>
        refine ⟨?_, rfl⟩
        go_light
        clear HB g0 g1 g2 g3 g4 g5
        have hnn := HV.out.1
        have hw := HW.out.2.1
        simp only [Value.bool.injEq]
        rw [← hw]
        clear hw HN HV HW
        clear v1 v2 v3
        first
          | (simp only [hnn] at *; rw [Bool.eq_iff_iff]; simp [Pt.cvol] at *; omega)
          | (simp only [hnn] at *; simp [Pt.cvol] at *; omega)
          | (simp only [hnn] at *; simp [Pt.cvol] at *)
  obtain ⟨rfl, hwc⟩ := hcut
  rw [hwc]
  clear hwc
  go_upto_region 3 with fail
  go_cut [5] (fun u wx => u = .bool v3 ∧ wx = W)
  case first =>
    go_wp2
    all_goals
      go_meet
      case rel =>
        refine ⟨?_, rfl⟩
        go_light
        clear HB g0 g1 g2 g3 g4 g5
        have hnn := HV.out.2
        have hw := HW.out.2.2
        simp only [Value.bool.injEq]
        rw [← hw]
        clear hw HN HV HW
        clear v1 v2 v3
        first
          | (simp only [hnn] at *; rw [Bool.eq_iff_iff]; simp [Pt.ceff] at *; omega)
          | (simp only [hnn] at *; simp [Pt.ceff] at *; omega)
          | (simp only [hnn] at *; simp [Pt.ceff] at *)
  obtain ⟨rfl, hwc⟩ := hcut
  rw [hwc]
  clear hwc
  have HF := Lib.hid (show Pt.vcl c = (v1 && (v2 && (v3 && decide (0 ≤ c.it ∧ c.it ≤ 31)))) by rw [Pt.vcl_ref, HW.out.1, HW.out.2.1, HW.out.2.2])
  clear HN HV HW hd3 hd4 hd5 hd6 hd7 hd8 hd9
  cases v1 <;> cases v2 <;> cases v3
  all_goals
    go_wp2
    all_goals
      go_ret
      refine ⟨?_, HB.out⟩
      rw [HF.out]
      go_light
      first
        | (simp_all; done)
        | (simp_all; omega)
theorem r_wide (n : Int) (w : World) :
    Calls Tryz.prog 42 #[.int .i64 n] w fun x w' => x = .returned (.bool (Pt.wth n 1 16)) ∧ w = w' := by
  by_cases h1 : 1 ≤ n
  · by_cases h2 : n ≤ 16
    · have HB := Lib.hid (show Pt.wth n 1 16 = true from decide_eq_true ⟨h1, h2⟩)
      go_enter Tryz.func42, Tryz.ntmps42
      go_wp2
      go_ret
      exact ⟨ret_bool HB.out.symm, rfl⟩
    · have HB := Lib.hid (show Pt.wth n 1 16 = false from decide_eq_false (by omega))
      have hd : decide (n ≤ 16) = false := decide_eq_false h2
      go_enter Tryz.func42, Tryz.ntmps42
      go_wp2
      go_ret
      exact ⟨ret_bool HB.out.symm, rfl⟩
  · have HB := Lib.hid (show Pt.wth n 1 16 = false from decide_eq_false (by omega))
    have hd : decide (1 ≤ n) = false := decide_eq_false h1
    go_enter Tryz.func42, Tryz.ntmps42
    go_wp2
    go_ret
    exact ⟨ret_bool HB.out.symm, rfl⟩
set_option maxHeartbeats 1600000 in
theorem r_Valid (r : Int) (l : List Pt.Cl) (p : Option Addr) (cap : Nat) (ch : Int) (w : World) (hd : CellsAt w p l) :
    Calls Tryz.prog 10 #[PV r p l.length cap, .int .i64 ch] w fun x w' => x = .returned (.bool (Pt.vpat r l ch)) ∧ Below w.heap.size w w' := by
  have C1 := Lib.hid (fun w => r_wide ch w)
  unfold PV
  cases h1 : Pt.wth ch 1 16 with
  | false =>
    have HE := Lib.hid (show Pt.vpat r l ch = false by unfold Pt.vpat; rw [h1]; rfl)
    rw [h1] at C1
    clear h1 hd
    go_enter Tryz.func10, Tryz.ntmps10
    go_wp2_with (first | (go_at_call 42; ((with_reducible refine (C1.out _).mono ?_); rintro x' w1 ⟨rfl, rfl⟩)))
    go_ret
    exact ⟨ret_bool HE.out.symm, below_box _ _⟩
  | true =>
    cases h2 : Pt.wth r 1 64 with
    | false =>
      have HE := Lib.hid (show Pt.vpat r l ch = false by unfold Pt.vpat; rw [h1, h2]; rfl)
      rw [h1] at C1
      clear h1 hd
      by_cases h3 : r < 1
      · clear h2
        go_enter Tryz.func10, Tryz.ntmps10
        go_wp2_with (first | (go_at_call 42; ((with_reducible refine (C1.out _).mono ?_); rintro x' w1 ⟨rfl, rfl⟩)))
        go_ret
        exact ⟨ret_bool HE.out.symm, below_box _ _⟩
      · have h4 : 64 < r := by
          have : ¬ (1 ≤ r ∧ r ≤ 64) := fun hh => by rw [Pt.wth_iff.2 hh] at h2; exact absurd h2 (by simp)
          omega
        have h5 : decide (r < 1) = false := decide_eq_false h3
        clear h2 h3
        go_enter Tryz.func10, Tryz.ntmps10
        go_wp2_with (first | (go_at_call 42; ((with_reducible refine (C1.out _).mono ?_); rintro x' w1 ⟨rfl, rfl⟩)))
        go_ret
        exact ⟨ret_bool HE.out.symm, below_box _ _⟩
    | true =>
      have hm : 1 ≤ r * ch ∧ r * ch ≤ 1024 := by
        obtain ⟨a1, a2⟩ := Pt.wth_iff.1 h1
        obtain ⟨b1, b2⟩ := Pt.wth_iff.1 h2
        obtain ⟨R, rfl⟩ : ∃ R : Nat, r = R := ⟨r.toNat, by omega⟩
        obtain ⟨C, rfl⟩ : ∃ C : Nat, ch = C := ⟨ch.toNat, by omega⟩
        have h1 := Pt.rc_bound (R := R) (C := C) (by omega) (by omega)
        have h2 := Nat.mul_le_mul (show 1 ≤ R by omega) (show 1 ≤ C by omega)
        rw [← Int.natCast_mul]
        omega
      have j1 : decide (r < 1) = false := decide_eq_false (by have := (Pt.wth_iff.1 h2).1; omega)
      have j2 : decide (64 < r) = false := decide_eq_false (by have := (Pt.wth_iff.1 h2).2; omega)
      obtain ⟨W, hW⟩ : ∃ W, W = w.alloc (.cells #[.int .i64 r, .slice p l.length cap] 24) := ⟨_, rfl⟩
      have hB : Below w.heap.size w W := by rw [hW]; exact below_box _ _
      have hp : Pb W w.heap.size r (.slice p l.length cap) := by rw [hW]; exact pb_box _ _ _ _
      obtain ⟨b, hb⟩ : ∃ b, b = w.heap.size := ⟨_, rfl⟩
      rw [← hb] at hp
      obtain ⟨k0, k1⟩ := two_cells' hp
      by_cases h3 : (l.length : Int) = r * ch
      · have HE := Lib.hid (show Pt.vpat r l ch = Pt.all l by unfold Pt.vpat; rw [h1, h2, decide_eq_true h3]; rfl)
        rw [h1] at C1
        have HD := Lib.hid (hd.below hB)
        have HB := Lib.hid hB
        obtain ⟨m, hm0⟩ : ∃ m, r * ch = m := ⟨_, rfl⟩
        obtain ⟨n, hn0⟩ : ∃ n, l.length = n := ⟨_, rfl⟩
        have HN := Lib.hid hn0
        rw [hn0] at h3 hp k1 hW ⊢
        rw [hm0] at h3 hm
        have hz : ((n : Int) == m) = true := by rw [h3]; simp
        have hz2 : ((n : Int) != m) = false := by rw [h3]; simp
        have HP := Lib.hid hp
        have hm2 : n ≤ 1024 := by omega
        clear h1 h2 hd hn0 h3 hB hp
        go_enter Tryz.func10, Tryz.ntmps10
        go_upto_region 1 with fail
        rw [← hW, ← hb]
        clear hW hb
        go_wp2_with (first | (go_at_call 42; ((with_reducible refine (C1.out _).mono ?_); rintro x' w1 ⟨rfl, rfl⟩)))
        clear k0 k1
        go_loopw [4, 5] (fun _ i wr => ∃ k : Nat, k ≤ n ∧ i = .int .i64 k ∧ Hid (∀ j, j < k → Pt.vcl (Pt.at' l j) = true) ∧ Hid (Below W.heap.size W wr)) (fun _ i _ => n - (intOf i).toNat)
        case atStart => exact ⟨0, by omega, rfl, fun _ h => by omega, Below.refl _ _⟩
        case round =>
          obtain ⟨k, hk, rfl, HQ, HBw⟩ := hrel
          obtain ⟨k0, k1⟩ := two_cells HP.out HBw.out
          by_cases hlt : k < n
          · obtain ⟨bb, off, hpp, _, hr⟩ := (HD.out.below HBw.out).at (i := k) (by rw [HN.out]; exact hlt)
            subst hpp
            have HR := Lib.hid hr
            clear hr
            obtain ⟨c, hc⟩ : ∃ c, Pt.at' l k = c := ⟨_, rfl⟩
            have C := Lib.hid (fun w => r_ValidCell c w)
            rw [hc] at HR
            obtain ⟨v, hv⟩ : ∃ v, Pt.vcl c = v := ⟨_, rfl⟩
            have HV := Lib.hid (show Pt.vcl (Pt.at' l k) = v by rw [hc]; exact hv)
            rw [hv] at C
            have hlt' : (k : Int) < (n : Int) := by omega
            clear hv hc
            cases v
            · have HX := Lib.hid (show Pt.all l = false from Pt.all_bad k (by rw [HN.out]; exact hlt) HV.out)
              go_wp2_with (first | (refine ld_cell (by rfl) _ rfl rfl HR.out ?_) | (go_at_call 43; ((with_reducible refine (C.out _).mono ?_); rintro x' w1 ⟨rfl, hb1⟩)))
              go_ret
              exact ⟨ret_bool (by rw [HE.out, HX.out]), stepB HB.out (stepB HBw.out hb1)⟩
            · go_wp2_with (first | (refine ld_cell (by rfl) _ rfl rfl HR.out ?_) | (go_at_call 43; ((with_reducible refine (C.out _).mono ?_); rintro x' w1 ⟨rfl, hb1⟩)))
              go_roundw
              case rel =>
                have hq : ∀ j, j < k + 1 → Pt.vcl (Pt.at' l j) = true := fun j hj => by
                  by_cases e : j = k
                  · subst e; exact HV.out
                  · exact HQ.out j (by omega)
                exact ⟨k + 1, by omega, by go_num, hq, stepB HBw.out hb1⟩
              case measure => simp [intOf]; omega
          · have HX := Lib.hid (show Pt.all l = true from Pt.all_mk fun j hj => HQ.out j (by have := HN.out; omega))
            go_wp2
            go_ret
            exact ⟨ret_bool (by rw [HE.out, HX.out]), stepB HB.out HBw.out⟩
      · have HE := Lib.hid (show Pt.vpat r l ch = false by unfold Pt.vpat; rw [h1, h2, decide_eq_false h3]; rfl)
        rw [h1] at C1
        have HB := Lib.hid hB
        obtain ⟨m, hm0⟩ : ∃ m, r * ch = m := ⟨_, rfl⟩
        obtain ⟨n, hn0⟩ : ∃ n, l.length = n := ⟨_, rfl⟩
        rw [hn0] at h3 hp k1 hW ⊢
        rw [hm0] at h3 hm
        have hz : ((n : Int) == m) = false := beq_eq_false_iff_ne.2 h3
        clear h1 h2 hd hn0 h3 hB hp
        go_enter Tryz.func10, Tryz.ntmps10
        go_upto_region 1 with fail
        rw [← hW, ← hb]
        clear hW hb
        go_wp2_with (first | (go_at_call 42; ((with_reducible refine (C1.out _).mono ?_); rintro x' w1 ⟨rfl, rfl⟩)))
        go_ret
        exact ⟨ret_bool HE.out.symm, HB.out⟩
theorem r_Valid_v {r : Int} {l : List Pt.Cl} {p : Option Addr} {cap : Nat} {ch : Int} {w : World} (hd : CellsAt w p l) {v : Bool} (h : Pt.vpat r l ch = v) :
    Calls Tryz.prog 10 #[PV r p l.length cap, .int .i64 ch] w fun x w' => x = .returned (.bool v) ∧ Below w.heap.size w w' := h ▸ r_Valid r l p cap ch w hd

theorem res_ce {fn : Func} {q u : Tmp} (hf : fn.results = #[.cell q 28, .tmp u]) {tmps : Array Value} {w : World} {b : Nat} (hp : tmps.getD q undef = .pointer (some ⟨b, 0, none⟩)) {c : Pt.Cl} {x : Value} (h : w.rangeAt b 0 (CL c)) (hv : tmps.getD u undef = x) :
    (results fn tmps).run Tryz.prog w = .ok (.tuple #[.agg (CL c).toArray, x]) w := by
  rw [results_cell_tmp hf, hp, hv]
  simp [Result.andThen, asAddr, run_loadVar_mid w b 0 28 (CL c) _ h Tryz.underlying28 rfl Tryz.infoCellSize]
namespace Pt
def okC (e : Int) (c : Cl) : Cl := if e = 0 then c else zc
end Pt
/-- What Get hands back. -/
def RetCE (c : Pt.Cl) (e : Int) (x : Ending) : Prop := x = .returned (.tuple #[.agg (CL c).toArray, .int .i64 e])
theorem place_nx {r ch row c : Int} {l : List Pt.Cl} (h : Pt.ePlace r l ch row c = 0) : ∃ R C y x : Nat, r = R ∧ ch = C ∧ row = y ∧ c = x ∧ y < R ∧ x < C ∧ R ≤ 64 ∧ C ≤ 16 ∧ l.length = R * C ∧ y * C + x < l.length ∧ Pt.all l = true ∧ Pt.vpat r l ch = true := by
  unfold Pt.ePlace at h
  cases hv : Pt.vpat r l ch with
  | false => rw [hv] at h; simp at h
  | true =>
    rw [hv] at h
    cases hp : (Pt.plc row r && Pt.plc c ch) with
    | false => rw [hp] at h; simp at h
    | true =>
      simp only [Bool.and_eq_true, Pt.plc, decide_eq_true_eq] at hp
      obtain ⟨R, C, rfl, rfl, g1, g2, g3, g4, g5, g6⟩ := Pt.vpat_nat hv
      refine ⟨R, C, row.toNat, c.toNat, rfl, rfl, by omega, by omega, by omega, by omega, g2, g4, g5, ?_, g6, rfl⟩
      rw [g5]
      have h1 : row.toNat + 1 ≤ R := by omega
      have h2 : c.toNat < C := by omega
      have := Nat.mul_le_mul_right C h1
      rw [Nat.add_mul, Nat.one_mul] at this
      omega
set_option maxRecDepth 100000 in
set_option maxHeartbeats 1600000 in
theorem p_Get (r : Int) (l : List Pt.Cl) (p : Option Addr) (cap : Nat) (ch row c : Int) (w : World) (hd : CellsAt w p l) :
    Calls Tryz.prog 7 #[PV r p l.length cap, .int .i64 ch, .int .i64 row, .int .i64 c] w fun x w' => RetCE (Pt.okC (Pt.ePlace r l ch row c) (Pt.at' l (row.toNat * ch.toNat + c.toNat))) (Pt.ePlace r l ch row c) x ∧ Below w.heap.size w w' := by
  obtain ⟨V, hV⟩ : ∃ V, V = w.alloc (.cells #[.int .i64 r, .slice p l.length cap] 24) := ⟨_, rfl⟩
  obtain ⟨W, hW⟩ : ∃ W, W = V.alloc (.cells (CL Pt.zc).toArray 28) := ⟨_, rfl⟩
  have v1 : Below w.heap.size w V := by rw [hV]; exact below_box _ _
  have v2 : Below V.heap.size V W := by rw [hW]; exact below_box _ _
  have s1 : V.heap.size = w.heap.size + 1 := by rw [hV]; simp
  have HP := Lib.hid (show Pb W w.heap.size r (.slice p l.length cap) from (show Pb V _ _ _ by rw [hV]; exact pb_box _ _ _ _).kept v2)
  have HT := Lib.hid (show W.there (w.heap.size + 1) 0 6 by rw [hW, ← s1]; exact there_box V (CL Pt.zc) _)
  have HS := Lib.hid (show W.heap.size = w.heap.size + 2 by rw [hW]; simp [s1])
  have HB := Lib.hid (stepB v1 v2)
  have HD := Lib.hid (hd.below HB.out)
  have C1 := Lib.hid (p_askPlace r l p cap ch row c W HD.out)
  obtain ⟨b, hb⟩ : ∃ b, b = w.heap.size := ⟨_, rfl⟩
  rw [← hb] at HP HT HS s1
  have HBE := Lib.hid hb
  have ⟨k0, k1, _, _⟩ := HP.out.cells
  rw [cl_zc] at hW
  obtain ⟨e, he⟩ : ∃ e, Pt.ePlace r l ch row c = e := ⟨_, rfl⟩
  rw [he] at C1 ⊢
  unfold PV at C1 ⊢
  by_cases h0 : e = 0
  · subst h0
    obtain ⟨R, C, y, x, rfl, rfl, rfl, rfl, g1, g2, g3, g4, g5, g6, g7, g8⟩ := place_nx he
    have ec : Pt.okC 0 (Pt.at' l ((y : Int).toNat * (C : Int).toNat + (x : Int).toNat)) = Pt.at' l (y * C + x) := rfl
    rw [ec]
    obtain ⟨M, hM⟩ : ∃ M, y * C = M := ⟨_, rfl⟩
    obtain ⟨F, hF⟩ : ∃ F, M + x = F := ⟨_, rfl⟩
    have hM' : (y : Int) * (C : Int) = (M : Int) := by rw [← hM, Int.natCast_mul]
    have hF' : (M : Int) + (x : Int) = (F : Int) := by omega
    have hn : l.length ≤ 1024 := by rw [g5]; exact Pt.rc_bound g3 g4
    have hlt : F < l.length := by omega
    rw [hM, hF]
    have HR := Lib.hid (show ∀ u, Below W.heap.size W u → ∃ b0 off, p = some ⟨b0, off, none⟩ ∧ u.rangeAt b0 (off + F * 6) (CL (Pt.at' l F)) from fun u hu => by
      obtain ⟨b0, off, h1, -, h2⟩ := (HD.out.below hu).at hlt
      exact ⟨b0, off, h1, h2⟩)
    obtain ⟨n, hnn⟩ : ∃ n, l.length = n := ⟨_, rfl⟩
    rw [hnn] at hV C1 HP k1 hlt hn ⊢
    have m1 : (M : Int) ≤ 1024 := by omega
    have m2 : (F : Int) < (n : Int) := by omega
    have m3 : (n : Int) ≤ 1024 := by omega
    obtain ⟨b0, off, hp0, -⟩ := HR.out W (Below.refl _ _)
    subst hp0
    have HR2 := Lib.hid (show ∀ u, Below W.heap.size W u → u.rangeAt b0 (off + F * 6) (CL (Pt.at' l F)) from fun u hu => by
      obtain ⟨b1, o1, h1, h2⟩ := HR.out u hu
      cases h1
      exact h2)
    clear he g1 g2 g3 g4 g5 g6 g7 g8 hd v1 v2 hM hF hn hlt hnn ec
    go_enter Tryz.func7, Tryz.ntmps7
    go_upto_region 1 with fail
    rw [← hV, ← hW, ← hb]
    clear hV hW hb
    go_upto_region 4 with (first | (refine ld_pat (by rfl) (.tmp 4) rfl rfl HP.out.1 ?_) | (go_at_call 35; ((with_reducible refine (C1.out).mono ?_); rintro x' w1 ⟨rfl, hb1⟩; have HB1 := Lib.hid hb1; clear hb1 k0 k1)))
    obtain ⟨k0, k1⟩ := two_cells HP.out HB1.out
    go_wp2_with (first | (refine ld_cell (by rfl) (.tmp 27) rfl rfl (HR2.out _ HB1.out) ?_) | ((refine st_cell (by rfl) (.tmp 8) _ rfl rfl rfl (there_below HT.out HB1.out (by have := HS.out; omega)) ?_); intro w2 h2; have H2 := Lib.hid h2; clear h2))
    have hz := HS.out
    have hbe := HBE.out
    have hs1 := HB1.out.size
    have hrg : w2.rangeAt (b + 1) 0 (CL (Pt.at' l F)) := by rw [H2.out]; exact World.rangeAt_setCells_same _ _ 0 _ (there_below HT.out HB1.out (by omega))
    have hgr : w1.grownBy w2 (some (b + 1)) := by rw [H2.out]; exact grown_setCells _ _ _ _
    refine bodyPost_ret (res_ce rfl rfl hrg rfl) rfl ⟨?_, grown_at (stepB HB.out HB1.out) (by omega) (by omega) hgr⟩
    show _ = Ending.returned (.tuple #[.agg (CL (Pt.at' l F)).toArray, .int .i64 0])
    rfl
  · have hne : (e != 0) = true := by simpa using h0
    have ec : Pt.okC e (Pt.at' l (row.toNat * ch.toNat + c.toNat)) = Pt.zc := if_neg h0
    rw [ec]
    clear he h0 hd v1 v2 ec
    go_enter Tryz.func7, Tryz.ntmps7
    go_upto_region 1 with fail
    rw [← hV, ← hW, ← hb]
    clear hV hW hb
    have ez : (#[.int .i64 0, .int .i64 0, .int .i64 0, .int .i64 0, .int .i64 0, .int .i64 0] : Array Value) = (CL Pt.zc).toArray := rfl
    go_wp2_with (first | (refine ld_pat (by rfl) (.tmp 4) rfl rfl HP.out.1 ?_) | (go_at_call 35; ((with_reducible refine (C1.out).mono ?_); rintro x' w1 ⟨rfl, hb1⟩; have HB1 := Lib.hid hb1; clear hb1 k0 k1)) | ((refine st_cell (c := Pt.zc) (by rfl) (.tmp 8) _ rfl rfl rfl (there_below HT.out HB1.out (by have := HS.out; omega)) ?_); intro w2 h2; have H2 := Lib.hid h2; clear h2))
    have hz := HS.out
    have hbe := HBE.out
    have hs1 := HB1.out.size
    have hrg : w2.rangeAt (b + 1) 0 (CL Pt.zc) := by rw [H2.out]; exact World.rangeAt_setCells_same _ _ 0 _ (there_below HT.out HB1.out (by omega))
    have hgr : w1.grownBy w2 (some (b + 1)) := by rw [H2.out]; exact grown_setCells _ _ _ _
    refine bodyPost_ret (res_ce rfl rfl hrg rfl) rfl ⟨?_, grown_at (stepB HB.out HB1.out) (by omega) (by omega) hgr⟩
    show _ = Ending.returned (.tuple #[.agg (CL Pt.zc).toArray, .int .i64 e])
    rfl

theorem r_inside (i n : Int) (w : World) :
    Calls Tryz.prog 36 #[.int .i64 i, .int .i64 n] w fun x w' => x = .returned (.bool (Pt.plc i n)) ∧ w = w' := by
  by_cases h1 : 0 ≤ i
  · by_cases h2 : i < n
    · have HB := Lib.hid (show Pt.plc i n = true from decide_eq_true ⟨h1, h2⟩)
      go_enter Tryz.func36, Tryz.ntmps36
      go_wp2
      go_ret
      exact ⟨ret_bool HB.out.symm, rfl⟩
    · have HB := Lib.hid (show Pt.plc i n = false from decide_eq_false (by omega))
      have hd : decide (i < n) = false := decide_eq_false h2
      go_enter Tryz.func36, Tryz.ntmps36
      go_wp2
      go_ret
      exact ⟨ret_bool HB.out.symm, rfl⟩
  · have HB := Lib.hid (show Pt.plc i n = false from decide_eq_false (by omega))
    have hd : decide (0 ≤ i) = false := decide_eq_false h1
    go_enter Tryz.func36, Tryz.ntmps36
    go_wp2
    go_ret
    exact ⟨ret_bool HB.out.symm, rfl⟩
theorem r_inside_v {i n : Int} {v : Bool} (h : Pt.plc i n = v) (w : World) :
    Calls Tryz.prog 36 #[.int .i64 i, .int .i64 n] w fun x w' => x = .returned (.bool v) ∧ w = w' := h ▸ r_inside i n w
set_option maxHeartbeats 1600000 in
theorem r_Empty (R C : Nat) (w : World) (hn : R * C ≤ 1024) :
    Calls Tryz.prog 45 #[.int .i64 R, .int .i64 C] w fun x w' => RetP R (List.replicate (R * C) Pt.zc) w.heap.size x w' ∧ Below w.heap.size w w' := by
  obtain ⟨i0, hinf, hz0, hz1, hz2⟩ := info_parts Tryz.infoCell
  obtain ⟨W, hW⟩ : ∃ W, W = w.alloc (.cells #[.int .i64 0, .slice none 0 0] 24) := ⟨_, rfl⟩
  have HB := Lib.hid (show Below w.heap.size w W by rw [hW]; exact below_box _ _)
  have HZ := Lib.hid (show W.heap.size = w.heap.size + 1 by rw [hW]; simp)
  have HQ := Lib.hid (show Pb W w.heap.size 0 (.slice none 0 0) by rw [hW]; exact pb_box _ _ _ _)
  obtain ⟨n, hn0⟩ : ∃ n, R * C = n := ⟨_, rfl⟩
  have hm : (R : Int) * (C : Int) = (n : Int) := by rw [← hn0, Int.natCast_mul]
  rw [hn0] at hn ⊢
  have hn1 : (n : Int) ≤ 1024 := by omega
  obtain ⟨b, hb⟩ : ∃ b, b = w.heap.size := ⟨_, rfl⟩
  rw [← hb] at HZ HQ
  have HBE := Lib.hid hb
  clear hn0 hn
  go_enter Tryz.func45, Tryz.ntmps45
  go_upto_region 1 with fail
  rw [← hW, ← hb]
  clear hW hb
  go_wp2_with (first | (at_make; go_loud (refine wpList_make_full _ rfl _ _ 22 rfl W.heap.size 28 i0 (.agg #[.int .i64 0, .int .i64 0, .int .i64 0, .int .i64 0, .int .i64 0, .int .i64 0]) 6 Tryz.underlying22 hinf hz0 hz1 .i64 .i64 _ _ n rfl rfl rfl rfl (by rw [hz2]; omega) (by unfold maxLen; omega) (Nat.le_refl _) ?_; intro w3 hown3 hgrow3; have HR3 := Lib.hid (show w3.ownsRow W.heap.size 28 6 (.slice (some ⟨W.heap.size, 0, none⟩) n n) n (cc (List.replicate n Pt.zc)) by rw [← made_cells]; exact hown3); have HB3 := Lib.hid (grown_below hgrow3); clear hown3 hgrow3)) | ((refine st_pat (by rfl) _ _ rfl rfl rfl (HQ.out.kept HB3.out).2 ?_); intro w2 h2 g2; have H2 := Lib.hid h2; have G2 := Lib.hid g2; clear h2 g2))
  obtain ⟨q, cap, e, h1, h2⟩ := rows_own HR3.out (by simp)
  have e1 := HBE.out
  have e2 := HZ.out
  have e3 := HB3.out.size
  have e4 := HB.out.size
  refine bodyPost_ret (res_p rfl rfl H2.out.1) rfl ⟨⟨q, cap, by rw [e]; rfl, h1, (h2.grown G2.out (by omega)).mono e4⟩, grown_at (stepB HB.out HB3.out) (by omega) (by omega) G2.out⟩
set_option maxRecDepth 100000 in
set_option maxHeartbeats 1600000 in
theorem r_Get (r : Int) (l : List Pt.Cl) (p : Option Addr) (cap : Nat) (ch row c : Int) (w : World) (hd : CellsAt w p l) :
    Calls Tryz.prog 8 #[PV r p l.length cap, .int .i64 ch, .int .i64 row, .int .i64 c] w fun x w' => RetCE (Pt.okC (Pt.ePlace r l ch row c) (Pt.at' l (row.toNat * ch.toNat + c.toNat))) (Pt.ePlace r l ch row c) x ∧ Below w.heap.size w w' := by
  obtain ⟨V, hV⟩ : ∃ V, V = w.alloc (.cells #[.int .i64 r, .slice p l.length cap] 24) := ⟨_, rfl⟩
  obtain ⟨W, hW⟩ : ∃ W, W = V.alloc (.cells (CL Pt.zc).toArray 28) := ⟨_, rfl⟩
  have v1 : Below w.heap.size w V := by rw [hV]; exact below_box _ _
  have v2 : Below V.heap.size V W := by rw [hW]; exact below_box _ _
  have s1 : V.heap.size = w.heap.size + 1 := by rw [hV]; simp
  have HP := Lib.hid (show Pb W w.heap.size r (.slice p l.length cap) from (show Pb V _ _ _ by rw [hV]; exact pb_box _ _ _ _).kept v2)
  have HT := Lib.hid (show W.there (w.heap.size + 1) 0 6 by rw [hW, ← s1]; exact there_box V (CL Pt.zc) _)
  have HS := Lib.hid (show W.heap.size = w.heap.size + 2 by rw [hW]; simp [s1])
  have HB := Lib.hid (stepB v1 v2)
  have HD := Lib.hid (hd.below HB.out)
  have C1 := Lib.hid (r_Valid r l p cap ch W HD.out)
  obtain ⟨b, hb⟩ : ∃ b, b = w.heap.size := ⟨_, rfl⟩
  rw [← hb] at HP HT HS s1
  have HBE := Lib.hid hb
  have HT2 := Lib.hid (show ∀ u, Below W.heap.size W u → u.there (b + 1) 0 6 from fun u hu => there_below HT.out hu (by have := HS.out; omega))
  rw [cl_zc] at hW
  obtain ⟨e, he⟩ : ∃ e, Pt.ePlace r l ch row c = e := ⟨_, rfl⟩
  rw [he]
  unfold PV at C1 ⊢
  have HE := Lib.hid he
  cases hv : Pt.vpat r l ch with
  | false =>
    rw [hv] at C1
    have e1 : e = 1 := by rw [← he]; unfold Pt.ePlace; rw [hv]; rfl
    subst e1
    clear he hv hd v1 v2
    go_enter Tryz.func8, Tryz.ntmps8
    go_upto_region 1 with fail
    rw [← hV, ← hW, ← hb]
    clear hV hW hb
    go_wp2_with (first | (refine ld_pat (by rfl) (.tmp 4) rfl rfl HP.out.1 ?_) | (go_at_call 10; ((with_reducible refine (C1.out).mono ?_); rintro x' w1 ⟨rfl, hb1⟩; have HB1 := Lib.hid hb1; clear hb1)) | ((refine st_cell (c := Pt.zc) (by rfl) (.tmp 8) _ rfl rfl rfl (HT2.out _ HB1.out) ?_); intro w2 h2; have H2 := Lib.hid h2; clear h2))
    have hz := HS.out
    have hbe := HBE.out
    have hs1 := HB1.out.size
    have hrg : w2.rangeAt (b + 1) 0 (CL Pt.zc) := by rw [H2.out]; exact World.rangeAt_setCells_same _ _ 0 _ (HT2.out _ HB1.out)
    have hgr : w1.grownBy w2 (some (b + 1)) := by rw [H2.out]; exact grown_setCells _ _ _ _
    refine bodyPost_ret (res_ce rfl rfl hrg rfl) rfl ⟨?_, grown_at (stepB HB.out HB1.out) (by omega) (by omega) hgr⟩
    show _ = Ending.returned (.tuple #[.agg (CL Pt.zc).toArray, .int .i64 1])
    rfl
  | true =>
    rw [hv] at C1
    cases hr : Pt.plc row r with
    | false =>
      have e1 : e = 5 := by rw [← he]; unfold Pt.ePlace; rw [hv, hr]; rfl
      subst e1
      have CA := Lib.hid (r_inside_v hr)
      clear he hv hr hd v1 v2
      go_enter Tryz.func8, Tryz.ntmps8
      go_upto_region 1 with fail
      rw [← hV, ← hW, ← hb]
      clear hV hW hb
      go_upto_region 3 with (first | (refine ld_pat (by rfl) (.tmp 4) rfl rfl HP.out.1 ?_) | (go_at_call 10; ((with_reducible refine (C1.out).mono ?_); rintro x' w1 ⟨rfl, hb1⟩; have HB1 := Lib.hid hb1; clear hb1)))
      obtain ⟨k0, k1⟩ := two_cells HP.out HB1.out
      go_wp2_with (first | (go_at_call 36; ((with_reducible refine (CA.out _).mono ?_); rintro x' w3 ⟨rfl, rfl⟩)) | ((refine st_cell (c := Pt.zc) (by rfl) (.tmp 8) _ rfl rfl rfl (HT2.out _ HB1.out) ?_); intro w2 h2; have H2 := Lib.hid h2; clear h2))
      have hz := HS.out
      have hbe := HBE.out
      have hs1 := HB1.out.size
      have hrg : w2.rangeAt (b + 1) 0 (CL Pt.zc) := by rw [H2.out]; exact World.rangeAt_setCells_same _ _ 0 _ (HT2.out _ HB1.out)
      have hgr : w1.grownBy w2 (some (b + 1)) := by rw [H2.out]; exact grown_setCells _ _ _ _
      refine bodyPost_ret (res_ce rfl rfl hrg rfl) rfl ⟨?_, grown_at (stepB HB.out HB1.out) (by omega) (by omega) hgr⟩
      show _ = Ending.returned (.tuple #[.agg (CL Pt.zc).toArray, .int .i64 5])
      rfl
    | true =>
      have CA := Lib.hid (r_inside_v hr)
      cases hc : Pt.plc c ch with
      | false =>
        have e1 : e = 5 := by rw [← he]; unfold Pt.ePlace; rw [hv, hr, hc]; rfl
        subst e1
        have CB := Lib.hid (r_inside_v hc)
        clear he hv hr hc hd v1 v2
        go_enter Tryz.func8, Tryz.ntmps8
        go_upto_region 1 with fail
        rw [← hV, ← hW, ← hb]
        clear hV hW hb
        go_upto_region 3 with (first | (refine ld_pat (by rfl) (.tmp 4) rfl rfl HP.out.1 ?_) | (go_at_call 10; ((with_reducible refine (C1.out).mono ?_); rintro x' w1 ⟨rfl, hb1⟩; have HB1 := Lib.hid hb1; clear hb1)))
        obtain ⟨k0, k1⟩ := two_cells HP.out HB1.out
        go_wp2_with (first | (go_at_call 36; ((with_reducible refine (CA.out _).mono ?_); rintro x' w3 ⟨rfl, rfl⟩)) | (go_at_call 36; ((with_reducible refine (CB.out _).mono ?_); rintro x' w3 ⟨rfl, rfl⟩)) | ((refine st_cell (c := Pt.zc) (by rfl) (.tmp 8) _ rfl rfl rfl (HT2.out _ HB1.out) ?_); intro w2 h2; have H2 := Lib.hid h2; clear h2))
        have hz := HS.out
        have hbe := HBE.out
        have hs1 := HB1.out.size
        have hrg : w2.rangeAt (b + 1) 0 (CL Pt.zc) := by rw [H2.out]; exact World.rangeAt_setCells_same _ _ 0 _ (HT2.out _ HB1.out)
        have hgr : w1.grownBy w2 (some (b + 1)) := by rw [H2.out]; exact grown_setCells _ _ _ _
        refine bodyPost_ret (res_ce rfl rfl hrg rfl) rfl ⟨?_, grown_at (stepB HB.out HB1.out) (by omega) (by omega) hgr⟩
        show _ = Ending.returned (.tuple #[.agg (CL Pt.zc).toArray, .int .i64 5])
        rfl
      | true =>
        have CB := Lib.hid (r_inside_v hc)
        have e1 : e = 0 := by rw [← he]; unfold Pt.ePlace; rw [hv, hr, hc]; rfl
        subst e1
        obtain ⟨R, C, y, x, rfl, rfl, rfl, rfl, g1, g2, g3, g4, g5, g6, g7, g8⟩ := place_nx he
        have ec : Pt.okC 0 (Pt.at' l ((y : Int).toNat * (C : Int).toNat + (x : Int).toNat)) = Pt.at' l (y * C + x) := rfl
        rw [ec]
        obtain ⟨M, hM⟩ : ∃ M, y * C = M := ⟨_, rfl⟩
        obtain ⟨F, hF⟩ : ∃ F, M + x = F := ⟨_, rfl⟩
        have hM' : (y : Int) * (C : Int) = (M : Int) := by rw [← hM, Int.natCast_mul]
        have hF' : (M : Int) + (x : Int) = (F : Int) := by omega
        have hn : l.length ≤ 1024 := by rw [g5]; exact Pt.rc_bound g3 g4
        rw [hM, hF] at g6 ⊢
        have HR := Lib.hid (show ∀ u, Below W.heap.size W u → ∃ b0 off, p = some ⟨b0, off, none⟩ ∧ u.rangeAt b0 (off + F * 6) (CL (Pt.at' l F)) from fun u hu => by
          obtain ⟨b0, off, h1, -, h2⟩ := (HD.out.below hu).at g6
          exact ⟨b0, off, h1, h2⟩)
        obtain ⟨n, hnn⟩ : ∃ n, l.length = n := ⟨_, rfl⟩
        rw [hnn] at hV C1 HP g6 hn ⊢
        have m1 : (M : Int) ≤ 1024 := by omega
        have m2 : (F : Int) < (n : Int) := by omega
        have m3 : (n : Int) ≤ 1024 := by omega
        obtain ⟨b0, off, hp0, -⟩ := HR.out W (Below.refl _ _)
        subst hp0
        have HR2 := Lib.hid (show ∀ u, Below W.heap.size W u → u.rangeAt b0 (off + F * 6) (CL (Pt.at' l F)) from fun u hu => by
          obtain ⟨b1, o1, h1, h2⟩ := HR.out u hu
          cases h1
          exact h2)
        clear he g1 g2 g3 g4 g5 g6 g7 g8 hd v1 v2 hM hF hn hnn ec hv hr hc
        go_enter Tryz.func8, Tryz.ntmps8
        go_upto_region 1 with fail
        rw [← hV, ← hW, ← hb]
        clear hV hW hb
        go_upto_region 3 with (first | (refine ld_pat (by rfl) (.tmp 4) rfl rfl HP.out.1 ?_) | (go_at_call 10; ((with_reducible refine (C1.out).mono ?_); rintro x' w1 ⟨rfl, hb1⟩; have HB1 := Lib.hid hb1; clear hb1)))
        obtain ⟨k0, k1⟩ := two_cells HP.out HB1.out
        go_wp2_with (first | (go_at_call 36; ((with_reducible refine (CA.out _).mono ?_); rintro x' w3 ⟨rfl, rfl⟩)) | (go_at_call 36; ((with_reducible refine (CB.out _).mono ?_); rintro x' w3 ⟨rfl, rfl⟩)) | (refine ld_cell (by rfl) (.tmp 36) rfl rfl (HR2.out _ HB1.out) ?_) | ((refine st_cell (by rfl) (.tmp 8) _ rfl rfl rfl (HT2.out _ HB1.out) ?_); intro w2 h2; have H2 := Lib.hid h2; clear h2))
        have hz := HS.out
        have hbe := HBE.out
        have hs1 := HB1.out.size
        have hrg : w2.rangeAt (b + 1) 0 (CL (Pt.at' l F)) := by rw [H2.out]; exact World.rangeAt_setCells_same _ _ 0 _ (HT2.out _ HB1.out)
        have hgr : w1.grownBy w2 (some (b + 1)) := by rw [H2.out]; exact grown_setCells _ _ _ _
        refine bodyPost_ret (res_ce rfl rfl hrg rfl) rfl ⟨?_, grown_at (stepB HB.out HB1.out) (by omega) (by omega) hgr⟩
        show _ = Ending.returned (.tuple #[.agg (CL (Pt.at' l F)).toArray, .int .i64 0])
        rfl
end Go.Proofs.YtfjfnbeegojlbaaGreat

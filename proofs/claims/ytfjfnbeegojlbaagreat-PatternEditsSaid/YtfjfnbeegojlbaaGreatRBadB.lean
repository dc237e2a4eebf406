/-
  The reference's Paste, Insert, Delete, Interpolate and Join where they refuse.
-/
import Derived.Test.YtfjfnbeegojlbaaGreatGc
namespace Go.Proofs.YtfjfnbeegojlbaaGreat
open Go.RowKit

theorem plt {i n : Int} (h : Pt.plc i n = true) : 0 ≤ i ∧ i < n := of_decide_eq_true h
theorem plf {i n : Int} (h : Pt.plc i n = false) : ¬ (0 ≤ i ∧ i < n) := of_decide_eq_false h
theorem pl0 {r ch : Int} {l : List Pt.Cl} (h : Pt.vpat r l ch = true) : Pt.plc 0 ch = true := by
  have := Pt.vpat_iff.1 h
  exact decide_eq_true (by omega)
set_option maxRecDepth 100000 in
set_option maxHeartbeats 6400000 in
theorem r_Paste_bad (r : Int) (l : List Pt.Cl) (p : Option Addr) (cap : Nat) (ch : Int) (br : Int) (bl : List Pt.Cl) (bp : Option Addr) (bc : Nat) (wd row c : Int) (mx : Bool) (w : World) (hd : CellsAt w p l) (hd2 : CellsAt w bp bl) {e : Int} (he : Pt.ePaste r l ch br bl wd row c = e) (h0 : e ≠ 0) :
    Calls Tryz.prog 18 #[PV r p l.length cap, .int .i64 ch, PV br bp bl.length bc, .int .i64 wd, .int .i64 row, .int .i64 c, .bool mx] w fun x w' => RetPE 0 [] e w.heap.size x w' ∧ Below w.heap.size w w' := by
  obtain ⟨W, hW, hB, hs, hp, ha, hr⟩ := pats_new w r (.slice p l.length cap) br (.slice bp bl.length bc)
  have HB := Lib.hid hB
  have HP := Lib.hid hp
  have HR := Lib.hid hr
  have HS := Lib.hid hs
  have CV := Lib.hid (fun u (hu : Below W.heap.size W u) => r_Valid r l p cap ch u ((hd.below hB).below hu))
  have CW := Lib.hid (fun u (hu : Below W.heap.size W u) => r_Valid br bl bp bc wd u ((hd2.below hB).below hu))
  obtain ⟨b, hb⟩ : ∃ b, b = w.heap.size := ⟨_, rfl⟩
  have HA := Lib.hid ha
  rw [← hb] at HP HR HS HA hp ha
  have HBE := Lib.hid hb
  have HBc := Lib.hid (Below.refl W.heap.size W)
  unfold PV at CV CW ⊢
  obtain ⟨k0, k1, q0, q1⟩ := four hp ha (Below.refl _ W)
  cases h1 : Pt.vpat r l ch with
  | false =>
    rw [h1] at CV
    have e1 : e = 1 := by rw [← he]; unfold Pt.ePaste Pt.ePlace; cases Pt.vpat br bl wd <;> simp [h1]
    subst e1
    clear he h0 hd hd2 hp ha hr hB hs h1
    go_enter Tryz.func18, Tryz.ntmps18
    go_upto_region 1 with fail
    rw [← hW, ← hb]
    clear hW hb
    go_wp2_with (first | (refine ld_pat (by rfl) (.tmp 7) rfl rfl (HP.out.kept HBc.out).1 ?_) | (refine ld_pat (by rfl) (.tmp 9) rfl rfl (HA.out.kept HBc.out).1 ?_) | (go_at_call 10; ((with_reducible refine (CV.out _ HBc.out).mono ?_); rintro x' w1 ⟨rfl, hb1⟩; have HBn := Lib.hid (stepB HBc.out hb1); clear HBc k0 k1 q0 q1 hb1; have HBc := HBn; clear HBn; obtain ⟨k0, k1, q0, q1⟩ := four HP.out HA.out HBc.out)) | ((refine st_pat (by rfl) (.tmp 14) _ rfl rfl rfl (HR.out.kept HBc.out).2 ?_); intro w9 h9 g9; have H9 := Lib.hid h9; have G9 := Lib.hid g9; clear h9 g9))
    have e1 := HBE.out
    have e2 := HS.out
    have e3 := HBc.out.size
    exact bodyPost_ret (res_pe rfl rfl H9.out.1 rfl) rfl ⟨⟨none, 0, rfl, Nat.le_refl _, .inl rfl⟩, grown_at (stepB HB.out HBc.out) (by omega) (by omega) G9.out⟩
  | true =>
    rw [h1] at CV
    cases h2 : Pt.vpat br bl wd with
    | false =>
      rw [h2] at CW
      have e1 : e = 1 := by rw [← he]; unfold Pt.ePaste Pt.ePlace; simp [h2]
      subst e1
      clear he h0 hd hd2 hp ha hr hB hs h1 h2
      go_enter Tryz.func18, Tryz.ntmps18
      go_upto_region 1 with fail
      rw [← hW, ← hb]
      clear hW hb
      go_wp2_with (first | (refine ld_pat (by rfl) (.tmp 7) rfl rfl (HP.out.kept HBc.out).1 ?_) | (refine ld_pat (by rfl) (.tmp 9) rfl rfl (HA.out.kept HBc.out).1 ?_) | (go_at_call 10; ((with_reducible refine (CV.out _ HBc.out).mono ?_); rintro x' w1 ⟨rfl, hb1⟩; have HBn := Lib.hid (stepB HBc.out hb1); clear HBc k0 k1 q0 q1 hb1; have HBc := HBn; clear HBn; obtain ⟨k0, k1, q0, q1⟩ := four HP.out HA.out HBc.out)) | (go_at_call 10; ((with_reducible refine (CW.out _ HBc.out).mono ?_); rintro x' w1 ⟨rfl, hb1⟩; have HBn := Lib.hid (stepB HBc.out hb1); clear HBc k0 k1 q0 q1 hb1; have HBc := HBn; clear HBn; obtain ⟨k0, k1, q0, q1⟩ := four HP.out HA.out HBc.out)) | ((refine st_pat (by rfl) (.tmp 14) _ rfl rfl rfl (HR.out.kept HBc.out).2 ?_); intro w9 h9 g9; have H9 := Lib.hid h9; have G9 := Lib.hid g9; clear h9 g9))
      have e1 := HBE.out
      have e2 := HS.out
      have e3 := HBc.out.size
      exact bodyPost_ret (res_pe rfl rfl H9.out.1 rfl) rfl ⟨⟨none, 0, rfl, Nat.le_refl _, .inl rfl⟩, grown_at (stepB HB.out HBc.out) (by omega) (by omega) G9.out⟩
    | true =>
      rw [h2] at CW
      cases h3 : Pt.plc row r with
      | false =>
        have CR := Lib.hid (fun u => r_inside_v h3 u)
        have e1 : e = 5 := by rw [← he]; unfold Pt.ePaste Pt.ePlace; simp [h1, h2, h3]
        subst e1
        clear he h0 hd hd2 hp ha hr hB hs h1 h2 h3
        go_enter Tryz.func18, Tryz.ntmps18
        go_upto_region 1 with fail
        rw [← hW, ← hb]
        clear hW hb
        go_wp2_with (first | (refine ld_pat (by rfl) (.tmp 7) rfl rfl (HP.out.kept HBc.out).1 ?_) | (refine ld_pat (by rfl) (.tmp 9) rfl rfl (HA.out.kept HBc.out).1 ?_) | (go_at_call 10; ((with_reducible refine (CV.out _ HBc.out).mono ?_); rintro x' w1 ⟨rfl, hb1⟩; have HBn := Lib.hid (stepB HBc.out hb1); clear HBc k0 k1 q0 q1 hb1; have HBc := HBn; clear HBn; obtain ⟨k0, k1, q0, q1⟩ := four HP.out HA.out HBc.out)) | (go_at_call 10; ((with_reducible refine (CW.out _ HBc.out).mono ?_); rintro x' w1 ⟨rfl, hb1⟩; have HBn := Lib.hid (stepB HBc.out hb1); clear HBc k0 k1 q0 q1 hb1; have HBc := HBn; clear HBn; obtain ⟨k0, k1, q0, q1⟩ := four HP.out HA.out HBc.out)) | (go_at_call 36; ((with_reducible refine (CR.out _).mono ?_); rintro x' w3 ⟨rfl, rfl⟩)) | ((refine st_pat (by rfl) (.tmp 14) _ rfl rfl rfl (HR.out.kept HBc.out).2 ?_); intro w9 h9 g9; have H9 := Lib.hid h9; have G9 := Lib.hid g9; clear h9 g9))
        have e1 := HBE.out
        have e2 := HS.out
        have e3 := HBc.out.size
        exact bodyPost_ret (res_pe rfl rfl H9.out.1 rfl) rfl ⟨⟨none, 0, rfl, Nat.le_refl _, .inl rfl⟩, grown_at (stepB HB.out HBc.out) (by omega) (by omega) G9.out⟩
      | true =>
        have CR := Lib.hid (fun u => r_inside_v h3 u)
        cases h4 : Pt.plc c ch with
        | false =>
          have CK := Lib.hid (fun u => r_inside_v h4 u)
          have e1 : e = 5 := by rw [← he]; unfold Pt.ePaste Pt.ePlace; simp [h1, h2, h3, h4]
          subst e1
          clear he h0 hd hd2 hp ha hr hB hs h1 h2 h3 h4
          go_enter Tryz.func18, Tryz.ntmps18
          go_upto_region 1 with fail
          rw [← hW, ← hb]
          clear hW hb
          go_wp2_with (first | (refine ld_pat (by rfl) (.tmp 7) rfl rfl (HP.out.kept HBc.out).1 ?_) | (refine ld_pat (by rfl) (.tmp 9) rfl rfl (HA.out.kept HBc.out).1 ?_) | (go_at_call 10; ((with_reducible refine (CV.out _ HBc.out).mono ?_); rintro x' w1 ⟨rfl, hb1⟩; have HBn := Lib.hid (stepB HBc.out hb1); clear HBc k0 k1 q0 q1 hb1; have HBc := HBn; clear HBn; obtain ⟨k0, k1, q0, q1⟩ := four HP.out HA.out HBc.out)) | (go_at_call 10; ((with_reducible refine (CW.out _ HBc.out).mono ?_); rintro x' w1 ⟨rfl, hb1⟩; have HBn := Lib.hid (stepB HBc.out hb1); clear HBc k0 k1 q0 q1 hb1; have HBc := HBn; clear HBn; obtain ⟨k0, k1, q0, q1⟩ := four HP.out HA.out HBc.out)) | (go_at_call 36; ((with_reducible refine (CR.out _).mono ?_); rintro x' w3 ⟨rfl, rfl⟩)) | (go_at_call 36; ((with_reducible refine (CK.out _).mono ?_); rintro x' w3 ⟨rfl, rfl⟩)) | ((refine st_pat (by rfl) (.tmp 14) _ rfl rfl rfl (HR.out.kept HBc.out).2 ?_); intro w9 h9 g9; have H9 := Lib.hid h9; have G9 := Lib.hid g9; clear h9 g9))
          have e1 := HBE.out
          have e2 := HS.out
          have e3 := HBc.out.size
          exact bodyPost_ret (res_pe rfl rfl H9.out.1 rfl) rfl ⟨⟨none, 0, rfl, Nat.le_refl _, .inl rfl⟩, grown_at (stepB HB.out HBc.out) (by omega) (by omega) G9.out⟩
        | true =>
          have CK := Lib.hid (fun u => r_inside_v h4 u)
          exact absurd (show e = 0 by rw [← he]; unfold Pt.ePaste Pt.ePlace; simp [h1, h2, h3, h4]) h0
set_option maxRecDepth 100000 in
set_option maxHeartbeats 6400000 in
theorem r_Insert_bad (r : Int) (l : List Pt.Cl) (p : Option Addr) (cap : Nat) (ch row : Int) (w : World) (hd : CellsAt w p l) {e : Int} (he : Pt.ePlace r l ch row 0 = e) (h0 : e ≠ 0) :
    Calls Tryz.prog 22 #[PV r p l.length cap, .int .i64 ch, .int .i64 row] w fun x w' => RetPE 0 [] e w.heap.size x w' ∧ Below w.heap.size w w' := by
  obtain ⟨W, hW, hB, hs, hp, hr⟩ := two_new' w r (.slice p l.length cap)
  have HB := Lib.hid hB
  have HP := Lib.hid hp
  have HR := Lib.hid hr
  have HS := Lib.hid hs
  have CV := Lib.hid (fun u (hu : Below W.heap.size W u) => r_Valid r l p cap ch u ((hd.below hB).below hu))
  obtain ⟨b, hb⟩ : ∃ b, b = w.heap.size := ⟨_, rfl⟩
  rw [← hb] at HP HR HS hp
  have HBE := Lib.hid hb
  have HBc := Lib.hid (Below.refl W.heap.size W)
  unfold PV at CV ⊢
  obtain ⟨k0, k1⟩ := two_cells hp (Below.refl _ W)
  cases h1 : Pt.vpat r l ch with
  | false =>
    rw [h1] at CV
    have e1 : e = 1 := by rw [← he]; unfold Pt.ePlace; simp [h1]
    subst e1
    clear he h0 hd hp hr hB hs h1
    go_enter Tryz.func22, Tryz.ntmps22
    go_upto_region 1 with fail
    rw [← hW, ← hb]
    clear hW hb
    go_wp2_with (first | (refine ld_pat (by rfl) (.tmp 3) rfl rfl (HP.out.kept HBc.out).1 ?_) | (go_at_call 10; ((with_reducible refine (CV.out _ HBc.out).mono ?_); rintro x' w1 ⟨rfl, hb1⟩; have HBn := Lib.hid (stepB HBc.out hb1); clear HBc k0 k1 hb1; have HBc := HBn; clear HBn; obtain ⟨k0, k1⟩ := two_cells HP.out HBc.out)) | ((refine st_pat (by rfl) (.tmp 6) _ rfl rfl rfl (HR.out.kept HBc.out).2 ?_); intro w9 h9 g9; have H9 := Lib.hid h9; have G9 := Lib.hid g9; clear h9 g9))
    have e1 := HBE.out
    have e2 := HS.out
    have e3 := HBc.out.size
    exact bodyPost_ret (res_pe rfl rfl H9.out.1 rfl) rfl ⟨⟨none, 0, rfl, Nat.le_refl _, .inl rfl⟩, grown_at (stepB HB.out HBc.out) (by omega) (by omega) G9.out⟩
  | true =>
    rw [h1] at CV
    cases h2 : Pt.plc row r with
    | false =>
      have CR := Lib.hid (fun u => r_inside_v h2 u)
      have e1 : e = 5 := by rw [← he]; unfold Pt.ePlace; simp [h1, h2]
      subst e1
      clear he h0 hd hp hr hB hs h1 h2
      go_enter Tryz.func22, Tryz.ntmps22
      go_upto_region 1 with fail
      rw [← hW, ← hb]
      clear hW hb
      go_wp2_with (first | (refine ld_pat (by rfl) (.tmp 3) rfl rfl (HP.out.kept HBc.out).1 ?_) | (go_at_call 10; ((with_reducible refine (CV.out _ HBc.out).mono ?_); rintro x' w1 ⟨rfl, hb1⟩; have HBn := Lib.hid (stepB HBc.out hb1); clear HBc k0 k1 hb1; have HBc := HBn; clear HBn; obtain ⟨k0, k1⟩ := two_cells HP.out HBc.out)) | (go_at_call 36; ((with_reducible refine (CR.out _).mono ?_); rintro x' w3 ⟨rfl, rfl⟩)) | ((refine st_pat (by rfl) (.tmp 6) _ rfl rfl rfl (HR.out.kept HBc.out).2 ?_); intro w9 h9 g9; have H9 := Lib.hid h9; have G9 := Lib.hid g9; clear h9 g9))
      have e1 := HBE.out
      have e2 := HS.out
      have e3 := HBc.out.size
      exact bodyPost_ret (res_pe rfl rfl H9.out.1 rfl) rfl ⟨⟨none, 0, rfl, Nat.le_refl _, .inl rfl⟩, grown_at (stepB HB.out HBc.out) (by omega) (by omega) G9.out⟩
    | true =>
      have CR := Lib.hid (fun u => r_inside_v h2 u)
      exact absurd (show e = 0 by rw [← he]; unfold Pt.ePlace; simp [h1, h2, pl0 h1]) h0
set_option maxRecDepth 100000 in
set_option maxHeartbeats 6400000 in
theorem r_Delete_bad (r : Int) (l : List Pt.Cl) (p : Option Addr) (cap : Nat) (ch row : Int) (w : World) (hd : CellsAt w p l) {e : Int} (he : Pt.ePlace r l ch row 0 = e) (h0 : e ≠ 0) :
    Calls Tryz.prog 24 #[PV r p l.length cap, .int .i64 ch, .int .i64 row] w fun x w' => RetPE 0 [] e w.heap.size x w' ∧ Below w.heap.size w w' := by
  obtain ⟨W, hW, hB, hs, hp, hr⟩ := two_new' w r (.slice p l.length cap)
  have HB := Lib.hid hB
  have HP := Lib.hid hp
  have HR := Lib.hid hr
  have HS := Lib.hid hs
  have CV := Lib.hid (fun u (hu : Below W.heap.size W u) => r_Valid r l p cap ch u ((hd.below hB).below hu))
  obtain ⟨b, hb⟩ : ∃ b, b = w.heap.size := ⟨_, rfl⟩
  rw [← hb] at HP HR HS hp
  have HBE := Lib.hid hb
  have HBc := Lib.hid (Below.refl W.heap.size W)
  unfold PV at CV ⊢
  obtain ⟨k0, k1⟩ := two_cells hp (Below.refl _ W)
  cases h1 : Pt.vpat r l ch with
  | false =>
    rw [h1] at CV
    have e1 : e = 1 := by rw [← he]; unfold Pt.ePlace; simp [h1]
    subst e1
    clear he h0 hd hp hr hB hs h1
    go_enter Tryz.func24, Tryz.ntmps24
    go_upto_region 1 with fail
    rw [← hW, ← hb]
    clear hW hb
    go_wp2_with (first | (refine ld_pat (by rfl) (.tmp 3) rfl rfl (HP.out.kept HBc.out).1 ?_) | (go_at_call 10; ((with_reducible refine (CV.out _ HBc.out).mono ?_); rintro x' w1 ⟨rfl, hb1⟩; have HBn := Lib.hid (stepB HBc.out hb1); clear HBc k0 k1 hb1; have HBc := HBn; clear HBn; obtain ⟨k0, k1⟩ := two_cells HP.out HBc.out)) | ((refine st_pat (by rfl) (.tmp 6) _ rfl rfl rfl (HR.out.kept HBc.out).2 ?_); intro w9 h9 g9; have H9 := Lib.hid h9; have G9 := Lib.hid g9; clear h9 g9))
    have e1 := HBE.out
    have e2 := HS.out
    have e3 := HBc.out.size
    exact bodyPost_ret (res_pe rfl rfl H9.out.1 rfl) rfl ⟨⟨none, 0, rfl, Nat.le_refl _, .inl rfl⟩, grown_at (stepB HB.out HBc.out) (by omega) (by omega) G9.out⟩
  | true =>
    rw [h1] at CV
    cases h2 : Pt.plc row r with
    | false =>
      have CR := Lib.hid (fun u => r_inside_v h2 u)
      have e1 : e = 5 := by rw [← he]; unfold Pt.ePlace; simp [h1, h2]
      subst e1
      clear he h0 hd hp hr hB hs h1 h2
      go_enter Tryz.func24, Tryz.ntmps24
      go_upto_region 1 with fail
      rw [← hW, ← hb]
      clear hW hb
      go_wp2_with (first | (refine ld_pat (by rfl) (.tmp 3) rfl rfl (HP.out.kept HBc.out).1 ?_) | (go_at_call 10; ((with_reducible refine (CV.out _ HBc.out).mono ?_); rintro x' w1 ⟨rfl, hb1⟩; have HBn := Lib.hid (stepB HBc.out hb1); clear HBc k0 k1 hb1; have HBc := HBn; clear HBn; obtain ⟨k0, k1⟩ := two_cells HP.out HBc.out)) | (go_at_call 36; ((with_reducible refine (CR.out _).mono ?_); rintro x' w3 ⟨rfl, rfl⟩)) | ((refine st_pat (by rfl) (.tmp 6) _ rfl rfl rfl (HR.out.kept HBc.out).2 ?_); intro w9 h9 g9; have H9 := Lib.hid h9; have G9 := Lib.hid g9; clear h9 g9))
      have e1 := HBE.out
      have e2 := HS.out
      have e3 := HBc.out.size
      exact bodyPost_ret (res_pe rfl rfl H9.out.1 rfl) rfl ⟨⟨none, 0, rfl, Nat.le_refl _, .inl rfl⟩, grown_at (stepB HB.out HBc.out) (by omega) (by omega) G9.out⟩
    | true =>
      have CR := Lib.hid (fun u => r_inside_v h2 u)
      exact absurd (show e = 0 by rw [← he]; unfold Pt.ePlace; simp [h1, h2, pl0 h1]) h0
set_option maxRecDepth 100000 in
set_option maxHeartbeats 6400000 in
theorem r_Interpolate_bad (r : Int) (l : List Pt.Cl) (p : Option Addr) (cap : Nat) (ch c f t : Int) (w : World) (hd : CellsAt w p l) {e : Int} (he : Pt.eInt r l ch c f t = e) (h0 : e ≠ 0) :
    Calls Tryz.prog 26 #[PV r p l.length cap, .int .i64 ch, .int .i64 c, .int .i64 f, .int .i64 t] w fun x w' => RetPE 0 [] e w.heap.size x w' ∧ Below w.heap.size w w' := by
  obtain ⟨W, hW, hB, hs, hp, hr⟩ := two_new' w r (.slice p l.length cap)
  have HB := Lib.hid hB
  have HP := Lib.hid hp
  have HR := Lib.hid hr
  have HS := Lib.hid hs
  have CV := Lib.hid (fun u (hu : Below W.heap.size W u) => r_Valid r l p cap ch u ((hd.below hB).below hu))
  obtain ⟨b, hb⟩ : ∃ b, b = w.heap.size := ⟨_, rfl⟩
  rw [← hb] at HP HR HS hp
  have HBE := Lib.hid hb
  have HBc := Lib.hid (Below.refl W.heap.size W)
  unfold PV at CV ⊢
  obtain ⟨k0, k1⟩ := two_cells hp (Below.refl _ W)
  cases h1 : Pt.vpat r l ch with
  | false =>
    rw [h1] at CV
    have e1 : e = 1 := by rw [← he]; unfold Pt.eInt Pt.ePlace; simp [h1]
    subst e1
    clear he h0 hd hp hr hB hs h1
    go_enter Tryz.func26, Tryz.ntmps26
    go_upto_region 1 with fail
    rw [← hW, ← hb]
    clear hW hb
    go_wp2_with (first | (refine ld_pat (by rfl) (.tmp 5) rfl rfl (HP.out.kept HBc.out).1 ?_) | (go_at_call 10; ((with_reducible refine (CV.out _ HBc.out).mono ?_); rintro x' w1 ⟨rfl, hb1⟩; have HBn := Lib.hid (stepB HBc.out hb1); clear HBc k0 k1 hb1; have HBc := HBn; clear HBn; obtain ⟨k0, k1⟩ := two_cells HP.out HBc.out)) | ((refine st_pat (by rfl) (.tmp 10) _ rfl rfl rfl (HR.out.kept HBc.out).2 ?_); intro w9 h9 g9; have H9 := Lib.hid h9; have G9 := Lib.hid g9; clear h9 g9))
    have e1 := HBE.out
    have e2 := HS.out
    have e3 := HBc.out.size
    exact bodyPost_ret (res_pe rfl rfl H9.out.1 rfl) rfl ⟨⟨none, 0, rfl, Nat.le_refl _, .inl rfl⟩, grown_at (stepB HB.out HBc.out) (by omega) (by omega) G9.out⟩
  | true =>
    rw [h1] at CV
    cases h2 : Pt.plc c ch with
    | false =>
      have CK := Lib.hid (fun u => r_inside_v h2 u)
      have e1 : e = 5 := by rw [← he]; unfold Pt.eInt Pt.ePlace; simp [h1, h2]
      subst e1
      clear he h0 hd hp hr hB hs h1 h2
      go_enter Tryz.func26, Tryz.ntmps26
      go_upto_region 1 with fail
      rw [← hW, ← hb]
      clear hW hb
      go_wp2_with (first | (refine ld_pat (by rfl) (.tmp 5) rfl rfl (HP.out.kept HBc.out).1 ?_) | (go_at_call 10; ((with_reducible refine (CV.out _ HBc.out).mono ?_); rintro x' w1 ⟨rfl, hb1⟩; have HBn := Lib.hid (stepB HBc.out hb1); clear HBc k0 k1 hb1; have HBc := HBn; clear HBn; obtain ⟨k0, k1⟩ := two_cells HP.out HBc.out)) | (go_at_call 36; ((with_reducible refine (CK.out _).mono ?_); rintro x' w3 ⟨rfl, rfl⟩)) | ((refine st_pat (by rfl) (.tmp 10) _ rfl rfl rfl (HR.out.kept HBc.out).2 ?_); intro w9 h9 g9; have H9 := Lib.hid h9; have G9 := Lib.hid g9; clear h9 g9))
      have e1 := HBE.out
      have e2 := HS.out
      have e3 := HBc.out.size
      exact bodyPost_ret (res_pe rfl rfl H9.out.1 rfl) rfl ⟨⟨none, 0, rfl, Nat.le_refl _, .inl rfl⟩, grown_at (stepB HB.out HBc.out) (by omega) (by omega) G9.out⟩
    | true =>
      have CK := Lib.hid (fun u => r_inside_v h2 u)
      cases h3 : Pt.plc f r with
      | false =>
        have CR := Lib.hid (fun u => r_inside_v h3 u)
        have e1 : e = 5 := by rw [← he]; unfold Pt.eInt Pt.ePlace; simp [h1, h3]
        subst e1
        clear he h0 hd hp hr hB hs h1 h2 h3
        go_enter Tryz.func26, Tryz.ntmps26
        go_upto_region 1 with fail
        rw [← hW, ← hb]
        clear hW hb
        go_wp2_with (first | (refine ld_pat (by rfl) (.tmp 5) rfl rfl (HP.out.kept HBc.out).1 ?_) | (go_at_call 10; ((with_reducible refine (CV.out _ HBc.out).mono ?_); rintro x' w1 ⟨rfl, hb1⟩; have HBn := Lib.hid (stepB HBc.out hb1); clear HBc k0 k1 hb1; have HBc := HBn; clear HBn; obtain ⟨k0, k1⟩ := two_cells HP.out HBc.out)) | (go_at_call 36; ((with_reducible refine (CK.out _).mono ?_); rintro x' w3 ⟨rfl, rfl⟩)) | (go_at_call 36; ((with_reducible refine (CR.out _).mono ?_); rintro x' w3 ⟨rfl, rfl⟩)) | ((refine st_pat (by rfl) (.tmp 10) _ rfl rfl rfl (HR.out.kept HBc.out).2 ?_); intro w9 h9 g9; have H9 := Lib.hid h9; have G9 := Lib.hid g9; clear h9 g9))
        have e1 := HBE.out
        have e2 := HS.out
        have e3 := HBc.out.size
        exact bodyPost_ret (res_pe rfl rfl H9.out.1 rfl) rfl ⟨⟨none, 0, rfl, Nat.le_refl _, .inl rfl⟩, grown_at (stepB HB.out HBc.out) (by omega) (by omega) G9.out⟩
      | true =>
        have CR := Lib.hid (fun u => r_inside_v h3 u)
        cases h4 : Pt.plc t r with
        | false =>
          have CT := Lib.hid (fun u => r_inside_v h4 u)
          have e1 : e = 5 := by rw [← he]; unfold Pt.eInt Pt.ePlace; rw [h1, h2, h3]; show (if f < t ∧ t < r then (0 : Int) else 5) = 5; exact if_neg (fun h => plf h4 (by have := plt h3; omega))
          subst e1
          clear he h0 hd hp hr hB hs h1 h2 h3 h4
          go_enter Tryz.func26, Tryz.ntmps26
          go_upto_region 1 with fail
          rw [← hW, ← hb]
          clear hW hb
          go_wp2_with (first | (refine ld_pat (by rfl) (.tmp 5) rfl rfl (HP.out.kept HBc.out).1 ?_) | (go_at_call 10; ((with_reducible refine (CV.out _ HBc.out).mono ?_); rintro x' w1 ⟨rfl, hb1⟩; have HBn := Lib.hid (stepB HBc.out hb1); clear HBc k0 k1 hb1; have HBc := HBn; clear HBn; obtain ⟨k0, k1⟩ := two_cells HP.out HBc.out)) | (go_at_call 36; ((with_reducible refine (CK.out _).mono ?_); rintro x' w3 ⟨rfl, rfl⟩)) | (go_at_call 36; ((with_reducible refine (CR.out _).mono ?_); rintro x' w3 ⟨rfl, rfl⟩)) | (go_at_call 36; ((with_reducible refine (CT.out _).mono ?_); rintro x' w3 ⟨rfl, rfl⟩)) | ((refine st_pat (by rfl) (.tmp 10) _ rfl rfl rfl (HR.out.kept HBc.out).2 ?_); intro w9 h9 g9; have H9 := Lib.hid h9; have G9 := Lib.hid g9; clear h9 g9))
          have e1 := HBE.out
          have e2 := HS.out
          have e3 := HBc.out.size
          exact bodyPost_ret (res_pe rfl rfl H9.out.1 rfl) rfl ⟨⟨none, 0, rfl, Nat.le_refl _, .inl rfl⟩, grown_at (stepB HB.out HBc.out) (by omega) (by omega) G9.out⟩
        | true =>
          have CT := Lib.hid (fun u => r_inside_v h4 u)
          by_cases n5 : t ≤ f
          · have d5 : decide (t ≤ f) = true := decide_eq_true n5
            have e1 : e = 5 := by rw [← he]; unfold Pt.eInt Pt.ePlace; rw [h1, h2, h3]; show (if f < t ∧ t < r then (0 : Int) else 5) = 5; exact if_neg (by omega)
            subst e1
            clear he h0 hd hp hr hB hs h1 h2 h3 h4
            go_enter Tryz.func26, Tryz.ntmps26
            go_upto_region 1 with fail
            rw [← hW, ← hb]
            clear hW hb
            go_wp2_with (first | (refine ld_pat (by rfl) (.tmp 5) rfl rfl (HP.out.kept HBc.out).1 ?_) | (go_at_call 10; ((with_reducible refine (CV.out _ HBc.out).mono ?_); rintro x' w1 ⟨rfl, hb1⟩; have HBn := Lib.hid (stepB HBc.out hb1); clear HBc k0 k1 hb1; have HBc := HBn; clear HBn; obtain ⟨k0, k1⟩ := two_cells HP.out HBc.out)) | (go_at_call 36; ((with_reducible refine (CK.out _).mono ?_); rintro x' w3 ⟨rfl, rfl⟩)) | (go_at_call 36; ((with_reducible refine (CR.out _).mono ?_); rintro x' w3 ⟨rfl, rfl⟩)) | (go_at_call 36; ((with_reducible refine (CT.out _).mono ?_); rintro x' w3 ⟨rfl, rfl⟩)) | ((refine st_pat (by rfl) (.tmp 10) _ rfl rfl rfl (HR.out.kept HBc.out).2 ?_); intro w9 h9 g9; have H9 := Lib.hid h9; have G9 := Lib.hid g9; clear h9 g9))
            have e1 := HBE.out
            have e2 := HS.out
            have e3 := HBc.out.size
            exact bodyPost_ret (res_pe rfl rfl H9.out.1 rfl) rfl ⟨⟨none, 0, rfl, Nat.le_refl _, .inl rfl⟩, grown_at (stepB HB.out HBc.out) (by omega) (by omega) G9.out⟩
          · have d5 : decide (t ≤ f) = false := decide_eq_false n5
            exact absurd (show e = 0 by rw [← he]; unfold Pt.eInt Pt.ePlace; rw [h1, h2, h3]; show (if f < t ∧ t < r then (0 : Int) else 5) = 0; exact if_pos (by have := plt h4; omega)) h0
set_option maxRecDepth 100000 in
set_option maxHeartbeats 6400000 in
theorem r_Join_bad (r : Int) (l : List Pt.Cl) (p : Option Addr) (cap : Nat) (br : Int) (bl : List Pt.Cl) (bp : Option Addr) (bc : Nat) (ch : Int) (w : World) (hd : CellsAt w p l) (hd2 : CellsAt w bp bl) {e : Int} (he : Pt.eJoin r l br bl ch = e) (h0 : e ≠ 0) :
    Calls Tryz.prog 28 #[PV r p l.length cap, PV br bp bl.length bc, .int .i64 ch] w fun x w' => RetPE 0 [] e w.heap.size x w' ∧ Below w.heap.size w w' := by
  obtain ⟨W, hW, hB, hs, hp, ha, hr⟩ := pats_new w r (.slice p l.length cap) br (.slice bp bl.length bc)
  have HB := Lib.hid hB
  have HP := Lib.hid hp
  have HR := Lib.hid hr
  have HS := Lib.hid hs
  have CV := Lib.hid (fun u (hu : Below W.heap.size W u) => r_Valid r l p cap ch u ((hd.below hB).below hu))
  have CW := Lib.hid (fun u (hu : Below W.heap.size W u) => r_Valid br bl bp bc ch u ((hd2.below hB).below hu))
  obtain ⟨b, hb⟩ : ∃ b, b = w.heap.size := ⟨_, rfl⟩
  have HA := Lib.hid ha
  rw [← hb] at HP HR HS HA hp ha
  have HBE := Lib.hid hb
  have HBc := Lib.hid (Below.refl W.heap.size W)
  unfold PV at CV CW ⊢
  obtain ⟨k0, k1, q0, q1⟩ := four hp ha (Below.refl _ W)
  cases h1 : Pt.vpat r l ch with
  | false =>
    rw [h1] at CV
    have e1 : e = 1 := by rw [← he]; unfold Pt.eJoin; simp [h1]
    subst e1
    clear he h0 hd hd2 hp ha hr hB hs h1
    go_enter Tryz.func28, Tryz.ntmps28
    go_upto_region 1 with fail
    rw [← hW, ← hb]
    clear hW hb
    go_wp2_with (first | (refine ld_pat (by rfl) (.tmp 3) rfl rfl (HP.out.kept HBc.out).1 ?_) | (refine ld_pat (by rfl) (.tmp 4) rfl rfl (HA.out.kept HBc.out).1 ?_) | (go_at_call 10; ((with_reducible refine (CV.out _ HBc.out).mono ?_); rintro x' w1 ⟨rfl, hb1⟩; have HBn := Lib.hid (stepB HBc.out hb1); clear HBc k0 k1 q0 q1 hb1; have HBc := HBn; clear HBn; obtain ⟨k0, k1, q0, q1⟩ := four HP.out HA.out HBc.out)) | ((refine st_pat (by rfl) (.tmp 6) _ rfl rfl rfl (HR.out.kept HBc.out).2 ?_); intro w9 h9 g9; have H9 := Lib.hid h9; have G9 := Lib.hid g9; clear h9 g9))
    have e1 := HBE.out
    have e2 := HS.out
    have e3 := HBc.out.size
    exact bodyPost_ret (res_pe rfl rfl H9.out.1 rfl) rfl ⟨⟨none, 0, rfl, Nat.le_refl _, .inl rfl⟩, grown_at (stepB HB.out HBc.out) (by omega) (by omega) G9.out⟩
  | true =>
    rw [h1] at CV
    cases h2 : Pt.vpat br bl ch with
    | false =>
      rw [h2] at CW
      have e1 : e = 1 := by rw [← he]; unfold Pt.eJoin; simp [h1, h2]
      subst e1
      clear he h0 hd hd2 hp ha hr hB hs h1 h2
      go_enter Tryz.func28, Tryz.ntmps28
      go_upto_region 1 with fail
      rw [← hW, ← hb]
      clear hW hb
      go_wp2_with (first | (refine ld_pat (by rfl) (.tmp 3) rfl rfl (HP.out.kept HBc.out).1 ?_) | (refine ld_pat (by rfl) (.tmp 4) rfl rfl (HA.out.kept HBc.out).1 ?_) | (go_at_call 10; ((with_reducible refine (CV.out _ HBc.out).mono ?_); rintro x' w1 ⟨rfl, hb1⟩; have HBn := Lib.hid (stepB HBc.out hb1); clear HBc k0 k1 q0 q1 hb1; have HBc := HBn; clear HBn; obtain ⟨k0, k1, q0, q1⟩ := four HP.out HA.out HBc.out)) | (go_at_call 10; ((with_reducible refine (CW.out _ HBc.out).mono ?_); rintro x' w1 ⟨rfl, hb1⟩; have HBn := Lib.hid (stepB HBc.out hb1); clear HBc k0 k1 q0 q1 hb1; have HBc := HBn; clear HBn; obtain ⟨k0, k1, q0, q1⟩ := four HP.out HA.out HBc.out)) | ((refine st_pat (by rfl) (.tmp 6) _ rfl rfl rfl (HR.out.kept HBc.out).2 ?_); intro w9 h9 g9; have H9 := Lib.hid h9; have G9 := Lib.hid g9; clear h9 g9))
      have e1 := HBE.out
      have e2 := HS.out
      have e3 := HBc.out.size
      exact bodyPost_ret (res_pe rfl rfl H9.out.1 rfl) rfl ⟨⟨none, 0, rfl, Nat.le_refl _, .inl rfl⟩, grown_at (stepB HB.out HBc.out) (by omega) (by omega) G9.out⟩
    | true =>
      rw [h2] at CW
      obtain ⟨-, ⟨x1, x2⟩, -, -⟩ := Pt.vpat_iff.1 h1
      obtain ⟨-, ⟨x3, x4⟩, -, -⟩ := Pt.vpat_iff.1 h2
      by_cases n3 : 64 < r + br
      · have d3 : decide (64 < r + br) = true := decide_eq_true n3
        have e1 : e = 4 := by rw [← he]; unfold Pt.eJoin; rw [h1, h2]; show (if r + br ≤ 64 then (0 : Int) else 4) = 4; exact if_neg (by omega)
        subst e1
        clear he h0 hd hd2 hp ha hr hB hs h1 h2
        go_enter Tryz.func28, Tryz.ntmps28
        go_upto_region 1 with fail
        rw [← hW, ← hb]
        clear hW hb
        go_wp2_with (first | (refine ld_pat (by rfl) (.tmp 3) rfl rfl (HP.out.kept HBc.out).1 ?_) | (refine ld_pat (by rfl) (.tmp 4) rfl rfl (HA.out.kept HBc.out).1 ?_) | (go_at_call 10; ((with_reducible refine (CV.out _ HBc.out).mono ?_); rintro x' w1 ⟨rfl, hb1⟩; have HBn := Lib.hid (stepB HBc.out hb1); clear HBc k0 k1 q0 q1 hb1; have HBc := HBn; clear HBn; obtain ⟨k0, k1, q0, q1⟩ := four HP.out HA.out HBc.out)) | (go_at_call 10; ((with_reducible refine (CW.out _ HBc.out).mono ?_); rintro x' w1 ⟨rfl, hb1⟩; have HBn := Lib.hid (stepB HBc.out hb1); clear HBc k0 k1 q0 q1 hb1; have HBc := HBn; clear HBn; obtain ⟨k0, k1, q0, q1⟩ := four HP.out HA.out HBc.out)) | ((refine st_pat (by rfl) (.tmp 6) _ rfl rfl rfl (HR.out.kept HBc.out).2 ?_); intro w9 h9 g9; have H9 := Lib.hid h9; have G9 := Lib.hid g9; clear h9 g9))
        have e1 := HBE.out
        have e2 := HS.out
        have e3 := HBc.out.size
        exact bodyPost_ret (res_pe rfl rfl H9.out.1 rfl) rfl ⟨⟨none, 0, rfl, Nat.le_refl _, .inl rfl⟩, grown_at (stepB HB.out HBc.out) (by omega) (by omega) G9.out⟩
      · have d3 : decide (64 < r + br) = false := decide_eq_false n3
        exact absurd (show e = 0 by rw [← he]; unfold Pt.eJoin; rw [h1, h2]; show (if r + br ≤ 64 then (0 : Int) else 4) = 0; exact if_pos (by omega)) h0
end Go.Proofs.YtfjfnbeegojlbaaGreat

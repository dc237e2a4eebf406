/-
  The reference's Set, Copy and Transpose where they refuse. The reference's Set. The reference's Copy.
-/
import Derived.Test.YtfjfnbeegojlbaaGreatGc
import Derived.BigRegion
namespace Go.Proofs.YtfjfnbeegojlbaaGreat
open Go.RowKit

theorem three_newr (w : World) (r : Int) (v : Value) (a : Pt.Ar) : ∃ W, W = ((w.alloc (.cells #[.int .i64 r, v] 24)).alloc (.cells #[.int .i64 a.r, .int .i64 a.c, .int .i64 a.h, .int .i64 a.w] 38)).alloc (.cells #[.int .i64 0, .slice none 0 0] 24) ∧
    Below w.heap.size w W ∧ W.heap.size = w.heap.size + 3 ∧ Pb W w.heap.size r v ∧ W.rangeAt (w.heap.size + 1) 0 [.int .i64 a.r, .int .i64 a.c, .int .i64 a.h, .int .i64 a.w] ∧ Pb W (w.heap.size + 2) 0 (.slice none 0 0) := by
  refine ⟨_, rfl, stepB (stepB (below_box _ _) (below_box _ _)) (below_box _ _), by simp, ((pb_box w r v _).kept (below_box _ _)).kept (below_box _ _), ?_, ?_⟩
  · have := range_box (w.alloc (.cells #[.int .i64 r, v] 24)) [.int .i64 a.r, .int .i64 a.c, .int .i64 a.h, .int .i64 a.w] 38
    refine range_below ?_ (below_box _ _) (show w.heap.size + 1 < _ by simp)
    simpa using this
  · have := pb_box ((w.alloc (.cells #[.int .i64 r, v] 24)).alloc (.cells #[.int .i64 a.r, .int .i64 a.c, .int .i64 a.h, .int .i64 a.w] 38)) 0 (.slice none 0 0) 24
    simpa using this
theorem r_lies_v {r ch : Int} {l : List Pt.Cl} {vv : Value} {a : Pt.Ar} {v : Bool} (hv : Pt.vpat r l ch = true) (h : Pt.awi a r ch = v) (w : World) :
    Calls Tryz.prog 50 #[.agg #[.int .i64 r, vv], .int .i64 ch, AV a] w fun x w' => x = .returned (.bool v) ∧ Below w.heap.size w w' := by
  obtain ⟨R, C, rfl, rfl, x1, x2, x3, x4, -, -⟩ := Pt.vpat_nat hv
  exact h ▸ r_lies R C vv a w x1 x2 x3 x4
set_option maxRecDepth 100000 in
set_option maxHeartbeats 6400000 in
theorem r_Set_bad (r : Int) (l : List Pt.Cl) (p : Option Addr) (cap : Nat) (ch row c : Int) (d : Pt.Cl) (w : World) (hd : CellsAt w p l) {e : Int} (he : Pt.eSet r l ch row c d = e) (h0 : e ≠ 0) :
    Calls Tryz.prog 14 #[PV r p l.length cap, .int .i64 ch, .int .i64 row, .int .i64 c, .agg (CL d).toArray] w fun x w' => RetPE 0 [] e w.heap.size x w' ∧ Below w.heap.size w w' := by
  obtain ⟨W, hW, hB, hs, hp, ha, hr⟩ := set_new w r (.slice p l.length cap) d
  have HB := Lib.hid hB
  have HP := Lib.hid hp
  have HR := Lib.hid hr
  have HS := Lib.hid hs
  have CV := Lib.hid (fun u (hu : Below W.heap.size W u) => r_Valid r l p cap ch u ((hd.below hB).below hu))
  have CC := Lib.hid (fun u => r_ValidCell d u)
  obtain ⟨b, hb⟩ : ∃ b, b = w.heap.size := ⟨_, rfl⟩
  have HA := Lib.hid ha
  rw [← hb] at HP HR HS HA hp ha
  have HBE := Lib.hid hb
  have HBc := Lib.hid (Below.refl W.heap.size W)
  unfold PV at CV ⊢
  obtain ⟨k0, k1⟩ := two_cells hp (Below.refl _ W)
  obtain ⟨g0, g1, g2, g3, g4, g5⟩ := rng_cells ha
  simp only [Nat.zero_add] at g1 g2 g3 g4 g5
  rw [cl_arr] at hW ⊢
  cases h1 : Pt.vpat r l ch with
  | false =>
    rw [h1] at CV
    have e1 : e = 1 := by rw [← he]; unfold Pt.eSet Pt.ePlace; cases Pt.vcl d <;> simp [h1]
    subst e1
    clear he h0 hd hp ha hr hB hs h1
    go_enter Tryz.func14, Tryz.ntmps14
    go_upto_region 1 with fail
    rw [← hW, ← hb]
    clear hW hb
    go_wp2_with (first | (refine ld_pat (by rfl) (.tmp 5) rfl rfl (HP.out.kept HBc.out).1 ?_) | (refine ld_cell (by rfl) (.tmp 9) rfl rfl (range_below HA.out HBc.out (by have := HS.out; omega)) ?_) | (go_at_call 10; ((with_reducible refine (CV.out _ HBc.out).mono ?_); rintro x' w1 ⟨rfl, hb1⟩; have HBn := Lib.hid (stepB HBc.out hb1); clear HBc k0 k1 g0 g1 g2 g3 g4 g5 hb1; have HBc := HBn; clear HBn; obtain ⟨k0, k1⟩ := two_cells HP.out HBc.out; obtain ⟨g0, g1, g2, g3, g4, g5⟩ := rng_cells (range_below HA.out HBc.out (by have := HS.out; omega)); simp only [Nat.zero_add] at g1 g2 g3 g4 g5)) | ((refine st_pat (by rfl) (.tmp 10) _ rfl rfl rfl (HR.out.kept HBc.out).2 ?_); intro w9 h9 g9; have H9 := Lib.hid h9; have G9 := Lib.hid g9; clear h9 g9))
    have e1 := HBE.out
    have e2 := HS.out
    have e3 := HBc.out.size
    exact bodyPost_ret (res_pe rfl rfl H9.out.1 rfl) rfl ⟨⟨none, 0, rfl, Nat.le_refl _, .inl rfl⟩, grown_at (stepB HB.out HBc.out) (by omega) (by omega) G9.out⟩
  | true =>
    rw [h1] at CV
    cases h2 : Pt.vcl d with
    | false =>
      rw [h2] at CC
      have e1 : e = 1 := by rw [← he]; unfold Pt.eSet Pt.ePlace; simp [h2]
      subst e1
      clear he h0 hd hp ha hr hB hs h1 h2
      go_enter Tryz.func14, Tryz.ntmps14
      go_upto_region 1 with fail
      rw [← hW, ← hb]
      clear hW hb
      go_wp2_with (first | (refine ld_pat (by rfl) (.tmp 5) rfl rfl (HP.out.kept HBc.out).1 ?_) | (refine ld_cell (by rfl) (.tmp 9) rfl rfl (range_below HA.out HBc.out (by have := HS.out; omega)) ?_) | (go_at_call 10; ((with_reducible refine (CV.out _ HBc.out).mono ?_); rintro x' w1 ⟨rfl, hb1⟩; have HBn := Lib.hid (stepB HBc.out hb1); clear HBc k0 k1 g0 g1 g2 g3 g4 g5 hb1; have HBc := HBn; clear HBn; obtain ⟨k0, k1⟩ := two_cells HP.out HBc.out; obtain ⟨g0, g1, g2, g3, g4, g5⟩ := rng_cells (range_below HA.out HBc.out (by have := HS.out; omega)); simp only [Nat.zero_add] at g1 g2 g3 g4 g5)) | (go_at_call 43; ((with_reducible refine (CC.out _).mono ?_); rintro x' w1 ⟨rfl, hb1⟩; have HBn := Lib.hid (stepB HBc.out hb1); clear HBc k0 k1 g0 g1 g2 g3 g4 g5 hb1; have HBc := HBn; clear HBn; obtain ⟨k0, k1⟩ := two_cells HP.out HBc.out; obtain ⟨g0, g1, g2, g3, g4, g5⟩ := rng_cells (range_below HA.out HBc.out (by have := HS.out; omega)); simp only [Nat.zero_add] at g1 g2 g3 g4 g5)) | ((refine st_pat (by rfl) (.tmp 10) _ rfl rfl rfl (HR.out.kept HBc.out).2 ?_); intro w9 h9 g9; have H9 := Lib.hid h9; have G9 := Lib.hid g9; clear h9 g9))
      have e1 := HBE.out
      have e2 := HS.out
      have e3 := HBc.out.size
      exact bodyPost_ret (res_pe rfl rfl H9.out.1 rfl) rfl ⟨⟨none, 0, rfl, Nat.le_refl _, .inl rfl⟩, grown_at (stepB HB.out HBc.out) (by omega) (by omega) G9.out⟩
    | true =>
      rw [h2] at CC
      cases h3 : Pt.plc row r with
      | false =>
        have CR := Lib.hid (fun u => r_inside_v h3 u)
        have e1 : e = 5 := by rw [← he]; unfold Pt.eSet Pt.ePlace; simp [h1, h2, h3]
        subst e1
        clear he h0 hd hp ha hr hB hs h1 h2 h3
        go_enter Tryz.func14, Tryz.ntmps14
        go_upto_region 1 with fail
        rw [← hW, ← hb]
        clear hW hb
        go_wp2_with (first | (refine ld_pat (by rfl) (.tmp 5) rfl rfl (HP.out.kept HBc.out).1 ?_) | (refine ld_cell (by rfl) (.tmp 9) rfl rfl (range_below HA.out HBc.out (by have := HS.out; omega)) ?_) | (go_at_call 10; ((with_reducible refine (CV.out _ HBc.out).mono ?_); rintro x' w1 ⟨rfl, hb1⟩; have HBn := Lib.hid (stepB HBc.out hb1); clear HBc k0 k1 g0 g1 g2 g3 g4 g5 hb1; have HBc := HBn; clear HBn; obtain ⟨k0, k1⟩ := two_cells HP.out HBc.out; obtain ⟨g0, g1, g2, g3, g4, g5⟩ := rng_cells (range_below HA.out HBc.out (by have := HS.out; omega)); simp only [Nat.zero_add] at g1 g2 g3 g4 g5)) | (go_at_call 43; ((with_reducible refine (CC.out _).mono ?_); rintro x' w1 ⟨rfl, hb1⟩; have HBn := Lib.hid (stepB HBc.out hb1); clear HBc k0 k1 g0 g1 g2 g3 g4 g5 hb1; have HBc := HBn; clear HBn; obtain ⟨k0, k1⟩ := two_cells HP.out HBc.out; obtain ⟨g0, g1, g2, g3, g4, g5⟩ := rng_cells (range_below HA.out HBc.out (by have := HS.out; omega)); simp only [Nat.zero_add] at g1 g2 g3 g4 g5)) | (go_at_call 36; ((with_reducible refine (CR.out _).mono ?_); rintro x' w3 ⟨rfl, rfl⟩)) | ((refine st_pat (by rfl) (.tmp 10) _ rfl rfl rfl (HR.out.kept HBc.out).2 ?_); intro w9 h9 g9; have H9 := Lib.hid h9; have G9 := Lib.hid g9; clear h9 g9))
        have e1 := HBE.out
        have e2 := HS.out
        have e3 := HBc.out.size
        exact bodyPost_ret (res_pe rfl rfl H9.out.1 rfl) rfl ⟨⟨none, 0, rfl, Nat.le_refl _, .inl rfl⟩, grown_at (stepB HB.out HBc.out) (by omega) (by omega) G9.out⟩
      | true =>
        have CR := Lib.hid (fun u => r_inside_v h3 u)
        cases h4 : Pt.plc c ch with
        | false =>
          have CK := Lib.hid (fun u => r_inside_v h4 u)
          have e1 : e = 5 := by rw [← he]; unfold Pt.eSet Pt.ePlace; simp [h1, h2, h3, h4]
          subst e1
          clear he h0 hd hp ha hr hB hs h1 h2 h3 h4
          go_enter Tryz.func14, Tryz.ntmps14
          go_upto_region 1 with fail
          rw [← hW, ← hb]
          clear hW hb
          go_wp2_with (first | (refine ld_pat (by rfl) (.tmp 5) rfl rfl (HP.out.kept HBc.out).1 ?_) | (refine ld_cell (by rfl) (.tmp 9) rfl rfl (range_below HA.out HBc.out (by have := HS.out; omega)) ?_) | (go_at_call 10; ((with_reducible refine (CV.out _ HBc.out).mono ?_); rintro x' w1 ⟨rfl, hb1⟩; have HBn := Lib.hid (stepB HBc.out hb1); clear HBc k0 k1 g0 g1 g2 g3 g4 g5 hb1; have HBc := HBn; clear HBn; obtain ⟨k0, k1⟩ := two_cells HP.out HBc.out; obtain ⟨g0, g1, g2, g3, g4, g5⟩ := rng_cells (range_below HA.out HBc.out (by have := HS.out; omega)); simp only [Nat.zero_add] at g1 g2 g3 g4 g5)) | (go_at_call 43; ((with_reducible refine (CC.out _).mono ?_); rintro x' w1 ⟨rfl, hb1⟩; have HBn := Lib.hid (stepB HBc.out hb1); clear HBc k0 k1 g0 g1 g2 g3 g4 g5 hb1; have HBc := HBn; clear HBn; obtain ⟨k0, k1⟩ := two_cells HP.out HBc.out; obtain ⟨g0, g1, g2, g3, g4, g5⟩ := rng_cells (range_below HA.out HBc.out (by have := HS.out; omega)); simp only [Nat.zero_add] at g1 g2 g3 g4 g5)) | (go_at_call 36; ((with_reducible refine (CR.out _).mono ?_); rintro x' w3 ⟨rfl, rfl⟩)) | (go_at_call 36; ((with_reducible refine (CK.out _).mono ?_); rintro x' w3 ⟨rfl, rfl⟩)) | ((refine st_pat (by rfl) (.tmp 10) _ rfl rfl rfl (HR.out.kept HBc.out).2 ?_); intro w9 h9 g9; have H9 := Lib.hid h9; have G9 := Lib.hid g9; clear h9 g9))
          have e1 := HBE.out
          have e2 := HS.out
          have e3 := HBc.out.size
          exact bodyPost_ret (res_pe rfl rfl H9.out.1 rfl) rfl ⟨⟨none, 0, rfl, Nat.le_refl _, .inl rfl⟩, grown_at (stepB HB.out HBc.out) (by omega) (by omega) G9.out⟩
        | true =>
          have CK := Lib.hid (fun u => r_inside_v h4 u)
          exact absurd (show e = 0 by rw [← he]; unfold Pt.eSet Pt.ePlace; simp [h1, h2, h3, h4]) h0
set_option maxRecDepth 100000 in
set_option maxHeartbeats 6400000 in
theorem r_Copy_bad (r : Int) (l : List Pt.Cl) (p : Option Addr) (cap : Nat) (ch : Int) (a : Pt.Ar) (w : World) (hd : CellsAt w p l) {e : Int} (he : Pt.eArea r l ch a = e) (h0 : e ≠ 0) :
    Calls Tryz.prog 16 #[PV r p l.length cap, .int .i64 ch, AV a] w fun x w' => RetPE 0 [] e w.heap.size x w' ∧ Below w.heap.size w w' := by
  obtain ⟨W, hW, hB, hs, hp, ha, hr⟩ := three_newr w r (.slice p l.length cap) a
  have HB := Lib.hid hB
  have HP := Lib.hid hp
  have HR := Lib.hid hr
  have HS := Lib.hid hs
  have CV := Lib.hid (fun u (hu : Below W.heap.size W u) => r_Valid r l p cap ch u ((hd.below hB).below hu))
  obtain ⟨b, hb⟩ : ∃ b, b = w.heap.size := ⟨_, rfl⟩
  have HA := Lib.hid ha
  rw [← hb] at HP HR HS HA hp ha
  have HBE := Lib.hid hb
  have HBc := Lib.hid (Below.refl W.heap.size W)
  unfold PV at CV ⊢
  obtain ⟨k0, k1, a0, a1, a2, a3⟩ := six hp ha (Below.refl _ W)
  have HAV := Lib.hid (show AV a = .agg #[.int .i64 a.r, .int .i64 a.c, .int .i64 a.h, .int .i64 a.w] from rfl)
  cases h1 : Pt.vpat r l ch with
  | false =>
    rw [h1] at CV
    unfold AV
    have e1 : e = 1 := by rw [← he]; unfold Pt.eArea; simp [h1]
    subst e1
    clear he h0 hd hp ha hr hB hs h1
    go_enter Tryz.func16, Tryz.ntmps16
    go_upto_region 1 with fail
    rw [← hW, ← hb]
    clear hW hb
    go_wp2_with (first | (refine ld_pat (by rfl) (.tmp 3) rfl rfl (HP.out.kept HBc.out).1 ?_) | (go_at_call 10; ((with_reducible refine (CV.out _ HBc.out).mono ?_); rintro x' w1 ⟨rfl, hb1⟩; have HBn := Lib.hid (stepB HBc.out hb1); clear HBc k0 k1 a0 a1 a2 a3 hb1; have HBc := HBn; clear HBn; obtain ⟨k0, k1, a0, a1, a2, a3⟩ := six HP.out HA.out HBc.out)) | ((refine st_pat (by rfl) (.tmp 6) _ rfl rfl rfl (HR.out.kept HBc.out).2 ?_); intro w9 h9 g9; have H9 := Lib.hid h9; have G9 := Lib.hid g9; clear h9 g9))
    have e1 := HBE.out
    have e2 := HS.out
    have e3 := HBc.out.size
    exact bodyPost_ret (res_pe rfl rfl H9.out.1 rfl) rfl ⟨⟨none, 0, rfl, Nat.le_refl _, .inl rfl⟩, grown_at (stepB HB.out HBc.out) (by omega) (by omega) G9.out⟩
  | true =>
    rw [h1] at CV
    cases h2 : Pt.awi a r ch with
    | false =>
      obtain ⟨RR, CC0, er, ec, x1, x2, x3, x4, -, -⟩ := Pt.vpat_nat h1
      have CL1 := Lib.hid (fun u => r_lies_v (vv := .slice p l.length cap) h1 h2 u)
      unfold AV at CL1 ⊢
      clear er ec x1 x2 x3 x4
      have e1 : e = 5 := by rw [← he]; unfold Pt.eArea; simp [h1, h2]
      subst e1
      clear he h0 hd hp ha hr hB hs h1 h2
      go_enter Tryz.func16, Tryz.ntmps16
      go_upto_region 1 with fail
      rw [← hW, ← hb]
      clear hW hb
      go_wp2_with (first | (refine ld_pat (by rfl) (.tmp 3) rfl rfl (HP.out.kept HBc.out).1 ?_) | (go_at_call 10; ((with_reducible refine (CV.out _ HBc.out).mono ?_); rintro x' w1 ⟨rfl, hb1⟩; have HBn := Lib.hid (stepB HBc.out hb1); clear HBc k0 k1 a0 a1 a2 a3 hb1; have HBc := HBn; clear HBn; obtain ⟨k0, k1, a0, a1, a2, a3⟩ := six HP.out HA.out HBc.out)) | (go_at_call 50; ((with_reducible refine (CL1.out _).mono ?_); rintro x' w1 ⟨rfl, hb1⟩; have HBn := Lib.hid (stepB HBc.out hb1); clear HBc k0 k1 a0 a1 a2 a3 hb1; have HBc := HBn; clear HBn; obtain ⟨k0, k1, a0, a1, a2, a3⟩ := six HP.out HA.out HBc.out)) | ((refine st_pat (by rfl) (.tmp 6) _ rfl rfl rfl (HR.out.kept HBc.out).2 ?_); intro w9 h9 g9; have H9 := Lib.hid h9; have G9 := Lib.hid g9; clear h9 g9))
      have e1 := HBE.out
      have e2 := HS.out
      have e3 := HBc.out.size
      exact bodyPost_ret (res_pe rfl rfl H9.out.1 rfl) rfl ⟨⟨none, 0, rfl, Nat.le_refl _, .inl rfl⟩, grown_at (stepB HB.out HBc.out) (by omega) (by omega) G9.out⟩
    | true =>
      have CL1 := Lib.hid (fun u => r_lies_v (vv := .slice p l.length cap) h1 h2 u)
      unfold AV at CL1 ⊢
      exact absurd (show e = 0 by rw [← he]; unfold Pt.eArea; simp [h1, h2]) h0
set_option maxRecDepth 100000 in
set_option maxHeartbeats 6400000 in
theorem r_Transpose_bad (r : Int) (l : List Pt.Cl) (p : Option Addr) (cap : Nat) (ch : Int) (a : Pt.Ar) (s : Int) (w : World) (hd : CellsAt w p l) {e : Int} (he : Pt.eTran r l ch a s = e) (h0 : e ≠ 0) :
    Calls Tryz.prog 20 #[PV r p l.length cap, .int .i64 ch, AV a, .int .i64 s] w fun x w' => RetPE 0 [] e w.heap.size x w' ∧ Below w.heap.size w w' := by
  obtain ⟨W, hW, hB, hs, hp, ha, hr⟩ := three_newr w r (.slice p l.length cap) a
  have HB := Lib.hid hB
  have HP := Lib.hid hp
  have HR := Lib.hid hr
  have HS := Lib.hid hs
  have CV := Lib.hid (fun u (hu : Below W.heap.size W u) => r_Valid r l p cap ch u ((hd.below hB).below hu))
  obtain ⟨b, hb⟩ : ∃ b, b = w.heap.size := ⟨_, rfl⟩
  have HA := Lib.hid ha
  rw [← hb] at HP HR HS HA hp ha
  have HBE := Lib.hid hb
  have HBc := Lib.hid (Below.refl W.heap.size W)
  unfold PV at CV ⊢
  obtain ⟨k0, k1, a0, a1, a2, a3⟩ := six hp ha (Below.refl _ W)
  have HAV := Lib.hid (show AV a = .agg #[.int .i64 a.r, .int .i64 a.c, .int .i64 a.h, .int .i64 a.w] from rfl)
  cases h1 : Pt.vpat r l ch with
  | false =>
    rw [h1] at CV
    unfold AV
    have e1 : e = 1 := by rw [← he]; unfold Pt.eTran Pt.eArea; simp [h1]
    subst e1
    clear he h0 hd hp ha hr hB hs h1
    go_enter Tryz.func20, Tryz.ntmps20
    go_upto_region 1 with fail
    rw [← hW, ← hb]
    clear hW hb
    go_wp2_with (first | (refine ld_pat (by rfl) (.tmp 4) rfl rfl (HP.out.kept HBc.out).1 ?_) | (go_at_call 10; ((with_reducible refine (CV.out _ HBc.out).mono ?_); rintro x' w1 ⟨rfl, hb1⟩; have HBn := Lib.hid (stepB HBc.out hb1); clear HBc k0 k1 a0 a1 a2 a3 hb1; have HBc := HBn; clear HBn; obtain ⟨k0, k1, a0, a1, a2, a3⟩ := six HP.out HA.out HBc.out)) | ((refine st_pat (by rfl) (.tmp 8) _ rfl rfl rfl (HR.out.kept HBc.out).2 ?_); intro w9 h9 g9; have H9 := Lib.hid h9; have G9 := Lib.hid g9; clear h9 g9))
    have e1 := HBE.out
    have e2 := HS.out
    have e3 := HBc.out.size
    exact bodyPost_ret (res_pe rfl rfl H9.out.1 rfl) rfl ⟨⟨none, 0, rfl, Nat.le_refl _, .inl rfl⟩, grown_at (stepB HB.out HBc.out) (by omega) (by omega) G9.out⟩
  | true =>
    rw [h1] at CV
    cases h2 : Pt.awi a r ch with
    | false =>
      obtain ⟨RR, CC0, er, ec, x1, x2, x3, x4, -, -⟩ := Pt.vpat_nat h1
      have CL1 := Lib.hid (fun u => r_lies_v (vv := .slice p l.length cap) h1 h2 u)
      unfold AV at CL1 ⊢
      clear er ec x1 x2 x3 x4
      have e1 : e = 5 := by rw [← he]; unfold Pt.eTran Pt.eArea; simp [h1, h2]
      subst e1
      clear he h0 hd hp ha hr hB hs h1 h2
      go_enter Tryz.func20, Tryz.ntmps20
      go_upto_region 1 with fail
      rw [← hW, ← hb]
      clear hW hb
      go_wp2_with (first | (refine ld_pat (by rfl) (.tmp 4) rfl rfl (HP.out.kept HBc.out).1 ?_) | (go_at_call 10; ((with_reducible refine (CV.out _ HBc.out).mono ?_); rintro x' w1 ⟨rfl, hb1⟩; have HBn := Lib.hid (stepB HBc.out hb1); clear HBc k0 k1 a0 a1 a2 a3 hb1; have HBc := HBn; clear HBn; obtain ⟨k0, k1, a0, a1, a2, a3⟩ := six HP.out HA.out HBc.out)) | (go_at_call 50; ((with_reducible refine (CL1.out _).mono ?_); rintro x' w1 ⟨rfl, hb1⟩; have HBn := Lib.hid (stepB HBc.out hb1); clear HBc k0 k1 a0 a1 a2 a3 hb1; have HBc := HBn; clear HBn; obtain ⟨k0, k1, a0, a1, a2, a3⟩ := six HP.out HA.out HBc.out)) | ((refine st_pat (by rfl) (.tmp 8) _ rfl rfl rfl (HR.out.kept HBc.out).2 ?_); intro w9 h9 g9; have H9 := Lib.hid h9; have G9 := Lib.hid g9; clear h9 g9))
      have e1 := HBE.out
      have e2 := HS.out
      have e3 := HBc.out.size
      exact bodyPost_ret (res_pe rfl rfl H9.out.1 rfl) rfl ⟨⟨none, 0, rfl, Nat.le_refl _, .inl rfl⟩, grown_at (stepB HB.out HBc.out) (by omega) (by omega) G9.out⟩
    | true =>
      have CL1 := Lib.hid (fun u => r_lies_v (vv := .slice p l.length cap) h1 h2 u)
      unfold AV at CL1 ⊢
      by_cases n3 : s < -119
      · have d3 : decide (s < -119) = true := decide_eq_true n3
        have e1 : e = 5 := by rw [← he]; unfold Pt.eTran Pt.eArea; rw [h1, h2]; show (if Pt.wth s (-119) 119 = true then (0 : Int) else 5) = 5; exact if_neg (fun h => by have := Pt.wth_iff.1 h; omega)
        subst e1
        clear he h0 hd hp ha hr hB hs h1 h2
        go_enter Tryz.func20, Tryz.ntmps20
        go_upto_region 1 with fail
        rw [← hW, ← hb]
        clear hW hb
        go_wp2_with (first | (refine ld_pat (by rfl) (.tmp 4) rfl rfl (HP.out.kept HBc.out).1 ?_) | (go_at_call 10; ((with_reducible refine (CV.out _ HBc.out).mono ?_); rintro x' w1 ⟨rfl, hb1⟩; have HBn := Lib.hid (stepB HBc.out hb1); clear HBc k0 k1 a0 a1 a2 a3 hb1; have HBc := HBn; clear HBn; obtain ⟨k0, k1, a0, a1, a2, a3⟩ := six HP.out HA.out HBc.out)) | (go_at_call 50; ((with_reducible refine (CL1.out _).mono ?_); rintro x' w1 ⟨rfl, hb1⟩; have HBn := Lib.hid (stepB HBc.out hb1); clear HBc k0 k1 a0 a1 a2 a3 hb1; have HBc := HBn; clear HBn; obtain ⟨k0, k1, a0, a1, a2, a3⟩ := six HP.out HA.out HBc.out)) | ((refine st_pat (by rfl) (.tmp 8) _ rfl rfl rfl (HR.out.kept HBc.out).2 ?_); intro w9 h9 g9; have H9 := Lib.hid h9; have G9 := Lib.hid g9; clear h9 g9))
        have e1 := HBE.out
        have e2 := HS.out
        have e3 := HBc.out.size
        exact bodyPost_ret (res_pe rfl rfl H9.out.1 rfl) rfl ⟨⟨none, 0, rfl, Nat.le_refl _, .inl rfl⟩, grown_at (stepB HB.out HBc.out) (by omega) (by omega) G9.out⟩
      · have d3 : decide (s < -119) = false := decide_eq_false n3
        by_cases n4 : 119 < s
        · have d4 : decide (119 < s) = true := decide_eq_true n4
          have e1 : e = 5 := by rw [← he]; unfold Pt.eTran Pt.eArea; rw [h1, h2]; show (if Pt.wth s (-119) 119 = true then (0 : Int) else 5) = 5; exact if_neg (fun h => by have := Pt.wth_iff.1 h; omega)
          subst e1
          clear he h0 hd hp ha hr hB hs h1 h2
          go_enter Tryz.func20, Tryz.ntmps20
          go_upto_region 1 with fail
          rw [← hW, ← hb]
          clear hW hb
          go_wp2_with (first | (refine ld_pat (by rfl) (.tmp 4) rfl rfl (HP.out.kept HBc.out).1 ?_) | (go_at_call 10; ((with_reducible refine (CV.out _ HBc.out).mono ?_); rintro x' w1 ⟨rfl, hb1⟩; have HBn := Lib.hid (stepB HBc.out hb1); clear HBc k0 k1 a0 a1 a2 a3 hb1; have HBc := HBn; clear HBn; obtain ⟨k0, k1, a0, a1, a2, a3⟩ := six HP.out HA.out HBc.out)) | (go_at_call 50; ((with_reducible refine (CL1.out _).mono ?_); rintro x' w1 ⟨rfl, hb1⟩; have HBn := Lib.hid (stepB HBc.out hb1); clear HBc k0 k1 a0 a1 a2 a3 hb1; have HBc := HBn; clear HBn; obtain ⟨k0, k1, a0, a1, a2, a3⟩ := six HP.out HA.out HBc.out)) | ((refine st_pat (by rfl) (.tmp 8) _ rfl rfl rfl (HR.out.kept HBc.out).2 ?_); intro w9 h9 g9; have H9 := Lib.hid h9; have G9 := Lib.hid g9; clear h9 g9))
          have e1 := HBE.out
          have e2 := HS.out
          have e3 := HBc.out.size
          exact bodyPost_ret (res_pe rfl rfl H9.out.1 rfl) rfl ⟨⟨none, 0, rfl, Nat.le_refl _, .inl rfl⟩, grown_at (stepB HB.out HBc.out) (by omega) (by omega) G9.out⟩
        · have d4 : decide (119 < s) = false := decide_eq_false n4
          exact absurd (show e = 0 by rw [← he]; unfold Pt.eTran Pt.eArea; rw [h1, h2]; show (if Pt.wth s (-119) 119 = true then (0 : Int) else 5) = 0; exact if_pos (Pt.wth_iff.2 (by omega))) h0

set_option maxRecDepth 100000 in
set_option maxHeartbeats 3200000 in
theorem r_Set_ok (R C y x : Nat) (l : List Pt.Cl) (p : Option Addr) (cap : Nat) (d : Pt.Cl) (w : World) (hd : CellsAt w p l) (h1 : Pt.vpat R l C = true) (h2 : Pt.vcl d = true) (g2 : R ≤ 64) (g4 : C ≤ 16) (hl : l.length = R * C) (hy : y < R) (hx : x < C) :
    Calls Tryz.prog 14 #[PV R p l.length cap, .int .i64 C, .int .i64 y, .int .i64 x, .agg (CL d).toArray] w fun e w' => RetPE R (l.set (y * C + x) d) 0 w.heap.size e w' ∧ Below w.heap.size w w' := by
  have hpos : 0 < l.length := by rw [hl]; exact Nat.mul_pos (by omega) (by omega)
  obtain ⟨M, hM⟩ : ∃ M, y * C = M := ⟨_, rfl⟩
  obtain ⟨F, hF⟩ : ∃ F, M + x = F := ⟨_, rfl⟩
  have hM' : (y : Int) * (C : Int) = (M : Int) := by rw [← hM, Int.natCast_mul]
  have hF' : (M : Int) + (x : Int) = (F : Int) := by omega
  have HLT := Lib.hid (show F < l.length by have := Pt.rc_in (R := R) (C := C) hy hx; rw [hl]; omega)
  rw [hM, hF]
  have m1 : (M : Int) ≤ 1024 := by have := Pt.rc_in (R := R) (C := C) hy hx; have := Pt.rc_bound g2 g4; omega
  clear hM hF
  obtain ⟨W, hW, hB, hs, hp, ha, hr⟩ := set_new w R (.slice p l.length cap) d
  have HB := Lib.hid hB
  have HP := Lib.hid hp
  have HR := Lib.hid hr
  have HS := Lib.hid hs
  have CV := Lib.hid (fun u (hu : Below W.heap.size W u) => r_Valid R l p cap C u ((hd.below hB).below hu))
  rw [h1] at CV
  have hn1 : l.length ≤ 1024 := by rw [hl]; exact Pt.rc_bound g2 g4
  have CC := Lib.hid (fun u => r_ValidCell d u)
  have CR := Lib.hid (fun u => r_inside_v (show Pt.plc (y : Int) (R : Int) = true from decide_eq_true (by omega)) u)
  have CK := Lib.hid (fun u => r_inside_v (show Pt.plc (x : Int) (C : Int) = true from decide_eq_true (by omega)) u)
  rw [h2] at CC
  have C3 := Lib.hid (fun u (hu : Below W.heap.size W u) => r_copied R l p cap u ((hd.below hB).below hu) hn1)
  obtain ⟨n, hnn⟩ : ∃ n, l.length = n := ⟨_, rfl⟩
  unfold RetO at C3
  simp only [hnn] at C3
  obtain ⟨b, hb⟩ : ∃ b, b = w.heap.size := ⟨_, rfl⟩
  rw [← hb] at hp ha HP HR HS
  have HA := Lib.hid ha
  have HBE := Lib.hid hb
  have HBc := Lib.hid (Below.refl W.heap.size W)
  unfold PV at CV C3 ⊢
  have HN := Lib.hid (show l.length = n ∧ l.length = R * C ∧ n ≤ 1024 ∧ R ≤ 64 ∧ C ≤ 16 ∧ 0 < n from ⟨hnn, hl, by rw [← hnn]; exact hn1, g2, g4, by rw [← hnn]; exact hpos⟩)
  rw [hnn] at hW HP CV hp ⊢
  obtain ⟨k0, k1⟩ := two_cells hp (Below.refl _ W)
  rw [cl_arr] at hW ⊢
  obtain ⟨g0, g1, g2c, g3, g4c, g5⟩ := rng_cells ha
  simp only [Nat.zero_add] at g1 g2c g3 g4c g5
  clear hd hB hs hp ha hr h1 hl hn1 hnn hpos g2 g4 h2 hy hx
  go_enter Tryz.func14, Tryz.ntmps14
  go_upto_region 1 with fail
  rw [← hW, ← hb]
  clear hW hb
  go_upto_region 6 with (first | (refine ld_pat (by rfl) (.tmp 5) rfl rfl (HP.out.kept HBc.out).1 ?_) | (refine ld_cell (by rfl) (.tmp 9) rfl rfl (range_below HA.out HBc.out (by have := HS.out; omega)) ?_) | (go_at_call 10; ((with_reducible refine (CV.out _ HBc.out).mono ?_); rintro x' w1 ⟨rfl, hb1⟩; have HBn := Lib.hid (stepB HBc.out hb1); clear HBc k0 k1 g0 g1 g2c g3 g4c g5 hb1; have HBc := HBn; clear HBn; obtain ⟨k0, k1⟩ := two_cells HP.out HBc.out; obtain ⟨g0, g1, g2c, g3, g4c, g5⟩ := rng_cells (range_below HA.out HBc.out (by have := HS.out; omega)); simp only [Nat.zero_add] at g1 g2c g3 g4c g5)) | (go_at_call 43; ((with_reducible refine (CC.out _).mono ?_); rintro x' w1 ⟨rfl, hb1⟩; have HBn := Lib.hid (stepB HBc.out hb1); clear HBc k0 k1 g0 g1 g2c g3 g4c g5 hb1; have HBc := HBn; clear HBn; obtain ⟨k0, k1⟩ := two_cells HP.out HBc.out; obtain ⟨g0, g1, g2c, g3, g4c, g5⟩ := rng_cells (range_below HA.out HBc.out (by have := HS.out; omega)); simp only [Nat.zero_add] at g1 g2c g3 g4c g5)) | (go_at_call 36; ((with_reducible refine (CR.out _).mono ?_); rintro x' w3 ⟨rfl, rfl⟩)) | (go_at_call 36; ((with_reducible refine (CK.out _).mono ?_); rintro x' w3 ⟨rfl, rfl⟩)) | (go_at_call 47; ((with_reducible refine (C3.out _ HBc.out).mono ?_); rintro x' w3 ⟨⟨q, cp, rfl, hcp, ho, hoc⟩, hb3⟩; have HO := Lib.hid ho; have HOC := Lib.hid hoc; have HCP := Lib.hid hcp; have HB2 := HBc; have HBn := Lib.hid (stepB HBc.out hb3); clear HBc k0 k1 g0 g1 g2c g3 g4c g5 hb3 ho hoc hcp; have HBc := HBn; clear HBn; have HPx := Lib.hid (HP.out.kept HBc.out))) | ((refine st_pat (by rfl) (.tmp 12) _ rfl rfl rfl (pb_box _ _ _ _).2 ?_); intro w4 h4 g4; have H4 := Lib.hid h4; have G4 := Lib.hid g4; clear h4 g4))
  obtain ⟨g, rfl, hg, hk⟩ := own_some HO.out (by rw [HN.out.1]; exact HN.out.2.2.2.2.2)
  obtain ⟨b9, hb9⟩ : ∃ b9, b9 = w3.heap.size := ⟨_, rfl⟩
  have HK4 := Lib.hid (show Kr w4 g l from (hk.kept (below_box _ _)).grown G4.out (by have := hk.1; omega))
  have HB4 := Lib.hid (show Below W.heap.size W w4 from grown_at (stepB HBc.out (below_box _ (.cells #[.int .i64 0, .slice none 0 0] 24))) HBc.out.size (by simp; exact Nat.le_succ_of_le HBc.out.size) G4.out)
  have HGE := Lib.hid (show W.heap.size ≤ g ∧ g < b9 ∧ b9 < w4.heap.size ∧ b + 3 = W.heap.size ∧ w.heap.size = b ∧ W.heap.size ≤ w4.heap.size from ⟨Nat.le_trans HB2.out.size hg, by rw [hb9]; exact hk.1, by rw [hb9]; exact H4.out.lt, HS.out.symm, HBE.out.symm, HB4.out.size⟩)
  rw [← hb9] at H4 ⊢
  clear hg hk hb9 HO HOC
  have HC4 := Lib.hid (range_below HA.out HB4.out (by have := HGE.out; omega))
  have HR4 := Lib.hid (HR.out.kept HB4.out)
  have m2 : (F : Int) < (n : Int) := by have := HLT.out; have := HN.out; omega
  have m3 : (n : Int) ≤ 1024 := by have := HN.out; omega
  have ⟨k0, k1, _, _⟩ := H4.out.cells
  go_upto_region 7 with (first | (refine ld_cell (by rfl) (.tmp 9) rfl rfl HC4.out ?_) | ((refine st_cell (by rfl) (.tmp 47) _ rfl rfl rfl (HK4.out.th HLT.out) ?_); intro w5 h5; have H5 := Lib.hid h5; clear h5))
  have HG5 := Lib.hid (show w4.grownBy w5 (some g) by rw [H5.out]; exact grown_setCells _ _ _ _)
  have HK5 := Lib.hid (show Kr w5 g (l.set F d) by rw [H5.out]; exact HK4.out.setCl HLT.out d)
  have H45 := Lib.hid (H4.out.grown HG5.out (by have := HGE.out; omega))
  have HR5 := Lib.hid (HR4.out.grown HG5.out (by have := HGE.out; omega))
  clear k0 k1
  go_wp2_with (first | (refine ld_pat (by rfl) (.tmp 12) rfl rfl H45.out.1 ?_) | ((refine st_pat (by rfl) (.tmp 10) _ rfl rfl rfl HR5.out.2 ?_); intro w6 h6 g6; have H6 := Lib.hid h6; have G6 := Lib.hid g6; clear h6 g6))
  have hz := HGE.out
  have e7 := HG5.out.size
  refine bodyPost_ret (res_pe rfl rfl H6.out.1 rfl) rfl ⟨⟨some ⟨g, 0, none⟩, cp, ?_, by rw [List.length_set, HN.out.1]; exact HCP.out, .inr ⟨g, rfl, by omega, HK5.out.grown G6.out (by omega)⟩⟩, grown_at (grown_at (stepB HB.out HB4.out) (by omega) (by omega) HG5.out) (by omega) (by omega) G6.out⟩
  rw [List.length_set, HN.out.1]
  rfl
theorem r_Set (r : Int) (l : List Pt.Cl) (p : Option Addr) (cap : Nat) (ch row c : Int) (d : Pt.Cl) (w : World) (hd : CellsAt w p l) :
    Calls Tryz.prog 14 #[PV r p l.length cap, .int .i64 ch, .int .i64 row, .int .i64 c, .agg (CL d).toArray] w fun x w' => RetPE (Pt.okI (Pt.eSet r l ch row c d) r) (Pt.okL (Pt.eSet r l ch row c d) (l.set (row.toNat * ch.toNat + c.toNat) d)) (Pt.eSet r l ch row c d) w.heap.size x w' ∧ Below w.heap.size w w' := by
  by_cases h : Pt.eSet r l ch row c d = 0
  · rw [h]
    have h2 := h
    unfold Pt.eSet at h2
    cases hv : Pt.vcl d with
    | false => rw [hv] at h2; simp at h2
    | true =>
      rw [hv] at h2
      have h2 : Pt.ePlace r l ch row c = 0 := h2
      obtain ⟨R, C, y, x, rfl, rfl, rfl, rfl, g1, g2, g3, g4, g5, g6, g7, g8⟩ := place_nx h2
      exact r_Set_ok R C y x l p cap d w hd g8 hv g3 g4 g5 g1 g2
  · have e1 : Pt.okI (Pt.eSet r l ch row c d) r = 0 := if_neg h
    have e2 : Pt.okL (Pt.eSet r l ch row c d) (l.set (row.toNat * ch.toNat + c.toNat) d) = [] := if_neg h
    rw [e1, e2]
    exact r_Set_bad r l p cap ch row c d w hd rfl h

/-- The first k cells are those of T. -/
def Fil (T : List Pt.Cl) (k : Nat) (L : List Pt.Cl) : Prop := L.length = T.length ∧ ∀ i, i < k → Pt.at' L i = Pt.at' T i
theorem fil_step {T L : List Pt.Cl} {k : Nat} (h : Fil T k L) (hk : k < T.length) {c : Pt.Cl} (hc : Pt.at' T k = c) : Fil T (k + 1) (L.set k c) := by
  refine ⟨by rw [List.length_set]; exact h.1, fun i hi => ?_⟩
  rw [Pt.at_set L k _ (by rw [h.1]; exact hk)]
  by_cases e : i = k
  · rw [if_pos e, e, hc]
  · rw [if_neg e]; exact h.2 i (by omega)
theorem fil_done {T L : List Pt.Cl} {k : Nat} (h : Fil T k L) (hk : k = T.length) : L = T := Pt.ext_at h.1 fun i hi => h.2 i (by rw [hk, ← h.1]; exact hi)
theorem cells_pos {w : World} {p : Option Addr} {l : List Pt.Cl} (h : CellsAt w p l) (hp : 0 < l.length) : ∃ b0 off, p = some ⟨b0, off, none⟩ ∧ b0 < w.heap.size ∧ w.rangeAt b0 off (cc l) := by
  rcases h with rfl | h
  · simp at hp
  · exact h
set_option maxRecDepth 100000 in
set_option maxHeartbeats 6400000 in
theorem r_Copy_ok (R C ar ac ah aw : Nat) (l : List Pt.Cl) (p : Option Addr) (cap : Nat) (w : World) (hd : CellsAt w p l) (hv : Pt.vpat R l C = true) (hw : Pt.awi ⟨ar, ac, ah, aw⟩ R C = true) (g2 : R ≤ 64) (g4 : C ≤ 16) (hl : l.length = R * C) (h1 : 1 ≤ ah) (h2 : ar + ah ≤ R) (h3 : 1 ≤ aw) (h4 : ac + aw ≤ C) :
    Calls Tryz.prog 16 #[PV R p l.length cap, .int .i64 C, AV ⟨ar, ac, ah, aw⟩] w fun x w' => RetPE ah (Pt.copyL l C ar ac ah aw) 0 w.heap.size x w' ∧ Below w.heap.size w w' := by
  obtain ⟨W, hW, hB, hs, hp, ha, hr⟩ := three_newr w R (.slice p l.length cap) ⟨ar, ac, ah, aw⟩
  have CV := Lib.hid (fun u (hu : Below W.heap.size W u) => r_Valid R l p cap C u ((hd.below hB).below hu))
  rw [hv] at CV
  have CL1 := Lib.hid (fun u => r_lies_v (vv := .slice p l.length cap) hv hw u)
  have hn1 : R * C ≤ 1024 := Pt.rc_bound g2 g4
  have hn2 : ah * aw ≤ 1024 := Nat.le_trans (Nat.mul_le_mul (show ah ≤ R by omega) (show aw ≤ C by omega)) hn1
  have CE := Lib.hid (fun u => r_Empty ah aw u hn2)
  obtain ⟨b0, off, rfl, hb0, hr0⟩ := cells_pos hd (by rw [hl]; exact Nat.mul_pos (by omega) (by omega))
  have HB := Lib.hid hB
  have HR := Lib.hid hr
  have HP := Lib.hid hp
  have HA := Lib.hid ha
  have HS := Lib.hid hs
  have HR0 := Lib.hid (show b0 < w.heap.size ∧ W.rangeAt b0 off (cc l) from ⟨hb0, range_below hr0 hB hb0⟩)
  obtain ⟨n, hn⟩ : ∃ n, l.length = n := ⟨_, rfl⟩
  unfold AV at CL1
  unfold PV at CV
  unfold PV AV
  obtain ⟨b, hb⟩ : ∃ b, b = w.heap.size := ⟨_, rfl⟩
  rw [← hb] at hp ha HR HP HA HS HR0
  have HBE := Lib.hid hb
  have HBc := Lib.hid (Below.refl W.heap.size W)
  dsimp only at ha HA hW
  obtain ⟨k0, k1, a0, a1, a2, a3⟩ := six hp ha (Below.refl _ W)
  obtain ⟨z, hz⟩ : ∃ z, ah * aw = z := ⟨_, rfl⟩
  have HN := Lib.hid (show l.length = n ∧ l.length = R * C ∧ ah * aw = z ∧ R ≤ 64 ∧ C ≤ 16 ∧ R * C ≤ 1024 ∧ z ≤ 1024 ∧ 0 < z from ⟨hn, hl, hz, g2, g4, hn1, by omega, by rw [← hz]; exact Nat.mul_pos (by omega) (by omega)⟩)
  have HC := Lib.hid (show 1 ≤ ah ∧ ar + ah ≤ R ∧ 1 ≤ aw ∧ ac + aw ≤ C from ⟨h1, h2, h3, h4⟩)
  have HT := Lib.hid (show (Pt.copyL l C ar ac ah aw).length = z from (Pt.mk_len _ _).trans hz)
  rw [hn] at CL1 CV HP k1 hW ⊢
  clear hd hp ha hr hv hw hB hs hb0 hr0 hn hl g2 g4 h1 h2 h3 h4 hn1 hn2 hz
  go_enter Tryz.func16, Tryz.ntmps16
  go_upto_region 1 with fail
  rw [← hW, ← hb]
  clear hW hb
  go_upto_region 6 with (first | (go_at_call 10; ((with_reducible refine (CV.out _ HBc.out).mono ?_); rintro x' w1 ⟨rfl, hb1⟩; have HBn := Lib.hid (stepB HBc.out hb1); clear HBc k0 k1 a0 a1 a2 a3 hb1; have HBc := HBn; clear HBn; obtain ⟨k0, k1, a0, a1, a2, a3⟩ := six HP.out HA.out HBc.out)) | (go_at_call 50; ((with_reducible refine (CL1.out _).mono ?_); rintro x' w1 ⟨rfl, hb1⟩; have HBn := Lib.hid (stepB HBc.out hb1); clear HBc k0 k1 a0 a1 a2 a3 hb1; have HBc := HBn; clear HBn; obtain ⟨k0, k1, a0, a1, a2, a3⟩ := six HP.out HA.out HBc.out)) | (go_at_call 45; ((with_reducible refine (CE.out _).mono ?_); rintro x' w2 ⟨⟨q, cap2, rfl, hc2, ho2⟩, hb2⟩; unfold PV; rw [List.length_replicate] at hc2 ⊢; have HB1 := HBc; have HBn := Lib.hid (stepB HBc.out hb2); have HO2 := Lib.hid ho2; have HC2 := Lib.hid hc2; clear HBc k0 k1 a0 a1 a2 a3 hb2 ho2 hc2; have HBc := HBn; clear HBn)) | ((refine st_pat (by rfl) _ _ rfl rfl rfl (pb_box _ _ _ _).2 ?_); intro w3 h3' g3; have H3 := Lib.hid h3'; have G3 := Lib.hid g3; clear h3' g3))
  obtain ⟨g, rfl, hg1, hg2⟩ := own_some HO2.out (by rw [List.length_replicate, HN.out.2.2.1]; exact HN.out.2.2.2.2.2.2.2)
  obtain ⟨b8, hb8⟩ : ∃ b8, b8 = w2.heap.size := ⟨_, rfl⟩
  have HK3 := Lib.hid (show Kr w3 g (List.replicate (ah * aw) Pt.zc) from ((hg2.kept (below_box _ _)).grown G3.out (by have := hg2.1; omega)))
  have HB3 := Lib.hid (show Below W.heap.size W w3 from grown_at (stepB HBc.out (below_box _ (.cells #[.int .i64 0, .slice none 0 0] 24))) HBc.out.size (by simp; exact Nat.le_succ_of_le HBc.out.size) G3.out)
  have HGE := Lib.hid (show W.heap.size ≤ g ∧ g < b8 ∧ b8 < w3.heap.size ∧ b + 3 = W.heap.size ∧ w.heap.size = b from ⟨Nat.le_trans HB1.out.size hg1, by rw [hb8]; exact hg2.1, by rw [hb8]; exact H3.out.lt, HS.out.symm, HBE.out.symm⟩)
  rw [← hb8] at H3 ⊢
  rw [HN.out.2.2.1] at HK3 H3 HC2 ⊢
  clear hg1 hg2 hb8 HO2
  have HU := Lib.hid (show ∀ u : World, w3.grownBy u (some g) → Pb u b R (.slice (some ⟨b0, off, none⟩) n cap) ∧ u.rangeAt (b + 1) 0 [.int .i64 (ar : Int), .int .i64 (ac : Int), .int .i64 (ah : Int), .int .i64 (aw : Int)] ∧ Pb u b8 (ah : Int) (.slice (some ⟨g, 0, none⟩) z cap2) ∧ u.rangeAt b0 off (cc l) ∧ Pb u (b + 2) 0 (.slice none 0 0) from fun u hu => by
    obtain ⟨e1, e2, e3, e4, e5⟩ := HGE.out
    have e6 := HB3.out.size
    have e7 := HR0.out.1
    exact ⟨(HP.out.kept HB3.out).grown hu (by omega), range_grown (range_below HA.out HB3.out (by omega)) hu (by omega) (by omega), H3.out.grown hu (by omega), range_grown (range_below HR0.out.2 HB3.out (by omega)) hu (by omega) (by omega), (HR.out.kept HB3.out).grown hu (by omega)⟩)
  have m1 : (ah : Int) ≤ 64 := by have := HN.out; have := HC.out; omega
  have m2 : (aw : Int) ≤ 16 := by have := HN.out; have := HC.out; omega
  go_wp2
  go_loopw [9, 10] (fun i _ wr => ∃ y : Nat, y ≤ ah ∧ i = .int .i64 y ∧ Hid (w3.grownBy wr (some g)) ∧ Hid (∃ L, Fil (Pt.copyL l C ar ac ah aw) (y * aw) L ∧ Kr wr g L)) (fun i _ _ => ah - (intOf i).toNat)
  case atStart => exact ⟨0, by omega, rfl, grownBy_refl _ _, _, ⟨by rw [List.length_replicate, HT.out], fun j hj => absurd hj (by simp)⟩, HK3.out⟩
  case round =>
    obtain ⟨y, hy, rfl, HG, HL⟩ := hrel
    obtain ⟨hp', ha', h8', hd', hr'⟩ := HU.out _ HG.out
    by_cases hlt : y < ah
    · have a2 := ha' 2 _ rfl
      have a3 := ha' 3 _ rfl
      have HLT := Lib.hid hlt
      have hlt' : (y : Int) < (ah : Int) := by omega
      clear hp' ha' h8' hd' hr' hlt hy
      go_upto_region 10 with fail
      go_loopw [10] (fun i u => ∃ x : Nat, x ≤ aw ∧ i = .int .i64 x ∧ Hid (w3.grownBy u (some g)) ∧ Hid (∃ L, Fil (Pt.copyL l C ar ac ah aw) (y * aw + x) L ∧ Kr u g L)) (fun i _ => aw - (intOf i).toNat)
      case atStart => exact ⟨0, by omega, rfl, HG.out, HL.out⟩
      case round =>
        obtain ⟨x, hx, rfl, HGu, HLu⟩ := hrel
        obtain ⟨hp', ha', h8', hd', hr'⟩ := HU.out _ HGu.out
        have a3 := ha' 3 _ rfl
        by_cases hlx : x < aw
        · have a0 := ha' 0 _ rfl
          have a1 := ha' 1 _ rfl
          have k1 := hp'.1 1 _ rfl
          have j1 := h8'.1 1 _ rfl
          obtain ⟨L, hL, hK⟩ := HLu.out
          obtain ⟨f1, f2, f3, f4, f5, f6, f7, f8⟩ := HN.out
          obtain ⟨c1, c2, c3, c4⟩ := HC.out
          obtain ⟨M, hM⟩ : ∃ M, (ar + y) * C = M := ⟨_, rfl⟩
          obtain ⟨F, hF⟩ : ∃ F, M + ac = F := ⟨_, rfl⟩
          obtain ⟨I, hI⟩ : ∃ I, F + x = I := ⟨_, rfl⟩
          obtain ⟨Q, hQ⟩ : ∃ Q, y * aw = Q := ⟨_, rfl⟩
          obtain ⟨S, hS⟩ : ∃ S, Q + x = S := ⟨_, rfl⟩
          have hy2 := HLT.out
          have hIn : I < n := by
            have := Pt.rc_in (R := R) (C := C) (y := ar + y) (x := ac + x) (by omega) (by omega)
            rw [hM] at this
            omega
          have hSz : S < z := by
            have := Pt.rc_in (R := ah) (C := aw) (y := y) (x := x) hy2 hlx
            rw [hQ, f3] at this
            omega
          have hM' : ((ar : Int) + (y : Int)) * (C : Int) = (M : Int) := by rw [← hM, Int.natCast_mul, Int.natCast_add]
          have hF' : (M : Int) + (ac : Int) = (F : Int) := by omega
          have hI' : (F : Int) + (x : Int) = (I : Int) := by omega
          have hQ' : (y : Int) * (aw : Int) = (Q : Int) := by rw [← hQ, Int.natCast_mul]
          have hS' : (Q : Int) + (x : Int) = (S : Int) := by omega
          have i1 : (I : Int) < (n : Int) := by omega
          have i2 : (S : Int) < (z : Int) := by omega
          have i3 : (n : Int) ≤ 1024 := by omega
          have i4 : (z : Int) ≤ 1024 := by omega
          have i5 : (M : Int) ≤ 1024 := by omega
          have i6 : (F : Int) ≤ 1024 := by omega
          have i7 : (Q : Int) ≤ 1024 := by omega
          have i8 : (ar : Int) ≤ 64 := by omega
          have i9 : (C : Int) ≤ 16 := by omega
          have hTS : Pt.at' (Pt.copyL l C ar ac ah aw) S = Pt.at' l I := by
            unfold Pt.copyL
            rw [Pt.mk_at _ _ (by rw [f3]; exact hSz), ← hS, ← hQ, Pt.rc_div hlx, Pt.rc_mod hlx, ← hI, ← hF, ← hM]
            congr 1
            omega
          have hFS := fil_step (by rw [hQ, hS] at hL; exact hL) (by rw [HT.out]; exact hSz) hTS
          have hsrc := rng_of hd' (i := I) (by rw [f1]; exact hIn)
          have hth := hK.th (i := S) (by rw [hL.1, HT.out]; exact hSz)
          have hcur := hK.one (i := S) (by rw [hL.1, HT.out]; exact hSz)
          have HK2 := Lib.hid (show ∀ c, Kr (wr.setCells g (S * 6) (CL c)).drew g (L.set S c) from fun c => (hK.setCl (by rw [hL.1, HT.out]; exact hSz) c).kept (Below.refl _ _).drew)
          have HFS := Lib.hid hFS
          have HSS := Lib.hid (show y * aw + (x + 1) = S + 1 by rw [hQ]; omega)
          obtain ⟨s0, s1, s2, s3, s4, s5⟩ := rng_cells hsrc
          obtain ⟨t0, t1, t2, t3, t4, t5⟩ := rng_cells hcur
          have z0 := (hth 0 (by decide)).2
          have z1 := (hth 1 (by decide)).2
          have z2 := (hth 2 (by decide)).2
          have z3 := (hth 3 (by decide)).2
          have z4 := (hth 4 (by decide)).2
          have z5 := (hth 5 (by decide)).2
          simp only [Nat.add_zero] at z0
          obtain ⟨cs, hcs⟩ : ∃ cs, Pt.at' l I = cs := ⟨_, rfl⟩
          rw [hcs] at s0 s1 s2 s3 s4 s5 HFS
          obtain ⟨co, hco⟩ : ∃ co, Pt.at' L S = co := ⟨_, rfl⟩
          rw [hco] at t0 t1 t2 t3 t4 t5
          have hlx' : (x : Int) < (aw : Int) := by omega
          have HLX := Lib.hid hlx
          clear hp' ha' h8' hd' hr' f1 f2 f3 f4 f5 f6 f7 f8 c1 c2 c3 c4 hM hF hI hQ hS hIn hSz hTS hFS hsrc hth hcur hcs hco hL hK hlx hx hy2
          go_upto_region 12 with fail
          go_region
          change Exit.inBlock _ _ _ _ (wr.setCells g (S * 6) (CL cs)).drew
          obtain ⟨w9, h9⟩ : ∃ w9, w9 = (wr.setCells g (S * 6) (CL cs)).drew := ⟨_, rfl⟩
          rw [← h9]
          have HK9 := Lib.hid (show Kr w9 g (L.set S cs) from by rw [h9]; exact HK2.out cs)
          have HG9 := Lib.hid (show w3.grownBy w9 (some g) from by rw [h9]; exact grown_drew' (grownBy_trans HGu.out (grown_setCells _ _ _ _)))
          clear h9 s0 s1 s2 s3 s4 s5 t0 t1 t2 t3 t4 t5 z0 z1 z2 z3 z4 z5 k1 j1 a0 a1 a3 HK2
          go_wp2
          go_roundw
          case rel => exact ⟨x + 1, HLX.out, by go_num, HG9.out, _, by rw [HSS.out]; exact HFS.out, HK9.out⟩
          case measure => simp [intOf]; have := HLX.out; omega
        · obtain rfl : x = aw := by omega
          clear hp' ha' h8' hd' hr'
          go_wp2
          go_roundw
          case rel =>
            obtain ⟨L, hL, hK⟩ := HLu.out
            exact ⟨y + 1, HLT.out, by go_num, HGu.out, L, by rw [Nat.add_mul, Nat.one_mul]; exact hL, hK⟩
          case measure => simp [intOf]; have := HLT.out; omega
    · obtain rfl : y = ah := by omega
      obtain ⟨L, hL, hK⟩ := HL.out
      have HKL := Lib.hid hK
      have HFD := Lib.hid (fil_done hL (show y * aw = (Pt.copyL l C ar ac y aw).length from (Pt.mk_len _ _).symm))
      have HH8 := Lib.hid h8'
      have HRw := Lib.hid hr'
      have a2 := ha' 2 _ rfl
      clear hp' ha' h8' hd' hr' hL hK
      go_wp2_with (first | (refine ld_pat (by rfl) (.tmp 8) rfl rfl HH8.out.1 ?_) | ((refine st_pat (by rfl) (.tmp 6) _ rfl rfl rfl HRw.out.2 ?_); intro w5 h5 g5; have H5 := Lib.hid h5; have G5 := Lib.hid g5; clear h5 g5))
      obtain ⟨e1, e2, e3, e4, e5⟩ := HGE.out
      have e6 := HG.out.size
      have e7 := HB3.out.size
      refine bodyPost_ret (res_pe rfl rfl H5.out.1 rfl) rfl ⟨⟨some ⟨g, 0, none⟩, cap2, ?_, ?_, .inr ⟨g, rfl, ?_, ?_⟩⟩, ?_⟩
      · rw [HT.out]; rfl
      · rw [HT.out]; exact HC2.out
      · omega
      · rw [← HFD.out]; exact HKL.out.grown G5.out (by omega)
      · exact grown_at (grown_at (stepB HB.out HB3.out) (by omega) (by omega) HG.out) (by omega) (by omega) G5.out
theorem r_Copy (r : Int) (l : List Pt.Cl) (p : Option Addr) (cap : Nat) (ch : Int) (a : Pt.Ar) (w : World) (hd : CellsAt w p l) :
    Calls Tryz.prog 16 #[PV r p l.length cap, .int .i64 ch, AV a] w fun x w' => RetPE (Pt.okI (Pt.eArea r l ch a) a.h) (Pt.okL (Pt.eArea r l ch a) (Pt.copyL l ch.toNat a.r.toNat a.c.toNat a.h.toNat a.w.toNat)) (Pt.eArea r l ch a) w.heap.size x w' ∧ Below w.heap.size w w' := by
  by_cases h : Pt.eArea r l ch a = 0
  · rw [h]
    have hv : Pt.vpat r l ch = true ∧ Pt.awi a r ch = true := by
      unfold Pt.eArea at h
      cases h1 : Pt.vpat r l ch with
      | false => rw [h1] at h; simp at h
      | true =>
        cases h2 : Pt.awi a r ch with
        | false => rw [h1, h2] at h; simp at h
        | true => exact ⟨rfl, rfl⟩
    obtain ⟨R, C, ar, ac, ah, aw, rfl, rfl, rfl, g2, g4, hl, h1, h2, h3, h4, -⟩ := area_nat h
    exact r_Copy_ok R C ar ac ah aw l p cap w hd hv.1 hv.2 g2 g4 hl h1 h2 h3 h4
  · have e1 : Pt.okI (Pt.eArea r l ch a) a.h = 0 := if_neg h
    have e2 : Pt.okL (Pt.eArea r l ch a) (Pt.copyL l ch.toNat a.r.toNat a.c.toNat a.h.toNat a.w.toNat) = [] := if_neg h
    rw [e1, e2]
    exact r_Copy_bad r l p cap ch a w hd rfl h
end Go.Proofs.YtfjfnbeegojlbaaGreat

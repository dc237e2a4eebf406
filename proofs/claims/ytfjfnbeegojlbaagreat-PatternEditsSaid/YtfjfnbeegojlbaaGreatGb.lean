/-
  Package pattern's Blank and the reference's. Package pattern's Set. Package pattern's Insert.
-/
import Derived.Test.YtfjfnbeegojlbaaGreatGe
import Derived.Test.YtfjfnbeegojlbaaGreatPCopy
import Derived.Deep.RegionHeld3
namespace Go.Proofs.YtfjfnbeegojlbaaGreat
open Go.RowKit

theorem p_Blank (R C : Int) (w : World) :
    Calls Tryz.prog 11 #[.int .i64 R, .int .i64 C] w fun x w' => RetPE (Pt.okI (Pt.eBlank R C) R) (Pt.okL (Pt.eBlank R C) (List.replicate (R.toNat * C.toNat) Pt.zc)) (Pt.eBlank R C) w.heap.size x w' ∧ Below w.heap.size w w' := by
  obtain ⟨W, hW⟩ : ∃ W, W = w.alloc (.cells #[.int .i64 0, .slice none 0 0] 24) := ⟨_, rfl⟩
  have HB := Lib.hid (show Below w.heap.size w W by rw [hW]; exact below_box _ _)
  have HP := Lib.hid (show Pb W w.heap.size 0 (.slice none 0 0) by rw [hW]; exact pb_box _ _ _ _)
  have HZ := Lib.hid (show W.heap.size = w.heap.size + 1 by rw [hW]; simp)
  obtain ⟨b, hb⟩ : ∃ b, b = w.heap.size := ⟨_, rfl⟩
  rw [← hb] at HP HZ
  have HBE := Lib.hid hb
  have C1 := Lib.hid (fun u => p_validChannels C u)
  have C2 := Lib.hid (fun u => p_validRows R u)
  cases h1 : Pt.wth C 1 16 with
  | false =>
    have e : Pt.eBlank R C = 1 := by unfold Pt.eBlank; rw [h1]; rfl
    rw [h1] at C1
    rw [e]
    clear h1 e
    go_enter Tryz.func11, Tryz.ntmps11
    go_upto_region 1 with fail
    rw [← hW, ← hb]
    clear hW hb
    go_wp2_with (first | (go_at_call 37; ((with_reducible refine (C1.out _).mono ?_); rintro x' w1 ⟨rfl, rfl⟩)) | ((refine st_pat (by rfl) _ _ rfl rfl rfl HP.out.2 ?_); intro w2 h2 g2; have H2 := Lib.hid h2; have G2 := Lib.hid g2; clear h2 g2))
    exact bodyPost_ret (res_pe rfl rfl H2.out.1 rfl) rfl ⟨⟨none, 0, rfl, Nat.le_refl _, .inl rfl⟩, grown_at HB.out (by have := HBE.out; omega) (by have := HZ.out; have := HBE.out; omega) G2.out⟩
  | true =>
    rw [h1] at C1
    cases h2 : Pt.wth R 1 64 with
    | false =>
      have e : Pt.eBlank R C = 5 := by unfold Pt.eBlank; rw [h1, h2]; rfl
      rw [h2] at C2
      rw [e]
      clear h1 h2 e
      go_enter Tryz.func11, Tryz.ntmps11
      go_upto_region 1 with fail
      rw [← hW, ← hb]
      clear hW hb
      go_wp2_with (first | (go_at_call 37; ((with_reducible refine (C1.out _).mono ?_); rintro x' w1 ⟨rfl, rfl⟩)) | (go_at_call 38; ((with_reducible refine (C2.out _).mono ?_); rintro x' w1 ⟨rfl, rfl⟩)) | ((refine st_pat (by rfl) _ _ rfl rfl rfl HP.out.2 ?_); intro w2 h2 g2; have H2 := Lib.hid h2; have G2 := Lib.hid g2; clear h2 g2))
      exact bodyPost_ret (res_pe rfl rfl H2.out.1 rfl) rfl ⟨⟨none, 0, rfl, Nat.le_refl _, .inl rfl⟩, grown_at HB.out (by have := HBE.out; omega) (by have := HZ.out; have := HBE.out; omega) G2.out⟩
    | true =>
      have e : Pt.eBlank R C = 0 := by unfold Pt.eBlank; rw [h1, h2]; rfl
      rw [h2] at C2
      rw [e]
      obtain ⟨m, rfl⟩ : ∃ m : Nat, R = m := ⟨R.toNat, by have := Pt.wth_iff.1 h2; omega⟩
      obtain ⟨n, rfl⟩ : ∃ n : Nat, C = n := ⟨C.toNat, by have := Pt.wth_iff.1 h1; omega⟩
      have C3 := Lib.hid (fun u => p_blank m n u (Pt.rc_bound (by have := Pt.wth_iff.1 h2; omega) (by have := Pt.wth_iff.1 h1; omega)))
      show Calls _ _ _ _ (fun x w' => RetPE m (List.replicate (m * n) Pt.zc) 0 w.heap.size x w' ∧ _)
      clear h1 h2 e
      go_enter Tryz.func11, Tryz.ntmps11
      go_upto_region 1 with fail
      rw [← hW, ← hb]
      clear hW hb
      go_wp2_with (first | (go_at_call 37; ((with_reducible refine (C1.out _).mono ?_); rintro x' w1 ⟨rfl, rfl⟩)) | (go_at_call 38; ((with_reducible refine (C2.out _).mono ?_); rintro x' w1 ⟨rfl, rfl⟩)) | (go_at_call 44; ((with_reducible refine (C3.out _).mono ?_); rintro x' w3 ⟨⟨q, cp, rfl, hc3, ho3⟩, hb3⟩; have HC3 := Lib.hid hc3; have HO3 := Lib.hid ho3; have HB3 := Lib.hid hb3; clear hc3 ho3 hb3)) | ((refine st_pat (by rfl) _ _ rfl rfl rfl (HP.out.kept HB3.out).2 ?_); intro w2 h2 g2; have H2 := Lib.hid h2; have G2 := Lib.hid g2; clear h2 g2))
      have e1 := HBE.out
      have e2 := HZ.out
      have e3 := HB3.out.size
      exact bodyPost_ret (res_pe rfl rfl H2.out.1 rfl) rfl ⟨⟨q, cp, by rw [List.length_replicate]; rfl, HC3.out, (HO3.out.grown G2.out (by omega)).mono (by omega)⟩, grown_at (stepB HB.out HB3.out) (by omega) (by omega) G2.out⟩
theorem r_Blank (R C : Int) (w : World) :
    Calls Tryz.prog 12 #[.int .i64 R, .int .i64 C] w fun x w' => RetPE (Pt.okI (Pt.eBlank R C) R) (Pt.okL (Pt.eBlank R C) (List.replicate (R.toNat * C.toNat) Pt.zc)) (Pt.eBlank R C) w.heap.size x w' ∧ Below w.heap.size w w' := by
  obtain ⟨W, hW⟩ : ∃ W, W = w.alloc (.cells #[.int .i64 0, .slice none 0 0] 24) := ⟨_, rfl⟩
  have HB := Lib.hid (show Below w.heap.size w W by rw [hW]; exact below_box _ _)
  have HP := Lib.hid (show Pb W w.heap.size 0 (.slice none 0 0) by rw [hW]; exact pb_box _ _ _ _)
  have HZ := Lib.hid (show W.heap.size = w.heap.size + 1 by rw [hW]; simp)
  obtain ⟨b, hb⟩ : ∃ b, b = w.heap.size := ⟨_, rfl⟩
  rw [← hb] at HP HZ
  have HBE := Lib.hid hb
  have C1 := Lib.hid (fun u => r_wide C u)
  cases h1 : Pt.wth C 1 16 with
  | false =>
    have e : Pt.eBlank R C = 1 := by unfold Pt.eBlank; rw [h1]; rfl
    rw [h1] at C1
    rw [e]
    clear h1 e
    go_enter Tryz.func12, Tryz.ntmps12
    go_upto_region 1 with fail
    rw [← hW, ← hb]
    clear hW hb
    go_wp2_with (first | (go_at_call 42; ((with_reducible refine (C1.out _).mono ?_); rintro x' w1 ⟨rfl, rfl⟩)) | ((refine st_pat (by rfl) _ _ rfl rfl rfl HP.out.2 ?_); intro w2 h2 g2; have H2 := Lib.hid h2; have G2 := Lib.hid g2; clear h2 g2))
    exact bodyPost_ret (res_pe rfl rfl H2.out.1 rfl) rfl ⟨⟨none, 0, rfl, Nat.le_refl _, .inl rfl⟩, grown_at HB.out (by have := HBE.out; omega) (by have := HZ.out; have := HBE.out; omega) G2.out⟩
  | true =>
    rw [h1] at C1
    by_cases q1 : R < 1
    · have e : Pt.eBlank R C = 5 := by unfold Pt.eBlank; rw [h1, show Pt.wth R 1 64 = false from decide_eq_false (by omega)]; rfl
      rw [e]
      clear h1 e
      go_enter Tryz.func12, Tryz.ntmps12
      go_upto_region 1 with fail
      rw [← hW, ← hb]
      clear hW hb
      go_wp2_with (first | (go_at_call 42; ((with_reducible refine (C1.out _).mono ?_); rintro x' w1 ⟨rfl, rfl⟩)) | ((refine st_pat (by rfl) _ _ rfl rfl rfl HP.out.2 ?_); intro w2 h2 g2; have H2 := Lib.hid h2; have G2 := Lib.hid g2; clear h2 g2))
      exact bodyPost_ret (res_pe rfl rfl H2.out.1 rfl) rfl ⟨⟨none, 0, rfl, Nat.le_refl _, .inl rfl⟩, grown_at HB.out (by have := HBE.out; omega) (by have := HZ.out; have := HBE.out; omega) G2.out⟩
    · by_cases q2 : 64 < R
      · have e : Pt.eBlank R C = 5 := by unfold Pt.eBlank; rw [h1, show Pt.wth R 1 64 = false from decide_eq_false (by omega)]; rfl
        have q1' : decide (R < 1) = false := decide_eq_false q1
        rw [e]
        clear h1 e
        go_enter Tryz.func12, Tryz.ntmps12
        go_upto_region 1 with fail
        rw [← hW, ← hb]
        clear hW hb
        go_wp2_with (first | (go_at_call 42; ((with_reducible refine (C1.out _).mono ?_); rintro x' w1 ⟨rfl, rfl⟩)) | ((refine st_pat (by rfl) _ _ rfl rfl rfl HP.out.2 ?_); intro w2 h2 g2; have H2 := Lib.hid h2; have G2 := Lib.hid g2; clear h2 g2))
        exact bodyPost_ret (res_pe rfl rfl H2.out.1 rfl) rfl ⟨⟨none, 0, rfl, Nat.le_refl _, .inl rfl⟩, grown_at HB.out (by have := HBE.out; omega) (by have := HZ.out; have := HBE.out; omega) G2.out⟩
      · have e : Pt.eBlank R C = 0 := by unfold Pt.eBlank; rw [h1, show Pt.wth R 1 64 = true from decide_eq_true (by omega)]; rfl
        rw [e]
        obtain ⟨m, rfl⟩ : ∃ m : Nat, R = m := ⟨R.toNat, by omega⟩
        obtain ⟨n, rfl⟩ : ∃ n : Nat, C = n := ⟨C.toNat, by have := Pt.wth_iff.1 h1; omega⟩
        have C3 := Lib.hid (fun u => r_Empty m n u (Pt.rc_bound (by omega) (by have := Pt.wth_iff.1 h1; omega)))
        have q1' : decide ((m : Int) < 1) = false := decide_eq_false q1
        show Calls _ _ _ _ (fun x w' => RetPE m (List.replicate (m * n) Pt.zc) 0 w.heap.size x w' ∧ _)
        clear h1 e
        go_enter Tryz.func12, Tryz.ntmps12
        go_upto_region 1 with fail
        rw [← hW, ← hb]
        clear hW hb
        go_wp2_with (first | (go_at_call 42; ((with_reducible refine (C1.out _).mono ?_); rintro x' w1 ⟨rfl, rfl⟩)) | (go_at_call 45; ((with_reducible refine (C3.out _).mono ?_); rintro x' w3 ⟨⟨q, cp, rfl, hc3, ho3⟩, hb3⟩; have HC3 := Lib.hid hc3; have HO3 := Lib.hid ho3; have HB3 := Lib.hid hb3; clear hc3 ho3 hb3)) | ((refine st_pat (by rfl) _ _ rfl rfl rfl (HP.out.kept HB3.out).2 ?_); intro w2 h2 g2; have H2 := Lib.hid h2; have G2 := Lib.hid g2; clear h2 g2))
        have e1 := HBE.out
        have e2 := HZ.out
        have e3 := HB3.out.size
        exact bodyPost_ret (res_pe rfl rfl H2.out.1 rfl) rfl ⟨⟨q, cp, by rw [List.length_replicate]; rfl, HC3.out, (HO3.out.grown G2.out (by omega)).mono (by omega)⟩, grown_at (stepB HB.out HB3.out) (by omega) (by omega) G2.out⟩

theorem set_new (w : World) (r : Int) (v : Value) (d : Pt.Cl) : ∃ W, W = ((w.alloc (.cells #[.int .i64 r, v] 24)).alloc (.cells (CL d).toArray 28)).alloc (.cells #[.int .i64 0, .slice none 0 0] 24) ∧
    Below w.heap.size w W ∧ W.heap.size = w.heap.size + 3 ∧ Pb W w.heap.size r v ∧ W.rangeAt (w.heap.size + 1) 0 (CL d) ∧ Pb W (w.heap.size + 2) 0 (.slice none 0 0) := by
  obtain ⟨w1, h1⟩ : ∃ w1, w1 = w.alloc (.cells #[.int .i64 r, v] 24) := ⟨_, rfl⟩
  obtain ⟨w2, h2⟩ : ∃ w2, w2 = w1.alloc (.cells (CL d).toArray 28) := ⟨_, rfl⟩
  have b1 : Below w.heap.size w w1 := by rw [h1]; exact below_box _ _
  have b2 : Below w1.heap.size w1 w2 := by rw [h2]; exact below_box _ _
  have s1 : w1.heap.size = w.heap.size + 1 := by rw [h1]; simp
  have s2 : w2.heap.size = w.heap.size + 2 := by rw [h2]; simp [s1]
  have p1 : Pb w1 w.heap.size r v := by rw [h1]; exact pb_box _ _ _ _
  have c2 : w2.rangeAt w1.heap.size 0 (CL d) := by rw [h2]; exact range_box w1 (CL d) _
  rw [s1] at c2
  refine ⟨_, rfl, ?_, ?_, ?_, ?_, ?_⟩ <;> rw [← h1, ← h2]
  · exact stepB (stepB b1 b2) (below_box _ _)
  · simp [s2]
  · exact (p1.kept b2).kept (below_box _ _)
  · exact range_below c2 (below_box _ _) (by omega)
  · rw [← s2]; exact pb_box _ _ _ _
set_option maxRecDepth 100000 in
set_option maxHeartbeats 3200000 in
theorem p_Set_bad (r : Int) (l : List Pt.Cl) (p : Option Addr) (cap : Nat) (ch row c : Int) (d : Pt.Cl) (w : World) (hd : CellsAt w p l) {e : Int} (he : Pt.eSet r l ch row c d = e) (h0 : e ≠ 0) :
    Calls Tryz.prog 13 #[PV r p l.length cap, .int .i64 ch, .int .i64 row, .int .i64 c, .agg (CL d).toArray] w fun x w' => RetPE 0 [] e w.heap.size x w' ∧ Below w.heap.size w w' := by
  obtain ⟨W, hW, hB, hs, hp, hc, hr⟩ := set_new w r (.slice p l.length cap) d
  have HB := Lib.hid hB
  have HP := Lib.hid hp
  have HC := Lib.hid hc
  have HR := Lib.hid hr
  have HS := Lib.hid hs
  have C1 := Lib.hid (p_ValidCell d W)
  have C2 := Lib.hid (fun u (hu : Below W.heap.size W u) => p_askPlace r l p cap ch row c u ((hd.below hB).below hu))
  obtain ⟨b, hb⟩ : ∃ b, b = w.heap.size := ⟨_, rfl⟩
  rw [← hb] at HP HC HR HS
  have HBE := Lib.hid hb
  unfold PV at C2 ⊢
  unfold Pt.eSet at he
  cases hv : Pt.vcl d with
  | false =>
    rw [hv] at he C1
    have he : (1 : Int) = e := he
    subst he
    clear h0 hv hd hB hs hp hc hr C2
    rw [cl_arr] at hW ⊢
    go_enter Tryz.func13, Tryz.ntmps13
    go_upto_region 1 with fail
    rw [← hW, ← hb]
    clear hW hb
    go_wp2_with (first | (refine ld_cell (by rfl) (.tmp 9) rfl rfl HC.out ?_) | (go_at_call 41; ((with_reducible refine (C1.out).mono ?_); rintro x' w1 ⟨rfl, hb1⟩; have HB1 := Lib.hid hb1; clear hb1)) | ((refine st_pat (by rfl) (.tmp 10) _ rfl rfl rfl (HR.out.kept HB1.out).2 ?_); intro w2 h2 g2; have H2 := Lib.hid h2; have G2 := Lib.hid g2; clear h2 g2))
    have e1 := HBE.out
    have e2 := HS.out
    have e3 := HB1.out.size
    exact bodyPost_ret (res_pe rfl rfl H2.out.1 rfl) rfl ⟨⟨none, 0, rfl, Nat.le_refl _, .inl rfl⟩, grown_at (stepB HB.out HB1.out) (by omega) (by omega) G2.out⟩
  | true =>
    rw [hv] at he C1
    have he : Pt.ePlace r l ch row c = e := he
    rw [he] at C2
    have hne : (e != 0) = true := by simpa using h0
    clear h0 hv he hd hB hs hp hc hr
    rw [cl_arr] at hW ⊢
    go_enter Tryz.func13, Tryz.ntmps13
    go_upto_region 1 with fail
    rw [← hW, ← hb]
    clear hW hb
    go_wp2_with (first | (refine ld_cell (by rfl) (.tmp 9) rfl rfl HC.out ?_) | (go_at_call 41; ((with_reducible refine (C1.out).mono ?_); rintro x' w1 ⟨rfl, hb1⟩; have HB1 := Lib.hid hb1; have HP1 := Lib.hid (HP.out.kept hb1); have HR1 := Lib.hid (HR.out.kept hb1); clear hb1)) | (refine ld_pat (by rfl) (.tmp 5) rfl rfl HP1.out.1 ?_) | (go_at_call 35; ((with_reducible refine (C2.out _ HB1.out).mono ?_); rintro x' w2 ⟨rfl, hb2⟩; have HB2 := Lib.hid hb2; have HR2 := Lib.hid (HR1.out.kept hb2); clear hb2)) | ((refine st_pat (by rfl) (.tmp 10) _ rfl rfl rfl HR2.out.2 ?_); intro w3 h3 g3; have H3 := Lib.hid h3; have G3 := Lib.hid g3; clear h3 g3))
    have e1 := HBE.out
    have e2 := HS.out
    have e3 := HB1.out.size
    have e4 := HB2.out.size
    exact bodyPost_ret (res_pe rfl rfl H3.out.1 rfl) rfl ⟨⟨none, 0, rfl, Nat.le_refl _, .inl rfl⟩, grown_at (stepB HB.out (stepB HB1.out HB2.out)) (by omega) (by omega) G3.out⟩
set_option maxRecDepth 100000 in
set_option maxHeartbeats 3200000 in
theorem p_Set_ok (R C y x : Nat) (l : List Pt.Cl) (p : Option Addr) (cap : Nat) (d : Pt.Cl) (w : World) (hd : CellsAt w p l) (hv : Pt.vcl d = true) (he : Pt.ePlace R l C y x = 0) (g3 : R ≤ 64) (g4 : C ≤ 16) (hl : l.length = R * C) (hlt : y * C + x < l.length) :
    Calls Tryz.prog 13 #[PV R p l.length cap, .int .i64 C, .int .i64 y, .int .i64 x, .agg (CL d).toArray] w fun e w' => RetPE R (l.set (y * C + x) d) 0 w.heap.size e w' ∧ Below w.heap.size w w' := by
  obtain ⟨W, hW, hB, hs, hp, hc, hr⟩ := set_new w R (.slice p l.length cap) d
  have HB := Lib.hid hB
  have HP := Lib.hid hp
  have HC := Lib.hid hc
  have HR := Lib.hid hr
  have HS := Lib.hid hs
  have hn : l.length ≤ 1024 := by rw [hl]; exact Pt.rc_bound g3 g4
  have C1 := Lib.hid (p_ValidCell d W)
  have C2 := Lib.hid (fun u (hu : Below W.heap.size W u) => p_askPlace R l p cap C y x u ((hd.below hB).below hu))
  have C3 := Lib.hid (fun u (hu : Below W.heap.size W u) => p_clone R l p cap u ((hd.below hB).below hu) (by omega))
  rw [hv] at C1
  rw [he] at C2
  obtain ⟨b, hb⟩ : ∃ b, b = w.heap.size := ⟨_, rfl⟩
  rw [← hb] at HP HC HR HS
  have HBE := Lib.hid hb
  obtain ⟨M, hM⟩ : ∃ M, y * C = M := ⟨_, rfl⟩
  obtain ⟨F, hF⟩ : ∃ F, M + x = F := ⟨_, rfl⟩
  have hM' : (y : Int) * (C : Int) = (M : Int) := by rw [← hM, Int.natCast_mul]
  have hF' : (M : Int) + (x : Int) = (F : Int) := by omega
  rw [hM, hF] at hlt ⊢
  have HLT := Lib.hid hlt
  obtain ⟨n, hnn⟩ : ∃ n, l.length = n := ⟨_, rfl⟩
  have HN := Lib.hid hnn
  unfold RetP at C3
  simp only [hnn] at C3
  rw [hnn] at hW HP C2 hlt hn ⊢
  have m1 : (M : Int) ≤ 1024 := by omega
  have m2 : (F : Int) < (n : Int) := by omega
  have m3 : (n : Int) ≤ 1024 := by omega
  have HP0 := Lib.hid (show ∀ u : World, Pb (u.alloc (.cells #[.int .i64 0, .slice none 0 0] 24)) u.heap.size 0 (.slice none 0 0) from fun u => pb_box _ _ _ _)
  unfold PV at C2 C3 ⊢
  clear hd hv he g3 g4 hl hlt hB hs hp hc hr hM hF hn hnn
  rw [cl_arr] at hW ⊢
  go_enter Tryz.func13, Tryz.ntmps13
  go_upto_region 1 with fail
  rw [← hW, ← hb]
  clear hW hb
  go_upto_region 7 with (first | (refine ld_cell (by rfl) (.tmp 9) rfl rfl HC.out ?_) | (go_at_call 41; ((with_reducible refine (C1.out).mono ?_); rintro x' w1 ⟨rfl, hb1⟩; have HB1 := Lib.hid hb1; have HP1 := Lib.hid (HP.out.kept hb1); clear hb1)) | (refine ld_pat (by rfl) (.tmp 5) rfl rfl HP1.out.1 ?_) | (go_at_call 35; ((with_reducible refine (C2.out _ HB1.out).mono ?_); rintro x' w2 ⟨rfl, hb2⟩; have HB2 := Lib.hid (stepB HB1.out hb2); have HP2 := Lib.hid (HP1.out.kept hb2); clear hb2)) | (refine ld_pat (by rfl) (.tmp 5) rfl rfl HP2.out.1 ?_) | (go_at_call 46; ((with_reducible refine (C3.out _ HB2.out).mono ?_); rintro x' w3 ⟨⟨q, cp, rfl, hcp, ho⟩, hb3⟩; have HB3 := Lib.hid hb3; have HCP := Lib.hid hcp; have HO := Lib.hid ho; clear hb3 hcp ho)) | ((refine st_pat (by rfl) (.tmp 13) _ rfl rfl rfl (HP0.out w3).2 ?_); intro w4 h4 g4; have H4 := Lib.hid h4; have G4 := Lib.hid g4; clear h4 g4))
  obtain ⟨b13, hb13⟩ : ∃ b13, b13 = w3.heap.size := ⟨_, rfl⟩
  rw [← hb13] at H4 G4 ⊢
  obtain ⟨g, hq, hg, hk⟩ : ∃ g, q = some ⟨g, 0, none⟩ ∧ w2.heap.size ≤ g ∧ Kr w3 g l := by
    rcases HO.out with h | h
    · have := HLT.out
      rw [h] at this
      simp at this
    · exact h
  subst hq
  have HK4 := Lib.hid (show Kr w4 g l from (hk.kept (below_box _ _)).grown G4.out (by have := hk.1; omega))
  have HZ := Lib.hid (show b + 3 = W.heap.size ∧ w.heap.size = b ∧ W.heap.size ≤ w2.heap.size ∧ w2.heap.size ≤ g ∧ g < b13 ∧ b13 = w3.heap.size ∧ w2.heap.size ≤ w3.heap.size by
    have e1 := HBE.out
    have e2 := HS.out
    have e3 := HB2.out.size
    have e4 := HB3.out.size
    have e5 := hk.1
    omega)
  have HBW4 := Lib.hid (show Below W.heap.size W w4 from grown_at (stepB (stepB HB2.out HB3.out) (below_box _ _)) (by have := HZ.out; omega) (by have := HZ.out; simp; omega) G4.out)
  have HC4 := Lib.hid (range_below HC.out HBW4.out (by have := HZ.out; omega))
  have HR4 := Lib.hid (HR.out.kept HBW4.out)
  clear hb13 hg hk
  have ⟨k0, k1, _, _⟩ := H4.out.cells
  go_upto_region 8 with (first | (refine ld_cell (by rfl) (.tmp 9) rfl rfl HC4.out ?_) | ((refine st_cell (by rfl) (.tmp 37) _ rfl rfl rfl (HK4.out.th HLT.out) ?_); intro w5 h5; have H5 := Lib.hid h5; clear h5))
  have HG5 := Lib.hid (show w4.grownBy w5 (some g) by rw [H5.out]; exact grown_setCells _ _ _ _)
  have HK5 := Lib.hid (show Kr w5 g (l.set F d) by rw [H5.out]; exact HK4.out.setCl HLT.out d)
  have H45 := Lib.hid (H4.out.grown HG5.out (by have := HZ.out; omega))
  have HR5 := Lib.hid (HR4.out.grown HG5.out (by have := HZ.out; omega))
  clear k0 k1
  go_wp2_with (first | (refine ld_pat (by rfl) (.tmp 13) rfl rfl H45.out.1 ?_) | ((refine st_pat (by rfl) (.tmp 10) _ rfl rfl rfl HR5.out.2 ?_); intro w6 h6 g6; have H6 := Lib.hid h6; have G6 := Lib.hid g6; clear h6 g6))
  have hz := HZ.out
  have e6 := HBW4.out.size
  have e7 := HG5.out.size
  refine bodyPost_ret (res_pe rfl rfl H6.out.1 rfl) rfl ⟨⟨some ⟨g, 0, none⟩, cp, ?_, by rw [List.length_set, HN.out]; exact HCP.out, .inr ⟨g, rfl, by omega, HK5.out.grown G6.out (by omega)⟩⟩, grown_at (grown_at (stepB HB.out HBW4.out) (by omega) (by omega) HG5.out) (by omega) (by omega) G6.out⟩
  rw [List.length_set, HN.out]
  rfl
theorem p_Set (r : Int) (l : List Pt.Cl) (p : Option Addr) (cap : Nat) (ch row c : Int) (d : Pt.Cl) (w : World) (hd : CellsAt w p l) :
    Calls Tryz.prog 13 #[PV r p l.length cap, .int .i64 ch, .int .i64 row, .int .i64 c, .agg (CL d).toArray] w fun x w' => RetPE (Pt.okI (Pt.eSet r l ch row c d) r) (Pt.okL (Pt.eSet r l ch row c d) (l.set (row.toNat * ch.toNat + c.toNat) d)) (Pt.eSet r l ch row c d) w.heap.size x w' ∧ Below w.heap.size w w' := by
  by_cases h : Pt.eSet r l ch row c d = 0
  · rw [h]
    have h2 := h
    unfold Pt.eSet at h2
    cases hv : Pt.vcl d with
    | false => rw [hv] at h2; simp at h2
    | true =>
      rw [hv] at h2
      have h2 : Pt.ePlace r l ch row c = 0 := h2
      obtain ⟨R, C, y, x, rfl, rfl, rfl, rfl, g1, g2, g3, g4, g5, g6, g7, g8⟩ := place_nx h2
      exact p_Set_ok R C y x l p cap d w hd hv h2 g3 g4 g5 g6
  · have e1 : Pt.okI (Pt.eSet r l ch row c d) r = 0 := if_neg h
    have e2 : Pt.okL (Pt.eSet r l ch row c d) (l.set (row.toNat * ch.toNat + c.toNat) d) = [] := if_neg h
    rw [e1, e2]
    exact p_Set_bad r l p cap ch row c d w hd rfl h

theorem grown_drew' {w w' : World} {r : Option Nat} (h : w.grownBy w' r) : w.grownBy w'.drew r := ⟨h.os, h.tape, h.output, h.size, h.block⟩
theorem two_new' (w : World) (r : Int) (v : Value) : ∃ W, W = (w.alloc (.cells #[.int .i64 r, v] 24)).alloc (.cells #[.int .i64 0, .slice none 0 0] 24) ∧ Below w.heap.size w W ∧ W.heap.size = w.heap.size + 2 ∧ Pb W w.heap.size r v ∧ Pb W (w.heap.size + 1) 0 (.slice none 0 0) := by
  obtain ⟨w1, h1⟩ : ∃ w1, w1 = w.alloc (.cells #[.int .i64 r, v] 24) := ⟨_, rfl⟩
  have b1 : Below w.heap.size w w1 := by rw [h1]; exact below_box _ _
  have s1 : w1.heap.size = w.heap.size + 1 := by rw [h1]; simp
  have p1 : Pb w1 w.heap.size r v := by rw [h1]; exact pb_box _ _ _ _
  refine ⟨_, rfl, ?_, ?_, ?_, ?_⟩ <;> rw [← h1]
  · exact stepB b1 (below_box _ _)
  · simp [s1]
  · exact p1.kept (below_box _ _)
  · rw [← s1]; exact pb_box _ _ _ _
set_option maxRecDepth 100000 in
set_option maxHeartbeats 3200000 in
theorem p_Insert_bad (r : Int) (l : List Pt.Cl) (p : Option Addr) (cap : Nat) (ch row : Int) (w : World) (hd : CellsAt w p l) {e : Int} (he : Pt.ePlace r l ch row 0 = e) (h0 : e ≠ 0) :
    Calls Tryz.prog 21 #[PV r p l.length cap, .int .i64 ch, .int .i64 row] w fun x w' => RetPE 0 [] e w.heap.size x w' ∧ Below w.heap.size w w' := by
  obtain ⟨W, hW, hB, hs, hp, hr⟩ := two_new' w r (.slice p l.length cap)
  have HB := Lib.hid hB
  have HP := Lib.hid hp
  have HR := Lib.hid hr
  have HS := Lib.hid hs
  have C2 := Lib.hid (p_askPlace r l p cap ch row 0 W (hd.below hB))
  rw [he] at C2
  obtain ⟨b, hb⟩ : ∃ b, b = w.heap.size := ⟨_, rfl⟩
  rw [← hb] at HP HR HS
  have HBE := Lib.hid hb
  have hne : (e != 0) = true := by simpa using h0
  unfold PV at C2 ⊢
  clear h0 he hd hB hs hp hr
  go_enter Tryz.func21, Tryz.ntmps21
  go_upto_region 1 with fail
  rw [← hW, ← hb]
  clear hW hb
  go_wp2_with (first | (refine ld_pat (by rfl) (.tmp 3) rfl rfl HP.out.1 ?_) | (go_at_call 35; ((with_reducible refine (C2.out).mono ?_); rintro x' w2 ⟨rfl, hb2⟩; have HB2 := Lib.hid hb2; have HR2 := Lib.hid (HR.out.kept hb2); clear hb2)) | ((refine st_pat (by rfl) (.tmp 6) _ rfl rfl rfl HR2.out.2 ?_); intro w3 h3 g3; have H3 := Lib.hid h3; have G3 := Lib.hid g3; clear h3 g3))
  have e1 := HBE.out
  have e2 := HS.out
  have e4 := HB2.out.size
  exact bodyPost_ret (res_pe rfl rfl H3.out.1 rfl) rfl ⟨⟨none, 0, rfl, Nat.le_refl _, .inl rfl⟩, grown_at (stepB HB.out HB2.out) (by omega) (by omega) G3.out⟩
theorem ins_lay {l : List Pt.Cl} {C y M n : Nat} (hl : l.length = n) (hM : y * C = M) (hn : M + C ≤ n) : lay (lay l (M + C) ((l.drop M).take (n - M - C))) M (List.replicate C Pt.zc) = Pt.insL l C y := by
  have hm : ((l.drop M).take (n - M - C)).length = n - M - C := by rw [List.length_take, List.length_drop]; omega
  have h1 : (lay l (M + C) ((l.drop M).take (n - M - C))).length = n := by rw [lay_len (by rw [hm]; omega)]; exact hl
  refine Pt.eq_mk (by rw [lay_len (by rw [h1, List.length_replicate]; omega), h1, hl]) fun k hk => ?_
  rw [lay_at (by rw [h1, List.length_replicate]; omega), lay_at (by rw [hm]; omega), List.length_replicate, hm]
  rw [hl] at hk
  have hz : ∀ j, Pt.at' (List.replicate C Pt.zc) j = Pt.zc := fun j => by
    simp only [Pt.at', List.getD_eq_getElem?_getD, List.getElem?_replicate]
    split <;> rfl
  rw [hM]
  by_cases c1 : k < M
  · rw [if_neg (by omega), if_neg (by omega), if_pos c1]
  · rw [if_neg c1]
    by_cases c2 : k < M + C
    · rw [if_pos (by omega), if_pos c2, hz]
    · rw [if_neg (by omega), if_neg c2, if_pos (by omega)]
      simp only [Pt.at', List.getD_eq_getElem?_getD, List.getElem?_take, List.getElem?_drop]
      rw [if_pos (by omega), show M + (k - (M + C)) = k - C by omega]
set_option maxRecDepth 100000 in
set_option maxHeartbeats 3200000 in
theorem p_Insert_ok (R C y : Nat) (l : List Pt.Cl) (b0 off cap : Nat) (w : World) (hb0 : b0 < w.heap.size) (hr0 : w.rangeAt b0 off (cc l)) (hcap : l.length ≤ cap) (he : Pt.ePlace R l C y 0 = 0) (g3 : R ≤ 64) (g4 : C ≤ 16) (g1 : 1 ≤ C) (hy : y < R) (hl : l.length = R * C) :
    Calls Tryz.prog 21 #[PV R (some ⟨b0, off, none⟩) l.length cap, .int .i64 C, .int .i64 y] w fun e w' => RetPE R (Pt.insL l C y) 0 w.heap.size e w' ∧ Below w.heap.size w w' := by
  obtain ⟨W, hW, hB, hs, hp, hr⟩ := two_new' w R (.slice (some ⟨b0, off, none⟩) l.length cap)
  have HB := Lib.hid hB
  have HP := Lib.hid hp
  have HR := Lib.hid hr
  have HS := Lib.hid hs
  have hd : CellsAt w (some ⟨b0, off, none⟩) l := .inr ⟨b0, off, rfl, hb0, hr0⟩
  have HD := Lib.hid (show b0 < w.heap.size ∧ w.rangeAt b0 off (cc l) from ⟨hb0, hr0⟩)
  have hn : l.length ≤ 1024 := by rw [hl]; exact Pt.rc_bound g3 g4
  have C2 := Lib.hid (p_askPlace R l (some ⟨b0, off, none⟩) cap C y 0 W (hd.below hB))
  have C3 := Lib.hid (fun u (hu : Below W.heap.size W u) => p_clone R l (some ⟨b0, off, none⟩) cap u ((hd.below hB).below hu) (by omega))
  rw [he] at C2
  obtain ⟨b, hb⟩ : ∃ b, b = w.heap.size := ⟨_, rfl⟩
  rw [← hb] at HP HR HS
  have HBE := Lib.hid hb
  obtain ⟨M, hM⟩ : ∃ M, y * C = M := ⟨_, rfl⟩
  have hM' : (y : Int) * (C : Int) = (M : Int) := by rw [← hM, Int.natCast_mul]
  obtain ⟨n, hnn⟩ : ∃ n, l.length = n := ⟨_, rfl⟩
  have hMn : M + C ≤ n := by
    have := Nat.mul_le_mul_right C (show y + 1 ≤ R by omega)
    rw [Nat.add_mul, Nat.one_mul, hM] at this
    rw [← hnn, hl]
    exact this
  have HN := Lib.hid (show l.length = n ∧ y * C = M ∧ M + C ≤ n ∧ n ≤ 1024 ∧ n ≤ cap ∧ 1 ≤ C from ⟨hnn, hM, hMn, by omega, by omega, g1⟩)
  unfold RetP at C3
  simp only [hnn] at C3
  rw [hnn] at hW HP C2 hn hcap ⊢
  have m1 : (M : Int) ≤ 1024 := by omega
  have m3 : (n : Int) ≤ 1024 := by omega
  have m4 : (M : Int) ≤ (n : Int) := by omega
  have m5 : (C : Int) ≤ ((n - M : Nat) : Int) := by omega
  have m6 : (0 : Int) ≤ (C : Int) := by omega
  have m7 : ¬ cap = M := by omega
  have m8 : C ≤ n - M := by omega
  have HP0 := Lib.hid (show ∀ u : World, Pb (u.alloc (.cells #[.int .i64 0, .slice none 0 0] 24)) u.heap.size 0 (.slice none 0 0) from fun u => pb_box _ _ _ _)
  unfold PV at C2 C3 ⊢
  clear hd he g3 g4 hl hB hs hp hr hM hn hnn hb0 hr0 hMn g1 hy hcap
  go_enter Tryz.func21, Tryz.ntmps21
  go_upto_region 1 with fail
  rw [← hW, ← hb]
  clear hW hb
  go_upto_region 5 with (first | (refine ld_pat (by rfl) (.tmp 3) rfl rfl HP.out.1 ?_) | (go_at_call 35; ((with_reducible refine (C2.out).mono ?_); rintro x' w2 ⟨rfl, hb2⟩; have HB2 := Lib.hid hb2; have HP2 := Lib.hid (HP.out.kept hb2); clear hb2)) | (refine ld_pat (by rfl) (.tmp 3) rfl rfl HP2.out.1 ?_) | (go_at_call 46; ((with_reducible refine (C3.out _ HB2.out).mono ?_); rintro x' w3 ⟨⟨q, cp, rfl, hcp, ho⟩, hb3⟩; have HB3 := Lib.hid hb3; have HCP := Lib.hid hcp; have HO := Lib.hid ho; clear hb3 hcp ho)) | ((refine st_pat (by rfl) (.tmp 9) _ rfl rfl rfl (HP0.out w3).2 ?_); intro w4 h4 g4; have H4 := Lib.hid h4; have G4 := Lib.hid g4; clear h4 g4))
  obtain ⟨b9, hb9⟩ : ∃ b9, b9 = w3.heap.size := ⟨_, rfl⟩
  rw [← hb9] at H4 G4 ⊢
  obtain ⟨g, hq, hg, hk⟩ : ∃ g, q = some ⟨g, 0, none⟩ ∧ w2.heap.size ≤ g ∧ Kr w3 g l := by
    rcases HO.out with h | h
    · have := HN.out
      rw [h] at this
      simp at this
      omega
    · exact h
  subst hq
  have HK4 := Lib.hid (show Kr w4 g l from (hk.kept (below_box _ _)).grown G4.out (by have := hk.1; omega))
  have HZ := Lib.hid (show b + 2 = W.heap.size ∧ w.heap.size = b ∧ W.heap.size ≤ w2.heap.size ∧ w2.heap.size ≤ g ∧ g < b9 ∧ b9 = w3.heap.size ∧ w2.heap.size ≤ w3.heap.size by
    have e1 := HBE.out
    have e2 := HS.out
    have e3 := HB2.out.size
    have e4 := HB3.out.size
    have e5 := hk.1
    omega)
  have HBW4 := Lib.hid (show Below W.heap.size W w4 from grown_at (stepB (stepB HB2.out HB3.out) (below_box _ _)) (by have := HZ.out; omega) (by have := HZ.out; simp; omega) G4.out)
  clear hb9 hg hk
  have ⟨k0, k1, _, _⟩ := H4.out.cells
  obtain ⟨j0, j1⟩ := two_cells HP.out HBW4.out
  have hcp := HCP.out
  have m9 : ¬ cp = M := by have := HN.out; omega
  have mA : M ≤ cp := by have := HN.out; omega
  have mB : C ≤ cp - M := by have := HN.out; omega
  clear hcp
  go_upto_region 6 with fail
  have HSR := Lib.hid (show w4.drew.rangeAt b0 (off + M * 6) (cc ((l.drop M).take (n - M - C))) from by
    have h1 := rng_sub (range_below HD.out.2 (stepB HB.out HBW4.out) HD.out.1) M (n - M - C) (by have := HN.out; omega)
    exact fun j v hv => h1 j v hv)
  have HML := Lib.hid (show ((l.drop M).take (n - M - C)).length = n - M - C by rw [List.length_take, List.length_drop]; have := HN.out; omega)
  by_cases hz : cp - M = C
  · obtain ⟨w5, h5⟩ : ∃ w5, w5 = w4.drew.setCells g (M * 6) (cc []) := ⟨_, rfl⟩
    have hcc := run_copy_cells w4.drew 3 g (M * 6) (n - M - C) 0 (some ⟨g, M * 6, none⟩) (some ⟨b0, off + M * 6, none⟩) (n - M) (cap - M) [] (by rw [show n - M - C = 0 by have := HN.out; have := HCP.out; omega]; simp) (fun h => absurd h (by simp))
    rw [← h5] at hcc
    have H5 := Lib.hid h5
    clear h5
    go_region
    have HK5 := Lib.hid (show Kr w5 g (lay l (M + C) ((l.drop M).take (n - M - C))) by
      rw [H5.out, show n - M - C = 0 by have := HN.out; have := HCP.out; omega, List.take_zero]
      have e : lay l (M + C) [] = l := by simp [lay]
      rw [e]
      exact HK4.out.kept (Below.refl _ _).drew)
    have HG5 := Lib.hid (show w4.grownBy w5 (some g) by rw [H5.out]; exact grownBy_trans (grown_drew' (grownBy_refl w4 (some g))) (grown_setCells _ _ _ _))
    clear j0 j1 k0 k1 hcc
    have HL5 := Lib.hid (show (lay l (M + C) ((l.drop M).take (n - M - C))).length = n by
      have h := HN.out
      rw [lay_len (by rw [List.length_take, List.length_drop]; omega)]
      exact h.1)
    have hcl := run_clear_cells w5 3 g (M * 6) C (cp - M) (HK5.out.there (by rw [HL5.out]; exact HN.out.2.2.1))
    have hcl0 : ∀ ty, (Builtin.clear_ #[22] ty #[.slice (some ⟨g, M * 6, none⟩) C (cp - M)]).run Tryz.prog w5 = .ok (.tuple #[]) (w5.setCells g (M * 6) (cc (List.replicate C Pt.zc))) := fun ty => run_clear_cells w5 ty g (M * 6) C (cp - M) (HK5.out.there (by rw [HL5.out]; exact HN.out.2.2.1))
    clear hcl
    obtain ⟨w6, h6⟩ : ∃ w6, w6 = w5.setCells g (M * 6) (cc (List.replicate C Pt.zc)) := ⟨_, rfl⟩
    rw [← h6] at hcl0
    have HK6 := Lib.hid (show Kr w6 g (lay (lay l (M + C) ((l.drop M).take (n - M - C))) M (List.replicate C Pt.zc)) by rw [h6]; exact HK5.out.lay (by rw [HL5.out, List.length_replicate]; exact HN.out.2.2.1))
    have HG6 := Lib.hid (show w5.grownBy w6 (some g) by rw [h6]; exact grown_setCells _ _ _ _)
    have H46 := Lib.hid ((H4.out.grown HG5.out (by have := HZ.out; omega)).grown HG6.out (by have := HZ.out; omega))
    have HR6 := Lib.hid (((HR.out.kept HBW4.out).grown HG5.out (by have := HZ.out; omega)).grown HG6.out (by have := HZ.out; omega))
    clear h6
    rw [hz] at hcl0
    go_wp2_with (first | (refine ld_pat (by rfl) (.tmp 9) rfl rfl H46.out.1 ?_) | ((refine st_pat (by rfl) (.tmp 6) _ rfl rfl rfl HR6.out.2 ?_); intro w7 h7 g7; have H7 := Lib.hid h7; have G7 := Lib.hid g7; clear h7 g7))
    have hz := HZ.out
    have e6 := HBW4.out.size
    have e7 := HG5.out.size
    have e8 := HG6.out.size
    have hK := HK6.out
    rw [ins_lay HN.out.1 HN.out.2.1 HN.out.2.2.1] at hK
    have hil : (Pt.insL l C y).length = n := by rw [← HN.out.1]; exact Pt.mk_len _ _
    refine bodyPost_ret (res_pe rfl rfl H7.out.1 rfl) rfl ⟨⟨some ⟨g, 0, none⟩, cp, ?_, by rw [hil]; exact HCP.out, .inr ⟨g, rfl, by omega, hK.grown G7.out (by omega)⟩⟩, grown_at (grown_at (grown_at (stepB HB.out HBW4.out) (by omega) (by omega) HG5.out) (by omega) (by omega) HG6.out) (by omega) (by omega) G7.out⟩
    rw [hil]
    rfl
  · obtain ⟨w5, h5⟩ : ∃ w5, w5 = w4.drew.setCells g (M * 6 + C * 6) (cc ((l.drop M).take (n - M - C))) := ⟨_, rfl⟩
    have hcc := run_copy_cells w4.drew 3 g (M * 6 + C * 6) (n - M - C) (cp - M - C) (some ⟨g, M * 6 + C * 6, none⟩) (some ⟨b0, off + M * 6, none⟩) (n - M) (cap - M) ((l.drop M).take (n - M - C)) (by rw [HML.out]; exact (Nat.min_eq_right (by omega)).symm) (fun _ => ⟨rfl, by
      have h := (show Kr w4.drew g l from HK4.out.kept (Below.refl _ _).drew).there (i := M + C) (n := n - M - C) (by have := HN.out; omega)
      rw [HML.out]
      rwa [Nat.add_mul] at h, b0, off + M * 6, rfl, HSR.out⟩)
    rw [← h5, HML.out] at hcc
    have H5 := Lib.hid h5
    clear h5
    go_region
    have HK5 := Lib.hid (show Kr w5 g (lay l (M + C) ((l.drop M).take (n - M - C))) by
      rw [H5.out]
      have h := (show Kr w4.drew g l from HK4.out.kept (Below.refl _ _).drew).lay (i := M + C) (m := (l.drop M).take (n - M - C)) (by rw [List.length_take, List.length_drop]; have := HN.out; omega)
      rwa [Nat.add_mul] at h)
    have HG5 := Lib.hid (show w4.grownBy w5 (some g) by rw [H5.out]; exact grownBy_trans (grown_drew' (grownBy_refl w4 (some g))) (grown_setCells _ _ _ _))
    clear j0 j1 k0 k1 hcc
    have HL5 := Lib.hid (show (lay l (M + C) ((l.drop M).take (n - M - C))).length = n by
      have h := HN.out
      rw [lay_len (by rw [List.length_take, List.length_drop]; omega)]
      exact h.1)
    have hcl := run_clear_cells w5 3 g (M * 6) C (cp - M) (HK5.out.there (by rw [HL5.out]; exact HN.out.2.2.1))
    have hcl0 : ∀ ty, (Builtin.clear_ #[22] ty #[.slice (some ⟨g, M * 6, none⟩) C (cp - M)]).run Tryz.prog w5 = .ok (.tuple #[]) (w5.setCells g (M * 6) (cc (List.replicate C Pt.zc))) := fun ty => run_clear_cells w5 ty g (M * 6) C (cp - M) (HK5.out.there (by rw [HL5.out]; exact HN.out.2.2.1))
    clear hcl
    obtain ⟨w6, h6⟩ : ∃ w6, w6 = w5.setCells g (M * 6) (cc (List.replicate C Pt.zc)) := ⟨_, rfl⟩
    rw [← h6] at hcl0
    have HK6 := Lib.hid (show Kr w6 g (lay (lay l (M + C) ((l.drop M).take (n - M - C))) M (List.replicate C Pt.zc)) by rw [h6]; exact HK5.out.lay (by rw [HL5.out, List.length_replicate]; exact HN.out.2.2.1))
    have HG6 := Lib.hid (show w5.grownBy w6 (some g) by rw [h6]; exact grown_setCells _ _ _ _)
    have H46 := Lib.hid ((H4.out.grown HG5.out (by have := HZ.out; omega)).grown HG6.out (by have := HZ.out; omega))
    have HR6 := Lib.hid (((HR.out.kept HBW4.out).grown HG5.out (by have := HZ.out; omega)).grown HG6.out (by have := HZ.out; omega))
    clear h6
    go_wp2_with (first | (refine ld_pat (by rfl) (.tmp 9) rfl rfl H46.out.1 ?_) | ((refine st_pat (by rfl) (.tmp 6) _ rfl rfl rfl HR6.out.2 ?_); intro w7 h7 g7; have H7 := Lib.hid h7; have G7 := Lib.hid g7; clear h7 g7))
    have hz := HZ.out
    have e6 := HBW4.out.size
    have e7 := HG5.out.size
    have e8 := HG6.out.size
    have hK := HK6.out
    rw [ins_lay HN.out.1 HN.out.2.1 HN.out.2.2.1] at hK
    have hil : (Pt.insL l C y).length = n := by rw [← HN.out.1]; exact Pt.mk_len _ _
    refine bodyPost_ret (res_pe rfl rfl H7.out.1 rfl) rfl ⟨⟨some ⟨g, 0, none⟩, cp, ?_, by rw [hil]; exact HCP.out, .inr ⟨g, rfl, by omega, hK.grown G7.out (by omega)⟩⟩, grown_at (grown_at (grown_at (stepB HB.out HBW4.out) (by omega) (by omega) HG5.out) (by omega) (by omega) HG6.out) (by omega) (by omega) G7.out⟩
    rw [hil]
    rfl
theorem p_Insert (r : Int) (l : List Pt.Cl) (p : Option Addr) (cap : Nat) (ch row : Int) (w : World) (hd : CellsAt w p l) (hcap : l.length ≤ cap) :
    Calls Tryz.prog 21 #[PV r p l.length cap, .int .i64 ch, .int .i64 row] w fun x w' => RetPE (Pt.okI (Pt.ePlace r l ch row 0) r) (Pt.okL (Pt.ePlace r l ch row 0) (Pt.insL l ch.toNat row.toNat)) (Pt.ePlace r l ch row 0) w.heap.size x w' ∧ Below w.heap.size w w' := by
  by_cases h : Pt.ePlace r l ch row 0 = 0
  · rw [h]
    obtain ⟨R, C, y, x, rfl, rfl, rfl, hx, g1, g2, g3, g4, g5, g6, g7, g8⟩ := place_nx h
    have h1 : 1 ≤ C := by omega
    have h2 : Pt.ePlace R l C y 0 = 0 := h
    rcases hd with rfl | ⟨b1, o1, rfl, hb1, hr1⟩
    · simp at g6
    · exact p_Insert_ok R C y l b1 o1 cap w hb1 hr1 hcap h2 g3 g4 h1 g1 g5
  · have e1 : Pt.okI (Pt.ePlace r l ch row 0) r = 0 := if_neg h
    have e2 : Pt.okL (Pt.ePlace r l ch row 0) (Pt.insL l ch.toNat row.toNat) = [] := if_neg h
    rw [e1, e2]
    exact p_Insert_bad r l p cap ch row w hd rfl h
end Go.Proofs.YtfjfnbeegojlbaaGreat

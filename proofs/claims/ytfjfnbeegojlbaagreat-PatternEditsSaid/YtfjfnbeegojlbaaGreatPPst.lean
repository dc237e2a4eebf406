/-
  Package pattern's Paste.
-/
import Derived.Test.YtfjfnbeegojlbaaGreatGf
import Derived.Test.YtfjfnbeegojlbaaGreatPTran
import Derived.Lib.MinMax
import Derived.Deep.RegionLaw
namespace Go.Proofs.YtfjfnbeegojlbaaGreat
open Go.RowKit

section
variable {ops : Array Oper} {o : Oper} {a : Act} {w : World} {Q : Exit → Act → World → Prop} {K : Act → World → Prop} {E : Prop}
/-- A cell is read whole, as one step of a region. -/
theorem step_ld_cell (hgd : o.guard = none) (x : Operand) (ho : o.op = .load 28 x) {b f : Nat} (hx : a.eval x = .pointer (some ⟨b, f, none⟩)) {c : Pt.Cl} (hr : w.rangeAt b f (CL c)) (h : K (a.put o.dst (.agg (CL c).toArray)) w) :
    if Region.wanted o (yielded ops a.tmps) = true then Oper.wp Tryz.prog o a w K Q else E := by
  have hw : Region.wanted o (yielded ops a.tmps) = true := by simp [Region.wanted, hgd]
  rw [if_pos hw]
  exact wp_load_mid 28 x ho b f hx (CL c) _ hr Tryz.underlying28 rfl (info_cl c) h
/-- A cell is stored whole, as one step of a region. -/
theorem step_st_cell (hgd : o.guard = none) (x y : Operand) (ho : o.op = .store 28 x y) {b f : Nat} (hx : a.eval x = .pointer (some ⟨b, f, none⟩)) {c : Pt.Cl} (hy : a.eval y = .agg (CL c).toArray) (ht : w.there b f 6) (h : ∀ w', w' = w.setCells b f (CL c) → K (a.put o.dst undef) w') :
    if Region.wanted o (yielded ops a.tmps) = true then Oper.wp Tryz.prog o a w K Q else E := by
  have hw : Region.wanted o (yielded ops a.tmps) = true := by simp [Region.wanted, hgd]
  rw [if_pos hw]
  exact wp_store_mid 28 x y ho b f (CL c).toArray hx hy ht ((info_cl c).trans (by simp)) (cl_one c) (h _ rfl)
end
theorem below_of_drew {w w' : World} (h : Below w.drew.heap.size w.drew w') : Below w.heap.size w w' := ⟨h.os, h.tape, h.output, h.size, h.block⟩
/-- A function's first blocks: two patterns, its result. -/
theorem pats_new (w : World) (r : Int) (v : Value) (r' : Int) (v' : Value) : ∃ W, W = ((w.alloc (.cells #[.int .i64 r, v] 24)).alloc (.cells #[.int .i64 r', v'] 24)).alloc (.cells #[.int .i64 0, .slice none 0 0] 24) ∧
    Below w.heap.size w W ∧ W.heap.size = w.heap.size + 3 ∧ Pb W w.heap.size r v ∧ Pb W (w.heap.size + 1) r' v' ∧ Pb W (w.heap.size + 2) 0 (.slice none 0 0) := by
  refine ⟨_, rfl, stepB (stepB (below_box _ _) (below_box _ _)) (below_box _ _), by simp, ((pb_box w r v _).kept (below_box _ _)).kept (below_box _ _), ?_, ?_⟩
  · have := (pb_box (w.alloc (.cells #[.int .i64 r, v] 24)) r' v' 24).kept (below_box _ (.cells #[.int .i64 0, .slice none 0 0] 24))
    simpa using this
  · have := pb_box ((w.alloc (.cells #[.int .i64 r, v] 24)).alloc (.cells #[.int .i64 r', v'] 24)) 0 (.slice none 0 0) 24
    simpa using this
theorem four {W : World} {b : Nat} {r : Int} {v : Value} {r' : Int} {v' : Value} (hp : Pb W b r v) (hq : Pb W (b + 1) r' v') {w' : World} (hb : Below W.heap.size W w') :
    w'.cell? ⟨b, 0, none⟩ = some (.int .i64 r) ∧ w'.cell? ⟨b, 1, none⟩ = some v ∧ w'.cell? ⟨b + 1, 0, none⟩ = some (.int .i64 r') ∧ w'.cell? ⟨b + 1, 1, none⟩ = some v' :=
  ⟨kept_cell hb (hp.1 0 _ rfl), kept_cell hb (hp.1 1 _ rfl), kept_cell hb (hq.1 0 _ rfl), kept_cell hb (hq.1 1 _ rfl)⟩
set_option maxHeartbeats 1600000 in
theorem p_Paste_bad (r : Int) (l : List Pt.Cl) (p : Option Addr) (cap : Nat) (ch : Int) (br : Int) (bl : List Pt.Cl) (bp : Option Addr) (bc : Nat) (wd row c : Int) (mx : Bool) (w : World) (hd : CellsAt w p l) (hd2 : CellsAt w bp bl) {e : Int} (he : Pt.ePaste r l ch br bl wd row c = e) (h0 : e ≠ 0) :
    Calls Tryz.prog 17 #[PV r p l.length cap, .int .i64 ch, PV br bp bl.length bc, .int .i64 wd, .int .i64 row, .int .i64 c, .bool mx] w fun x w' => RetPE 0 [] e w.heap.size x w' ∧ Below w.heap.size w w' := by
  obtain ⟨W, hW, hB, hs, hp, ha, hr⟩ := pats_new w r (.slice p l.length cap) br (.slice bp bl.length bc)
  have HB := Lib.hid hB
  have C1 := Lib.hid (p_Valid br bl bp bc wd W (hd2.below hB))
  have C2 := Lib.hid (fun u (hu : Below W.heap.size W u) => p_askPlace r l p cap ch row c u ((hd.below hB).below hu))
  have HR := Lib.hid hr
  have HP := Lib.hid hp
  have HA := Lib.hid ha
  unfold PV at C1 C2 ⊢
  obtain ⟨b, hb⟩ : ∃ b, b = w.heap.size := ⟨_, rfl⟩
  rw [← hb] at hp ha hs HR HP HA
  have HS := Lib.hid hs
  have HBE := Lib.hid hb
  obtain ⟨k0, k1, a0, a1⟩ := four hp ha (Below.refl _ W)
  unfold Pt.ePaste at he
  cases hv : Pt.vpat br bl wd with
  | false =>
    rw [hv] at C1 he
    obtain rfl : e = 1 := he.symm
    clear hd hd2 hp ha hr h0 he hB hs hv
    go_enter Tryz.func17, Tryz.ntmps17
    go_upto_region 1 with fail
    rw [← hW, ← hb]
    clear hW hb
    go_wp2_with (first | (go_at_call 9; ((with_reducible refine (C1.out).mono ?_); rintro x' w1 ⟨rfl, hb1⟩; have HB1 := Lib.hid hb1; clear hb1)) | ((refine st_pat (by rfl) _ _ rfl rfl rfl (HR.out.kept HB1.out).2 ?_); intro w2 h2 g2; have H2 := Lib.hid h2; have G2 := Lib.hid g2; clear h2 g2))
    have e1 := HBE.out
    have e2 := HS.out
    have e3 := HB1.out.size
    exact bodyPost_ret (res_pe rfl rfl H2.out.1 rfl) rfl ⟨⟨none, 0, rfl, Nat.le_refl _, .inl rfl⟩, grown_at (stepB HB.out HB1.out) (by omega) (by omega) G2.out⟩
  | true =>
    rw [hv] at C1 he
    rw [if_pos rfl] at he
    rw [he] at C2
    have hne : (e != 0) = true := by simpa using h0
    clear hd hd2 hp ha hr h0 he hB hs hv
    go_enter Tryz.func17, Tryz.ntmps17
    go_upto_region 1 with fail
    rw [← hW, ← hb]
    clear hW hb
    go_wp2_with (first | (go_at_call 9; ((with_reducible refine (C1.out).mono ?_); rintro x' w1 ⟨rfl, hb1⟩; have HB1 := Lib.hid hb1; clear hb1 k0 k1 a0 a1; obtain ⟨k0, k1, a0, a1⟩ := four HP.out HA.out HB1.out)) | (go_at_call 35; ((with_reducible refine (C2.out _ HB1.out).mono ?_); rintro x' w2 ⟨rfl, hb2⟩; have HB2 := Lib.hid (stepB HB1.out hb2); clear hb2)) | ((refine st_pat (by rfl) _ _ rfl rfl rfl (HR.out.kept HB2.out).2 ?_); intro w2 h2 g2; have H2 := Lib.hid h2; have G2 := Lib.hid g2; clear h2 g2))
    have e1 := HBE.out
    have e2 := HS.out
    have e3 := HB2.out.size
    exact bodyPost_ret (res_pe rfl rfl H2.out.1 rfl) rfl ⟨⟨none, 0, rfl, Nat.le_refl _, .inl rfl⟩, grown_at (stepB HB.out HB2.out) (by omega) (by omega) G2.out⟩
/-- What a cell of the area becomes. -/
def pstF (l : List Pt.Cl) (C : Nat) (bl : List Pt.Cl) (BW y0 x0 : Nat) (m : Bool) (j : Nat) : Pt.Cl := Pt.mixIf m (Pt.at' l j) (Pt.at' bl ((j / C - y0) * BW + (j % C - x0)))
theorem pst_done {l : List Pt.Cl} {C : Nat} {bl : List Pt.Cl} {R BR BW y0 x0 ah aw : Nat} {m : Bool} {L : List Pt.Cl} (h1 : 1 ≤ C) (hl : l.length = R * C) (ha : ah = min BR (R - y0)) (hw : aw = min BW (C - x0)) (h : Up l C y0 x0 aw (pstF l C bl BW y0 x0 m) ah 0 L) : L = Pt.pasteL l C bl BR BW y0 x0 m := by
  rw [up_done h h1 hl]
  refine Pt.eq_mk (Pt.mk_len _ _) fun k hk => ?_
  rw [Pt.mk_at _ _ hk]
  have a1 : k % C < C := Nat.mod_lt _ h1
  have a2 : k / C < R := Nat.div_lt_of_lt_mul (by rw [Nat.mul_comm, ← hl]; exact hk)
  by_cases c : y0 ≤ k / C ∧ k / C < y0 + ah ∧ x0 ≤ k % C ∧ k % C < x0 + aw
  · rw [if_pos c, if_pos (by omega)]
    rfl
  · rw [if_neg c, if_neg (by omega)]
theorem pst_at {l : List Pt.Cl} {C : Nat} {bl : List Pt.Cl} {BW y0 x0 k x : Nat} {m : Bool} (hx : x0 + x < C) {I : Nat} (hI : (y0 + k) * C + (x0 + x) = I) : pstF l C bl BW y0 x0 m I = Pt.mixIf m (Pt.at' l I) (Pt.at' bl (k * BW + x)) := by
  unfold pstF
  rw [← hI, Pt.rc_div hx, Pt.rc_mod hx, show y0 + k - y0 = k by omega, show x0 + x - x0 = x by omega]
set_option maxRecDepth 100000 in
set_option maxHeartbeats 6400000 in
theorem p_Paste_ok (R C y0 x0 BR BW : Nat) (l : List Pt.Cl) (p : Option Addr) (cap : Nat) (bl : List Pt.Cl) (bb bo bc : Nat) (mx : Bool) (w : World) (hd : CellsAt w p l) (hbb : bb < w.heap.size) (hbr : w.rangeAt bb bo (cc bl)) (hbc : bl.length ≤ bc) (hv : Pt.vpat BR bl BW = true) (he : Pt.ePlace R l C y0 x0 = 0) (g2 : R ≤ 64) (g4 : C ≤ 16) (hl : l.length = R * C) (h1 : y0 < R) (h2 : x0 < C) (g6 : 1 ≤ BR) (g7 : BR ≤ 64) (g8 : 1 ≤ BW) (g9 : BW ≤ 16) (hbl : bl.length = BR * BW) :
    Calls Tryz.prog 17 #[PV R p l.length cap, .int .i64 C, PV BR (some ⟨bb, bo, none⟩) bl.length bc, .int .i64 BW, .int .i64 y0, .int .i64 x0, .bool mx] w fun x w' => RetPE R (Pt.pasteL l C bl BR BW y0 x0 mx) 0 w.heap.size x w' ∧ Below w.heap.size w w' := by
  obtain ⟨W, hW, hB, hs, hp, ha, hr⟩ := pats_new w R (.slice p l.length cap) BR (.slice (some ⟨bb, bo, none⟩) bl.length bc)
  have C1 := Lib.hid (p_Valid BR bl (some ⟨bb, bo, none⟩) bc BW W (.inr ⟨bb, bo, rfl, Nat.lt_of_lt_of_le hbb hB.size, range_below hbr hB hbb⟩))
  have C2 := Lib.hid (fun u (hu : Below W.heap.size W u) => p_askPlace R l p cap C y0 x0 u ((hd.below hB).below hu))
  rw [hv] at C1
  rw [he] at C2
  have hn1 : R * C ≤ 1024 := Pt.rc_bound g2 g4
  have hn2 : BR * BW ≤ 1024 := Pt.rc_bound g7 g9
  have C3 := Lib.hid (fun u (hu : Below W.heap.size W u) => p_clone R l p cap u ((hd.below hB).below hu) (by rw [hl]; omega))
  have CM := Lib.hid (fun o c u => p_mixed o c u)
  have hpos : 0 < l.length := by
    rw [hl]
    exact Nat.mul_pos (by omega) (by omega)
  obtain ⟨ah, hah⟩ : ∃ ah, ah = min BR (R - y0) := ⟨_, rfl⟩
  obtain ⟨aw, haw⟩ : ∃ aw, aw = min BW (C - x0) := ⟨_, rfl⟩
  have m1 : min (BR : Int) ((R : Int) - (y0 : Int)) = (ah : Int) := by omega
  have m2 : min (BW : Int) ((C : Int) - (x0 : Int)) = (aw : Int) := by omega
  have HB := Lib.hid hB
  have HR := Lib.hid hr
  have HP := Lib.hid hp
  have HA := Lib.hid ha
  have HS := Lib.hid hs
  have HBB := Lib.hid (show bb < w.heap.size ∧ W.rangeAt bb bo (cc bl) from ⟨hbb, range_below hbr hB hbb⟩)
  obtain ⟨n, hn⟩ : ∃ n, l.length = n := ⟨_, rfl⟩
  obtain ⟨nb, hnb⟩ : ∃ nb, bl.length = nb := ⟨_, rfl⟩
  unfold PV at C1 C2 C3 ⊢
  obtain ⟨b, hb⟩ : ∃ b, b = w.heap.size := ⟨_, rfl⟩
  rw [← hb] at hp ha HR HP HA HS HBB
  have HBE := Lib.hid hb
  obtain ⟨k0, k1, a0, a1⟩ := four hp ha (Below.refl _ W)
  have HN := Lib.hid hn
  have HL := Lib.hid hl
  have HNB := Lib.hid (show bl.length = nb ∧ nb = BR * BW ∧ BR * BW ≤ 1024 from ⟨hnb, by rw [← hnb, hbl], hn2⟩)
  rw [hn] at C2 C3 HP k1 hpos hW ⊢
  rw [hnb] at C1 HA a1 hW hbc ⊢
  have HPOS := Lib.hid hpos
  have HA1 := Lib.hid hah
  have HA2 := Lib.hid haw
  have HMB := Lib.hid (show R ≤ 64 ∧ C ≤ 16 ∧ R * C ≤ 1024 ∧ 1 ≤ ah ∧ y0 + ah ≤ R ∧ 1 ≤ aw ∧ x0 + aw ≤ C ∧ ah ≤ BR ∧ aw ≤ BW from ⟨g2, g4, hn1, by omega, by omega, by omega, by omega, by omega, by omega⟩)
  have i1 : (y0 : Int) ≤ 64 := by omega
  have i2 : (x0 : Int) ≤ 64 := by omega
  have i3 : (R : Int) ≤ 64 := by omega
  have i4 : (C : Int) ≤ 16 := by omega
  have i5 : (BR : Int) ≤ 64 := by omega
  have i6 : (BW : Int) ≤ 16 := by omega
  have i7 : (ah : Int) ≤ 64 := by omega
  have i8 : (aw : Int) ≤ 16 := by omega
  clear hd hp ha hr he hB hs hn hl hv hbr hbb hnb hbl hn1 hn2 hpos g2 g4 g6 g7 g8 g9 hah haw h1 h2
  go_enter Tryz.func17, Tryz.ntmps17
  go_upto_region 1 with fail
  rw [← hW, ← hb]
  clear hW hb
  go_upto_region 7 with (first | (go_at_call 9; ((with_reducible refine (C1.out).mono ?_); rintro x' w1 ⟨rfl, hb1⟩; have HB1 := Lib.hid hb1; clear hb1 k0 k1 a0 a1; obtain ⟨k0, k1, a0, a1⟩ := four HP.out HA.out HB1.out)) | (go_at_call 35; ((with_reducible refine (C2.out _ HB1.out).mono ?_); rintro x' w2 ⟨rfl, hb2⟩; have HB2 := Lib.hid (stepB HB1.out hb2); clear hb2 k0 k1 a0 a1; obtain ⟨k0, k1, a0, a1⟩ := four HP.out HA.out HB2.out)) | (go_at_call 46; ((with_reducible refine (C3.out _ HB2.out).mono ?_); rintro x' w3 ⟨⟨q, cap2, rfl, hc2, ho2⟩, hb3⟩; unfold PV; rw [HN.out] at hc2 ⊢; have HB3 := Lib.hid (stepB HB2.out hb3); have HO2 := Lib.hid ho2; have HC2 := Lib.hid hc2; clear hb3 ho2 hc2 k0 k1 a0 a1)) | ((refine st_pat (by rfl) _ _ rfl rfl rfl (pb_box _ _ _ _).2 ?_); intro w4 h4' g4; have H4 := Lib.hid h4'; have G4 := Lib.hid g4; have HB4 := Lib.hid (grown_at (stepB HB3.out (below_box _ (.cells #[.int .i64 0, .slice none 0 0] 24))) HB3.out.size (by simp; exact Nat.le_succ_of_le HB3.out.size) g4); clear h4' g4; obtain ⟨k0, k1, a0, a1⟩ := four HP.out HA.out HB4.out))
  obtain ⟨g, rfl, hg1, hg2⟩ := own_some HO2.out (by rw [HN.out]; exact HPOS.out)
  obtain ⟨b9, hb9⟩ : ∃ b9, b9 = w3.heap.size := ⟨_, rfl⟩
  have hK4 : Kr w4 g l := ((hg2.kept (below_box _ _)).grown G4.out (by have := hg2.1; omega))
  have HGE := Lib.hid (show W.heap.size ≤ g ∧ g < b9 ∧ b9 < w4.heap.size from ⟨Nat.le_trans HB2.out.size hg1, by rw [hb9]; exact hg2.1, by rw [hb9]; exact H4.out.lt⟩)
  rw [← hb9] at H4 ⊢
  have HK4 := Lib.hid hK4
  obtain ⟨V, hV⟩ : ∃ V, V = w4.alloc (.cells #[.int .i64 (y0 : Int), .int .i64 (x0 : Int), .int .i64 (ah : Int), .int .i64 (aw : Int)] 26) := ⟨_, rfl⟩
  obtain ⟨b10, hb10⟩ : ∃ b10, b10 = w4.heap.size := ⟨_, rfl⟩
  have hBV : Below w4.heap.size w4 V := by rw [hV]; exact below_box _ _
  have hAV : V.rangeAt b10 0 [.int .i64 (y0 : Int), .int .i64 (x0 : Int), .int .i64 (ah : Int), .int .i64 (aw : Int)] := by rw [hV, hb10]; exact range_box w4 [_, _, _, _] _
  have HAV := Lib.hid hAV
  have HBV := Lib.hid (stepB HB4.out hBV)
  have H9V := Lib.hid (H4.out.kept hBV)
  have HKV := Lib.hid (HK4.out.kept hBV)
  have HQV := Lib.hid (HA.out.kept HBV.out)
  have HRV := Lib.hid (HR.out.kept HBV.out)
  have HDV := Lib.hid (show bb < b ∧ V.rangeAt bb bo (cc bl) from ⟨HBB.out.1, range_below HBB.out.2 HBV.out (by have := HS.out; have := HBB.out.1; omega)⟩)
  have HGV := Lib.hid (show b9 < b10 ∧ b10 < V.heap.size ∧ b10 = w4.heap.size from ⟨by have := HGE.out; omega, cell_lt (hAV 0 _ rfl), hb10⟩)
  clear hg1 hg2 hb9 hK4 HO2 hBV hAV
  go_wp2
  rw [← hV, ← hb10]
  clear hV hb10 k0 k1 a0 a1 m1 m2
  go_loopw [56] (fun i wr => ∃ k : Nat, k ≤ ah ∧ i = .int .i64 k ∧ Hid (V.grownBy wr (some g)) ∧ Hid (∃ L, Up l C y0 x0 aw (pstF l C bl BW y0 x0 mx) k 0 L ∧ Kr wr g L)) (fun i _ => ah - (intOf i).toNat)
  case atStart => exact ⟨0, by omega, rfl, grownBy_refl _ _, _, up_start _ _ _ _ _ _, HKV.out⟩
  case round =>
    obtain ⟨k, hk, rfl, HG, HL'⟩ := hrel
    obtain ⟨e1, e2, e3⟩ := HGE.out
    obtain ⟨e5, e6, e7⟩ := HGV.out
    have e4 := HS.out
    by_cases hlt : k < ah
    · obtain ⟨L, hL, hKL⟩ := HL'.out
      obtain ⟨f1, f2, f3, f4, f5, f6, f7, f8, f9⟩ := HMB.out
      have hAw := range_grown HAV.out HG.out (show b10 ≠ g by omega) e6
      have h9w := H9V.out.grown HG.out (show b9 ≠ g by omega)
      have hQw := HQV.out.grown HG.out (show b + 1 ≠ g by omega)
      have hDw := range_grown HDV.out.2 HG.out (show bb ≠ g by have := HDV.out.1; omega) (by have := HDV.out.1; omega)
      obtain ⟨M, hM⟩ : ∃ M, (y0 + k) * C = M := ⟨_, rfl⟩
      obtain ⟨F, hF⟩ : ∃ F, M + x0 = F := ⟨_, rfl⟩
      obtain ⟨S, hS⟩ : ∃ S, k * BW = S := ⟨_, rfl⟩
      have hFn : F + aw ≤ n := by
        have := Nat.mul_le_mul_right C (show y0 + k + 1 ≤ R by omega)
        rw [Nat.add_mul, Nat.one_mul, hM] at this
        rw [← HN.out, HL.out]
        omega
      have hSn : S + aw ≤ nb := by
        have := Nat.mul_le_mul_right BW (show k + 1 ≤ BR by omega)
        rw [Nat.add_mul, Nat.one_mul, hS] at this
        rw [HNB.out.2.1]
        omega
      have D1 := Lib.hid (fun u => p_line y0 x0 aw k C F M ah R g 0 n cap2 u hM hF (by omega) f6 hFn HC2.out (by rw [← HN.out, HL.out]; exact f3))
      simp only [Nat.zero_add] at D1
      have HF := Lib.hid (show (y0 + k) * C = M ∧ M + x0 = F ∧ k * BW = S ∧ F + aw ≤ n ∧ S + aw ≤ nb from ⟨hM, hF, hS, hFn, hSn⟩)
      have hS' : (k : Int) * (BW : Int) = (S : Int) := by rw [← hS, Int.natCast_mul]
      have hnb : nb ≤ 1024 := by rw [HNB.out.2.1]; exact HNB.out.2.2
      have j0 : IntKind.i64.wrap (S : Int) = (S : Int) := by rw [IntKind.wrap_i64]; omega
      have j1 : (0 : Int) ≤ (S : Int) := by omega
      have j2 : (S : Int) ≤ (nb : Int) := by omega
      have j3 : ¬ bc = S := by omega
      have j4 : (aw : Int) ≤ ((bc - S : Nat) : Int) := by omega
      have j5 : (0 : Int) ≤ (aw : Int) := by omega
      have j6 : aw ≤ bc - S := by omega
      have j7 : ¬ bc - S = 0 := by omega
      have HUL := Lib.hid hL
      have HKL := Lib.hid hKL
      have a0 := hAw 0 _ rfl
      have a1 := hAw 1 _ rfl
      have a2 := hAw 2 _ rfl
      have a3 := hAw 3 _ rfl
      have HW9 := Lib.hid h9w
      have HWA := Lib.hid hAw
      have HWQ := Lib.hid hQw
      have HWD := Lib.hid hDw
      have HSZ := Lib.hid (show b10 < wr.heap.size ∧ bb < wr.heap.size ∧ b + 1 < wr.heap.size by have := HG.out.size; have := HDV.out.1; omega)
      clear e1 e2 e3 e4 e5 e6 e7 f1 f2 f3 f4 f5 f6 f7 f8 f9 hM hF hS hFn hSn hKL hL hAw h9w hQw hDw hnb
      go_upto_region 12 with (first | (refine ld_pat (by rfl) _ rfl rfl HW9.out.1 ?_) | (go_at_call 49; ((with_reducible refine (D1.out _).mono ?_); rintro x' w5 ⟨rfl, hb5⟩; have HB5 := Lib.hid hb5; clear hb5 a0 a1 a2 a3; have a3 := range_below HWA.out HB5.out HSZ.out.1 3 _ rfl; have q1 := kept_cell HB5.out (HWQ.out.1 1 _ rfl))))
      go_quiet (fail)
      go_wp2
      obtain ⟨z5, hz5⟩ : ∃ z5, z5 = w5.drewN nq := ⟨_, rfl⟩
      have HBZ := Lib.hid (show Below wr.heap.size wr z5 by rw [hz5]; exact below_drewN' HB5.out nq)
      rw [← hz5]
      clear hz5 q1 a3
      go_loopw [74] (fun i u => ∃ x : Nat, x ≤ aw ∧ i = .int .i64 x ∧ Hid (wr.grownBy u (some g)) ∧ Hid (∃ L, Up l C y0 x0 aw (pstF l C bl BW y0 x0 mx) k x L ∧ Kr u g L)) (fun i _ => aw - (intOf i).toNat)
      case atStart => exact ⟨0, by omega, rfl, grownBy_of HBZ.out, _, HUL.out, HKL.out.kept HBZ.out⟩
      case round =>
        obtain ⟨x, hx, rfl, HGu, HLu⟩ := hrel
        by_cases hlx : x < aw
        · obtain ⟨Lu, hLu, hKu⟩ := HLu.out
          obtain ⟨f1, f2, f3, f4, f5⟩ := HF.out
          obtain ⟨-, -, -, -, -, -, d7, -, -⟩ := HMB.out
          have hI : (y0 + k) * C + (x0 + x) = F + x := by rw [f1]; omega
          have hIl : F + x < l.length := by rw [HN.out]; omega
          have hnow := up_now hLu hlx d7 hI hIl
          have hrow := hKu.one (i := F + x) (by rw [hLu.1]; exact hIl)
          have hth := hKu.th (i := F + x) (by rw [hLu.1]; exact hIl)
          rw [hnow, Nat.add_mul] at hrow
          rw [Nat.add_mul] at hth
          have hbc := rng_of (range_grown HWD.out HGu.out (show bb ≠ g by have := HDV.out.1; have := HGE.out.1; have := HS.out; omega) HSZ.out.2.1) (i := S + x) (by rw [HNB.out.1]; omega)
          rw [Nat.add_mul, ← Nat.add_assoc] at hbc
          have hat := pst_at (l := l) (bl := bl) (BW := BW) (m := mx) (show x0 + x < C by omega) hI
          rw [f3] at hat
          have HUS := Lib.hid (up_step hLu hlx d7 hI hIl)
          rw [hat] at HUS
          obtain ⟨c0, hc0⟩ : ∃ c0, Pt.at' bl (S + x) = c0 := ⟨_, rfl⟩
          obtain ⟨o0, ho0⟩ : ∃ o0, Pt.at' l (F + x) = o0 := ⟨_, rfl⟩
          rw [hc0] at hbc HUS
          rw [ho0] at hrow HUS
          have HNX := Lib.hid (fun (u' : World) (hu : Below wr.heap.size wr u') (cx : Pt.Cl) => show Kr (u'.setCells g (F * 6 + x * 6) (CL cx)) g (Lu.set (F + x) cx) by
            have := (hKu.kept hu).setCl (i := F + x) (by rw [hLu.1]; exact hIl) cx
            rwa [Nat.add_mul] at this)
          have hgl : g < wr.heap.size := hKu.1
          have HTH := Lib.hid (fun (u' : World) (hu : Below wr.heap.size wr u') => there_below hth hu hgl)
          have HRO := Lib.hid (fun (u' : World) (hu : Below wr.heap.size wr u') => range_below hrow hu hgl)
          have HBC := Lib.hid hbc
          have hlx' : (x : Int) < (aw : Int) := by omega
          have HLX := Lib.hid hlx
          have HGL := Lib.hid hgl
          clear f1 f2 f3 f4 f5 d7 hI hIl hnow hrow hth hbc hat hKu hLu hc0 ho0 hgl hlx
          obtain ⟨bx, hbx⟩ : ∃ bx, bx = wr.heap.size := ⟨_, rfl⟩
          have HX := Lib.hid (show ∀ u', u' = (wr.alloc (.cells (CL Pt.zc).toArray 28)).setCells bx 0 (CL c0) → Below wr.heap.size wr u' ∧ u'.rangeAt bx 0 (CL c0) ∧ u'.there bx 0 6 ∧ bx < u'.heap.size by
            rintro u' rfl
            have ht := there_box wr (CL Pt.zc) 28
            rw [← hbx] at ht
            have hr := World.rangeAt_setCells_same _ bx 0 (CL c0) ht
            exact ⟨grown_at (below_box _ _) (Nat.le_of_eq hbx.symm) (by simp) (grown_setCells _ _ _ _), hr, World.there_setCells ht bx 0 _, cell_lt (hr 0 _ rfl)⟩)
          have HTB := Lib.hid (show (wr.alloc (.cells (CL Pt.zc).toArray 28)).there bx 0 6 by rw [hbx]; exact there_box wr (CL Pt.zc) _)
          rw [cl_zc] at HX HTB
          go_upto_region 15 with (first | (refine ld_cell (by rfl) _ rfl rfl HBC.out ?_) | ((refine st_cell (by rfl) _ _ rfl rfl rfl (by rw [← hbx]; exact HTB.out) ?_); intro w6 h6; rw [← hbx] at h6; obtain ⟨hb6, hr6, ht6, hl6⟩ := HX.out _ h6; have HB6 := Lib.hid hb6; have HR6 := Lib.hid hr6; have HT6 := Lib.hid ht6; have HL6 := Lib.hid hl6; clear h6 hb6 hr6 ht6 hl6))
          rw [← hbx]
          have HBX := Lib.hid hbx
          clear hbx
          cases mx with
          | false =>
            go_wp2_with (first | (refine ld_cell (by rfl) _ rfl rfl HR6.out ?_) | ((refine st_cell (by rfl) _ _ rfl rfl rfl (HTH.out _ HB6.out) ?_); intro w7 h7; have H7 := Lib.hid h7; clear h7))
            go_roundw
            case rel => exact ⟨x + 1, HLX.out, by go_num, by rw [H7.out]; exact grownBy_trans HGu.out (grownBy_trans (grownBy_of HB6.out) (grown_setCells _ _ _ _)), _, HUS.out, by rw [H7.out]; exact HNX.out _ HB6.out _⟩
            case measure => simp [intOf]; have := HLX.out; omega
          | true =>
            go_wp2
            obtain ⟨cm, hcm⟩ : ∃ cm, Pt.mixed o0 c0 = cm := ⟨_, rfl⟩
            have CM1 := Lib.hid (fun u => CM.out o0 c0 u)
            rw [hcm] at CM1
            rw [cl_arr o0, cl_arr c0, cl_arr cm] at CM1
            have HCM := Lib.hid hcm
            clear hcm
            have hrg := HRO.out _ HB6.out.drew
            have hrx : w6.drew.rangeAt bx 0 (CL c0) := HR6.out
            obtain ⟨g0, g1, g2, g3, g4, g5⟩ := rng_cells hrg
            obtain ⟨x0', x1', x2', x3', x4', x5'⟩ := rng_cells hrx
            simp only [Nat.zero_add] at x1' x2' x3' x4' x5'
            clear hrg hrx
            go_region_law (first | (go_simp; go_at_call 51; (with_reducible refine (CM1.out _).mono ?_); rintro x' w7 ⟨rfl, hb7⟩; have HB7 := Lib.hid (below_of_drew hb7); clear hb7; obtain ⟨y0', y1', y2', y3', y4', y5'⟩ := rng_cells (range_below HR6.out HB7.out HL6.out); simp only [Nat.zero_add] at y1' y2' y3' y4' y5'; have ht7 := there_below HT6.out HB7.out HL6.out; have z0' := (ht7 0 (by decide)).2; have z1' := (ht7 1 (by decide)).2; have z2' := (ht7 2 (by decide)).2; have z3' := (ht7 3 (by decide)).2; have z4' := (ht7 4 (by decide)).2; have z5' := (ht7 5 (by decide)).2; simp only [Nat.zero_add] at z0' z1' z2' z3' z4' z5'; have HT7 := Lib.hid ht7; clear ht7))
            all_goals
              obtain ⟨w8, h8⟩ : ∃ w8, w8 = w7.setCells bx 0 (CL cm) := ⟨_, rfl⟩
              change Exit.then _ _ _ _ (w7.setCells bx 0 (CL cm))
              have hr8 := World.rangeAt_setCells_same w7 bx 0 (CL cm) HT7.out
              have hb8 : Below wr.heap.size wr w8 := by
                rw [h8]
                exact grown_at (stepB HB6.out HB7.out) (Nat.le_of_eq HBX.out.symm) (stepB HB6.out HB7.out).size (grown_setCells _ _ _ _)
              rw [← h8] at hr8 ⊢
              have HR8 := Lib.hid hr8
              have HB8 := Lib.hid hb8
              clear h8 hr8 hb8 g0 g1 g2 g3 g4 g5 x0' x1' x2' x3' x4' x5' y0' y1' y2' y3' y4' y5' z0' z1' z2' z3' z4' z5'
              go_wp2_with (first | (refine ld_cell (by rfl) _ rfl rfl HR8.out ?_) | ((refine st_cell (by rfl) _ _ rfl rfl rfl (HTH.out _ HB8.out) ?_); intro w9 h9; have H9 := Lib.hid h9; clear h9))
              go_roundw
              case rel =>
                refine ⟨x + 1, HLX.out, by go_num, by rw [H9.out]; exact grownBy_trans HGu.out (grownBy_trans (grownBy_of HB8.out) (grown_setCells _ _ _ _)), _, HUS.out, ?_⟩
                rw [H9.out, ← HCM.out]
                exact HNX.out _ HB8.out _
              case measure => simp [intOf]; have := HLX.out; omega
        · obtain rfl : x = aw := by omega
          go_wp2
          go_roundw
          case rel =>
            obtain ⟨Lu, hLu, hKu⟩ := HLu.out
            exact ⟨k + 1, by omega, by go_num, grownBy_trans HG.out HGu.out, _, up_row hLu, hKu⟩
          case measure => simp [intOf]; omega
    · obtain ⟨L, hL, hKL⟩ := HL'.out
      obtain rfl : k = ah := by omega
      have HH9 := Lib.hid (H9V.out.grown HG.out (show b9 ≠ g by omega))
      have HRw := Lib.hid (HRV.out.grown HG.out (show b + 2 ≠ g by omega))
      have HKL := Lib.hid hKL
      have HLL := Lib.hid hL
      clear e1 e2 e3 e4 e5 e6 e7 hL hKL
      go_wp2_with (first | (refine ld_pat (by rfl) _ rfl rfl HH9.out.1 ?_) | ((refine st_pat (by rfl) _ _ rfl rfl rfl HRw.out.2 ?_); intro w5 h5 g5; have H5 := Lib.hid h5; have G5 := Lib.hid g5; clear h5 g5))
      obtain ⟨e1, e2, e3⟩ := HGE.out
      have e4 := HS.out
      have e5 := HBE.out
      have e6 := HG.out.size
      have e7 := HBV.out.size
      have hfin : L = Pt.pasteL l C bl BR BW y0 x0 mx := pst_done (by have := HMB.out; omega) HL.out HA1.out HA2.out HLL.out
      refine bodyPost_ret (res_pe rfl rfl H5.out.1 rfl) rfl ⟨⟨_, cap2, ?_, ?_, .inr ⟨g, rfl, ?_, ?_⟩⟩, ?_⟩
      · rw [← hfin, HLL.out.1, HN.out]
        rfl
      · rw [← hfin, HLL.out.1, HN.out]
        exact HC2.out
      · omega
      · rw [← hfin]
        exact HKL.out.grown G5.out (by omega)
      · refine grown_at (grown_at (stepB HB.out HBV.out) (by omega) ?_ HG.out) (by omega) (by omega) G5.out
        omega
theorem place_nat {r : Int} {l : List Pt.Cl} {ch row c : Int} (h : Pt.ePlace r l ch row c = 0) : ∃ R C y x : Nat, r = R ∧ ch = C ∧ row = y ∧ c = x ∧ 1 ≤ R ∧ R ≤ 64 ∧ 1 ≤ C ∧ C ≤ 16 ∧ l.length = R * C ∧ y < R ∧ x < C ∧ Pt.all l = true := by
  unfold Pt.ePlace at h
  cases h1 : Pt.vpat r l ch with
  | false => rw [h1] at h; simp at h
  | true =>
    rw [h1, if_pos rfl] at h
    cases h2 : Pt.plc row r && Pt.plc c ch with
    | false => rw [h2] at h; simp at h
    | true =>
      obtain ⟨R, C, rfl, rfl, g1, g2, g3, g4, g5, g6⟩ := Pt.vpat_nat h1
      simp only [Pt.plc, Bool.and_eq_true, decide_eq_true_eq] at h2
      obtain ⟨⟨b1, b2⟩, b3, b4⟩ := h2
      exact ⟨R, C, row.toNat, c.toNat, rfl, rfl, by omega, by omega, g1, g2, g3, g4, g5, by omega, by omega, g6⟩
theorem p_Paste (r : Int) (l : List Pt.Cl) (p : Option Addr) (cap : Nat) (ch : Int) (br : Int) (bl : List Pt.Cl) (bp : Option Addr) (bc : Nat) (wd row c : Int) (mx : Bool) (w : World) (hd : CellsAt w p l) (hd2 : CellsAt w bp bl) (hbc : bl.length ≤ bc) :
    Calls Tryz.prog 17 #[PV r p l.length cap, .int .i64 ch, PV br bp bl.length bc, .int .i64 wd, .int .i64 row, .int .i64 c, .bool mx] w fun x w' => RetPE (Pt.okI (Pt.ePaste r l ch br bl wd row c) r) (Pt.okL (Pt.ePaste r l ch br bl wd row c) (Pt.pasteL l ch.toNat bl br.toNat wd.toNat row.toNat c.toNat mx)) (Pt.ePaste r l ch br bl wd row c) w.heap.size x w' ∧ Below w.heap.size w w' := by
  by_cases h : Pt.ePaste r l ch br bl wd row c = 0
  · have h1 : Pt.vpat br bl wd = true ∧ Pt.ePlace r l ch row c = 0 := by
      unfold Pt.ePaste at h
      cases e : Pt.vpat br bl wd with
      | false => rw [e] at h; simp at h
      | true => rw [e, if_pos rfl] at h; exact ⟨rfl, h⟩
    obtain ⟨R, C, y, x, rfl, rfl, rfl, rfl, g1, g2, g3, g4, g5, g6, g7, -⟩ := place_nat h1.2
    obtain ⟨BR, BW, rfl, rfl, f1, f2, f3, f4, f5, -⟩ := Pt.vpat_nat h1.1
    have hpos := Nat.mul_pos (show 0 < BR by omega) (show 0 < BW by omega)
    rcases hd2 with rfl | ⟨bb, bo, rfl, hbb, hbr⟩
    · simp at f5; omega
    rw [h]
    exact p_Paste_ok R C y x BR BW l p cap bl bb bo bc mx w hd hbb hbr hbc h1.1 h1.2 g2 g4 g5 g6 g7 f1 f2 f3 f4 f5
  · have e1 : Pt.okI (Pt.ePaste r l ch br bl wd row c) r = 0 := if_neg h
    have e2 : Pt.okL (Pt.ePaste r l ch br bl wd row c) (Pt.pasteL l ch.toNat bl br.toNat wd.toNat row.toNat c.toNat mx) = [] := if_neg h
    rw [e1, e2]
    exact p_Paste_bad r l p cap ch br bl bp bc wd row c mx w hd hd2 rfl h
end Go.Proofs.YtfjfnbeegojlbaaGreat

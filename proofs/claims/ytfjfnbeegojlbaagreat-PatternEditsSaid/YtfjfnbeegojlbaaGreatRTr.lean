/-
  The reference's Transpose.
-/
import Derived.Test.YtfjfnbeegojlbaaGreatGj
import Derived.Test.YtfjfnbeegojlbaaGreatPTran
namespace Go.Proofs.YtfjfnbeegojlbaaGreat
open Go.RowKit

theorem set_same {L : List Pt.Cl} {i : Nat} {c : Pt.Cl} (h : i < L.length) (hc : Pt.at' L i = c) : L.set i c = L := by
  refine Pt.ext_at (by rw [List.length_set]) fun k hk => ?_
  rw [Pt.at_set L i c h]
  by_cases e : k = i
  · rw [if_pos e, e, hc]
  · rw [if_neg e]
theorem tr_ways (n s : Int) : (¬ 1 ≤ n ∧ Pt.trn n s = n) ∨ (1 ≤ n ∧ ¬ n ≤ 120 ∧ Pt.trn n s = n) ∨ ((1 ≤ n ∧ n ≤ 120) ∧ ¬ 1 ≤ n + s ∧ Pt.trn n s = n) ∨ ((1 ≤ n ∧ n ≤ 120) ∧ 1 ≤ n + s ∧ ¬ n + s ≤ 120 ∧ Pt.trn n s = n) ∨ ((1 ≤ n ∧ n ≤ 120) ∧ 1 ≤ n + s ∧ n + s ≤ 120 ∧ Pt.trn n s = n + s) := by
  have hp : ∀ n, Pt.pitched n = true ↔ 1 ≤ n ∧ n ≤ 120 := fun n => Pt.wth_iff
  unfold Pt.trn
  by_cases h : Pt.pitched n && Pt.pitched (n + s)
  · rw [if_pos h]
    rw [Bool.and_eq_true, hp, hp] at h
    omega
  · rw [if_neg h]
    rw [Bool.and_eq_true, hp, hp] at h
    omega
theorem vcl_nt {c : Pt.Cl} (h : Pt.vcl c = true) : 0 ≤ c.nt ∧ c.nt ≤ 255 := by
  unfold Pt.vcl at h
  rw [Bool.and_eq_true] at h
  have := of_decide_eq_true (show decide (c.nt = 0 ∨ c.nt = 253 ∨ c.nt = 254 ∨ c.nt = 255 ∨ (1 ≤ c.nt ∧ c.nt ≤ 120)) = true from h.1)
  omega
set_option maxRecDepth 100000 in
set_option maxHeartbeats 6400000 in
theorem r_Tran_ok (R C ar ac ah aw : Nat) (l : List Pt.Cl) (p : Option Addr) (cap : Nat) (s : Int) (w : World) (hd : CellsAt w p l) (h1 : Pt.vpat R l C = true) (h2 : Pt.awi ⟨ar, ac, ah, aw⟩ R C = true) (s1 : -119 ≤ s) (s2 : s ≤ 119) (g2 : R ≤ 64) (g4 : C ≤ 16) (hl : l.length = R * C) (q1 : 1 ≤ ah) (q2 : ar + ah ≤ R) (q3 : 1 ≤ aw) (q4 : ac + aw ≤ C) (hall : Pt.all l = true) :
    Calls Tryz.prog 20 #[PV R p l.length cap, .int .i64 C, AV ⟨ar, ac, ah, aw⟩, .int .i64 s] w fun x w' => RetPE R (Pt.tranL l C ar ac ah aw s) 0 w.heap.size x w' ∧ Below w.heap.size w w' := by
  have hpos : 0 < l.length := by rw [hl]; exact Nat.mul_pos (by omega) (by omega)
  have HC := Lib.hid (show 1 ≤ ah ∧ ar + ah ≤ R ∧ 1 ≤ aw ∧ ac + aw ≤ C from ⟨q1, q2, q3, q4⟩)
  have HAL := Lib.hid hall
  have d1 : decide (s < -119) = false := decide_eq_false (by omega)
  have d2 : decide (119 < s) = false := decide_eq_false (by omega)
  have m1 : (ar : Int) ≤ 64 := by omega
  have m2 : (ah : Int) ≤ 64 := by omega
  have m3 : (ac : Int) ≤ 16 := by omega
  have m4 : (aw : Int) ≤ 16 := by omega
  have m5 : (C : Int) ≤ 16 := by omega
  clear q1 q2 q3 q4 hall
  obtain ⟨W, hW, hB, hs, hp, ha, hr⟩ := three_newr w R (.slice p l.length cap) ⟨ar, ac, ah, aw⟩
  have HB := Lib.hid hB
  have HP := Lib.hid hp
  have HR := Lib.hid hr
  have HS := Lib.hid hs
  have CV := Lib.hid (fun u (hu : Below W.heap.size W u) => r_Valid R l p cap C u ((hd.below hB).below hu))
  rw [h1] at CV
  have hn1 : l.length ≤ 1024 := by rw [hl]; exact Pt.rc_bound g2 g4
  have CL1 := Lib.hid (fun u => r_lies_v (vv := .slice p l.length cap) h1 h2 u)
  unfold AV at CL1
  dsimp only at CL1
  have C3 := Lib.hid (fun u (hu : Below W.heap.size W u) => r_copied R l p cap u ((hd.below hB).below hu) hn1)
  obtain ⟨n, hnn⟩ : ∃ n, l.length = n := ⟨_, rfl⟩
  unfold RetO at C3
  simp only [hnn] at C3
  obtain ⟨b, hb⟩ : ∃ b, b = w.heap.size := ⟨_, rfl⟩
  rw [← hb] at hp ha HP HR HS
  have HA := Lib.hid ha
  have HBE := Lib.hid hb
  have HBc := Lib.hid (Below.refl W.heap.size W)
  dsimp only at ha HA hW
  unfold PV at CV C3 ⊢
  unfold AV
  have HN := Lib.hid (show l.length = n ∧ l.length = R * C ∧ n ≤ 1024 ∧ R ≤ 64 ∧ C ≤ 16 ∧ 0 < n from ⟨hnn, hl, by rw [← hnn]; exact hn1, g2, g4, by rw [← hnn]; exact hpos⟩)
  rw [hnn] at hW HP CV CL1 hp ⊢
  obtain ⟨k0, k1, a0, a1, a2, a3⟩ := six hp ha (Below.refl _ W)
  clear hd hB hs hp ha hr h1 hl hn1 hnn hpos g2 g4 h2
  go_enter Tryz.func20, Tryz.ntmps20
  go_upto_region 1 with fail
  rw [← hW, ← hb]
  clear hW hb
  go_upto_region 6 with (first | (refine ld_pat (by rfl) (.tmp 4) rfl rfl (HP.out.kept HBc.out).1 ?_) | (go_at_call 10; ((with_reducible refine (CV.out _ HBc.out).mono ?_); rintro x' w1 ⟨rfl, hb1⟩; have HBn := Lib.hid (stepB HBc.out hb1); clear HBc k0 k1 a0 a1 a2 a3 hb1; have HBc := HBn; clear HBn; obtain ⟨k0, k1, a0, a1, a2, a3⟩ := six HP.out HA.out HBc.out)) | (go_at_call 50; ((with_reducible refine (CL1.out _).mono ?_); rintro x' w1 ⟨rfl, hb1⟩; have HBn := Lib.hid (stepB HBc.out hb1); clear HBc k0 k1 a0 a1 a2 a3 hb1; have HBc := HBn; clear HBn; obtain ⟨k0, k1, a0, a1, a2, a3⟩ := six HP.out HA.out HBc.out)) | (go_at_call 47; ((with_reducible refine (C3.out _ HBc.out).mono ?_); rintro x' w3 ⟨⟨q, cp, rfl, hcp, ho, hoc⟩, hb3⟩; have HO := Lib.hid ho; have HOC := Lib.hid hoc; have HCP := Lib.hid hcp; have HB2 := HBc; have HBn := Lib.hid (stepB HBc.out hb3); clear HBc k0 k1 a0 a1 a2 a3 hb3 ho hoc hcp; have HBc := HBn; clear HBn; have HPx := Lib.hid (HP.out.kept HBc.out))) | ((refine st_pat (by rfl) (.tmp 10) _ rfl rfl rfl (pb_box _ _ _ _).2 ?_); intro w4 h4 g4; have H4 := Lib.hid h4; have G4 := Lib.hid g4; clear h4 g4))
  obtain ⟨g, rfl, hg, hk⟩ := own_some HO.out (by rw [HN.out.1]; exact HN.out.2.2.2.2.2)
  obtain ⟨b9, hb9⟩ : ∃ b9, b9 = w3.heap.size := ⟨_, rfl⟩
  have HK4 := Lib.hid (show Kr w4 g l from (hk.kept (below_box _ _)).grown G4.out (by have := hk.1; omega))
  have HB4 := Lib.hid (show Below W.heap.size W w4 from grown_at (stepB HBc.out (below_box _ (.cells #[.int .i64 0, .slice none 0 0] 24))) HBc.out.size (by simp; exact Nat.le_succ_of_le HBc.out.size) G4.out)
  have HGE := Lib.hid (show W.heap.size ≤ g ∧ g < b9 ∧ b9 < w4.heap.size ∧ b + 3 = W.heap.size ∧ w.heap.size = b ∧ W.heap.size ≤ w4.heap.size from ⟨Nat.le_trans HB2.out.size hg, by rw [hb9]; exact hk.1, by rw [hb9]; exact H4.out.lt, HS.out.symm, HBE.out.symm, HB4.out.size⟩)
  rw [← hb9] at H4 ⊢
  clear hg hk hb9 HO HOC
  have HU := Lib.hid (show ∀ u : World, w4.grownBy u (some g) → Pb u b9 R (.slice (some ⟨g, 0, none⟩) n cp) ∧ u.rangeAt (b + 1) 0 [.int .i64 (ar : Int), .int .i64 (ac : Int), .int .i64 (ah : Int), .int .i64 (aw : Int)] ∧ Pb u (b + 2) 0 (.slice none 0 0) from fun u hu => by
    obtain ⟨e1, e2, e3, e4, e5, e6⟩ := HGE.out
    exact ⟨H4.out.grown hu (by omega), range_grown (range_below HA.out HB4.out (by omega)) hu (by omega) (by omega), (HR.out.kept HB4.out).grown hu (by omega)⟩)
  have a0 := (HU.out _ (grownBy_refl _ _)).2.1 0 _ rfl
  go_wp2
  go_loopw [11, 12, 13, 14] (fun i _ _ _ wr => ∃ k : Nat, k ≤ ah ∧ i = .int .i64 ((ar : Int) + (k : Int)) ∧ Hid (w4.grownBy wr (some g)) ∧ Hid (∃ L, Up l C ar ac aw (fun j => Pt.trC (Pt.at' l j) s) k 0 L ∧ Kr wr g L)) (fun i _ _ _ _ => ar + ah - (intOf i).toNat)
  case atStart => exact ⟨0, by omega, by simp, grownBy_refl _ _, _, up_start _ _ _ _ _ _, HK4.out⟩
  case round =>
    obtain ⟨k, hk, rfl, HG, HL⟩ := hrel
    obtain ⟨h9, ha', hr'⟩ := HU.out _ HG.out
    clear a0
    have hk' : (k : Int) ≤ 64 := by omega
    have a0 := ha' 0 _ rfl
    have a2 := ha' 2 _ rfl
    by_cases hlt : k < ah
    · have a1 := ha' 1 _ rfl
      have HLT := Lib.hid hlt
      have hlt' : (k : Int) < (ah : Int) := by omega
      clear ha' h9 hr' hlt hk
      go_upto_region 10 with fail
      go_loopw [12, 13, 14] (fun i _ _ u => ∃ x : Nat, x ≤ aw ∧ i = .int .i64 ((ac : Int) + (x : Int)) ∧ Hid (w4.grownBy u (some g)) ∧ Hid (∃ L, Up l C ar ac aw (fun j => Pt.trC (Pt.at' l j) s) k x L ∧ Kr u g L)) (fun i _ _ _ => ac + aw - (intOf i).toNat)
      case atStart => exact ⟨0, by omega, by simp, HG.out, HL.out⟩
      case round =>
        obtain ⟨x, hx, rfl, HGu, HLu⟩ := hrel
        obtain ⟨h9, ha', hr'⟩ := HU.out _ HGu.out
        clear a0 a1 a2
        have a1 := ha' 1 _ rfl
        have a3 := ha' 3 _ rfl
        have hx' : (x : Int) ≤ 16 := by omega
        by_cases hlx : x < aw
        · have k1 := h9.1 1 _ rfl
          obtain ⟨L, hL, hK⟩ := HLu.out
          obtain ⟨f1, f2, f3, f4, f5, f6⟩ := HN.out
          obtain ⟨c1, c2, c3, c4⟩ := HC.out
          obtain ⟨M, hM⟩ : ∃ M, (ar + k) * C = M := ⟨_, rfl⟩
          obtain ⟨I, hI⟩ : ∃ I, M + (ac + x) = I := ⟨_, rfl⟩
          have hk2 := HLT.out
          have hIn : I < n := by
            have := Pt.rc_in (R := R) (C := C) (y := ar + k) (x := ac + x) (by omega) (by omega)
            rw [hM, hI] at this
            omega
          have hM' : ((ar : Int) + (k : Int)) * (C : Int) = (M : Int) := by rw [← hM, Int.natCast_mul, Int.natCast_add]
          have hI' : (M : Int) + ((ac : Int) + (x : Int)) = (I : Int) := by omega
          have i1 : (I : Int) < (n : Int) := by omega
          have i3 : (n : Int) ≤ 1024 := by omega
          have i5 : (M : Int) ≤ 1024 := by omega
          have hIl : I < l.length := by rw [f1]; exact hIn
          have hnow := up_now hL hlx c4 (by rw [hM]; exact hI) hIl
          have HUS := Lib.hid (up_step hL hlx c4 (by rw [hM]; exact hI) hIl)
          have hrow := hK.one (i := I) (by rw [hL.1]; exact hIl)
          have hth := hK.th (i := I) (by rw [hL.1]; exact hIl)
          rw [hnow] at hrow
          obtain ⟨q0, -⟩ := rng_cells hrow
          have z0 := (hth 0 (by decide)).2
          rw [Nat.add_zero] at z0
          obtain ⟨b1, b2⟩ := vcl_nt (Pt.all_at HAL.out hIl)
          have HNX := Lib.hid (show ∀ v, v = Pt.trn (Pt.at' l I).nt s → Kr (wr.setCell ⟨g, I * 6, none⟩ (.int .i64 v)) g (L.set I (Pt.trC (Pt.at' l I) s)) by
            rintro v rfl
            have := hK.setField (i := I) (j := 0) (c := Pt.trC (Pt.at' l I) s) (v := .int .i64 (Pt.trn (Pt.at' l I).nt s)) (by rw [hL.1]; exact hIl) (by decide) (by rw [hnow]; rfl)
            rwa [Nat.add_zero] at this)
          have HNS := Lib.hid (show Pt.trn (Pt.at' l I).nt s = (Pt.at' l I).nt → Kr wr g (L.set I (Pt.trC (Pt.at' l I) s)) from fun e => by
            rw [set_same (by rw [hL.1]; exact hIl) (by rw [hnow]; unfold Pt.trC; rw [e])]
            exact hK)
          have hlx' : (x : Int) < (aw : Int) := by omega
          have HLX := Lib.hid hlx
          generalize hnv : (Pt.at' l I).nt = nv at q0 HNX HNS b1 b2
          clear ha' h9 hr' f1 f2 f3 f4 f5 f6 c1 c2 c3 c4 hM hI hk2 hIn hIl hnow hrow hth hK hL hnv hlx hx
          rcases tr_ways nv s with ⟨t1, t5⟩ | ⟨t1, t2, t5⟩ | ⟨⟨t1, t2⟩, t3, t5⟩ | ⟨⟨t1, t2⟩, t3, t4, t5⟩ | ⟨⟨t1, t2⟩, t3, t4, t5⟩
          all_goals
            have HT5 := Lib.hid t5
            clear t5
            go_wp2
            go_roundw
            case rel =>
              first
                | exact ⟨x + 1, HLX.out, by go_num, HGu.out, _, HUS.out, HNS.out HT5.out⟩
                | exact ⟨x + 1, HLX.out, by go_num, grownBy_trans HGu.out (grown_set _ _ _ _), _, HUS.out, HNX.out _ HT5.out.symm⟩
            case measure => simp [intOf]; have := HLX.out; omega
        · obtain rfl : x = aw := by omega
          clear ha' h9 hr'
          go_wp2
          go_roundw
          case rel =>
            obtain ⟨L, hL, hK⟩ := HLu.out
            exact ⟨k + 1, HLT.out, by go_num, HGu.out, L, up_row hL, hK⟩
          case measure => simp [intOf]; have := HLT.out; omega
    · obtain rfl : k = ah := by omega
      obtain ⟨L, hL, hK⟩ := HL.out
      have HKL := Lib.hid hK
      have HLL := Lib.hid hL
      have HH9 := Lib.hid h9
      have HRw := Lib.hid hr'
      clear ha' h9 hr' hL hK
      go_wp2_with (first | (refine ld_pat (by rfl) (.tmp 10) rfl rfl HH9.out.1 ?_) | ((refine st_pat (by rfl) (.tmp 8) _ rfl rfl rfl HRw.out.2 ?_); intro w5 h5 g5; have H5 := Lib.hid h5; have G5 := Lib.hid g5; clear h5 g5))
      obtain ⟨e1, e2, e3, e4, e5, e6⟩ := HGE.out
      have e7 := HG.out.size
      have hfin : L = Pt.tranL l C ar ac k aw s := up_done HLL.out (by have := HC.out; omega) HN.out.2.1
      refine bodyPost_ret (res_pe rfl rfl H5.out.1 rfl) rfl ⟨⟨some ⟨g, 0, none⟩, cp, ?_, ?_, .inr ⟨g, rfl, ?_, ?_⟩⟩, ?_⟩
      · rw [← hfin, HLL.out.1, HN.out.1]; rfl
      · rw [← hfin, HLL.out.1, HN.out.1]; exact HCP.out
      · omega
      · rw [← hfin]; exact HKL.out.grown G5.out (by omega)
      · exact grown_at (grown_at (stepB HB.out HB4.out) (by omega) (by omega) HG.out) (by omega) (by omega) G5.out
theorem r_Tran (r : Int) (l : List Pt.Cl) (p : Option Addr) (cap : Nat) (ch : Int) (a : Pt.Ar) (s : Int) (w : World) (hd : CellsAt w p l) :
    Calls Tryz.prog 20 #[PV r p l.length cap, .int .i64 ch, AV a, .int .i64 s] w fun x w' => RetPE (Pt.okI (Pt.eTran r l ch a s) r) (Pt.okL (Pt.eTran r l ch a s) (Pt.tranL l ch.toNat a.r.toNat a.c.toNat a.h.toNat a.w.toNat s)) (Pt.eTran r l ch a s) w.heap.size x w' ∧ Below w.heap.size w w' := by
  by_cases h : Pt.eTran r l ch a s = 0
  · rw [h]
    have h0 : Pt.eArea r l ch a = 0 ∧ Pt.wth s (-119) 119 = true := by
      unfold Pt.eTran at h
      by_cases h1 : Pt.eArea r l ch a = 0
      · rw [if_pos h1] at h
        cases h2 : Pt.wth s (-119) 119 with
        | false => rw [h2] at h; simp at h
        | true => exact ⟨h1, rfl⟩
      · rw [if_neg h1] at h; exact absurd h h1
    have hv : Pt.vpat r l ch = true ∧ Pt.awi a r ch = true := by
      have h := h0.1
      unfold Pt.eArea at h
      cases h1 : Pt.vpat r l ch with
      | false => rw [h1] at h; simp at h
      | true =>
        cases h2 : Pt.awi a r ch with
        | false => rw [h1, h2] at h; simp at h
        | true => exact ⟨rfl, rfl⟩
    obtain ⟨s1, s2⟩ := Pt.wth_iff.1 h0.2
    obtain ⟨R, C, ar, ac, ah, aw, rfl, rfl, rfl, g2, g4, hl, h1, h2, h3, h4, h5⟩ := area_nat h0.1
    exact r_Tran_ok R C ar ac ah aw l p cap s w hd hv.1 hv.2 s1 s2 g2 g4 hl h1 h2 h3 h4 h5
  · have e1 : Pt.okI (Pt.eTran r l ch a s) r = 0 := if_neg h
    have e2 : Pt.okL (Pt.eTran r l ch a s) (Pt.tranL l ch.toNat a.r.toNat a.c.toNat a.h.toNat a.w.toNat s) = [] := if_neg h
    rw [e1, e2]
    exact r_Transpose_bad r l p cap ch a s w hd rfl h
end Go.Proofs.YtfjfnbeegojlbaaGreat

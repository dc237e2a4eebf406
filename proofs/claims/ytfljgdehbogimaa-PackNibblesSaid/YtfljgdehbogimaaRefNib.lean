/-
  The contract of the reference's Nibbles.
-/
import Derived.Test.YtfljgdehbogimaaPNib
import Derived.Test.YtfljgdehbogimaaPUnn
import Derived.Deep.DeepCutAuto
import Derived.Deep.CutBlock
import Derived.BigQuiet
import Derived.Deep.QuietTactic
namespace Go.Proofs.Ytfljgdehbogimaa
open Go.RowKit

theorem rwrap8 (x : Int) (w : World) (h1 : -1099511627776 ≤ x) (h2 : x ≤ 1099511627776) :
    Calls Try.prog 37 #[.int .i64 x, .int .i64 8] w fun e w' => e = .returned (.int .i64 (Pk.wrp 128 x)) ∧ w' = w := by
  have := rwrap x 8 w h1 h2 (by omega) (by omega)
  rw [show hlf 8 = 128 by decide] at this
  exact this.mono fun e w' ⟨h1, h2⟩ => ⟨h1, h2.symm⟩
theorem rnib_tbl (l t : List Int) (p pt : Option Addr) (cap capt : Nat) (w : World) (hd : DatAt w p l) (hdt : DatAt w pt t) (hi : ∀ x ∈ l, -9223372036854775808 ≤ x ∧ x ≤ 9223372036854775807) (hit : ∀ x ∈ t, -9223372036854775808 ≤ x ∧ x ≤ 9223372036854775807) (hl : (l.length : Int) ≤ 1152921504606846976) (hlt : (t.length : Int) ≤ 1152921504606846976) (h : nibE l t ≠ 0) :
    Calls Try.prog 21 #[.slice p l.length cap, .slice pt t.length capt] w fun e w' => e = .returned (.tuple #[.slice none 0 0, .int .i64 (nibE l t)]) ∧ w = w' := by
  have C1 := Lib.hid (rwhole l p cap 8 w hd hi hl)
  have C2 := Lib.hid (rtabled_any t pt capt w hdt hit hlt)
  have hw := show whl l 8 = 0 ∨ whl l 8 = 1 ∨ whl l 8 = 3 by
    unfold whl
    repeat' split
    all_goals omega
  cases ht : tbl t with
  | true =>
    have e : nibE l t = whl l 8 := by unfold nibE; rw [if_pos ht]
    rw [e] at h ⊢
    rw [ht] at C2
    rcases hw with hw | hw | hw
    · exact absurd hw h
    · rw [hw] at C1 ⊢
      clear h hd hdt hi hit hl hlt hw e ht
      go_enter Try.func21, Try.ntmps21
      go_wp2_with (first | (go_at_call 26; ((with_reducible refine C1.out.mono ?_); rintro x' w' ⟨rfl, rfl⟩)) | (go_at_call 51; ((with_reducible refine C2.out.mono ?_); rintro x' w' ⟨rfl, rfl⟩)))
      go_ret2
      exact ⟨rfl, rfl⟩
    · rw [hw] at C1 ⊢
      clear h hd hdt hi hit hl hlt hw e ht
      go_enter Try.func21, Try.ntmps21
      go_wp2_with (first | (go_at_call 26; ((with_reducible refine C1.out.mono ?_); rintro x' w' ⟨rfl, rfl⟩)) | (go_at_call 51; ((with_reducible refine C2.out.mono ?_); rintro x' w' ⟨rfl, rfl⟩)))
      go_ret2
      exact ⟨rfl, rfl⟩
  | false =>
    have e : nibE l t = 1 := by unfold nibE; rw [if_neg (by simp [ht])]
    rw [e]
    rw [ht] at C2
    rcases hw with hw | hw | hw
    all_goals
      rw [hw] at C1
      clear h hd hdt hi hit hl hlt hw e ht
      go_enter Try.func21, Try.ntmps21
      go_wp2_with (first | (go_at_call 26; ((with_reducible refine C1.out.mono ?_); rintro x' w' ⟨rfl, rfl⟩)) | (go_at_call 51; ((with_reducible refine C2.out.mono ?_); rintro x' w' ⟨rfl, rfl⟩)))
      go_ret2
      exact ⟨rfl, rfl⟩
set_option maxRecDepth 20000 in
set_option maxHeartbeats 4800000 in
theorem rnib_ok (l t : List Int) (p pt : Option Addr) (cap capt : Nat) (w : World) (hd : DatAt w p l) (hdt : DatAt w pt t) (hi : ∀ x ∈ l, -9223372036854775808 ≤ x ∧ x ≤ 9223372036854775807) (hit : ∀ x ∈ t, -9223372036854775808 ≤ x ∧ x ≤ 9223372036854775807) (hl : (l.length : Int) ≤ 1152921504606846976) (hlt : (t.length : Int) ≤ 1152921504606846976) (ht : tbl t = true) (h : whl l 8 = 0) :
    Calls Try.prog 21 #[.slice p l.length cap, .slice pt t.length capt] w fun e w' => (∃ u, e = .returned (.tuple #[u, .int .i64 0]) ∧ w'.ownsRow w.heap.size 5 1 u (Pk.nby (Pk.nib t 0 l) l.length).length ((Pk.nby (Pk.nib t 0 l) l.length).map (Value.int .u8))) ∧ Below w.heap.size w w' := by
  have C1 := Lib.hid (ht ▸ rtabled_any t pt capt w hdt hit hlt)
  have C2 := Lib.hid (h ▸ rwhole l p cap 8 w hd hi hl)
  obtain ⟨i0, hinf, hz0, hz1, hz2⟩ := info_parts Try.infoByte
  have hdl := whl_in8 h
  have h4 : (l.length : Int) ≤ 4096 := by have := (whl_zero h).2.2; omega
  obtain ⟨M, hM⟩ : ∃ M, (l.length + 1) / 2 = M := ⟨_, rfl⟩
  have hM1 : ((l.length : Int) + 1).tdiv 2 = (M : Int) := by rw [Int.tdiv_eq_ediv_of_nonneg (by omega)]; omega
  have hM2 : ((l.length : Int) + 1) / 2 = (M : Int) := by omega
  have hM3 : (M : Int) ≤ 2049 := by omega
  have HM := Lib.hid hM
  clear h hM hi hit
  have HJS := Lib.hid (Pk.nib_in t 0 l)
  have HJL := Lib.hid (Pk.nib_length t 0 l)
  have HAT := Lib.hid (fun k hk => nib_at t 0 l k hk)
  have HPI := Lib.hid (Pk.pth_in t 0 l)
  have HPL := Lib.hid (Pk.pth_length t 0 l)
  obtain ⟨js, hjs⟩ : ∃ js, Pk.nib t 0 l = js := ⟨_, rfl⟩
  obtain ⟨P, hP⟩ : ∃ P, Pk.pth t 0 l = P := ⟨_, rfl⟩
  rw [hjs] at HJS HJL ⊢
  simp only [hjs, hP] at HAT
  rw [hP] at HPI HPL
  have HST := Lib.hid (fun k hk => Pk.nby_step js (k := k) (by rw [HJL.out]; exact hk))
  have HSM := Lib.hid (fun k => Pk.nbyte_small HJS.out k)
  clear hjs hP
  have hvt := tbl_of ht
  have HT16 := Lib.hid hvt.1
  have HTI := Lib.hid hvt.2
  have HLI := Lib.hid hdl
  have ht16 := hvt.1
  rw [ht16] at C1
  rw [ht16]
  clear hvt ht hdl
  go_enter Try.func21, Try.ntmps21
  go_wp2_with (first | (go_at_call 51; ((with_reducible refine C1.out.mono ?_); rintro x' w' ⟨rfl, rfl⟩)) | (go_at_call 26; ((with_reducible refine C2.out.mono ?_); rintro x' w' ⟨rfl, rfl⟩)) | (at_make; refine wpList_make_full _ rfl _ _ 24 rfl w.heap.size 5 i0 (.int .u8 0) 1 Try.underlying24 hinf hz0 hz1 .i64 .i64 _ _ M rfl rfl rfl rfl (by rw [hz2]; omega) (by unfold maxLen; omega) (by simp) ?_; intro w3 hown3 hgrow3; have HOWN := Lib.hid hown3; have HB3 := Lib.hid (grown_below hgrow3); clear hown3 hgrow3))
  have HOW : Hid (w3.ownsRow w.heap.size 5 1 (.slice (some ⟨w.heap.size, 0, none⟩) M M) M ((Pk.nby js 0).map (Value.int .u8))) := by
    have e : (madeCells (Value.int .u8 0).cells (M * 1)).toList = (Pk.nby js 0).map (Value.int .u8) := by
      rw [Pk.nby_zero, HJL.out, HM.out, Nat.mul_one, List.map_replicate]
      exact toList_madeCells_one _ M
    have := HOWN.out
    rw [e] at this
    exact Lib.hid this
  obtain ⟨g, hge⟩ : ∃ g, g = w.heap.size := ⟨_, rfl⟩
  obtain ⟨B, hBe⟩ : ∃ B, B = w.heap.size := ⟨_, rfl⟩
  have HBE := Lib.hid hBe
  rw [← hBe] at HOW HB3
  rw [← hBe]
  have hgB : B ≤ g := by omega
  rw [show (Value.slice (some ⟨B, 0, none⟩) M M) = Value.slice (some ⟨g, 0, none⟩) M M by rw [hge, hBe]] at HOW
  rw [show (⟨B, 0, none⟩ : Addr) = ⟨g, 0, none⟩ by rw [hge, hBe]]
  have HD := Lib.hid (fun wr (hb : Below B w wr) => hd.below (hBe ▸ hb))
  have HDT := Lib.hid (fun wr (hb : Below B w wr) => hdt.below (hBe ▸ hb))
  clear hge hBe hd hdt HOWN C1 C2
  go_loopw [8, 9] (fun pv i wr => ∃ k : Nat, k ≤ l.length ∧ i = .int .i64 k ∧ pv = .int .i64 (prv P k) ∧ Hid (wr.ownsRow B 5 1 (.slice (some ⟨g, 0, none⟩) M M) M ((Pk.nby js k).map (Value.int .u8))) ∧ Hid (Below B w wr)) (fun _ i _ => l.length - (intOf i).toNat)
  case atStart => exact ⟨0, by omega, rfl, rfl, HOW.out, HB3.out⟩
  case round =>
    clear HOW HB3
    obtain ⟨k, hk, rfl, rfl, HU, hbw⟩ := hrel
    by_cases hlt : k < l.length
    · obtain ⟨bd, od, hp1, hc1⟩ := (HD.out wr hbw.out).at (i := k) hlt
      obtain ⟨y, hy⟩ : ∃ y, l.getD k 0 = y := ⟨_, rfl⟩
      have hat := HAT.out k hlt
      have y0 := getD_in (P := fun x => -128 ≤ x ∧ x ≤ 127) HLI.out hlt
      have q0 := prv_in (a := -128) (b := 127) (by omega) (by omega) (fun x hx => by have := HPI.out x hx; omega) (l := P) (k := k) (by rw [HPL.out]; omega)
      rw [hy] at hc1 y0 hat
      have hpe : (if k = 0 then 0 else P.getD (k - 1) 0) = prv P k := rfl
      rw [hpe] at hat
      obtain ⟨q, hq⟩ : ∃ q, prv P k = q := ⟨_, rfl⟩
      rw [hq] at hat q0 ⊢
      have HAT1 := Lib.hid hat
      have HLT := Lib.hid hlt
      obtain ⟨bt, ot, hp2, _⟩ := (HDT.out wr hbw.out).at (i := 0) (by rw [HT16.out]; omega)
      have HDTW := Lib.hid (HDT.out wr hbw.out)
      clear hat hq hpe hy
      subst hp1 hp2
      go_wp2
      go_loopw [10, 11, 12] (fun bv fv jv wx => ∃ j n : Nat, j ≤ 16 ∧ jv = .int .i64 j ∧ bv = .int .i64 (Pk.nst t q y 1000 j).1 ∧ fv = .int .i64 (Pk.nst t q y 1000 j).2 ∧ wx = wr.drewN n) (fun _ _ jv _ => 16 - (intOf jv).toNat)
      case atStart => exact ⟨0, 0, by omega, rfl, rfl, rfl, rfl⟩
      case round =>
        obtain ⟨j, nd, hj, rfl, rfl, rfl, rfl⟩ := hrel
        by_cases hlj : j < 16
        · have bnd := Pk.nst_bound (t := t) (p := q) (L := 1000) (by omega) (by omega) y0.1 y0.2 j
          have bnd1 := Pk.nst_lt t q y 1000 j
          obtain ⟨bt', ot', hp2, hc2⟩ := HDTW.out.at (i := j) (by rw [HT16.out]; exact hlj)
          simp only [Option.some.injEq, Addr.mk.injEq] at hp2
          obtain ⟨rfl, rfl, _⟩ := hp2
          have z0 := getD_in (P := fun x => -128 ≤ x ∧ x ≤ 127) HTI.out (show j < t.length by rw [HT16.out]; exact hlj)
          have hof : Pk.off t q y j = max (Pk.wrp 128 (q + t.getD j 0) - y) (-(Pk.wrp 128 (q + t.getD j 0) - y)) := rfl
          obtain ⟨z, hz⟩ : ∃ z, t.getD j 0 = z := ⟨_, rfl⟩
          rw [hz] at hc2 z0 hof
          have C := Lib.hid (fun w1 => rwrap8 (q + z) w1 (by omega) (by omega))
          have q2 := Pk.wrp_lo (h := 128) (x := q + z) (by omega)
          have q3 := Pk.wrp_hi (h := 128) (x := q + z) (by omega)
          obtain ⟨r, hr⟩ : ∃ r, Pk.wrp 128 (q + z) = r := ⟨_, rfl⟩
          rw [hr] at C q2 q3 hof
          obtain ⟨d, hde⟩ : ∃ d, r - y = d := ⟨_, rfl⟩
          rw [hde] at hof
          have hdb : -256 ≤ d ∧ d ≤ 256 := by omega
          obtain ⟨F, hF⟩ : ∃ F, Pk.off t q y j = F := ⟨_, rfl⟩
          have HYES := Lib.hid (Pk.nst_yes (t := t) (p := q) (x := y) (L := 1000) (j := j))
          have HNO := Lib.hid (Pk.nst_no (t := t) (p := q) (x := y) (L := 1000) (j := j))
          rw [hF] at HYES HNO hof
          have HOF := Lib.hid hof
          obtain ⟨b0, hb0⟩ : ∃ b0, (Pk.nst t q y 1000 j).1 = b0 := ⟨_, rfl⟩
          obtain ⟨L0, hL0⟩ : ∃ L0, (Pk.nst t q y 1000 j).2 = L0 := ⟨_, rfl⟩
          rw [hb0] at bnd1
          rw [hL0] at bnd HYES HNO
          have HB0 := Lib.hid hb0
          have HL0 := Lib.hid hL0
          rw [hb0, hL0]
          have hwq : IntKind.i64.wrap (q + z) = q + z := IntWalk.i64_in _ (by omega)
          have hwd : IntKind.i64.wrap (r - y) = d := by rw [hde]; exact IntWalk.i64_in _ (by omega)
          clear hz hr hof hF hb0 hL0
          go_upto_region 15 with fail
          go_quiet ((go_at_call 37; exact (C.out _).mono fun e w' ⟨h1, h2⟩ => ⟨h1, _, h2⟩))
          go_upto_region 16 with fail
          go_cut [13] (fun tv wx => tv = .int .i64 F ∧ wx = wr.drewN (nd + nq))
          case first =>
            rcases Int.lt_trichotomy d 0 with hc | hc | hc
            · have e : F = -d := by have := HOF.out; omega
              subst e
              go_wp2
              go_meet
              exact ⟨rfl, rfl⟩
            · have e : F = 0 := by have := HOF.out; omega
              subst e
              subst hc
              go_wp2
              all_goals go_meet
              all_goals exact ⟨rfl, rfl⟩
            · have e : F = d := by have := HOF.out; omega
              subst e
              go_wp2
              go_meet
              exact ⟨rfl, rfl⟩
          case rest =>
            obtain ⟨rfl, rfl⟩ := hcut
            by_cases hc : F < L0
            · have HE := Lib.hid (HYES.out hc)
              go_wp2
              exact ⟨⟨j + 1, nd + nq, by omega, by go_num, by rw [HE.out], by rw [HE.out], rfl⟩, by simp [intOf]; omega⟩
            · have HE := Lib.hid (HNO.out hc)
              go_wp2
              exact ⟨⟨j + 1, nd + nq, by omega, by go_num, by rw [HE.out, HB0.out], by rw [HE.out, HL0.out], rfl⟩, by simp [intOf]; omega⟩
        · have e : j = 16 := by omega
          subst e
          have hnx : (Pk.nst t q y 1000 16).1 = Pk.nidx t q y := by unfold Pk.nidx; rw [Pk.nst_same (L := 1000) (M := 256) (by omega) (by omega) y0.1 y0.2 15]
          have hat := HAT1.out
          have hb16 := Pk.nidx_lt t q y
          obtain ⟨b, hb⟩ : ∃ b, Pk.nidx t q y = b := ⟨_, rfl⟩
          rw [hb] at hat hb16 hnx
          rw [hnx]
          obtain ⟨bt', ot', hp2, hc2⟩ := HDTW.out.at (i := b) (by rw [HT16.out]; exact hb16)
          simp only [Option.some.injEq, Addr.mk.injEq] at hp2
          obtain ⟨rfl, rfl, _⟩ := hp2
          have t0 := getD_in (P := fun x => -128 ≤ x ∧ x ≤ 127) HTI.out (show b < t.length by rw [HT16.out]; exact hb16)
          obtain ⟨tj, htj⟩ : ∃ tj, t.getD b 0 = tj := ⟨_, rfl⟩
          rw [htj] at hc2 t0 hat
          have CW := Lib.hid (fun w1 => rwrap8 (q + tj) w1 (by omega) (by omega))
          rw [← hat.2] at CW
          have HJE := Lib.hid hat.1
          obtain ⟨z, hz⟩ : ∃ z, P.getD k 0 = z := ⟨_, rfl⟩
          rw [hz] at CW
          have HQ := Lib.hid hz
          obtain ⟨m, hm⟩ : ∃ m, k / 2 = m := ⟨_, rfl⟩
          have hmM : m < M := by have := HM.out; omega
          have hd1 : (k : Int) / 2 = (m : Int) := by omega
          have hd2 : (k : Int).tdiv 2 = (m : Int) := by rw [Int.tdiv_eq_ediv_of_nonneg (by omega)]; omega
          have hsm := HSM.out k
          rw [hm] at hsm
          have HMK := Lib.hid hm
          obtain ⟨v, hv⟩ : ∃ v, Pk.nbyte js k m = v := ⟨_, rfl⟩
          have c0 : wr.cell? ⟨g, m, none⟩ = some (.int .u8 v) := by
            rw [HU.out.cellAt m (by omega), map_getD (by rw [Pk.nby_length, HJL.out, HM.out]; exact hmM), Pk.nby_getD js k (by rw [HJL.out, HM.out]; exact hmM), hv]
          have c1 := HU.out.frozenAt m
          rw [hv] at hsm
          have HYE := Lib.hid hv
          have HB2 := Lib.hid (fun (n : Nat) (x : Value) => show Below B w ((wr.drewN n).setCell ⟨g, m, none⟩ x) from (below_drewN' hbw.out n).setCell hgB x)
          have HRW := Lib.hid (fun (n : Nat) => (show (wr.drewN n).ownsRow B 5 1 (.slice (some ⟨g, 0, none⟩) M M) M ((Pk.nby js k).map (Value.int .u8)) from HU.out))
          clear hm hv hat hz htj hnx hb
          rcases Nat.mod_two_eq_zero_or_one k with hpar | hpar
          · have HPK := Lib.hid hpar
            rw [hpar] at hsm
            have hv0 : v = 0 := by have := hsm.1; have := hsm.2; simp at *; omega
            subst hv0
            have hr1 : (k : Int) % 2 = 0 := by omega
            have hr2 : (k : Int).tmod 2 = 0 := by rw [Int.tmod_eq_emod_of_nonneg (by omega)]; omega
            have hor : bits .or .u8 0 (b : Int) = (b : Int) := by
              have := byte_or2 (y := 0) (b := (b : Int)) (r := 0) (by omega) (by decide) (by omega) (by omega) (by simp; omega)
              rw [Int.pow_zero, Int.mul_one, Int.emod_eq_of_lt (by omega) (by omega)] at this
              omega
            clear hsm hpar
            go_wp2_with (first | (go_at_call 37; ((with_reducible refine (CW.out _).mono ?_); rintro x' w' ⟨rfl, rfl⟩)))
            go_region
            go_wp2
            have e : Pk.nby js (k + 1) = (Pk.nby js k).set m (b : Int) := by rw [HST.out k HLT.out, HMK.out, HYE.out, HJE.out, HPK.out, Nat.zero_mul, Int.pow_zero, Int.mul_one, Int.zero_add]
            have HE := Lib.hid e
            clear e
            exact ⟨⟨k + 1, by have := HLT.out; omega, by go_num, by rw [prv_succ, HQ.out], by rw [HE.out, List.map_set]; exact ((HRW.out _).stored m _).1, HB2.out _ _⟩, by have := HLT.out; simp [intOf]; omega⟩
          · have HPK := Lib.hid hpar
            rw [hpar] at hsm
            have hv16 : v < 16 := by have := hsm.2; simpa using this
            have hv0 := hsm.1
            have hr1 : (k : Int) % 2 = 1 := by omega
            have hr2 : (k : Int).tmod 2 = 1 := by rw [Int.tmod_eq_emod_of_nonneg (by omega)]; omega
            have hor : bits .or .u8 v ((b : Int) * 16 % 256) = v + (b : Int) * 16 := by
              have := byte_or2 (y := v) (b := (b : Int)) (r := 4) (by omega) (by simpa using hv16) (by omega) (by omega) (by simp; omega)
              simpa using this
            have hor2 : bits .or .u8 v ((b : Int) * 16) = v + (b : Int) * 16 := by
              rw [Int.emod_eq_of_lt (by omega) (by omega)] at hor
              exact hor
            clear hsm hpar
            go_wp2_with (first | (go_at_call 37; ((with_reducible refine (CW.out _).mono ?_); rintro x' w' ⟨rfl, rfl⟩)))
            go_region
            go_wp2
            have e : Pk.nby js (k + 1) = (Pk.nby js k).set m (v + (b : Int) * 16) := by rw [HST.out k HLT.out, HMK.out, HYE.out, HJE.out, HPK.out]; rfl
            have HE := Lib.hid e
            clear e
            exact ⟨⟨k + 1, by have := HLT.out; omega, by go_num, by rw [prv_succ, HQ.out], by rw [HE.out, List.map_set]; exact ((HRW.out _).stored m _).1, HB2.out _ _⟩, by have := HLT.out; simp [intOf]; omega⟩
    · have e : k = l.length := by omega
      subst e
      go_wp2
      go_ret2
      have e := HBE.out
      subst e
      exact ⟨⟨_, rfl, by rw [Pk.nby_length, HJL.out, HM.out]; exact HU.out⟩, hbw.out⟩
/-- What the reference's Nibbles returns. -/
theorem rnibbles (l t : List Int) (p pt : Option Addr) (cap capt : Nat) (w : World) (hd : DatAt w p l) (hdt : DatAt w pt t) (hi : ∀ x ∈ l, -9223372036854775808 ≤ x ∧ x ≤ 9223372036854775807) (hit : ∀ x ∈ t, -9223372036854775808 ≤ x ∧ x ≤ 9223372036854775807) (hl : (l.length : Int) ≤ 1152921504606846976) (hlt : (t.length : Int) ≤ 1152921504606846976) :
    Calls Try.prog 21 #[.slice p l.length cap, .slice pt t.length capt] w fun e w' => (∃ u, e = .returned (.tuple #[u, .int .i64 (nibE l t)]) ∧ (nibE l t ≠ 0 → u = .slice none 0 0) ∧ (nibE l t = 0 → w'.ownsRow w.heap.size 5 1 u (Pk.nby (Pk.nib t 0 l) l.length).length ((Pk.nby (Pk.nib t 0 l) l.length).map (Value.int .u8)))) ∧ Below w.heap.size w w' := by
  by_cases h : nibE l t = 0
  · have ht : tbl t = true := by
      cases ht : tbl t with
      | true => rfl
      | false => unfold nibE at h; rw [if_neg (by simp [ht])] at h; cases h
    have hw : whl l 8 = 0 := by unfold nibE at h; rw [if_pos ht] at h; exact h
    rw [h]
    exact (rnib_ok l t p pt cap capt w hd hdt hi hit hl hlt ht hw).mono fun e w' ⟨⟨u, h1, h2⟩, h3⟩ => ⟨⟨u, h1, fun h => absurd rfl h, fun _ => h2⟩, h3⟩
  · exact (rnib_tbl l t p pt cap capt w hd hdt hi hit hl hlt h).mono fun e w' ⟨h1, h3⟩ => ⟨⟨_, h1, fun _ => rfl, fun h' => absurd h' h⟩, h3 ▸ Below.refl _ _⟩
end Go.Proofs.Ytfljgdehbogimaa

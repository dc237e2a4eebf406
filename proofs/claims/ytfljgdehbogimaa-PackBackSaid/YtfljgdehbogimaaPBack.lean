/-
  PackBack's walk: for any data, bits, version and number the law returns true; nothing that was there is changed.
-/
import Derived.Test.YtfljgdehbogimaaPBackC
import Derived.Outline
import Derived.BigQuiet
import Derived.Deep.QuietTactic
import Derived.Deep.DeepCutAuto
import Derived.Deep.CutBlock
namespace Go.Proofs.Ytfljgdehbogimaa
open Go.RowKit

theorem p_same_same (l : List Int) (g : Nat) (p : Option Addr) (cap : Nat) (w : World) (h4 : l.length ≤ 4096) (ha : DatAt w (some ⟨g, 0, none⟩) l) (hb : DatAt w p l) :
    Calls Try.prog 15 #[.slice (some ⟨g, 0, none⟩) l.length l.length, .slice p l.length cap] w fun e w' => e = .returned (.bool true) ∧ Below w.heap.size w w' := by
  have := p_same l l (some ⟨g, 0, none⟩) p l.length l.length l.length cap w rfl rfl (by omega) (by omega) ha hb
  rw [show sml l l = true from decide_eq_true rfl] at this
  exact this
set_option maxRecDepth 20000 in
set_option maxHeartbeats 4800000 in
theorem back_ok (l : List Int) (p : Option Addr) (cap : Nat) (b v k : Int) (w : World) (hd : DatAt w p l) (hl : (l.length : Int) ≤ 1152921504606846976) (h : whl l b = 0) (hv : v = 1 ∨ v = 2) :
    Calls Try.prog 5 #[.slice p l.length cap, .int .i64 b, .int .i64 v, .int .i64 k] w fun e w' => e = .returned (.bool true) ∧ Below w.heap.size w w' := by
  have h4 := (whl_zero h).2.2
  have D0 := p_Delta l p cap b w hd hl
  rw [h] at D0
  have DW := Lib.hid D0
  have KW := Lib.hid (fun w1 (hd1 : DatAt w1 p l) => by
    have := p_Blocks l p cap b v w1 hd1 hl
    rw [show blkE l b v = 0 from (if_pos hv).trans h] at this
    exact this)
  have UA := Lib.hid (fun p c w1 => c_und_all h p c w1)
  have XA := Lib.hid (fun p c w1 => c_unb_all h hv p c w1)
  have UJ := Lib.hid (fun p c j w1 => c_und h p c j w1)
  have XJ := Lib.hid (fun p c j w1 => c_unb h hv p c j w1)
  have SA := Lib.hid (fun g w1 => p_same_same l g p cap w1 h4)
  have A := Lib.hid (fun w1 => p_awake w1)
  have HD := Lib.hid hd
  have HLD := Lib.hid (dlt_length (l := l) (whl_zero h).1)
  have HLC := Lib.hid (blks_length (L := enc b v l) (by rw [enc_length]; exact h4))
  obtain ⟨K, hK, hK0⟩ : ∃ K : Nat, bits .and .i64 k 1048575 = (K : Int) ∧ K ≤ 1048575 := by
    have := and_mask k 20 (by omega)
    refine ⟨(k % ((2 ^ 20 : Nat) : Int)).toNat, this.trans ?_, ?_⟩
    · omega
    · omega
  obtain ⟨BD, hBD⟩ : ∃ BD, dlt l b = BD := ⟨_, rfl⟩
  obtain ⟨BC, hBC⟩ : ∃ BC, blks (enc b v l) = BC := ⟨_, rfl⟩
  rw [hBD] at DW UA UJ HLD
  rw [hBC] at KW XA XJ HLC
  obtain ⟨ld, hld⟩ : ∃ ld, BD.length = ld := ⟨_, rfl⟩
  obtain ⟨lc, hlc⟩ : ∃ lc, BC.length = lc := ⟨_, rfl⟩
  rw [hld] at UA UJ HLD
  rw [hlc] at XA XJ HLC
  obtain ⟨n, hn⟩ : ∃ n, l.length = n := ⟨_, rfl⟩
  have HN := Lib.hid hn
  rw [hn] at h4 UA XA UJ XJ SA
  rw [hn]
  have HLD2 := Lib.hid hld
  have HLC2 := Lib.hid hlc
  clear hd hl h hv D0 hBD hBC hn hld hlc
  go_enter Try.func5, Try.ntmps5
  go_upto_region 9 with (first
    | (go_at_call 9; ((with_reducible refine (HN.out ▸ DW.out).mono ?_); rintro x' w1 ⟨⟨u, rfl, _, hown⟩, hb⟩; obtain ⟨p1, c1, rfl, hk, hc1⟩ := own_dat2 (hown (by first | rfl | trivial)) rfl; rw [HLD2.out] at hc1; simp only [HLD2.out]; have WB1 := Lib.hid hb; have DB1 := Lib.hid (show BytAt _ p1 BD from hk); clear hk hown hb))
    | (go_at_call 11; ((with_reducible refine (HN.out ▸ KW.out _ (HD.out.below WB1.out)).mono ?_); rintro x' w2 ⟨⟨u, rfl, _, hown⟩, hb⟩; obtain ⟨p2, c2, rfl, hk, hc2⟩ := own_dat2 (hown (by first | rfl | trivial)) rfl; rw [HLC2.out] at hc2; simp only [HLC2.out]; have WB2 := Lib.hid (stepB WB1.out hb); have DC2 := Lib.hid (show BytAt _ p2 BC from hk); have DB2 := Lib.hid (show BytAt _ p1 BD from DB1.out.below hb); clear hk hown hb))
    | (go_at_call 13; ((with_reducible refine (UA.out p1 c1 _ DB2.out).mono ?_); rintro x' w3 ⟨⟨g1, rfl, hx⟩, hb⟩; have WB3 := Lib.hid (stepB WB2.out hb); have DX3 := Lib.hid hx; have DC3 := Lib.hid (show BytAt _ p2 BC from DC2.out.below hb); have DB3 := Lib.hid (show BytAt _ p1 BD from DB2.out.below hb); clear hx hb))
    | (go_at_call 16; ((with_reducible refine (XA.out p2 c2 _ hc2 DC3.out).mono ?_); rintro x' w4 ⟨⟨g2, rfl, hx⟩, hb⟩; have WB4 := Lib.hid (stepB WB3.out hb); have DY4 := Lib.hid hx; have DX4 := Lib.hid (DX3.out.below hb); have DC4 := Lib.hid (show BytAt _ p2 BC from DC3.out.below hb); have DB4 := Lib.hid (show BytAt _ p1 BD from DB3.out.below hb); clear hx hb))
    | (go_at_call 15; (have hx := DY5.out); ((with_reducible refine (SA.out g2 _ DY5.out (HD.out.below WB5.out)).mono ?_); rintro x' w6 ⟨rfl, hb⟩; have WB6 := Lib.hid (stepB WB5.out hb); have DC6 := Lib.hid (show BytAt _ p2 BC from DC5.out.below hb); have DB6 := Lib.hid (show BytAt _ p1 BD from DB5.out.below hb); clear hx hb))
    | (go_at_call 15; ((with_reducible refine (SA.out g1 _ DX4.out (HD.out.below WB4.out)).mono ?_); rintro x' w5 ⟨rfl, hb⟩; have WB5 := Lib.hid (stepB WB4.out hb); have DY5 := Lib.hid (DY4.out.below hb); have DC5 := Lib.hid (show BytAt _ p2 BC from DC4.out.below hb); have DB5 := Lib.hid (show BytAt _ p1 BD from DB4.out.below hb); clear hb)))
  clear DW KW UA XA SA WB1 DB1 WB2 DC2 DB2 WB3 DX3 DC3 DB3 WB4 DY4 DX4 DC4 DB4 WB5 DY5 DC5 DB5
  obtain ⟨j1, hj1⟩ : ∃ j, min K ld = j := ⟨_, rfl⟩
  obtain ⟨j2, hj2⟩ : ∃ j, min K lc = j := ⟨_, rfl⟩
  obtain ⟨M1, hM1, -, C1⟩ := UJ.out p1 c1 j1 w6 (by omega) DB6.out
  have C1 := Lib.hid C1
  have HLD3 := Lib.hid (show (ld : Int) ≤ 8192 by have := HLD.out; have := HN.out; omega)
  have HLC3 := Lib.hid (show (lc : Int) ≤ 9000 by have := HLC.out; omega)
  clear UJ DB6
  go_upto_region 10 with fail
  go_cut [13, 14] (fun x m wx => ∃ g3, x = .slice (some ⟨g3, 0, none⟩) n n ∧ m = .int .i64 ((n - M1 : Nat) : Int) ∧ Hid (DatAt wx (some ⟨g3, 0, none⟩) (fstN l M1)) ∧ Hid (Below w.heap.size w wx) ∧ Hid (BytAt wx p2 BC))
  case first =>
    have hld := HLD3.out
    rcases Int.lt_trichotomy (K : Int) (ld : Int) with hc | hc | hc
    · have e : j1 = K := by rw [← hj1]; omega
      subst e
      clear hj1
      go_wp2_with (first | (go_at_call 13; ((with_reducible refine C1.out.mono ?_); rintro x' w7 ⟨⟨g3, rfl, hx⟩, hb⟩; have WB7 := Lib.hid (stepB WB6.out hb); have DX7 := Lib.hid hx; have DC7 := Lib.hid (show BytAt _ p2 BC from DC6.out.below hb); clear hx hb)))
      go_meet
      exact ⟨_, rfl, rfl, DX7, WB7, DC7⟩
    · have e2 : K = ld := by omega
      have e : j1 = K := by rw [← hj1]; omega
      subst e
      subst e2
      clear hj1 hc
      go_wp2_with (first | (go_at_call 13; ((with_reducible refine C1.out.mono ?_); rintro x' w7 ⟨⟨g3, rfl, hx⟩, hb⟩; have WB7 := Lib.hid (stepB WB6.out hb); have DX7 := Lib.hid hx; have DC7 := Lib.hid (show BytAt _ p2 BC from DC6.out.below hb); clear hx hb)))
      go_meet
      exact ⟨_, rfl, rfl, DX7, WB7, DC7⟩
    · have e : j1 = ld := by rw [← hj1]; omega
      subst e
      clear hj1
      go_wp2_with (first | (go_at_call 13; ((with_reducible refine C1.out.mono ?_); rintro x' w7 ⟨⟨g3, rfl, hx⟩, hb⟩; have WB7 := Lib.hid (stepB WB6.out hb); have DX7 := Lib.hid hx; have DC7 := Lib.hid (show BytAt _ p2 BC from DC6.out.below hb); clear hx hb)))
      go_meet
      exact ⟨_, rfl, rfl, DX7, WB7, DC7⟩
  case rest =>
    obtain ⟨g3, rfl, rfl, DX7, WB7, DC7⟩ := hcut
    obtain ⟨M2, u2, hM2, -, C2⟩ := XJ.out p2 c2 j2 wc (by omega) (by omega) DC7.out
    have C2 := Lib.hid C2
    clear XJ C1 hj1 DC6 WB6
    go_upto_region 11 with fail
    go_cut [16, 18] (fun y o wx => ∃ g4, y = .slice (some ⟨g4, 0, none⟩) n n ∧ o = .int .i64 ((n - M2 : Nat) : Int) ∧ Hid (DatAt wx (some ⟨g4, 0, none⟩) (fstN l M2)) ∧ Hid (DatAt wx (some ⟨g3, 0, none⟩) (fstN l M1)) ∧ Hid (Below w.heap.size w wx))
    case first =>
      have hlc := HLC3.out
      rcases Int.lt_trichotomy (K : Int) (lc : Int) with hc | hc | hc
      · have e : j2 = K := by rw [← hj2]; omega
        subst e
        clear hj2
        go_wp2_with (first | (go_at_call 16; ((with_reducible refine C2.out.mono ?_); rintro x' w8 ⟨⟨g4, rfl, hx⟩, hb⟩; have WB8 := Lib.hid (stepB WB7.out hb); have DY8 := Lib.hid hx; have DX8 := Lib.hid (DX7.out.below hb); clear hx hb)))
        go_meet
        exact ⟨_, rfl, rfl, DY8, DX8, WB8⟩
      · have e2 : K = lc := by omega
        have e : j2 = K := by rw [← hj2]; omega
        subst e
        subst e2
        clear hj2 hc
        go_wp2_with (first | (go_at_call 16; ((with_reducible refine C2.out.mono ?_); rintro x' w8 ⟨⟨g4, rfl, hx⟩, hb⟩; have WB8 := Lib.hid (stepB WB7.out hb); have DY8 := Lib.hid hx; have DX8 := Lib.hid (DX7.out.below hb); clear hx hb)))
        go_meet
        exact ⟨_, rfl, rfl, DY8, DX8, WB8⟩
      · have e : j2 = lc := by rw [← hj2]; omega
        subst e
        clear hj2
        go_wp2_with (first | (go_at_call 16; ((with_reducible refine C2.out.mono ?_); rintro x' w8 ⟨⟨g4, rfl, hx⟩, hb⟩; have WB8 := Lib.hid (stepB WB7.out hb); have DY8 := Lib.hid hx; have DX8 := Lib.hid (DX7.out.below hb); clear hx hb)))
        go_meet
        exact ⟨_, rfl, rfl, DY8, DX8, WB8⟩
    case rest =>
      obtain ⟨g4, rfl, rfl, DY8, DX8, WB8⟩ := hcut
      clear C2 hj2 DX7 WB7 DC7
      obtain ⟨r1, hr1⟩ : ∃ r, n - M1 = r := ⟨_, rfl⟩
      obtain ⟨r2, hr2⟩ : ∃ r, n - M2 = r := ⟨_, rfl⟩
      have hl1 := Lib.hid (fstN_length (l := l) (M := M1) (by rw [HN.out]; exact hM1))
      have hl2 := Lib.hid (fstN_length (l := l) (M := M2) (by rw [HN.out]; exact hM2))
      have LO1 := Lib.hid (fun (i : Nat) => fstN_lo (l := l) (M := M1) (i := i) (by rw [HN.out]; exact hM1))
      have HI1 := Lib.hid (fun (i : Nat) => fstN_hi (l := l) (M := M1) (i := i) (by rw [HN.out]; exact hM1))
      have LO2 := Lib.hid (fun (i : Nat) => fstN_lo (l := l) (M := M2) (i := i) (by rw [HN.out]; exact hM2))
      have HI2 := Lib.hid (fun (i : Nat) => fstN_hi (l := l) (M := M2) (i := i) (by rw [HN.out]; exact hM2))
      have HR1 := Lib.hid (And.intro hr1 hM1)
      have HR2 := Lib.hid (And.intro hr2 hM2)
      rw [hr1, hr2]
      have hw1 : IntKind.i64.wrap ((n : Int) - (r1 : Int)) = (M1 : Int) := by rw [IntWalk.i64_in _ (by omega)]; omega
      have hw2 : IntKind.i64.wrap ((n : Int) - (r2 : Int)) = (M2 : Int) := by rw [IntWalk.i64_in _ (by omega)]; omega
      have hr1n : r1 ≤ n := by omega
      have hr2n : r2 ≤ n := by omega
      clear hr1 hr2 hM1 hM2 hK hK0 HLD HLC HLD2 HLC2 HLD3 HLC3
      obtain ⟨w8, hw8⟩ : ∃ w8, wc = w8 := ⟨_, rfl⟩
      rw [hw8] at DY8 DX8 WB8 ⊢
      clear hw8
      go_wp2
      go_loopw [148] (fun i wr => ∃ q m : Nat, q ≤ n ∧ i = .int .i64 q ∧ wr = w8.drewN m) (fun i _ => n - (intOf i).toNat)
      case atStart => exact ⟨0, 0, by omega, rfl, rfl⟩
      case round =>
        obtain ⟨q, m, hq, rfl, rfl⟩ := hrel
        by_cases hqn : q < n
        · obtain ⟨bx, ox, hp1, hcx⟩ := DX8.out.at (i := q) (by rw [hl1.out, HN.out]; exact hqn)
          obtain ⟨by_, oy, hp2, hcy⟩ := DY8.out.at (i := q) (by rw [hl2.out, HN.out]; exact hqn)
          obtain ⟨bd, od, hp3, hcd⟩ := (HD.out.below WB8.out).at (i := q) (by rw [HN.out]; exact hqn)
          simp only [Option.some.injEq, Addr.mk.injEq] at hp1 hp2
          obtain ⟨rfl, rfl, _⟩ := hp1
          obtain ⟨rfl, rfl, _⟩ := hp2
          rw [Nat.zero_add] at hcx hcy
          obtain ⟨z, hz⟩ : ∃ z, l.getD q 0 = z := ⟨_, rfl⟩
          rw [hz] at hcd
          subst hp3
          rcases Nat.lt_or_ge q M1 with h1 | h1
          · rw [LO1.out q (h1), hz] at hcx
            have h1' : (q : Int) < (M1 : Int) := by omega
            have h1g : ¬ ((M1 : Int) ≤ (q : Int)) := by omega
            rcases Nat.lt_or_ge q M2 with h2 | h2
            · rw [LO2.out q (h2), hz] at hcy
              have h2' : (q : Int) < (M2 : Int) := by omega
              have h2g : ¬ ((M2 : Int) ≤ (q : Int)) := by omega
              as_aux_lemma =>
                go_upto_region 17 with fail
                simp only [List.append]
                go_quiet (fail)
                go_wp2
                exact ⟨⟨q + 1, m + nq, by omega, by go_num, rfl⟩, by simp [intOf]; omega⟩
            · rw [HI2.out q (h2)] at hcy
              have h2' : decide (q < M2) = false := by simp; omega
              have h2g : (M2 : Int) ≤ (q : Int) := by omega
              as_aux_lemma =>
                go_upto_region 17 with fail
                simp only [List.append]
                go_quiet (fail)
                go_wp2
                exact ⟨⟨q + 1, m + nq, by omega, by go_num, rfl⟩, by simp [intOf]; omega⟩
          · rw [HI1.out q (h1)] at hcx
            have h1' : decide (q < M1) = false := by simp; omega
            have h1g : (M1 : Int) ≤ (q : Int) := by omega
            rcases Nat.lt_or_ge q M2 with h2 | h2
            · rw [LO2.out q (h2), hz] at hcy
              have h2' : (q : Int) < (M2 : Int) := by omega
              have h2g : ¬ ((M2 : Int) ≤ (q : Int)) := by omega
              as_aux_lemma =>
                go_upto_region 17 with fail
                simp only [List.append]
                go_quiet (fail)
                go_wp2
                exact ⟨⟨q + 1, m + nq, by omega, by go_num, rfl⟩, by simp [intOf]; omega⟩
            · rw [HI2.out q (h2)] at hcy
              have h2' : decide (q < M2) = false := by simp; omega
              have h2g : (M2 : Int) ≤ (q : Int) := by omega
              as_aux_lemma =>
                go_upto_region 17 with fail
                simp only [List.append]
                go_quiet (fail)
                go_wp2
                exact ⟨⟨q + 1, m + nq, by omega, by go_num, rfl⟩, by simp [intOf]; omega⟩
        · have WBM := Lib.hid (show Below w.heap.size w (w8.drewN m) from ⟨WB8.out.os, WB8.out.tape, WB8.out.output, WB8.out.size, WB8.out.block⟩)
          go_wp2_with (first | (go_at_call 8; ((with_reducible refine (A.out _).mono ?_); rintro x' w9 ⟨rfl, hb⟩; have WB9 := Lib.hid (stepB WBM.out hb); clear hb)))
          go_ret
          exact ⟨rfl, WB9.out⟩
end Go.Proofs.Ytfljgdehbogimaa

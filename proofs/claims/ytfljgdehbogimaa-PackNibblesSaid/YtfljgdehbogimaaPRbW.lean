/-
  The contract of package pack's readBlock: its good way.
-/
import Derived.Test.YtfljgdehbogimaaPRb
import Derived.Deep.DeepCutAuto
import Derived.Deep.CutBlock
namespace Go.Proofs.Ytfljgdehbogimaa
open Go.RowKit

theorem pow2_le {n : Nat} (h : n ≤ 16) : (2 : Int) ^ n ≤ 65536 := by
  have e : ((2 ^ n : Nat) : Int) = (2 : Int) ^ n := by norm_cast
  have h2 : (2 : Nat) ^ n ≤ 2 ^ 16 := Nat.pow_le_pow_right (by decide) h
  omega
theorem frow_eq_at (f : Nat → Int) {n k i : Nat} (hk : k < n) (e : k = i) : (frow f n k)[i]? = some (.int .i64 0) := by subst e; exact frow_at f hk
theorem RdS.mid {s lb c n lo hi : Nat} {pb : Option Addr} {w w' : World} (h : RdS s pb lb c n w) (hm : Mid lo hi w w') (hs : hi ≤ s) : RdS s pb lb c n w' := ⟨h.at_.mid hm (.inr (by omega)), h.sl.mid hm (.inr hs)⟩
theorem RdS.far {s lb c n g : Nat} {pb : Option Addr} {w : World} (h : RdS s pb lb c n w) (hg : g < s) (i : Nat) (v : Value) : RdS s pb lb c n (w.setCell ⟨g, i, none⟩ v) := ⟨h.at_.other (by show s + 1 ≠ g; omega) _, h.sl.other (by show s ≠ g; omega) _⟩
/-- What lies behind the first byte. -/
theorem byt_tail {w : World} {bd od : Nat} {b : List Int} (h : BytAt w (some ⟨bd, od, none⟩) b) : BytAt w (some ⟨bd, od + 1, none⟩) b.tail := by
  rcases h with rfl | ⟨b0, o0, hp, hl, hc⟩
  · exact .inl rfl
  · simp only [Option.some.injEq, Addr.mk.injEq] at hp
    obtain ⟨rfl, rfl, _⟩ := hp
    refine .inr ⟨_, _, rfl, hl, fun i hi => ?_⟩
    rw [List.length_tail] at hi
    have := hc (i + 1) (by omega)
    rw [show od + 1 + i = od + (i + 1) by omega, this]
    simp [List.getD_eq_getElem?_getD]
set_option maxRecDepth 20000 in
set_option maxHeartbeats 3200000 in
theorem rb_ok (B g N F lo hi bd od lr c m cx wd : Nat) (cb : Array Value) (T : List Int → List Int) (S : List Int → World → Prop) (H : Trans F cb lo hi T S) (a b : List Int) (bits : Int) (w : World)
    (hR : Rb B g N T S a w) (hB : B ≤ g) (hgl : g < lo) (hlh : lo ≤ hi) (hhw : hi ≤ w.heap.size) (hd : ∀ w', Below B w w' → BytAt w' (some ⟨bd, od, none⟩) b) (hdb : ∀ x ∈ b, 0 ≤ x ∧ x < 256) (hlb : b.length = lr + 1) (_hlc : lr + 1 ≤ c) (hl : (lr : Int) + 1 ≤ 400000)
    (hy : b.getD 0 0 = (wd : Int)) (h1 : 1 ≤ wd) (h2 : (wd : Int) ≤ bits) (h3 : bits ≤ 16) (hm : (m : Int) ≤ 256) (ham : a.length + m ≤ N) (hN : (N : Int) ≤ 4096) :
    Calls Try.prog 40 #[.slice (some ⟨bd, od, none⟩) (lr + 1) c, .slice (some ⟨g, a.length, none⟩) m cx, .int .i64 bits, .func (.func F) #[] cb] w fun e w' => e = .returned (.tuple #[.int .i64 ((min m (8 * lr / wd) : Nat) : Int), .int .i64 ((1 + min lr ((wd * m + 7) / 8) : Nat) : Int), .int .i64 0]) ∧ Rb B g N T S (a ++ rbL b.tail wd (min m (8 * lr / wd))) w' ∧ Below B w w' := by
  have hcell := (hd w (Below.refl _ _)).at (i := 0) (by omega)
  obtain ⟨b0, o0, hp, hc0⟩ := hcell
  simp only [Option.some.injEq, Addr.mk.injEq] at hp
  obtain ⟨rfl, rfl, _⟩ := hp
  rw [Nat.add_zero, hy] at hc0
  have C1 := Lib.hid (fun w1 => show Calls Try.prog 60 #[.int .i64 wd, .int .i64 1, .int .i64 bits] w1 fun e w' => e = .returned (.bool true) ∧ w1 = w' from by
    have := p_within wd 1 bits w1
    rwa [decide_eq_true (by omega)] at this)
  have HD := Lib.hid (fun w' hb => byt_tail (hd w' hb))
  have HDB := Lib.hid (fun x (hx : x ∈ b.tail) => hdb x (List.mem_of_mem_tail hx))
  have HLT := Lib.hid (show b.tail.length = lr by rw [List.length_tail, hlb]; rfl)
  have HR := Lib.hid hR
  have e1 := H.enters
  have e2 := ent_take
  have HT := Lib.hid H
  obtain ⟨rest, hrest⟩ : ∃ rest, b.tail = rest := ⟨_, rfl⟩
  rw [hrest] at HD HDB HLT ⊢
  obtain ⟨Q, hQ⟩ : ∃ Q, 8 * lr / wd = Q := ⟨_, rfl⟩
  have hQw : Q * wd ≤ 8 * lr := by rw [← hQ]; exact Nat.div_mul_le_self _ _
  have hQi : (8 * (lr : Int)) / (wd : Int) = (Q : Int) := by
    rw [← hQ, show (8 * (lr : Int)) = ((8 * lr : Nat) : Int) by omega]
    exact (Int.natCast_ediv _ _).symm
  have hQt : (8 * (lr : Int)).tdiv (wd : Int) = (Q : Int) := by rw [Int.tdiv_eq_ediv_of_nonneg (by omega)]; exact hQi
  rw [hQ]
  obtain ⟨P, hP⟩ : ∃ P, wd * m = P := ⟨_, rfl⟩
  have hPi : (wd : Int) * (m : Int) = (P : Int) := by rw [← hP]; exact (Int.natCast_mul _ _).symm
  have hPl : (P : Int) ≤ 4096 := by
    have : wd * m ≤ 16 * 256 := Nat.mul_le_mul (by omega) (by omega)
    omega
  obtain ⟨Z, hZ⟩ : ∃ Z, (P + 7) / 8 = Z := ⟨_, rfl⟩
  rw [hP, hZ]
  have hl0 : ((lr : Int) + 1 == 0) = false := by simp; omega
  have hQl : (Q : Int) ≤ 3200000 := by
    have : Q * 1 ≤ Q * wd := Nat.mul_le_mul_left _ h1
    omega
  have HQW := Lib.hid hQw
  clear hR hd hdb hlb hy hrest hQ hQw hP H
  go_enter Try.func40, Try.ntmps40
  go_wp2
  go_cut [0, 11] (fun t0 t11 wx => ∃ pr cr, t0 = .slice pr lr cr ∧ t11 = .int .i64 wd ∧ (lr = 0 ∨ pr = some ⟨bd, od + 1, none⟩) ∧ wx = w.drew)
  case first =>
    by_cases hc1 : c = 1
    · go_region
      go_wp2_with fail
      go_meet
      exact ⟨_, _, rfl, rfl, .inl (by omega), rfl⟩
    · go_region
      go_wp2_with fail
      go_meet
      exact ⟨_, _, rfl, rfl, .inr rfl, rfl⟩
  case rest =>
    obtain ⟨pr, cr, rfl, rfl, hpr, rfl⟩ := hcut
    have hds : ∀ w', Below B w.drew w' → lr = 0 ∨ BytAt w' pr rest := fun w' hb => by
      rcases hpr with h | h
      · exact .inl h
      · exact .inr (h ▸ HD.out w' (((Below.refl B w).drew).trans hb))
    have HDS := Lib.hid hds
    have HR2 := Lib.hid (⟨HT.out.stays _ _ _ HR.out.st ⟨Nat.le_refl _, fun _ _ _ => rfl⟩, HR.out.row⟩ : Rb B g N T S a w.drew)
    have hw2 : hi ≤ w.drew.heap.size := hhw
    have HBD := Lib.hid ((Below.refl B w).drew)
    obtain ⟨wd0, hwd0⟩ : ∃ w0, w.drew = w0 := ⟨_, rfl⟩
    rw [hwd0] at HDS HR2 hw2 HBD
    rw [hwd0]
    clear hds hpr HR HD hc0 hwd0 hhw
    obtain ⟨Wh, hWh⟩ : ∃ Wh, min m Q = Wh := ⟨_, rfl⟩
    have HWH := Lib.hid hWh
    go_upto_region 6 with (first | (go_at_call 60; ((with_reducible refine (C1.out _).mono ?_); rintro x' w' ⟨rfl, rfl⟩)))
    go_cut [8] (fun t8 wx => t8 = .int .i64 Wh ∧ wx = wd0)
    case first =>
      rcases Int.lt_trichotomy (m : Int) (Q : Int) with hc | hc | hc
      · have e : Wh = m := by rw [← hWh]; omega
        subst e
        go_wp2
        go_meet
        exact ⟨rfl, rfl⟩
      · have e : Q = m := by omega
        have e : Wh = m := by rw [← hWh]; omega
        subst e
        go_wp2
        all_goals go_meet
        all_goals (first | exact ⟨rfl, rfl⟩ | exact ⟨by rw [hc], rfl⟩ | exact ⟨by rw [← hc], rfl⟩)
      · have e : Wh = Q := by rw [← hWh]; omega
        subst e
        go_wp2
        go_meet
        exact ⟨rfl, rfl⟩
    case rest =>
      obtain ⟨rfl, rfl⟩ := hcut
      have CB := Lib.hid (p_bitReader pr lr cr wc wc.heap.size rfl)
      go_wp2_with (first | (go_at_call 63; ((with_reducible refine CB.out.mono ?_); rintro x' w4 ⟨rfl, hm4⟩; have HM4 := Lib.hid hm4; clear hm4)))
      have HS4 := Lib.hid (⟨HM4.out.2.1, HM4.out.1⟩ : RdS wc.heap.size pr lr cr 0 w4)
      have HR4 := Lib.hid (HR2.out.kept HT.out HM4.out.2.2.2 hw2)
      have HB4 := Lib.hid (HM4.out.2.2.2.mono (show B ≤ wc.heap.size by omega))
      have hs4 := HM4.out.2.2.1
      obtain ⟨s, hs⟩ : ∃ s, wc.heap.size = s := ⟨_, rfl⟩
      rw [hs] at HS4 hs4 hw2
      simp only [hs]
      clear HM4 hs CB HR2
      go_loopw [38] (fun i wr => ∃ j : Nat, j ≤ Wh ∧ i = .int .i64 j ∧ Hid (RdS s pr lr cr (j * wd) wr) ∧ Hid (Rb B g N T S (a ++ rbL rest wd j) wr) ∧ Hid (Below B wc wr) ∧ s + 2 ≤ wr.heap.size) (fun i _ => Wh - (intOf i).toNat)
      case atStart => exact ⟨0, by omega, rfl, by rw [Nat.zero_mul]; exact HS4.out, by rw [show rbL rest wd 0 = [] from rfl, List.append_nil]; exact HR4.out, HB4.out, by omega⟩
      case round =>
        clear HS4 HR4 HB4 hs4
        obtain ⟨j, hj, rfl, HS, HRj, hbw, hsz⟩ := hrel
        by_cases hlt : j < Wh
        · have hj1 : (j + 1) * wd ≤ Q * wd := Nat.mul_le_mul_right _ (by have := HWH.out; omega)
          have hjb : j * wd + wd ≤ 8 * lr := by have := HQW.out; rw [Nat.succ_mul] at hj1; omega
          have hlr : lr ≠ 0 := by omega
          have hal : (a ++ rbL rest wd j).length = a.length + j := by rw [List.length_append, rbL_length]
          have CT := Lib.hid (c_take s lr cr (j * wd) wd pr rest wr HS.out HLT.out (fun w' hm' => (HDS.out w' (hbw.out.trans (hm'.belowB (by omega) (by omega)))).resolve_left hlr) HDB.out (by omega) (by omega) (by omega))
          have hv0 : 0 ≤ Pk.rdv rest (j * wd) wd := Pk.bsum_lo (Pk.rdv_bits rest _) wd
          have hv1 : Pk.rdv rest (j * wd) wd < 2 ^ wd := Pk.bsum_hi (Pk.rdv_bits rest _) wd
          have hv2 : (2 : Int) ^ wd ≤ 65536 := pow2_le (by omega)
          have HVE := Lib.hid (show Pk.wrp (hlf wd) (Pk.rdv rest (j * wd) wd) = rbV rest wd j from rfl)
          obtain ⟨V, hV⟩ : ∃ V, Pk.rdv rest (j * wd) wd = V := ⟨_, rfl⟩
          rw [hV] at CT hv0 hv1 HVE
          have CW := Lib.hid (fun w1 => p_wrap V wd w1 (by omega) (by omega) (by omega) (by omega))
          rw [HVE.out] at CW
          have vb : -65536 ≤ rbV rest wd j ∧ rbV rest wd j ≤ 65536 := by
            have h0 := Pk.wrp_lo (x := V) (hlf_pos wd)
            have h1 := Pk.wrp_hi (x := V) (hlf_pos wd)
            have h2 := hlf_le (b := (wd : Int)) (by omega)
            rw [HVE.out] at h0 h1
            omega
          obtain ⟨v, hv⟩ : ∃ v, rbV rest wd j = v := ⟨_, rfl⟩
          rw [hv] at CW vb
          have HSU := Lib.hid (show a ++ rbL rest wd (j + 1) = a ++ rbL rest wd j ++ [v] by rw [rbL_succ, hv, List.append_assoc])
          have CF := Lib.hid (fun w1 (h : S (a ++ rbL rest wd j) w1) => HT.out.calls (a ++ rbL rest wd j) v w1 (by omega) (by omega) h)
          obtain ⟨A, hA⟩ : ∃ A, a ++ rbL rest wd j = A := ⟨_, rfl⟩
          rw [hA] at CF HRj HSU hal
          obtain ⟨z, hz⟩ : ∃ z, (T (A ++ [v])).getD A.length 0 = z := ⟨_, rfl⟩
          rw [hz] at CF
          have HZ := Lib.hid hz
          have HAL := Lib.hid hal
          have hAN : a.length + j < N := by have := HWH.out; omega
          have hjm : j < m := by have := HWH.out; omega
          clear hj1 hv0 hv1 hv2 hV hv hA hz hal
          have hgs : g < s := by omega
          go_wp2_with (first
            | (go_at_fn 70; ((with_reducible refine CT.out.mono ?_); rintro x' w5 ⟨rfl, hs5, hm5⟩; have HS5 := Lib.hid hs5; have HR5 := Lib.hid (HRj.out.far HT.out hm5 hw2 hgs (by omega)); have HB5 := Lib.hid (hbw.out.trans (hm5.belowB (by omega) (by omega))); have hz5 := hm5.size; clear hs5 hm5))
            | (go_at_call 43; ((with_reducible refine (CW.out _).mono ?_); rintro x' w' ⟨rfl, rfl⟩))
            | (go_at_fn F; ((with_reducible refine (CF.out _ HR5.out.st).mono ?_); rintro x' w6 ⟨rfl, hs6, hm6⟩; have HR6 := Lib.hid (HR5.out.step HT.out hs6 hm6 hgl (by have := HAL.out; omega)); have HS6 := Lib.hid (HS5.out.mid hm6 hw2); have HB6 := Lib.hid (HB5.out.trans (hm6.belowB (by omega) (by omega))); have hrow6 := row_of HR5.out.row (hm6.block g (World.ownsRow.lt HR5.out.row g rfl).2 (.inl hgl)); have a0 := (hrow6.cellAt (a.length + j) (by omega)).trans (frow_eq_at (fun i => (T A).getD i 0) (by have := HAL.out; omega) HAL.out); have a1 := hrow6.frozenAt (a.length + j); have hz6 := hm6.size; clear hs6 hm6 hrow6)))
          go_roundw
          case rel => exact ⟨j + 1, by omega, by go_num, by rw [Nat.succ_mul]; exact HS6.out.far hgs _ _, by have h7 := HR6.out; rw [HZ.out, HAL.out] at h7; rw [HSU.out]; exact h7, HB6.out.setCell hB _, by simp; omega⟩
          case measure => simp [intOf]; omega
        · have e : j = Wh := by omega
          subst e
          have HQ := Lib.hid (HBD.out.trans hbw.out)
          have hPm : (m : Int) * (wd : Int) = (P : Int) := by rw [Int.mul_comm]; exact hPi
          have hZi : ((P : Int) + 7) / 8 = (Z : Int) := by omega
          have hZt : ((P : Int) + 7).tdiv 8 = (Z : Int) := by rw [Int.tdiv_eq_ediv_of_nonneg (by omega)]; omega
          rcases Int.lt_trichotomy (lr : Int) (Z : Int) with hc | hc | hc
          · have HE := Lib.hid (show min lr Z = lr by omega)
            go_wp2
            go_ret3
            exact ⟨by rw [HWH.out, HE.out]; exact ret_mid (by omega), by rw [HWH.out]; exact HRj.out, HQ.out⟩
          · have HE := Lib.hid (show min lr Z = lr by omega)
            go_wp2
            go_ret3
            exact ⟨by rw [HWH.out, HE.out]; exact ret_mid (by omega), by rw [HWH.out]; exact HRj.out, HQ.out⟩
          · have HE := Lib.hid (show min lr Z = Z by omega)
            go_wp2
            go_ret3
            exact ⟨by rw [HWH.out, HE.out]; exact ret_mid (by omega), by rw [HWH.out]; exact HRj.out, HQ.out⟩
end Go.Proofs.Ytfljgdehbogimaa

/-
  The contract of the reference's Undone: what bytes of blocks hold.
-/
import Derived.Test.YtfljgdehbogimaaRefUnd
import Derived.Test.YtfljgdehbogimaaRefBlk
import Derived.Test.YtfljgdehbogimaaPUnb
import Derived.Deep.DeepCutAuto
import Derived.Deep.CutBlock
namespace Go.Proofs.Ytfljgdehbogimaa
open Go.RowKit

/-- What the loop over the blocks keeps. -/
structure UdR (b : Int) (n B : Nat) (bs : List Int) (W : World) (uv bv lv : Value) (wr : World) : Prop where
  ex : ∃ (a : List Int) (u c : Nat) (p : Option Addr), uv = .int .i64 u ∧ bv = .bool false ∧ lv = .slice p a.length c ∧ a.length ≤ n ∧ u ≤ bs.length ∧ still b n bs a u ∧ (∀ x ∈ a, -65536 ≤ x ∧ x ≤ 65536) ∧ wr.ownsRow B 3 1 (.slice p a.length c) a.length (a.map (Value.int .i64)) ∧ Below B W wr
/-- What it leaves. -/
structure UdE (b : Int) (n B : Nat) (bs : List Int) (W : World) (uv bv lv : Value) (wr : World) : Prop where
  ex : ∃ (a : List Int) (u c : Nat) (p : Option Addr) (bad : Bool), uv = .int .i64 u ∧ bv = .bool bad ∧ lv = .slice p a.length c ∧ a.length ≤ n ∧ (bad = true ∧ ub b (n + 1) n bs = none ∨ bad = false ∧ ub b (n + 1) n bs = some (a, u)) ∧ (∀ x ∈ a, -65536 ≤ x ∧ x ≤ 65536) ∧ wr.ownsRow B 3 1 (.slice p a.length c) a.length (a.map (Value.int .i64)) ∧ Below B W wr
theorem byte_and1 {y : Int} {s : Nat} (y0 : 0 ≤ y) (y1 : y < 256) : bits .and .u8 (y / 2 ^ s) 1 = Pk.bitI y s := by
  have h1 : 0 ≤ y / 2 ^ s := Int.ediv_nonneg y0 (Int.le_of_lt (Pk.pow_pos2 _))
  have h2 : y / 2 ^ s ≤ y := Int.ediv_le_self _ y0
  have := bit_and y s
  rwa [Int.emod_eq_of_lt h1 (by omega)] at this
theorem rbL_in {rest : List Int} {wd n : Nat} (h : wd ≤ 16) : ∀ x ∈ rbL rest wd n, -65536 ≤ x ∧ x ≤ 65536 := by
  intro x hx
  unfold rbL at hx
  rw [List.mem_map] at hx
  obtain ⟨j, _, rfl⟩ := hx
  unfold rbV
  have h0 := Pk.wrp_lo (x := Pk.rdv rest (j * wd) wd) (hlf_pos wd)
  have h1 := Pk.wrp_hi (x := Pk.rdv rest (j * wd) wd) (hlf_pos wd)
  have h2 := hlf_le (b := (wd : Int)) (by omega)
  omega
def lenW : Value → Nat
  | .slice _ n _ => n
  | _ => 0
set_option maxRecDepth 20000 in
set_option maxHeartbeats 4800000 in
theorem rundone (bs : List Int) (pb : Option Addr) (capb n : Nat) (b v : Int) (w : World) (hd : BytAt w pb bs) (hdb : ∀ x ∈ bs, 0 ≤ x ∧ x < 256) (hlc : bs.length ≤ capb) (hb1 : (bs.length : Int) ≤ 400000) (hb2 : (n : Int) ≤ 4096) (hb8 : b = 8 ∨ b = 16) (hv : v = 1 ∨ v = 2) :
    Calls Try.prog 41 #[.slice pb bs.length capb, .int .i64 b, .int .i64 v, .int .i64 n] w fun e w' => (∃ (g m u : Nat) (bad : Bool) (a : List Int), e = .returned (.tuple #[.slice (some ⟨g, 0, none⟩) m m, .int .i64 u, .bool bad]) ∧ a.length = m ∧ m ≤ n ∧ (bad = true ∧ ub b (n + 1) n bs = none ∨ bad = false ∧ ub b (n + 1) n bs = some (a, u)) ∧ w'.ownsRow w.heap.size 3 1 (.slice (some ⟨g, 0, none⟩) m m) m ((dec b v a).map (Value.int .i64))) ∧ Below w.heap.size w w' := by
  obtain ⟨i0, hinf, hz0, hz1, hz2⟩ := info_parts Try.infoInt
  obtain ⟨lb, hlb⟩ : ∃ lb, bs.length = lb := ⟨_, rfl⟩
  have HLB := Lib.hid hlb
  have HDB := Lib.hid hdb
  rw [hlb] at hlc hb1
  rw [hlb]
  obtain ⟨B, hBe⟩ : ∃ B, w.heap.size = B := ⟨_, rfl⟩
  have HBE := Lib.hid hBe
  have hBw : B ≤ w.heap.size := Nat.le_of_eq hBe.symm
  have HD := Lib.hid (fun wr (hb : Below B w wr) => hd.below (hBe ▸ hb))
  have HV := Lib.hid hv
  clear hlb hd hdb hBe hv
  go_enter Try.func41, Try.ntmps41
  go_upto_block 0 with fail
  go_cut [9, 10, 11] (fun uv bv lv wx => UdE b n B bs w uv bv lv wx)
  case first =>
    go_wp2_with fail
    go_loopw [9, 10, 11] (fun uv bv lv wr => UdR b n B bs w uv bv lv wr) (fun _ _ lv _ => n - lenW lv)
    case atStart => exact ⟨[], 0, 0, none, rfl, rfl, rfl, by simp, by omega, still_start b n bs, by simp, ⟨rfl, .inl ⟨rfl, rfl⟩⟩, Below.refl _ _⟩
    case round =>
      obtain ⟨a, u, c, p, rfl, rfl, rfl, han, hu, hst, hai, hown, hbw⟩ := hrel
      rw [HLB.out] at hu
      have HST := Lib.hid hst
      have HAI := Lib.hid hai
      have HO := Lib.hid hown
      have HB := Lib.hid hbw
      obtain ⟨f, hf⟩ : ∃ f, a.length = f := ⟨_, rfl⟩
      have HAF := Lib.hid hf
      rw [hf] at han HO ⊢
      clear hst hai hown hbw hf
      by_cases hlt : f < n
      · by_cases hul : u < lb
        · obtain ⟨y, rest, hdr⟩ : ∃ y rest, bs.drop u = y :: rest := by
            cases hq : bs.drop u with
            | nil => have := List.drop_eq_nil_iff.mp hq; rw [HLB.out] at this; omega
            | cons y r => exact ⟨y, r, rfl⟩
          obtain ⟨bd, od, rfl, hc0⟩ := (HD.out wr HB.out).at (i := u) (by rw [HLB.out]; exact hul)
          have hyc : bs.getD u 0 = y := by
            have e : (bs.drop u).getD 0 0 = y := by rw [hdr]; rfl
            rw [← e, List.getD_eq_getElem?_getD, List.getD_eq_getElem?_getD, List.getElem?_drop, Nat.add_zero]
          rw [hyc] at hc0
          have hBL : (bs.drop u).length = lb - u := by rw [List.length_drop, HLB.out]
          have hBR : ∀ x ∈ bs.drop u, 0 ≤ x ∧ x < 256 := fun x hx => HDB.out x (List.mem_of_mem_drop hx)
          have y0 := hBR y (by rw [hdr]; exact List.mem_cons_self)
          have hdt : (bs.drop u).tail = rest := by rw [hdr]; rfl
          have HRB := Lib.hid (fun w' (hb : Below B w w') => hdt ▸ byt_tail (byt_drop (HD.out w' hb) u))
          have HRI := Lib.hid (fun x (hx : x ∈ rest) => hBR x (by rw [hdr]; exact List.mem_cons_of_mem _ hx))
          obtain ⟨lr, hlr⟩ : ∃ lr, lb - u = lr + 1 := ⟨lb - u - 1, by omega⟩
          have hlrl : rest.length = lr := by rw [← hdt, List.length_tail, hBL, hlr]; rfl
          have HLR := Lib.hid hlrl
          have hfa : a.length < n := by rw [HAF.out]; exact hlt
          have huI : (u : Int) + 1 + lr = lb := by omega
          by_cases hy : 1 ≤ y ∧ y ≤ b
          · obtain ⟨wd, rfl⟩ : ∃ wd : Nat, y = wd := ⟨y.toNat, by omega⟩
            have hw1 : 1 ≤ wd := by omega
            have hw16 : wd ≤ 16 := by omega
            have hw2 := hy.2
            obtain ⟨m, hm⟩ : ∃ m, min (n - f) 256 = m := ⟨_, rfl⟩
            have hm1 : 1 ≤ m := by omega
            have hm2 : (m : Int) ≤ 256 := by omega
            have hfm : (f : Int) + m ≤ n := by omega
            have HM := Lib.hid hm
            have HSC := Lib.hid (fun hc => still_cut (m := m) HST.out hdr hfa hy (by rw [HAF.out]; exact hm) hc)
            have HSG := Lib.hid (fun hc => still_go (m := m) HST.out hdr hfa hy (by rw [HAF.out]; exact hm) hc)
            rw [hlrl] at HSC HSG
            obtain ⟨P, hP⟩ : ∃ P, wd * m = P := ⟨_, rfl⟩
            have hPl : (P : Int) ≤ 4096 := by
              have : wd * m ≤ 16 * 256 := Nat.mul_le_mul hw16 (by omega)
              omega
            have hPI : (m : Int) * (wd : Int) = (P : Int) := by rw [Int.mul_comm, ← hP]; exact (Int.natCast_mul _ _).symm
            obtain ⟨Z, hZ⟩ : ∃ Z, (P + 7) / 8 = Z := ⟨_, rfl⟩
            have hZI : ((P : Int) + 7) / 8 = (Z : Int) := by omega
            have hZt : ((P : Int) + 7).tdiv 8 = (Z : Int) := by rw [Int.tdiv_eq_ediv_of_nonneg (by omega)]; omega
            obtain ⟨Q, hQ⟩ : ∃ Q, 8 * lr / wd = Q := ⟨_, rfl⟩
            have hQI : ((lr : Int) * 8) / (wd : Int) = (Q : Int) := by
              rw [← hQ, show ((lr : Int) * 8) = ((8 * lr : Nat) : Int) by omega]
              exact (Int.natCast_ediv _ _).symm
            have hQt : ((lr : Int) * 8).tdiv (wd : Int) = (Q : Int) := by rw [Int.tdiv_eq_ediv_of_nonneg (by omega)]; exact hQI
            have hQ1 : lr < Z → Q < m := fun h => by
              rw [← hQ, Nat.div_lt_iff_lt_mul (by omega), Nat.mul_comm m wd, hP]
              omega
            have hQ2 : Z ≤ lr → m ≤ Q := fun h => by
              rw [← hQ, Nat.le_div_iff_mul_le (by omega), Nat.mul_comm m wd, hP]
              omega
            have hQw : Q * wd ≤ 8 * lr := by rw [← hQ]; exact Nat.div_mul_le_self _ _
            rw [hP, hZ, hQ] at HSC HSG
            obtain ⟨Wh, hWh⟩ : ∃ Wh, min m Q = Wh := ⟨_, rfl⟩
            obtain ⟨Sz, hSz⟩ : ∃ Sz, min lr Z = Sz := ⟨_, rfl⟩
            rw [hWh, hSz] at HSC HSG
            have HWQ := Lib.hid (show Wh * wd ≤ 8 * lr from Nat.le_trans (Nat.mul_le_mul_right _ (by omega)) hQw)
            have hWm : Wh ≤ m := by omega
            have hSl : Sz ≤ lr := by omega
            have hlrI : (lr : Int) ≤ 400000 := by omega
            have hcb : (u : Int) + 1 ≤ capb := by omega
            have HQ1 := Lib.hid hQ1
            have HQ2 := Lib.hid hQ2
            have HWH := Lib.hid hWh
            have HSZ := Lib.hid hSz
            clear hyc hBL hBR hdt hdr hy hP hZ hQ hQw hQ1 hQ2 hWh hSz hlrl hm
            go_upto_region 6 with fail
            go_cut [13] (fun t wx => t = .int .i64 m ∧ wx = wr)
            case first =>
              have hm := HM.out
              rcases Int.lt_trichotomy ((n : Int) - f) 256 with hc | hc | hc
              · have e : (n : Int) - f = m := by omega
                go_wp2
                go_meet
                exact ⟨rfl, rfl⟩
              · have e : (n : Int) - f = m := by omega
                have e2 : m = 256 := by omega
                subst e2
                go_wp2
                all_goals go_meet
                all_goals exact ⟨rfl, rfl⟩
              · have e2 : m = 256 := by omega
                subst e2
                go_wp2
                go_meet
                exact ⟨rfl, rfl⟩
            case rest =>
              obtain ⟨rfl, rfl⟩ := hcut
              go_upto_region 8 with fail
              go_cut [15] (fun t wx => ∃ pr cr, t = .slice pr lr cr ∧ (lr = 0 ∨ pr = some ⟨bd, od + u + 1, none⟩) ∧ wx = wc)
              case first =>
                have hl2 : lb - (u + 1) = lr := by omega
                have hu1 : u + 1 ≤ lb := by omega
                by_cases hc1 : capb = u + 1
                · go_wp2
                  go_meet
                  exact ⟨_, _, rfl, .inl (by omega), rfl⟩
                · go_wp2
                  go_meet
                  exact ⟨_, _, rfl, .inr rfl, rfl⟩
              case rest =>
                obtain ⟨pr, cr, rfl, hpr, rfl⟩ := hcut
                have hds : ∀ w', Below B w w' → lr = 0 ∨ BytAt w' pr rest := fun w' hb => by
                  rcases hpr with h | h
                  · exact .inl h
                  · exact .inr (h ▸ HRB.out w' hb)
                have HDS := Lib.hid hds
                clear hds hpr HRB
                go_upto_if 60 with fail
                go_cut [13, 14] (fun t13 t14 wx => t13 = .int .i64 Wh ∧ t14 = .int .i64 Sz ∧ wx = wc)
                case first =>
                  rcases Int.lt_trichotomy (Z : Int) (lr : Int) with hc | hc | hc
                  · have e1 : Wh = m := by have := HQ2.out (by omega); have := HWH.out; omega
                    have e2 : Sz = Z := by have := HSZ.out; omega
                    subst e1 e2
                    go_wp2
                    go_meet
                    exact ⟨rfl, rfl, rfl⟩
                  · have e0 : Z = lr := by omega
                    have e1 : Wh = m := by have := HQ2.out (by omega); have := HWH.out; omega
                    have e2 : Sz = Z := by have := HSZ.out; omega
                    subst e0 e1 e2
                    go_wp2
                    go_meet
                    exact ⟨rfl, rfl, rfl⟩
                  · have e1 : Wh = Q := by have := HQ1.out (by omega); have := HWH.out; omega
                    have e2 : Sz = lr := by have := HSZ.out; omega
                    subst e1 e2
                    go_wp2
                    go_meet
                    exact ⟨rfl, rfl, rfl⟩
                case rest =>
                  obtain ⟨rfl, rfl, rfl⟩ := hcut
                  clear HQ1 HQ2 HWH HSZ hQI hQt hZI hZt hPI hPl
                  go_upto_region 12 with fail
                  go_cut [16] (fun t wx => t = .bool (decide (Wh < m)) ∧ wx = wc)
                  case first =>
                    have hm := HM.out
                    by_cases hcut : Wh < m
                    · have hcI : (Wh : Int) < m := by omega
                      rcases Int.lt_trichotomy ((n : Int) - f) 256 with hc | hc | hc
                      · have e : (n : Int) - f = m := by omega
                        go_wp2
                        go_meet
                        exact ⟨by first | (simp [hcut]; done) | (simp [hcut]; omega), rfl⟩
                      · have e : (n : Int) - f = m := by omega
                        have e2 : m = 256 := by omega
                        subst e2
                        go_wp2
                        all_goals go_meet
                        all_goals exact ⟨by first | (simp [hcut]; done) | (simp [hcut]; omega), rfl⟩
                      · have e2 : m = 256 := by omega
                        subst e2
                        go_wp2
                        go_meet
                        exact ⟨by first | (simp [hcut]; done) | (simp [hcut]; omega), rfl⟩
                    · have e3 : Wh = m := by omega
                      subst e3
                      rcases Int.lt_trichotomy ((n : Int) - f) 256 with hc | hc | hc
                      · have e : (n : Int) - f = Wh := by omega
                        go_wp2
                        go_meet
                        exact ⟨by simp, rfl⟩
                      · have e : (n : Int) - f = Wh := by omega
                        have e2 : Wh = 256 := by omega
                        subst e2
                        go_wp2
                        all_goals go_meet
                        all_goals exact ⟨by simp, rfl⟩
                      · have e2 : Wh = 256 := by omega
                        subst e2
                        go_wp2
                        go_meet
                        exact ⟨by simp, rfl⟩
                  case rest =>
                    obtain ⟨rfl, rfl⟩ := hcut
                    go_wp2
                    go_loopw [11, 17] (fun lv iv wr => ∃ (i c' : Nat) (p' : Option Addr), i ≤ Wh ∧ iv = .int .i64 i ∧ lv = .slice p' (f + i) c' ∧ Hid (wr.ownsRow B 3 1 (.slice p' (f + i) c') (f + i) ((a ++ rbL rest wd i).map (Value.int .i64))) ∧ Hid (Below B w wr)) (fun _ iv _ => Wh - (intOf iv).toNat)
                    case atStart => exact ⟨0, c, p, by omega, rfl, rfl, by rw [show rbL rest wd 0 = [] from rfl, List.append_nil]; exact HO.out, HB.out⟩
                    case round =>
                      clear HO HB
                      obtain ⟨i, c', p', hi, rfl, rfl, HO, HB⟩ := hrel
                      by_cases hlti : i < Wh
                      · have hi1 : (i + 1) * wd ≤ Wh * wd := Nat.mul_le_mul_right _ hlti
                        have hib : i * wd + wd ≤ 8 * lr := by have := HWQ.out; rw [Nat.succ_mul] at hi1; omega
                        have hlr0 : lr ≠ 0 := by omega
                        obtain ⟨br, qr, rfl, _⟩ := ((HDS.out wr HB.out).resolve_left hlr0).at (i := 0) (by rw [HLR.out]; omega)
                        have HRW := Lib.hid ((HDS.out wr HB.out).resolve_left hlr0)
                        have HRV := Lib.hid (rbL_succ rest wd i)
                        have HVE := Lib.hid (show rbV rest wd i = Pk.wrp (hlf wd) (Pk.rdv rest (i * wd) wd) from rfl)
                        obtain ⟨I, hI⟩ : ∃ I, i * wd = I := ⟨_, rfl⟩
                        have hII : (i : Int) * (wd : Int) = (I : Int) := by rw [← hI]; exact (Int.natCast_mul _ _).symm
                        rw [hI] at hib HVE
                        have hIl : (I : Int) ≤ 3200000 := by omega
                        clear hi1 hI
                        go_wp2
                        go_loopw [18, 19] (fun xv kv wx => ∃ k : Nat, k ≤ wd ∧ kv = .int .i64 k ∧ xv = .int .i64 (Pk.rdv rest I k) ∧ wx = wr) (fun _ kv _ => wd - (intOf kv).toNat)
                        case atStart => exact ⟨0, by omega, rfl, rfl, rfl⟩
                        case round =>
                          obtain ⟨k, hk, rfl, rfl, rfl⟩ := hrel
                          by_cases hltk : k < wd
                          · obtain ⟨t, ht⟩ : ∃ t, I + k = t := ⟨_, rfl⟩
                            have htI : (I : Int) + (k : Int) = (t : Int) := by omega
                            obtain ⟨j, hj⟩ : ∃ j, t / 8 = j := ⟨_, rfl⟩
                            obtain ⟨s, hs⟩ : ∃ s, t % 8 = s := ⟨_, rfl⟩
                            have hj2 : (t : Int) / 8 = (j : Int) := by omega
                            have hj1 : (t : Int).tdiv 8 = (j : Int) := by rw [Int.tdiv_eq_ediv_of_nonneg (by omega)]; omega
                            have hs2 : (t : Int) % 8 = (s : Int) := by omega
                            have hs1 : (t : Int).tmod 8 = (s : Int) := by rw [Int.tmod_eq_emod_of_nonneg (by omega)]; omega
                            have hjl : j < lr := by omega
                            obtain ⟨br', qr', hp1, hc1⟩ := HRW.out.at (i := j) (by rw [HLR.out]; exact hjl)
                            simp only [Option.some.injEq, Addr.mk.injEq] at hp1
                            obtain ⟨rfl, rfl, _⟩ := hp1
                            have y1 := getD_in (P := fun x => 0 ≤ x ∧ x < 256) HRI.out (show j < rest.length by rw [HLR.out]; exact hjl)
                            obtain ⟨z, hz⟩ : ∃ z, rest.getD j 0 = z := ⟨_, rfl⟩
                            rw [hz] at hc1 y1
                            have hbit := byte_and1 (s := s) y1.1 y1.2
                            have hb01 := Pk.bitI_01 z s
                            have hst : Pk.rdv rest I (k + 1) = Pk.rdv rest I k + Pk.bitI z s * 2 ^ k := by
                              unfold Pk.rdv
                              simp only [Pk.bsum]
                              rw [ht, hj, hs, hz]
                            have hv0 : 0 ≤ Pk.rdv rest I k := Pk.bsum_lo (Pk.rdv_bits rest I) k
                            have hv1 : Pk.rdv rest I k < 2 ^ k := Pk.bsum_hi (Pk.rdv_bits rest I) k
                            obtain ⟨V, hV⟩ : ∃ V, Pk.rdv rest I k = V := ⟨_, rfl⟩
                            obtain ⟨bt, hbt⟩ : ∃ bt, Pk.bitI z s = bt := ⟨_, rfl⟩
                            rw [hbt] at hbit hb01 hst
                            rw [hV] at hst hv0 hv1 ⊢
                            have hp2 := pow2_le (n := k) (by omega)
                            have hp0 := Pk.pow_pos2 k
                            have hsh := shl64 (r := k) (by omega) hb01
                            obtain ⟨q, hq⟩ : ∃ q, bt * 2 ^ k = q := ⟨_, rfl⟩
                            have hq0 : 0 ≤ q ∧ q ≤ 65536 := by
                              rw [← hq]
                              rcases hb01 with h | h <;> rw [h] <;> omega
                            have hV2 : V ≤ 65536 := by omega
                            have hsh2 : wrap64 (bt * 2 ^ k) = q := by rw [hq]; exact IntWalk.wrap64_in (by omega) (by omega)
                            rw [hq] at hst hsh
                            have hwb : wrap64 bt = bt := by rcases hb01 with h | h <;> rw [h] <;> exact IntWalk.wrap64_in _ (by omega)
                            have HFIN := Lib.hid (show wrap64 (V + wrap64 (wrap64 bt * 2 ^ k)) = V + q by rw [hwb, hsh2]; exact IntWalk.wrap64_in _ (by omega))
                            have HST2 := Lib.hid hst
                            clear hst ht hj hs hz hV hbt hb01 hv1 hp2 hp0 hwb
                            go_wp2
                            exact ⟨⟨k + 1, by omega, by go_num, by rw [HST2.out, HFIN.out], trivial⟩, by simp [intOf]; omega⟩
                          · have e : k = wd := by omega
                            subst e
                            have hv0 : 0 ≤ Pk.rdv rest I k := Pk.bsum_lo (Pk.rdv_bits rest I) k
                            have hv1 : Pk.rdv rest I k < 2 ^ k := Pk.bsum_hi (Pk.rdv_bits rest I) k
                            have hp2 := pow2_le (n := k) (by omega)
                            obtain ⟨V, hV⟩ : ∃ V, Pk.rdv rest I k = V := ⟨_, rfl⟩
                            rw [hV] at HVE hv0 hv1 ⊢
                            have CW := Lib.hid (rwrap V k wr (by omega) (by omega) (by omega) (by omega))
                            rw [← HVE.out] at CW
                            obtain ⟨z, hz⟩ : ∃ z, rbV rest k i = z := ⟨_, rfl⟩
                            rw [hz] at CW HRV
                            have hfi : f + i ≤ 4096 := by omega
                            have HR1 := Lib.hid (row_stays HO.out (below_box wr (.cells #[.int .i64 z] 3)))
                            have HB1 := Lib.hid (HB.out.trans ((below_box wr (.cells #[.int .i64 z] 3)).mono (Nat.le_trans hBw HB.out.size)))
                            have hs1 : B ≤ (wr.alloc (.cells #[.int .i64 z] 3)).heap.size := Nat.le_trans hBw HB1.out.size
                            have HLL := Lib.hid (show ((a ++ rbL rest k i).map (Value.int .i64)).length = (f + i) by rw [List.length_map, List.length_append, rbL_length, HAF.out])
                            have HFI := Lib.hid (show f + (i + 1) = f + i + 1 by omega)
                            have HL2 := Lib.hid (show (a ++ rbL rest k (i + 1)).length = f + (i + 1) by rw [List.length_append, rbL_length, HAF.out])
                            have HRV2 := Lib.hid (show (a ++ rbL rest k (i + 1)).map (Value.int .i64) = (a ++ rbL rest k i).map (Value.int .i64) ++ [.int .i64 z] by rw [HRV.out, ← List.append_assoc, List.map_append]; rfl)
                            clear hv0 hv1 hp2 hV hz
                            go_wp2_with (first | (go_at_call 37; ((with_reducible refine CW.out.mono ?_); rintro x' w' ⟨rfl, rfl⟩)) | (at_builtin; (refine wpList_append_own _ rfl (.tmp 104) (.tmp 108) 22 rfl B 3 i0 (.int .i64 0) 1 8 Try.underlying22 hinf hz0 hz1 hz2 rfl (by decide) (.slice p' (f + i) c') (f + i) ((a ++ rbL rest k i).map (Value.int .i64)) rfl HR1.out ⟨wr.heap.size, 0, none⟩ 1 1 [.int .i64 z] rfl rfl (one_new .i64 _ wr z) (one_one .i64 z) (by unfold maxLen; omega) (by omega) hs1 ?_; intro v' w2 hown' hgrow _; have hb2 := grown_base hgrow (fun g hg => (World.ownsRow.lt HR1.out g hg).1) hs1; clear hgrow; have HR2 := Lib.hid (show w2.ownsRow B 3 1 v' (f + (i + 1)) ((a ++ rbL rest k (i + 1)).map (Value.int .i64)) by rw [HRV2.out, HFI.out]; exact hown'); have HB2 := Lib.hid (HB1.out.trans hb2); clear hown' hb2)))
                            obtain ⟨p2, c2, e2, _⟩ := own_dat HR2.out HL2.out
                            rw [HL2.out] at e2
                            subst e2
                            exact ⟨⟨i + 1, c2, p2, by omega, by go_num, rfl, HR2.out, HB2.out⟩, by simp [intOf]; omega⟩
                      · have e : i = Wh := by omega
                        subst e
                        have HFL := Lib.hid (show (a ++ rbL rest wd i).length = f + i by rw [List.length_append, rbL_length, HAF.out])
                        have HIN := Lib.hid (show ∀ x ∈ a ++ rbL rest wd i, -65536 ≤ x ∧ x ≤ 65536 from fun x hx => by
                          rw [List.mem_append] at hx
                          rcases hx with hx | hx
                          · exact HAI.out x hx
                          · exact rbL_in hw16 x hx)
                        have HUL := Lib.hid (show u + (1 + Sz) ≤ lb by omega)
                        have hfn : f + i ≤ n := by omega
                        by_cases hcut : i < m
                        · have hcd : decide (i < m) = true := decide_eq_true hcut
                          have HE := Lib.hid (HSC.out hcut)
                          go_wp2
                          go_meet
                          exact ⟨a ++ rbL rest wd i, u + (1 + Sz), c', p', false, by first | rfl | (congr 1; omega), rfl, by rw [HFL.out], by rw [HFL.out]; exact hfn, .inr ⟨rfl, HE.out⟩, HIN.out, by rw [HFL.out]; exact HO.out, HB.out⟩
                        · have hcd : decide (i < m) = false := decide_eq_false hcut
                          have HE := Lib.hid (HSG.out hcut)
                          have him : 1 ≤ i := by omega
                          clear HSC HSG
                          go_wp2
                          exact ⟨⟨a ++ rbL rest wd i, u + (1 + Sz), c', p', by first | rfl | (congr 1; omega), rfl, by rw [HFL.out], by rw [HFL.out]; exact hfn, by rw [HLB.out]; exact HUL.out, HE.out, HIN.out, by rw [HFL.out]; exact HO.out, HB.out⟩, by simp [lenW]; omega⟩
          · have HE := Lib.hid (still_bad HST.out hdr hfa hy)
            clear hyc hBL hBR hdt hdr hlrl
            by_cases hy1 : y < 1
            · clear hy
              go_wp2
              go_meet
              exact ⟨a, u, c, p, true, rfl, rfl, by rw [HAF.out], by rw [HAF.out]; exact han, .inl ⟨rfl, HE.out⟩, HAI.out, by rw [HAF.out]; exact HO.out, HB.out⟩
            · have hy2 : b < y := by omega
              clear hy
              go_wp2
              go_meet
              exact ⟨a, u, c, p, true, rfl, rfl, by rw [HAF.out], by rw [HAF.out]; exact han, .inl ⟨rfl, HE.out⟩, HAI.out, by rw [HAF.out]; exact HO.out, HB.out⟩
        · have HE := Lib.hid (still_end HST.out (List.drop_eq_nil_of_le (by rw [HLB.out]; omega)))
          go_wp2
          go_meet
          exact ⟨a, u, c, p, false, rfl, rfl, by rw [HAF.out], by rw [HAF.out]; exact han, .inr ⟨rfl, HE.out⟩, HAI.out, by rw [HAF.out]; exact HO.out, HB.out⟩
      · have HE := Lib.hid (still_done HST.out (by rw [HAF.out]; omega))
        go_wp2
        go_meet
        exact ⟨a, u, c, p, false, rfl, rfl, by rw [HAF.out], by rw [HAF.out]; exact han, .inr ⟨rfl, HE.out⟩, HAI.out, by rw [HAF.out]; exact HO.out, HB.out⟩
  case rest =>
    obtain ⟨a, u, c, p, bad, rfl, rfl, rfl, han, hub, hai, hown, hbw⟩ := hcut
    have HUB := Lib.hid hub
    have HB := Lib.hid hbw
    have hbl := hlf_le (b := b) (by omega)
    have HR1 := Lib.hid (rsums a p c b wc (by obtain ⟨p', c', e, hk⟩ := own_dat hown rfl; cases e; exact hk) (by omega) (fun x hx => by have := hai x hx; omega) (by omega) (by omega))
    have HR2 := Lib.hid (fun (g : Nat) (w1 : World) (h1 : w1.ownsRow wc.heap.size 3 1 (.slice (some ⟨g, 0, none⟩) a.length a.length) a.length ((Pk.sums (hlf b) 0 a).map (Value.int .i64))) => by
      have hl := Pk.sums_length (hlf b) 0 a
      have := rsums (Pk.sums (hlf b) 0 a) (some ⟨g, 0, none⟩) a.length b w1 (OwnK.dat (k := .i64) (B := wc.heap.size) (e := 3) (c := a.length) (by unfold OwnK; rw [hl]; exact h1)) (by rw [hl]; omega) (fun x hx => by have := Pk.sums_in (hlf_pos b) 0 a x hx; omega) (by omega) (by omega)
      rw [hl] at this
      exact this)
    clear hub hbw hown hai hbl
    rcases HV.out with rfl | rfl
    · go_wp2_with (first | (go_at_call 39; ((with_reducible refine HR1.out.mono ?_); rintro x' w3 ⟨⟨g3, rfl, ho⟩, hb⟩; have HO3 := Lib.hid (row_lower ho (Nat.le_trans hBw HB.out.size)); have HB3 := Lib.hid (HB.out.trans (hb.mono (Nat.le_trans hBw HB.out.size))); clear ho hb)))
      go_ret3
      exact ⟨⟨g3, _, u, bad, a, rfl, rfl, han, HUB.out, by first | exact HO3.out | (rw [HBE.out]; exact HO3.out)⟩, by first | exact HB3.out | (rw [HBE.out]; exact HB3.out)⟩
    · go_wp2_with (first
        | (go_at_call 39; (have hx := HO3.out); ((with_reducible refine (HR2.out g3 w3 HO3.out).mono ?_); rintro x' w4 ⟨⟨g4, rfl, ho⟩, hb⟩; have HO4 := Lib.hid (row_lower ho (Nat.le_trans hBw HB3.out.size)); have HB4 := Lib.hid (HB3.out.trans (hb.mono (Nat.le_trans hBw HB3.out.size))); clear ho hb hx))
        | (go_at_call 39; ((with_reducible refine HR1.out.mono ?_); rintro x' w3 ⟨⟨g3, rfl, ho⟩, hb⟩; have HO3 := Lib.hid ho; have HB3 := Lib.hid (HB.out.trans (hb.mono (Nat.le_trans hBw HB.out.size))); clear ho hb)))
      go_ret3
      exact ⟨⟨g4, _, u, bad, a, rfl, rfl, han, HUB.out, by first | exact HO4.out | (rw [HBE.out]; exact HO4.out)⟩, by first | exact HB4.out | (rw [HBE.out]; exact HB4.out)⟩
end Go.Proofs.Ytfljgdehbogimaa

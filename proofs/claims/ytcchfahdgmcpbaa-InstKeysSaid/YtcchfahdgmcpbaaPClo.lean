/-
  The contract of package inst's clone: for any instrument whose lists are short.
-/
import Derived.Test.YtcchfahdgmcpbaaPCloA
import Derived.Deep.DeepCutAuto
namespace Go.Proofs.Ytcchfahdgmcpbaa
open Go.RowKit

set_option maxRecDepth 100000 in
set_option maxHeartbeats 6400000 in
theorem p_clone (i : In.Ins) (a : In.Loc) (w : World) (hd : IPts w i a) (hk : (i.keys.length : Int) ≤ 1000) (hv : (i.vol.pts.length : Int) ≤ 1000) (hp : (i.pan.pts.length : Int) ≤ 1000) (ht : (i.pit.pts.length : Int) ≤ 1000) :
    Calls Try.prog 49 #[.agg (IL i a).toArray] w fun x w' => RetC i w.heap.size x w' ∧ Below w.heap.size w w' := by
  have Hk := Lib.hid hk
  have Hv := Lib.hid hv
  have Hp := Lib.hid hp
  have Ht := Lib.hid ht
  obtain ⟨W, hW⟩ : ∃ W, W = (w.alloc (.cells (IL i a).toArray 40)).alloc (.cells (IL In.zer In.zel).toArray 40) := ⟨_, rfl⟩
  obtain ⟨b, hbe⟩ : ∃ b, b = w.heap.size := ⟨_, rfl⟩
  obtain ⟨r, hre⟩ : ∃ r, r = b + 1 := ⟨_, rfl⟩
  have HC0 := Lib.hid (show Cl w b r i a W by
    have q1 : w.heap.size + 1 = (w.alloc (.cells (IL i a).toArray 40)).heap.size := by simp
    rw [hW, hre, hbe]
    refine ⟨range_kept (range_box _ _ _) (below_box _ _), there_kept (there_box _ (IL i a) _) (below_box _ _), ?_, ⟨(hd.1.below (below_box _ _)).below (below_box _ _), ou_old hd.1 (Nat.le_refl _)⟩, ⟨(hd.2.1.below (below_box _ _)).below (below_box _ _), ou_old hd.2.1 (Nat.le_refl _)⟩, ⟨(hd.2.2.1.below (below_box _ _)).below (below_box _ _), ou_old hd.2.2.1 (Nat.le_refl _)⟩, ⟨(hd.2.2.2.below (below_box _ _)).below (below_box _ _), ou_old hd.2.2.2 (Nat.le_refl _)⟩, stepB (below_box _ _) (below_box _ _)⟩
    rw [q1]
    exact there_box _ (IL In.zer In.zel) _)
  have hbr : b ≤ r := by omega
  have hrW : r < W.heap.size := by rw [hW, hre, hbe]; simp
  have HRW := Lib.hid hrW
  have HWB := Lib.hid (show w.heap.size ≤ r by omega)
  clear hd hk hv hp ht hrW
  go_enter Try.func49, Try.ntmps49
  go_upto_region 1 with (first | (refine al_inst (by rfl) rfl ?_))
  rw [show (w.alloc (.cells (IL i a).toArray 40)).heap.size = r by rw [hre, hbe]; simp, ← hW, ← hbe]
  have HBE := Lib.hid hbe
  clear hW hre hbe
  have x1 := (range_ib HC0.out.rng).2.1
  go_upto_region 2 with (first | (go_at_call 61; ((with_reducible refine (p_cloneK i.keys a.k a.ck W HC0.out.pk.1 Hk.out).mono ?_); rintro x' w1 ⟨⟨pk, ck, rfl, hpn, hnn⟩, hb1⟩; have HC1 := Lib.hid (HC0.out.kept hb1); have HO1 := Lib.hid (ou_new (b := b) (r := r) hnn HRW.out); have HN1 := Lib.hid (show Nk r i { a with k := pk, ck := ck } w1 from fun h => by obtain ⟨g, h1, h2, h3⟩ := hnn h; exact ⟨g, h1, Nat.lt_of_lt_of_le HRW.out h2, h3, ou_old HC0.out.pv.1 h2, ou_old HC0.out.pp.1 h2, ou_old HC0.out.pt.1 h2⟩); have HPN := Lib.hid hpn; clear hpn hnn hb1 x1; have y1 := (range_ib HC1.out.rng).2.1; have f1 := (HC1.out.th 1 (by omega)).2; rw [Nat.zero_add] at f1)))
  have HC2 := Lib.hid (HC1.out.set_k hbr ck HPN.out HO1.out)
  have HN2 := Lib.hid (HN1.out.ap (ap_set (b := b) (j := 1) w1 (.slice pk i.keys.length ck) (Nat.le_refl b) hbr))
  obtain ⟨w2, hw2⟩ : ∃ u, u = w1.setCell ⟨b, 1, none⟩ (.slice pk i.keys.length ck) := ⟨_, rfl⟩
  rw [← hw2] at HC2 HN2 ⊢
  clear y1 f1 hw2 HN1 HC1 HPN HO1
  have HP3 := Lib.hid (ps_new w2 b 91)
  have HC3 := Lib.hid (HC2.out.kept (below_box w2 (.cells #[.pointer (some ⟨b, 2, none⟩), .pointer (some ⟨b, 10, none⟩), .pointer (some ⟨b, 18, none⟩)] 91)))
  have HN3 := Lib.hid (HN2.out.kept (below_box w2 (.cells #[.pointer (some ⟨b, 2, none⟩), .pointer (some ⟨b, 10, none⟩), .pointer (some ⟨b, 18, none⟩)] 91)))
  have hrs : r < w2.heap.size := there_lt HC2.out.res
  have hbs : b < w2.heap.size := by omega
  go_wp2
  go_loopw [14] (fun j wr => ∃ k : Nat, k ≤ 3 ∧ j = .int .i64 k ∧ ∃ a', Hid (Cl w b r i a' wr) ∧ Hid (Nk r i a' wr) ∧ Hid (Nw r k i a') ∧ Hid (Ps wr w2.heap.size b)) (fun j _ => 3 - (intOf j).toNat)
  case atStart => exact ⟨0, by omega, rfl, _, HC3.out, HN3.out, ⟨fun h => absurd h (by omega), fun h => absurd h (by omega), fun h => absurd h (by omega)⟩, HP3.out⟩
  case round =>
    obtain ⟨k, hk, rfl, a', HC, HN, HV, HP⟩ := hrel
    rcases (show k = 0 ∨ k = 1 ∨ k = 2 ∨ k = 3 by omega) with rfl | rfl | rfl | rfl
    · have HCr := HC
      have x3 := (range_ib HC.out.rng).2.2.2.1
      obtain ⟨-, p0, p1, p2⟩ := HP.out
      go_wp2_with (first | (go_at_call 62; ((with_reducible refine (p_cloneP i.vol.pts a'.v a'.cv wr HC.out.pv.1 Hv.out).mono ?_); rintro x' w5 ⟨⟨pn, cn, rfl, hpn, hnn⟩, hb5⟩; have HC5 := Lib.hid (HC.out.kept hb5); have HP5 := Lib.hid (HP.out.kept hb5); have HN5 := Lib.hid ((HN.out.set_v cn (Nat.le_refl _) hnn).kept hb5); have HW5 := Lib.hid (nw_step hnn (Nat.lt_of_lt_of_le hrs (Nat.le_of_lt HP.out.1))); have HO5 := Lib.hid (ou_new (b := b) (r := r) hnn (Nat.lt_of_lt_of_le hrs (Nat.le_of_lt HP.out.1))); have HPN := Lib.hid hpn; clear hpn hnn hb5 x3 p0 p1 p2; have y3 := (range_ib HC5.out.rng).2.2.2.1; have f3 := (HC5.out.th 3 (by omega)).2; rw [Nat.zero_add] at f3)))
      go_roundw
      case rel => exact ⟨1, by omega, rfl, _, HC5.out.set_v hbr cn HPN.out HO5.out, HN5.out.ap (ap_set w5 _ (Nat.le_refl b) hbr), ⟨fun _ => HW5.out, fun h => absurd h (by omega), fun h => absurd h (by omega)⟩, HP5.out.set hbs⟩
      case measure => simp [intOf]
    · have HCr := HC
      have x11 := (range_ib HC.out.rng).2.2.2.2.2.2.2.2.2.2.2.1
      obtain ⟨-, p0, p1, p2⟩ := HP.out
      go_wp2_with (first | (go_at_call 62; ((with_reducible refine (p_cloneP i.pan.pts a'.p a'.cp wr HC.out.pp.1 Hp.out).mono ?_); rintro x' w5 ⟨⟨pn, cn, rfl, hpn, hnn⟩, hb5⟩; have HC5 := Lib.hid (HC.out.kept hb5); have HP5 := Lib.hid (HP.out.kept hb5); have HN5 := Lib.hid ((HN.out.set_p cn (Nat.le_refl _) hnn).kept hb5); have HW5 := Lib.hid (nw_step hnn (Nat.lt_of_lt_of_le hrs (Nat.le_of_lt HP.out.1))); have HO5 := Lib.hid (ou_new (b := b) (r := r) hnn (Nat.lt_of_lt_of_le hrs (Nat.le_of_lt HP.out.1))); have HPN := Lib.hid hpn; clear hpn hnn hb5 x11 p0 p1 p2; have y11 := (range_ib HC5.out.rng).2.2.2.2.2.2.2.2.2.2.2.1; have f11 := (HC5.out.th 11 (by omega)).2; rw [Nat.zero_add] at f11)))
      go_roundw
      case rel => exact ⟨2, by omega, rfl, _, HC5.out.set_p hbr cn HPN.out HO5.out, HN5.out.ap (ap_set w5 _ (Nat.le_refl b) hbr), ⟨fun _ => HV.out.1 (by omega), fun _ => HW5.out, fun h => absurd h (by omega)⟩, HP5.out.set hbs⟩
      case measure => simp [intOf]
    · have HCr := HC
      have x19 := (range_ib HC.out.rng).2.2.2.2.2.2.2.2.2.2.2.2.2.2.2.2.2.2.2.1
      obtain ⟨-, p0, p1, p2⟩ := HP.out
      go_wp2_with (first | (go_at_call 62; ((with_reducible refine (p_cloneP i.pit.pts a'.t a'.ct wr HC.out.pt.1 Ht.out).mono ?_); rintro x' w5 ⟨⟨pn, cn, rfl, hpn, hnn⟩, hb5⟩; have HC5 := Lib.hid (HC.out.kept hb5); have HP5 := Lib.hid (HP.out.kept hb5); have HN5 := Lib.hid ((HN.out.set_t cn (Nat.le_refl _) hnn).kept hb5); have HW5 := Lib.hid (nw_step hnn (Nat.lt_of_lt_of_le hrs (Nat.le_of_lt HP.out.1))); have HO5 := Lib.hid (ou_new (b := b) (r := r) hnn (Nat.lt_of_lt_of_le hrs (Nat.le_of_lt HP.out.1))); have HPN := Lib.hid hpn; clear hpn hnn hb5 x19 p0 p1 p2; have y19 := (range_ib HC5.out.rng).2.2.2.2.2.2.2.2.2.2.2.2.2.2.2.2.2.2.2.1; have f19 := (HC5.out.th 19 (by omega)).2; rw [Nat.zero_add] at f19)))
      go_roundw
      case rel => exact ⟨3, by omega, rfl, _, HC5.out.set_t hbr cn HPN.out HO5.out, HN5.out.ap (ap_set w5 _ (Nat.le_refl b) hbr), ⟨fun _ => HV.out.1 (by omega), fun _ => HV.out.2.1 (by omega), fun _ => HW5.out⟩, HP5.out.set hbs⟩
      case measure => simp [intOf]
    · have HL := Lib.hid (HC.out.rng)
      have HT := Lib.hid (HC.out.res)
      have ⟨HPv, HPp, HPt⟩ := And.intro (Lib.hid HC.out.pv) (And.intro (Lib.hid HC.out.pp) (Lib.hid HC.out.pt))
      have HPk := Lib.hid HC.out.pk
      have HB := Lib.hid HC.out.blw
      go_wp2_with (first | (refine ld_inst (by rfl) _ rfl rfl HL.out ?_) | ((refine st_inst (by rfl) _ _ rfl rfl rfl HT.out ?_); intro w6 hr6 ht6 hg6))
      have A6 : Ap b r wr w6 := ap_grown hg6 hbr (Nat.le_refl r)
      refine bodyPost_ret (res_one rfl rfl hr6) rfl ?_
      have hbw := HBE.out
      refine ⟨⟨a', rfl, ⟨HPk.out.1.ap HPk.out.2 A6, HPv.out.1.ap HPv.out.2 A6, HPp.out.1.ap HPp.out.2 A6, HPt.out.1.ap HPt.out.2 A6⟩, ⟨ou_on (HV.out.1 (by omega)) (by omega), ou_on (HV.out.2.1 (by omega)) (by omega), ou_on (HV.out.2.2 (by omega)) (by omega)⟩, fun h => ?_⟩, ?_⟩
      · obtain ⟨g, h1, h2, h3⟩ := HN.out.ap A6 h
        exact ⟨g, h1, by omega, h3⟩
      · rw [← hbw]
        exact HB.out.grown hg6 (by have := range_lt HL.out; omega) (fun k hk => by simp at hk; omega)
end Go.Proofs.Ytcchfahdgmcpbaa

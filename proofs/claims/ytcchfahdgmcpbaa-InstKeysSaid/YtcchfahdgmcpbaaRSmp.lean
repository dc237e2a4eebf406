/-
  The contract of the reference's Samples.
-/
import Derived.Test.YtcchfahdgmcpbaaPSmpA
import Derived.Deep.DeepCutAuto
namespace Go.Proofs.Ytcchfahdgmcpbaa
open Go.RowKit

set_option maxHeartbeats 3200000 in
theorem r_smp_no (i : In.Ins) (a : In.Loc) (own : Int) (w : World) (hd : IPts w i a) (hm : i.name.size ≤ maxLen) (h5 : (i.keys.length : Int) ≤ 500) (h : In.ivld i = false) :
    Calls Try.prog 23 #[.agg (IL i a).toArray, .int .i64 own] w fun x w' => RetI (In.smp i own) w.heap.size x w' ∧ Below w.heap.size w w' := by
  have HE := Lib.hid (smp_no (own := own) h)
  obtain ⟨W, hW⟩ : ∃ W, W = w.alloc (.cells (IL i a).toArray 40) := ⟨_, rfl⟩
  obtain ⟨b, hbe⟩ : ∃ b, b = w.heap.size := ⟨_, rfl⟩
  have HX := Lib.hid (show Bx W b i a by rw [hW, hbe]; exact bx_new w i a hd)
  have HWb := Lib.hid (show Below w.heap.size w W by rw [hW]; exact below_box _ _)
  have HB0 := Lib.hid (Below.refl W.heap.size W)
  have C2 := Lib.hid (fun u (hu : Below W.heap.size W u) => onB hu (r_Valid i a u (HX.out.kept hu).pts hm h5))
  rw [h] at C2
  clear h hd hm h5
  go_enter Try.func23, Try.ntmps23
  go_upto_region 1 with fail
  rw [← hW, ← hbe]
  clear hW hbe
  go_wp2_with (first | (refine ld_inst (by rfl) _ rfl rfl (HX.out.kept HB0.out).rng ?_) | (go_at_call 21; ((with_reducible refine (C2.out _ HB0.out).mono ?_); rintro x' w2 ⟨rfl, hb2⟩; have HB2 := Lib.hid hb2; clear hb2)))
  go_ret
  exact ⟨by rw [HE.out]; exact reti_nil _ _, HWb.out.trans (HB2.out.mono HWb.out.size)⟩
set_option maxHeartbeats 3200000 in
theorem r_smp_own (i : In.Ins) (a : In.Loc) (own : Int) (w : World) (hd : IPts w i a) (hm : i.name.size ≤ maxLen) (h5 : (i.keys.length : Int) ≤ 500) (h : In.ivld i = true) (h0 : i.keys = []) :
    Calls Try.prog 23 #[.agg (IL i a).toArray, .int .i64 own] w fun x w' => RetI (In.smp i own) w.heap.size x w' ∧ Below w.heap.size w w' := by
  have HE := Lib.hid (smp_own (own := own) h h0)
  obtain ⟨W, hW⟩ : ∃ W, W = w.alloc (.cells (IL i a).toArray 40) := ⟨_, rfl⟩
  obtain ⟨b, hbe⟩ : ∃ b, b = w.heap.size := ⟨_, rfl⟩
  have HX := Lib.hid (show Bx W b i a by rw [hW, hbe]; exact bx_new w i a hd)
  have HWb := Lib.hid (show Below w.heap.size w W by rw [hW]; exact below_box _ _)
  have HB0 := Lib.hid (Below.refl W.heap.size W)
  have C2 := Lib.hid (fun u (hu : Below W.heap.size W u) => onB hu (r_Valid i a u (HX.out.kept hu).pts hm h5))
  rw [h] at C2
  have HX1 := Lib.hid (fun u (hu : Below W.heap.size W u) => (show u.cell? ⟨b, 1, none⟩ = some (.slice a.k 0 a.ck) by have := (range_ib (HX.out.kept hu).rng).2.1; rwa [h0] at this))
  clear h hd h0 hm h5
  by_cases hn : 0 < own
  · have HE2 := Lib.hid (show In.pos own = [own] by unfold In.pos; rw [if_pos hn])
    rw [HE2.out] at HE
    have hd : decide (0 < own) = true := decide_eq_true hn
    clear HE2
    go_enter Try.func23, Try.ntmps23
    go_upto_region 1 with fail
    rw [← hW, ← hbe]
    clear hW hbe
    go_upto_region 3 with (first | (refine ld_inst (by rfl) _ rfl rfl (HX.out.kept HB0.out).rng ?_) | (go_at_call 21; ((with_reducible refine (C2.out _ HB0.out).mono ?_); rintro x' w2 ⟨rfl, hb2⟩; have HB2 := Lib.hid hb2; clear hb2)))
    have x1 := HX1.out _ HB2.out
    have HF := Lib.hid (HWb.out.trans (HB2.out.mono HWb.out.size))
    go_wp2
    go_ret
    exact ⟨by rw [HE.out]; exact reti_one w2 _ HF.out.size own, stepB HF.out (below_box _ _)⟩
  · have HE2 := Lib.hid (show In.pos own = [] by unfold In.pos; rw [if_neg hn])
    rw [HE2.out] at HE
    have hd : decide (0 < own) = false := decide_eq_false hn
    clear HE2
    go_enter Try.func23, Try.ntmps23
    go_upto_region 1 with fail
    rw [← hW, ← hbe]
    clear hW hbe
    go_upto_region 3 with (first | (refine ld_inst (by rfl) _ rfl rfl (HX.out.kept HB0.out).rng ?_) | (go_at_call 21; ((with_reducible refine (C2.out _ HB0.out).mono ?_); rintro x' w2 ⟨rfl, hb2⟩; have HB2 := Lib.hid hb2; clear hb2)))
    have x1 := HX1.out _ HB2.out
    have HF := Lib.hid (HWb.out.trans (HB2.out.mono HWb.out.size))
    go_wp2
    go_ret
    exact ⟨by rw [HE.out]; exact reti_nil _ _, HF.out⟩
set_option maxRecDepth 100000 in
set_option maxHeartbeats 6400000 in
theorem r_smp_keys (i : In.Ins) (a : In.Loc) (own : Int) (w : World) (hd : IPts w i a) (hm : i.name.size ≤ maxLen) (h5 : (i.keys.length : Int) ≤ 500) (h : In.ivld i = true) (h0 : i.keys ≠ []) :
    Calls Try.prog 23 #[.agg (IL i a).toArray, .int .i64 own] w fun x w' => RetI (In.smp i own) w.heap.size x w' ∧ Below w.heap.size w w' := by
  have HE := Lib.hid (smp_keys (own := own) h h0)
  obtain ⟨i0, hinf, hz0, hz1, hz2⟩ := info_parts Try.infoInt
  obtain ⟨W, hW⟩ : ∃ W, W = w.alloc (.cells (IL i a).toArray 40) := ⟨_, rfl⟩
  obtain ⟨b, hbe⟩ : ∃ b, b = w.heap.size := ⟨_, rfl⟩
  have HX := Lib.hid (show Bx W b i a by rw [hW, hbe]; exact bx_new w i a hd)
  have HWb := Lib.hid (show Below w.heap.size w W by rw [hW]; exact below_box _ _)
  have HB0 := Lib.hid (Below.refl W.heap.size W)
  have C2 := Lib.hid (fun u (hu : Below W.heap.size W u) => onB hu (r_Valid i a u (HX.out.kept hu).pts hm h5))
  rw [h] at C2
  have HKA := Lib.hid (show (i.keys.length : Int) = 120 ∧ In.kall i.keys = true by
    rcases In.kys_parts (In.ivld_keys h) with h1 | h1
    · exact absurd h1 h0
    · exact h1)
  have HZ := Lib.hid (show ((i.keys.length : Int) == 0) = false by rw [HKA.out.1]; rfl)
  have hlen := Int.le_of_eq HKA.out.1
  obtain ⟨bk, off, hak, hpt⟩ := HX.out.pts.1.fix h0
  have HPT := Lib.hid hpt
  clear hpt
  clear h hd h0 hm h5
  go_enter Try.func23, Try.ntmps23
  go_upto_region 1 with fail
  rw [← hW, ← hbe]
  clear hW hbe
  go_upto_region 3 with (first | (refine ld_inst (by rfl) _ rfl rfl (HX.out.kept HB0.out).rng ?_) | (go_at_call 21; ((with_reducible refine (C2.out _ HB0.out).mono ?_); rintro x' w2 ⟨rfl, hb2⟩; have HB2 := Lib.hid hb2; clear hb2)))
  have x1 := (range_ib (HX.out.kept HB2.out).rng).2.1
  have hz := HZ.out
  go_upto_region 7 with fail
  clear x1 hz
  obtain ⟨G, hG⟩ : ∃ G, G = w2.heap.size := ⟨_, rfl⟩
  obtain ⟨wa, hwa⟩ : ∃ u, u = w2.alloc (.cells (List.replicate 32 (.bool false)).toArray 77) := ⟨_, rfl⟩
  have HA0 := Lib.hid (show Ar wa G (In.seenTo i.keys 0) by rw [hwa, hG, show In.seenTo i.keys 0 = fun _ => false from funext (In.seenTo_zero _)]; exact ar_new w2 _)
  have HG0 := Lib.hid (show Below G w2 wa by rw [hwa, hG]; exact below_box _ _)
  have HWG := Lib.hid (show W.heap.size ≤ G by rw [hG]; exact HB2.out.size)
  have HGw := Lib.hid (fun u (hu : Below G w2 u) => HB2.out.trans (hu.mono HWG.out))
  have HWw := Lib.hid (show w.heap.size ≤ G from Nat.le_trans HWb.out.size HWG.out)
  have HW2 := Lib.hid (HWb.out.trans (HB2.out.mono HWb.out.size))
  go_upto_region 8 with (first | (refine al_arr (by rfl) rfl ?_))
  rw [← hwa, ← hG]
  clear hwa hG
  have x1 := (range_ib (HX.out.kept (HGw.out _ HG0.out)).rng).2.1
  rw [hak] at x1
  go_wp2
  clear x1
  go_loopw [6] (fun j wr => ∃ k : Nat, k ≤ i.keys.length ∧ j = .int .i64 k ∧ Hid (Ar wr G (In.seenTo i.keys k)) ∧ Hid (Below G w2 wr)) (fun j _ => i.keys.length - (intOf j).toNat)
  case atStart => exact ⟨0, by omega, rfl, HA0.out, HG0.out⟩
  case round =>
    obtain ⟨k, hk, rfl, HA, HB⟩ := hrel
    have HXr := Lib.hid (HX.out.kept (HGw.out _ HB.out))
    have x1 := (range_ib HXr.out.rng).2.1
    rw [hak] at x1
    by_cases hlt : k < i.keys.length
    · obtain ⟨hc1, hc2⟩ := HPT.out _ (HGw.out _ HB.out) k hlt
      have hok : In.wth (In.vl i.keys k) 0 31 = true := by
        have := In.kall_yes HKA.out.2 hlt
        simp only [In.kok, Bool.and_eq_true] at this
        exact this.2
      obtain ⟨hv0, hv1⟩ : 0 ≤ In.vl i.keys k ∧ In.vl i.keys k ≤ 31 := of_decide_eq_true hok
      obtain ⟨m, hm⟩ : ∃ m : Nat, In.vl i.keys k = m := ⟨(In.vl i.keys k).toNat, by omega⟩
      have HSS := Lib.hid (fun j : Nat => show In.seenTo i.keys (k + 1) j = (In.seenTo i.keys k j || decide ((m : Int) = j)) by rw [In.seenTo_succ, hm])
      rw [hm] at hc2 hv0 hv1
      have hm32 : m < 32 := by omega
      have hg := HA.out.lt
      obtain ⟨hg1, hg2⟩ := HA.out m hm32
      obtain ⟨x, hx⟩ : ∃ x, In.tk i.keys k = x := ⟨_, rfl⟩
      rw [hx] at hc1
      clear hx hm hok
      have hki : (k : Int) < (i.keys.length : Int) := by omega
      go_wp2
      go_roundw
      case rel => exact ⟨k + 1, by omega, by go_num, HA.out.set HSS.out, HB.out.setCell (p := ⟨G, m, none⟩) (Nat.le_refl G) _⟩
      case measure => simp [intOf]; omega
    · obtain rfl : k = i.keys.length := by omega
      have HS := Lib.hid (show Ar wr G (In.seen i.keys) from HA.out)
      have hg : G + 1 ≤ wr.heap.size := HA.out.lt
      clear HA hlt
      go_wp2
      clear x1
      go_loopw [7, 8] (fun v j wq => ∃ n : Nat, 1 ≤ n ∧ n ≤ 32 ∧ j = .int .i64 n ∧ Hid (Ar wq G (In.seen i.keys)) ∧ Hid (Below G w2 wq) ∧ (∃ L : Nat, L < n ∧ Hid ((In.smpTo i.keys (n - 1)).length = L) ∧ Hid (wq.ownsRow (G + 1) 3 1 v L ((In.smpTo i.keys (n - 1)).map (Value.int .i64)))) ∧ G + 1 ≤ wq.heap.size) (fun _ j _ => 32 - (intOf j).toNat)
      case atStart => exact ⟨1, by omega, by omega, rfl, HS.out, HB.out, ⟨0, by omega, rfl, ⟨rfl, .inl ⟨rfl, rfl⟩⟩⟩, hg⟩
      case round =>
        obtain ⟨n, hn1, hn, rfl, HQ, HC, ⟨L, hL, HL, HR⟩, hs⟩ := hrel
        have HST := Lib.hid (smpTo_step i.keys hn1)
        by_cases hlt : n < 32
        · have hg1 := (HQ.out n hlt).1
          have hni : (n : Int) ≤ 31 := by omega
          by_cases hsn : In.seen i.keys n = true
          · rw [hsn] at hg1
            have HSX := Lib.hid (show In.smpTo i.keys n = In.smpTo i.keys (n - 1) ++ [(n : Int)] by rw [HST.out, if_pos hsn])
            clear hsn HST
            have HQ1 := Lib.hid (HQ.out.kept (below_box wr (.cells #[.int .i64 n] 3)))
            have HC1 := Lib.hid (HC.out.trans ((below_box wr (.cells #[.int .i64 n] 3)).mono (Nat.le_of_succ_le hs)))
            have HR1 := Lib.hid (row_stays HR.out (below_box wr (.cells #[.int .i64 n] 3)))
            have hs2 : G + 1 ≤ (wr.alloc (.cells #[.int .i64 n] 3)).heap.size := by simp; omega
            go_wp2_with (first | (at_builtin; go_loud (refine wpList_append_own _ rfl (.tmp 41) (.tmp 43) 33 rfl (G + 1) 3 i0 (.int .i64 0) 1 8 Try.underlying33 hinf hz0 hz1 hz2 rfl (by decide) u7 L ((In.smpTo i.keys (n - 1)).map (Value.int .i64)) rfl HR1.out ⟨wr.heap.size, 0, none⟩ 1 1 [.int .i64 n] rfl rfl (one_new wr n) (one_one n) (by unfold maxLen; omega) (by omega) hs2 ?_; intro v' w3 hown' hgrow _; have hb3 := grown_base hgrow (fun g hg => (World.ownsRow.lt HR1.out g hg).1) hs2; have hs3 : G + 1 ≤ w3.heap.size := Nat.le_trans hs2 hb3.size; clear hgrow; have HR2 := Lib.hid (show w3.ownsRow (G + 1) 3 1 v' (L + 1) ((In.smpTo i.keys (n + 1 - 1)).map (Value.int .i64)) by rw [Nat.add_sub_cancel, HSX.out]; simpa using hown'); have HC2 := Lib.hid (HC1.out.trans (hb3.mono (Nat.le_succ _))); have HQ2 := Lib.hid (HQ1.out.low (Nat.lt_succ_self _) hb3); clear hown')))
            go_roundw
            case rel => exact ⟨n + 1, by omega, by omega, by go_num, HQ2.out, HC2.out, ⟨L + 1, by omega, by rw [Nat.add_sub_cancel, HSX.out, List.length_append, HL.out]; rfl, HR2.out⟩, hs3⟩
            case measure => simp [intOf]; omega
          · have hsf : In.seen i.keys n = false := by simpa using hsn
            rw [hsf] at hg1
            have HSX := Lib.hid (show In.smpTo i.keys n = In.smpTo i.keys (n - 1) by rw [HST.out, if_neg hsn, List.append_nil])
            clear hsn hsf HST
            go_wp2
            go_roundw
            case rel => exact ⟨n + 1, by omega, by omega, by go_num, HQ.out, HC.out, ⟨L, by omega, by rw [Nat.add_sub_cancel, HSX.out]; exact HL.out, by rw [Nat.add_sub_cancel, HSX.out]; exact HR.out⟩, hs⟩
            case measure => simp [intOf]; omega
        · obtain rfl : n = 32 := by omega
          have HF := Lib.hid (HW2.out.trans (HC.out.mono HWw.out))
          clear HST
          go_wp2
          go_ret
          exact ⟨by rw [HE.out]; exact ⟨_, rfl, by rw [show (In.smpTo i.keys 31).length = L from HL.out]; exact row_low HR.out (Nat.le_succ_of_le HWw.out)⟩, HF.out⟩
theorem r_smp (i : In.Ins) (a : In.Loc) (own : Int) (w : World) (hd : IPts w i a) (hm : i.name.size ≤ maxLen) (h5 : (i.keys.length : Int) ≤ 500) :
    Calls Try.prog 23 #[.agg (IL i a).toArray, .int .i64 own] w fun x w' => RetI (In.smp i own) w.heap.size x w' ∧ Below w.heap.size w w' := by
  cases h : In.ivld i
  · exact r_smp_no i a own w hd hm h5 h
  · by_cases h0 : i.keys = []
    · exact r_smp_own i a own w hd hm h5 h h0
    · exact r_smp_keys i a own w hd hm h5 h h0
end Go.Proofs.Ytcchfahdgmcpbaa

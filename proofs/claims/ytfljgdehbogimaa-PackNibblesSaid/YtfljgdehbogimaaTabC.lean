/-
  The contract of package pack's countDifferences: how often each difference occurs.
-/
import Derived.Test.YtfljgdehbogimaaTabA
import Derived.Test.YtfljgdehbogimaaTabM
import Derived.Test.YtfljgdehbogimaaPDelta
import Derived.Test.YtfljgdehbogimaaPNib
namespace Go.Proofs.Ytfljgdehbogimaa
open Go.RowKit

set_option maxRecDepth 20000 in
set_option maxHeartbeats 1600000 in
theorem p_count (l : List Int) (p : Option Addr) (cap : Nat) (w : World) (hd : DatAt w p l) (h : whl l 8 = 0) :
    Calls Try.prog 42 #[.slice p l.length cap] w fun e w' => e = .returned (.agg ((Tb.cp (Pk.difs 128 0 l)).map (Value.int .i64)).toArray) ∧ Below w.heap.size w w' := by
  have HR := Lib.hid (whl_in h)
  have CS := Lib.hid (fun w1 => p_differences 8 w1 _ rfl)
  have h4 : (l.length : Int) ≤ 4096 := by have := (whl_zero h).2.2; omega
  have HDL := Lib.hid (Pk.difs_length 128 0 l)
  have HDI := Lib.hid (Pk.difs_in (h := 128) (by omega) 0 l)
  obtain ⟨D, hD⟩ : ∃ D, Pk.difs 128 0 l = D := ⟨_, rfl⟩
  have HDE := Lib.hid hD
  rw [hD] at HDL HDI ⊢
  have e1 := ent_dif
  have HD := Lib.hid hd
  clear hd h hD
  have hml : 256 ≤ maxLen := by unfold maxLen; omega
  go_enter Try.func42, Try.ntmps42
  go_upto_region 1 with (first | (with_reducible refine wpList_new_arr rfl 63 rfl 256 (.int .i64 0) Try.infoArr hml ?_; intro w1 ha hb hs; have HA1 := Lib.hid ha; have HB1 := Lib.hid hb; have HS1 := Lib.hid hs; clear ha hb hs))
  go_upto_region 2 with (first | (with_reducible refine wpList_new_arr rfl 63 rfl 256 (.int .i64 0) Try.infoArr hml ?_; intro w2 ha hb hs; have HA2 := Lib.hid ha; have HB2 := Lib.hid hb; have HS2 := Lib.hid hs; clear ha hb hs))
  go_wp2_with (first | (go_at_call 25; ((with_reducible refine (CS.out _).mono ?_); rintro x' w4 ⟨rfl, hm4⟩; have HM4 := Lib.hid hm4; clear hm4)))
  obtain ⟨B, hBe⟩ : ∃ B, w.heap.size = B := ⟨_, rfl⟩
  obtain ⟨g1, hg1⟩ : ∃ B, w1.heap.size = B := ⟨_, rfl⟩
  obtain ⟨s, hs⟩ : ∃ B, w2.heap.size = B := ⟨_, rfl⟩
  have HBE := Lib.hid hBe
  have i1 : B < g1 := by have := HS1.out; omega
  have i2 : g1 < s := by have := HS2.out; omega
  have i4 : s + 2 ≤ w4.heap.size := by have := HM4.out.2.2.1; omega
  have b12 : Below g1 w1 w2 := hg1 ▸ HB2.out
  have b24 : Below s w2 w4 := hs ▸ HM4.out.2.2.2
  have HA0 := Lib.hid (show Arr w4 B 63 B 256 (List.replicate 256 (.int .i64 0)) from ((hBe ▸ HA1.out).below b12 (by omega)).below b24 (by omega))
  have HA := Lib.hid (show Arr w4 g1 63 g1 256 ((Tb.cp []).map (Value.int .i64)) by
    rw [Tb.cp_nil, List.map_replicate]
    exact (hg1 ▸ HA2.out).below b24 (by omega))
  have HB4 := Lib.hid (show Below B w w4 from ((hBe ▸ HB1.out).trans (b12.mono (by omega))).trans (b24.mono (by omega)))
  have HS4 := Lib.hid (show SDif (s + 1) s 8 [] w4 from hs ▸ enc1_start 8 w4 _ _ HM4.out.2.1 HM4.out.1)
  rw [hBe, hg1, hs]
  have HD := Lib.hid (fun wr (hb : Below B w wr) => HD.out.below (hBe ▸ hb))
  clear hBe hg1 hs HA1 HA2 HB1 HB2 HM4 HS1 HS2 b12 b24 CS
  have HT := Lib.hid (t_dif_b 8 (by omega) s)
  go_loopw [10] (fun i wr => ∃ k : Nat, k ≤ l.length ∧ i = .int .i64 k ∧ Hid (SDif (s + 1) s 8 (l.take k) wr) ∧ Hid (Arr wr B 63 B 256 (List.replicate 256 (.int .i64 0))) ∧ Hid (Arr wr g1 63 g1 256 ((Tb.cp (D.take k)).map (Value.int .i64))) ∧ Hid (Below B w wr) ∧ s + 2 ≤ wr.heap.size) (fun i _ => l.length - (intOf i).toNat)
  case atStart => exact ⟨0, by omega, rfl, HS4.out, HA0.out, HA.out, HB4.out, i4⟩
  case round =>
    clear HS4 HA0 HA HB4 i4
    obtain ⟨k, hk, rfl, HS, HA0, HA, hbw, i4⟩ := hrel
    by_cases hlt : k < l.length
    · obtain ⟨bd, od, hp1, hc1⟩ := (HD.out wr hbw.out).at (i := k) hlt
      obtain ⟨x, hx⟩ : ∃ x, l.getD k 0 = x := ⟨_, rfl⟩
      have xb := getD_in (P := fun x => -1048576 ≤ x ∧ x ≤ 1048576) HR.out hlt
      have hkD : k < D.length := by rw [HDL.out]; exact hlt
      have db := getD_in (P := fun x => -128 ≤ x ∧ x < 128) HDI.out hkD
      have hz := HT.out.at l hlt
      rw [show hlf 8 = 128 by decide, HDE.out] at hz
      rw [hx] at hc1 xb hz
      obtain ⟨y, hy⟩ : ∃ y, D.getD k 0 = y := ⟨_, rfl⟩
      rw [hy] at hz db
      have HSN := Lib.hid (take_snoc hkD hy)
      have C := Lib.hid (show Calls Try.prog 53 #[.int .i64 x, .pointer (some ⟨s + 1, 0, none⟩), .pointer (some ⟨s, 0, none⟩)] wr fun e w' => e = .returned (.int .i64 y) ∧ SDif (s + 1) s 8 (l.take (k + 1)) w' ∧ Mid s (s + 2) wr w' by
        have := HT.out.calls (l.take k) x wr xb.1 xb.2 HS.out
        rw [show hlf 8 = 128 by decide, hz, take_snoc hlt hx] at this
        exact this)
      obtain ⟨i, hi⟩ : ∃ i : Nat, y % 256 = (i : Int) := ⟨(y % 256).toNat, by omega⟩
      have hi3 : (i : Int) < 256 := by omega
      have hi4 : i < 256 := by omega
      have wi : IntKind.u8.wrap y = (i : Int) := by rw [← hi]; simp [IntKind.wrap, IntKind.signed, IntKind.bits]
      have HST := Lib.hid (Tb.cp_step (D.take k) (x := y) (i := i) hi.symm db.1 (by omega))
      have hcb : 0 ≤ (Tb.cp (D.take k)).getD i 0 ∧ (Tb.cp (D.take k)).getD i 0 ≤ 4096 := by
        rw [Tb.cp_at _ hi4]
        have := Tb.ct_in (D.take k) (Pk.wrp 128 i)
        rw [List.length_take] at this
        omega
      rw [HSN.out] at HST
      obtain ⟨L, hL⟩ : ∃ L, Tb.cp (D.take k) = L := ⟨_, rfl⟩
      rw [hL] at HA HST hcb
      obtain ⟨c, hc⟩ : ∃ c, L.getD i 0 = c := ⟨_, rfl⟩
      rw [hc] at HST hcb
      have HC := Lib.hid hc
      clear hx hy hz hL hc hi hkD
      subst hp1
      go_wp2_with (first | (go_at_fn 53; ((with_reducible refine C.out.mono ?_); rintro x' w5 ⟨rfl, hs5, hm5⟩; have HS5 := Lib.hid hs5; have HA5 := Lib.hid (HA.out.kept (hm5.block g1 (by omega) (.inl (by omega)))); have HZ5 := Lib.hid (HA0.out.kept (hm5.block B (by omega) (.inl (by omega)))); have HB5 := Lib.hid (hbw.out.trans (hm5.belowB (by omega) (by omega))); have a0 := (HA5.out.at hi4).trans (by rw [HC.out]); have a1 := HA5.out.free i; have i5 := hm5.size; clear hs5 hm5)))
      go_roundw
      case rel => exact ⟨k + 1, by omega, by go_num, HT.out.stays _ _ _ HS5.out (out_set w5 _ (.inl (by show g1 < s; omega))), HZ5.out.other (by show B ≠ g1; omega) _, by rw [HST.out]; exact HA5.out.set i (c + 1), HB5.out.setCell (by show B ≤ g1; omega) _, by simp [World.setCell]; omega⟩
      case measure => simp [intOf]; omega
    · have e : k = l.length := by omega
      subst e
      have HAE := Lib.hid (show Arr wr g1 63 g1 256 ((Tb.cp D).map (Value.int .i64)) by
        have := HA.out
        rw [List.take_of_length_le (Nat.le_of_eq HDL.out)] at this
        exact this)
      clear HA
      have HCL := Lib.hid (Tb.cp_len D)
      obtain ⟨L, hL⟩ : ∃ L, Tb.cp D = L := ⟨_, rfl⟩
      rw [hL] at HAE HCL
      have HLE := Lib.hid hL
      clear hL
      go_wp2_with (first
        | (with_reducible refine wpList_load_arr rfl 63 (.tmp 3) rfl g1 g1 rfl 256 3 Try.underlying63 Try.sizeArr _ HAE.out ?_)
        | (with_reducible refine wpList_store_arr rfl 63 (.tmp 2) (.tmp 23) rfl B B rfl 256 .i64 L rfl HCL.out Try.sizeArr _ HA0.out ?_; intro w6 ha hb _ _; have HA6 := Lib.hid ha; have HB6 := Lib.hid hb; clear ha hb))
      refine bodyPost_ret (results_arr rfl _ w6 B B 256 3 (L.map (Value.int .i64)) rfl HA6.out Try.underlying63 Try.sizeArr) rfl ⟨by rw [HLE.out], ?_⟩
      rw [HBE.out]
      exact hbw.out.trans HB6.out
end Go.Proofs.Ytfljgdehbogimaa

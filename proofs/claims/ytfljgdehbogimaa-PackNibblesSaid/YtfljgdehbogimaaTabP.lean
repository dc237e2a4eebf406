/-
  The contract of package pack's Table.
-/
import Derived.Test.YtfljgdehbogimaaTabS
import Derived.Test.YtfljgdehbogimaaTabC
import Derived.Test.YtfljgdehbogimaaRefUnd
import Derived.Test.YtfljgdehbogimaaRefFill
namespace Go.Proofs.Ytfljgdehbogimaa
open Go.RowKit

theorem Try.sizeInt : (Try.prog.info? 3).map (·.size) = some 1 := by kernel_rfl
theorem every_at {k : Nat} (hk : k < 256) : (Tb.every.map (·.v)).getD k 0 = Pk.wrp 128 k := by
  rw [Tb.every_vals]
  simp [List.getD_eq_getElem?_getD, hk]
theorem every_vlen : (Tb.every.map (·.v)).length = 256 := by rw [List.length_map]; exact Tb.every_len
set_option maxRecDepth 20000 in
set_option maxHeartbeats 3200000 in
theorem p_table_ok (l : List Int) (p : Option Addr) (cap : Nat) (w : World) (hd : DatAt w p l) (hl : (l.length : Int) ≤ 1152921504606846976) (h : whl l 8 = 0) :
    Calls Try.prog 18 #[.slice p l.length cap] w fun e w' => (∃ g, e = .returned (.tuple #[.slice (some ⟨g, 0, none⟩) 16 16, .int .i64 0]) ∧ w'.ownsRow w.heap.size 3 1 (.slice (some ⟨g, 0, none⟩) 16 16) 16 ((Tb.upto (Tb.Sof (Tb.ct (Pk.difs 128 0 l))) 256).map (Value.int .i64))) ∧ Below w.heap.size w w' := by
  have C1 := Lib.hid (h ▸ p_askData l p cap 8 w hd hl)
  have C2 := Lib.hid (p_count l p cap w hd h)
  have hDl : ((Pk.difs 128 0 l).length : Int) ≤ 4096 := by rw [Pk.difs_length]; have := (whl_zero h).2.2; omega
  obtain ⟨D, hD⟩ : ∃ D, Pk.difs 128 0 l = D := ⟨_, rfl⟩
  rw [hD] at C2 hDl ⊢
  obtain ⟨n, hn⟩ : ∃ n, l.length = n := ⟨_, rfl⟩
  rw [hn] at C1 C2 ⊢
  clear hd hl h hD hn
  have HDL := Lib.hid hDl
  clear hDl
  have HSE := Lib.hid (Tb.sort_eq (Tb.srt (Tb.ct D)))
  have HSL := Lib.hid (Tb.srt (Tb.ct D)).len
  have HCL := Lib.hid (Tb.cp_len D)
  have HSF := Lib.hid (fun (w : World) (B A g gc c : Nat) => l_SortFunc (w := w) (B := B) (A := A) (g := g) (gc := gc) (c := c) D HDL.out)
  obtain ⟨S, hS⟩ : ∃ S, Tb.Sof (Tb.ct D) = S := ⟨_, rfl⟩
  rw [hS] at HSE HSL ⊢
  simp only [hS] at HSF
  obtain ⟨R, hR⟩ : ∃ R, Tb.upto S 256 = R := ⟨_, rfl⟩
  rw [hR] at HSE ⊢
  obtain ⟨L, hL⟩ : ∃ L, Tb.cp D = L := ⟨_, rfl⟩
  rw [hL] at C2 HCL
  simp only [hL] at HSF
  clear hS hR hL
  have hml : 256 ≤ maxLen := by unfold maxLen; omega
  obtain ⟨i0, hinf, hz0, hz1, hz2⟩ := info_parts Try.infoInt
  go_enter Try.func18, Try.ntmps18
  go_upto_region 6 with (first
    | (go_at_call 24; ((with_reducible refine C1.out.mono ?_); rintro x' w' ⟨rfl, rfl⟩))
    | (go_at_call 42; ((with_reducible refine C2.out.mono ?_); rintro x' w1 ⟨rfl, hb⟩; have HB1 := Lib.hid hb; clear hb))
    | (with_reducible refine wpList_new_arr rfl 63 rfl 256 (.int .i64 0) Try.infoArr hml ?_; intro w2 ha hb hs; have HA2 := Lib.hid ha; have HB2 := Lib.hid hb; have HS2 := Lib.hid hs; clear ha hb hs)
    | (with_reducible refine wpList_store_arr rfl 63 (.tmp 5) (.tmp 15) rfl w1.heap.size w1.heap.size rfl 256 .i64 L rfl HCL.out Try.sizeArr _ HA2.out ?_; intro w3 ha hb _ hs; have HA3 := Lib.hid ha; have HB3 := Lib.hid hb; have HS3 := Lib.hid hs; clear ha hb hs))
  obtain ⟨B, hBe⟩ : ∃ B, w.heap.size = B := ⟨_, rfl⟩
  obtain ⟨gc, hgc⟩ : ∃ g, w1.heap.size = g := ⟨_, rfl⟩
  obtain ⟨s, hs⟩ : ∃ s, w3.heap.size = s := ⟨_, rfl⟩
  have HBE := Lib.hid hBe
  have i1 : B ≤ gc := by have := HB1.out.size; omega
  have i2 : gc < s := by have := HS2.out; have := HS3.out; omega
  have HA := Lib.hid (show Arr w3 gc 63 gc 256 (L.map (Value.int .i64)) from hgc ▸ HA3.out)
  have HB := Lib.hid (show Below B w w3 from ((hBe ▸ HB1.out).trans ((hgc ▸ HB2.out).mono i1)).trans ((hgc ▸ HB3.out).mono i1))
  have hsw : s ≤ w3.heap.size := Nat.le_of_eq hs.symm
  rw [hgc]
  clear hBe hgc hs HA2 HB1 HB2 HS2 HA3 HB3 HS3 C1 C2
  have HEA := Lib.hid (fun (k : Nat) (hk : k < 256) => every_at hk)
  have HEL := Lib.hid every_vlen
  obtain ⟨E, hE⟩ : ∃ E, Tb.every.map (·.v) = E := ⟨_, rfl⟩
  simp only [hE] at HEA HEL HSF
  clear hE
  go_wp2
  go_loopw [6, 16] (fun lv iv wr => ∃ k : Nat, k ≤ 256 ∧ iv = .int .i64 k ∧ Hid (wr.ownsRow s 3 1 lv k ((E.take k).map (Value.int .i64))) ∧ Hid (Below s w3 wr)) (fun _ iv _ => 256 - (intOf iv).toNat)
  case atStart => exact ⟨0, by omega, rfl, ⟨rfl, .inl ⟨rfl, rfl⟩⟩, Below.refl _ _⟩
  case round =>
    obtain ⟨k, hk, rfl, HU, hbw⟩ := hrel
    by_cases hlt : k < 256
    · have hki : (k : Int) < 256 := by omega
      have hz := HEA.out k hlt
      have CW := Lib.hid (show Calls Try.prog 43 #[.int .i64 k, .int .i64 8] wr fun e w' => e = .returned (.int .i64 (E.getD k 0)) ∧ wr = w' by
        have := p_wrap k 8 wr (by omega) (by omega) (by omega) (by omega)
        rw [show hlf 8 = 128 by decide, ← hz] at this
        exact this)
      obtain ⟨z, hze⟩ : ∃ z, E.getD k 0 = z := ⟨_, rfl⟩
      rw [hze] at CW
      have HTN := Lib.hid (take_next (by rw [HEL.out]; exact hlt) hze)
      have HR1 := Lib.hid (row_stays HU.out (below_box wr (.cells #[.int .i64 z] 3)))
      have HB1 := Lib.hid (hbw.out.trans ((below_box wr (.cells #[.int .i64 z] 3)).mono (Nat.le_trans hsw hbw.out.size)))
      have hs1 : s ≤ (wr.alloc (.cells #[.int .i64 z] 3)).heap.size := Nat.le_trans hsw HB1.out.size
      clear hz hze
      go_wp2_with (first | (go_at_call 43; ((with_reducible refine CW.out.mono ?_); rintro x' w' ⟨rfl, rfl⟩)) | (at_builtin; (refine wpList_append_own _ rfl (.tmp 19) (.tmp 22) 22 rfl s 3 i0 (.int .i64 0) 1 8 Try.underlying22 hinf hz0 hz1 hz2 rfl (by decide) u6 k ((E.take k).map (Value.int .i64)) rfl HR1.out ⟨wr.heap.size, 0, none⟩ 1 1 [.int .i64 z] rfl rfl (one_new .i64 _ wr z) (one_one .i64 z) (by unfold maxLen; omega) (by omega) hs1 ?_; intro v' w2 hown' hgrow _; have hb2 := grown_base hgrow (fun g hg => (World.ownsRow.lt HR1.out g hg).1) hs1; clear hgrow; have HR2 := Lib.hid (show w2.ownsRow s 3 1 v' (k + 1) ((E.take (k + 1)).map (Value.int .i64)) by rw [HTN.out]; exact hown'); have HB2 := Lib.hid (HB1.out.trans hb2); clear hown' hb2)))
      go_roundw
      case rel => exact ⟨k + 1, by omega, by go_num, HR2.out, HB2.out⟩
      case measure => simp [intOf]; omega
    · have e : k = 256 := by omega
      subst e
      have HU2 := HU.out
      rw [List.take_of_length_le (by rw [HEL.out]; omega)] at HU2
      obtain ⟨g, cp, rfl⟩ : ∃ g cp, u6 = .slice (some ⟨g, 0, none⟩) 256 cp := by
        rcases HU2.2 with ⟨_, h0⟩ | ⟨g, cap', cur, he, _⟩
        · omega
        · exact ⟨g, cap', he⟩
      have hgs := World.ownsRow.lt HU2 g rfl
      have HAw := Lib.hid (HA.out.below hbw.out i2)
      have CSF := Lib.hid (HSF.out wr s gc g gc cp HU2 HAw.out (by omega))
      have hg1 := hgs.1
      have HBW := Lib.hid (show Below B w wr from HB.out.trans (hbw.out.mono (by omega)))
      clear HU HU2 hbw HAw HA HB hgs
      go_upto_region 13 with (first
        | (go_at_call 44; ((with_reducible refine CSF.out.mono ?_); rintro x' w4 ⟨rfl, ho, hb⟩; have HO4 := Lib.hid ho; have HB4 := Lib.hid hb; clear ho hb))
        | (at_make; refine wpList_make_full _ rfl _ _ 22 rfl w4.heap.size 3 i0 (.int .i64 0) 1 Try.underlying22 hinf hz0 hz1 .i64 .i64 _ _ 16 rfl rfl rfl rfl (by rw [hz2]; omega) (by unfold maxLen; omega) (by simp) ?_; intro w5 hown5 hgrow5; have HO5 := Lib.hid hown5; have HB5 := Lib.hid (grown_below hgrow5); clear hown5 hgrow5))
      obtain ⟨gt, hgt⟩ : ∃ g, w4.heap.size = g := ⟨_, rfl⟩
      have i3 : g < gt := by have := (World.ownsRow.lt HO4.out g rfl).2; omega
      have HA5 := Lib.hid (show Arr w5 gt 3 gt 16 _ from hgt ▸ HO5.out)
      have HO6 := Lib.hid (row_stays HO4.out HB5.out)
      have HSR := Lib.hid (fun (j : Nat) (v : Value) (hv : ((S.take 16).map (Value.int .i64))[j]? = some v) => show w5.cell? ((⟨g, 0, none⟩ : Addr).add j) = some v by
        have hadd : (⟨g, 0, none⟩ : Addr).add j = ⟨g, j, none⟩ := by unfold Addr.add; split <;> simp_all
        have hj : j < 16 := by
          have := (List.getElem?_eq_some_iff.1 hv).1
          simp at this
          omega
        rw [hadd, World.ownsRow.cellAt HO6.out j (by omega), ← hv, List.getElem?_map, List.getElem?_map, List.getElem?_take_of_lt hj])
      have HTL := Lib.hid (show ((S.take 16).map (Value.int .i64)).length = 16 by rw [List.length_map, List.length_take, HSL.out]; rfl)
      have HBW5 := Lib.hid (show Below B w w5 from (HBW.out.trans (HB4.out.mono (by omega))).trans ((hgt ▸ HB5.out).mono (by omega)))
      rw [hgt]
      clear hgt HO4 HO5 HB4 HB5 HBW HO6
      go_wp2_with (first
        | (with_reducible refine wpList_copy_arr rfl (.tmp 29) (.tmp 30) 22 22 rfl 3 Try.underlying22 Try.sizeInt gt gt 16 ⟨g, 0, none⟩ 256 cp rfl rfl 3 _ HA5.out ((S.take 16).map (Value.int .i64)) HTL.out (by omega) HSR.out (one_alli .i64 _) ?_; intro w6 ha hb; have HA6 := Lib.hid ha; have HB6 := Lib.hid hb; clear ha hb)
        | (go_at_call 47; have HS6 := Lib.hid (l_Sort (ss := S.take 16) (show w6.ownsRow gt 3 1 (.slice (some ⟨gt, 0, none⟩) 16 16) 16 ((S.take 16).map (Value.int .i64)) from HA6.out) (by omega)); ((with_reducible refine HS6.out.mono ?_); rintro x' w7 ⟨rfl, ho, hb⟩; have HO7 := Lib.hid ho; have HB7 := Lib.hid hb; clear ho hb)))
      go_ret2
      have e := HBE.out
      subst e
      refine ⟨⟨gt, rfl, ?_⟩, HBW5.out.trans ((HB6.out.mono (by omega)).trans (HB7.out.mono (by omega)))⟩
      rw [← HSE.out]
      exact row_lower HO7.out (by omega)
theorem p_table_bad (l : List Int) (p : Option Addr) (cap : Nat) (w : World) (hd : DatAt w p l) (hl : (l.length : Int) ≤ 1152921504606846976) (h : whl l 8 ≠ 0) :
    Calls Try.prog 18 #[.slice p l.length cap] w fun e w' => e = .returned (.tuple #[.slice none 0 0, .int .i64 (whl l 8)]) ∧ w = w' := by
  have C1 := Lib.hid (p_askData l p cap 8 w hd hl)
  obtain ⟨z, hz⟩ : ∃ z, whl l 8 = z := ⟨_, rfl⟩
  rw [hz] at C1 h ⊢
  have h2 : (z != 0) = true := by simpa using h
  clear hz hd h hl
  go_enter Try.func18, Try.ntmps18
  go_wp2_with (first | (go_at_call 24; ((with_reducible refine C1.out.mono ?_); rintro x' w' ⟨rfl, rfl⟩)))
  go_ret2
  exact ⟨rfl, rfl⟩
end Go.Proofs.Ytfljgdehbogimaa

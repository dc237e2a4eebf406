/-
  The contract of the reference's Table.
-/
import Derived.Test.YtfljgdehbogimaaTabA
import Derived.Test.YtfljgdehbogimaaTabO
import Derived.Test.YtfljgdehbogimaaRefWhl
import Derived.Test.YtfljgdehbogimaaPNib
import Derived.Test.YtfljgdehbogimaaPBlocksW
import Derived.BigQuiet
import Derived.Deep.QuietTactic
namespace Go.Proofs.Ytfljgdehbogimaa
open Go.RowKit

set_option maxRecDepth 20000 in
set_option maxHeartbeats 3200000 in
theorem rtable_ok (l : List Int) (p : Option Addr) (cap : Nat) (w : World) (hd : DatAt w p l) (hi : ∀ x ∈ l, -9223372036854775808 ≤ x ∧ x ≤ 9223372036854775807) (hl : (l.length : Int) ≤ 1152921504606846976) (h : whl l 8 = 0) (S : List Int) (hS : Tb.Srt (Tb.ct (Pk.difs 128 0 l)) S) :
    Calls Try.prog 19 #[.slice p l.length cap] w fun e w' => (∃ v, e = .returned (.tuple #[v, .int .i64 0]) ∧ w'.ownsRow w.heap.size 3 1 v (Tb.upto S 256).length ((Tb.upto S 256).map (Value.int .i64))) ∧ Below w.heap.size w w' := by
  have C1 := Lib.hid (h ▸ rwhole l p cap 8 w hd hi hl)
  have h4 : (l.length : Int) ≤ 4096 := by have := (whl_zero h).2.2; omega
  have HR := whl_in8 h
  have DF := Lib.hid (fun (w1 : World) (h1 : DatAt w1 p l) => by
    have := rdifs l p cap 8 w1 h1 (by omega) (fun x hx => by have := HR x hx; omega) (by omega) (by omega)
    rw [show hlf 8 = 128 by decide] at this
    exact this)
  have HDL := Lib.hid (Pk.difs_length 128 0 l)
  have HDI := Lib.hid (Pk.difs_in (h := 128) (by omega) 0 l)
  obtain ⟨D, hD⟩ : ∃ D, Pk.difs 128 0 l = D := ⟨_, rfl⟩
  rw [hD] at HDL HDI hS
  simp only [hD] at DF
  have HS := Lib.hid hS
  have HD := Lib.hid hd
  obtain ⟨n, hn⟩ : ∃ n, l.length = n := ⟨_, rfl⟩
  rw [hn] at C1 HDL h4
  simp only [hn] at DF
  rw [hn]
  clear hd hi hl h HR hD hS hn
  have hml : 256 ≤ maxLen := by unfold maxLen; omega
  go_enter Try.func19, Try.ntmps19
  go_upto_region 5 with (first
    | (go_at_call 26; ((with_reducible refine C1.out.mono ?_); rintro x' w' ⟨rfl, rfl⟩))
    | (with_reducible refine wpList_new_arr rfl 63 rfl 256 (.int .i64 0) Try.infoArr hml ?_; intro w1 ha hb hs; have HA1 := Lib.hid ha; have HB1 := Lib.hid hb; have HS1 := Lib.hid hs; clear ha hb hs))
  go_wp2_with (first
    | (go_at_call 27; ((with_reducible refine (DF.out _ (HD.out.below HB1.out)).mono ?_); rintro x' w2 ⟨⟨g, rfl, ho⟩, hb⟩; have HO2 := Lib.hid ho; have HB2 := Lib.hid hb; clear ho hb)))
  obtain ⟨B, hBe⟩ : ∃ B, w.heap.size = B := ⟨_, rfl⟩
  have HBE := Lib.hid hBe
  have hg := World.ownsRow.lt HO2.out g rfl
  have hBg : B < g := by have := HS1.out; omega
  have HC0 := Lib.hid (show Arr w2 B 63 B 256 ((Tb.cr []).map (Value.int .i64)) by
    rw [Tb.cr_nil, List.map_replicate]
    exact (hBe ▸ HA1.out).below HB2.out (by have := HS1.out; omega))
  have HO0 := Lib.hid (row_lower HO2.out (show B ≤ w1.heap.size by have := HS1.out; omega))
  have HB0 := Lib.hid (show Below B w w2 from (hBe ▸ HB1.out).trans (HB2.out.mono (by have := HS1.out; omega)))
  rw [hBe]
  clear hBe hg HA1 HB1 HS1 HO2 HB2 C1 DF HD
  go_loopw [22] (fun i wr => ∃ k : Nat, k ≤ n ∧ i = .int .i64 k ∧ Hid (Arr wr B 63 B 256 ((Tb.cr (D.take k)).map (Value.int .i64))) ∧ Hid (wr.ownsRow B 3 1 (.slice (some ⟨g, 0, none⟩) n n) n (D.map (Value.int .i64))) ∧ Hid (Below B w wr)) (fun i _ => n - (intOf i).toNat)
  case atStart => exact ⟨0, by omega, rfl, HC0.out, HO0.out, HB0.out⟩
  case round =>
    clear HC0 HO0 HB0
    obtain ⟨k, hk, rfl, HC, HO, hbw⟩ := hrel
    by_cases hlt : k < n
    · have hkD : k < D.length := by rw [HDL.out]; exact hlt
      have db := getD_in (P := fun x => -128 ≤ x ∧ x < 128) HDI.out hkD
      have hc1 : wr.cell? ⟨g, k, none⟩ = some (.int .i64 (D.getD k 0)) := by
        rw [World.ownsRow.cellAt HO.out k (by omega)]
        simp [List.getD_eq_getElem?_getD, hkD]
      obtain ⟨y, hy⟩ : ∃ y, D.getD k 0 = y := ⟨_, rfl⟩
      rw [hy] at hc1 db
      have HSN := Lib.hid (take_snoc hkD hy)
      obtain ⟨i, hi⟩ : ∃ i : Nat, y + 128 = (i : Int) := ⟨(y + 128).toNat, by omega⟩
      have hi3 : (i : Int) < 256 := by omega
      have hi4 : i < 256 := by omega
      have wi : IntKind.i64.wrap (y + 128) = (i : Int) := by rw [hi]; exact IntWalk.i64_in _ (by omega)
      have HST := Lib.hid (Tb.cr_step (D.take k) (x := y) (i := i) hi.symm (by omega))
      have hcb : 0 ≤ (Tb.cr (D.take k)).getD i 0 ∧ (Tb.cr (D.take k)).getD i 0 ≤ 4096 := by
        rw [Tb.cr_at _ hi4]
        have := Tb.ct_in (D.take k) ((i : Int) - 128)
        rw [List.length_take] at this
        omega
      rw [HSN.out] at HST
      obtain ⟨L, hL⟩ : ∃ L, Tb.cr (D.take k) = L := ⟨_, rfl⟩
      rw [hL] at HC HST hcb
      have a0 := HC.out.at hi4
      have a1 := HC.out.free i
      obtain ⟨c, hc⟩ : ∃ c, L.getD i 0 = c := ⟨_, rfl⟩
      rw [hc] at HST hcb a0
      clear hy hL hc hkD
      go_wp2
      go_roundw
      case rel => exact ⟨k + 1, by omega, by go_num, by rw [HST.out]; exact HC.out.set i (c + 1), row_of HO.out (Below.heap_setCell _ _ _ _ (by show g ≠ B; omega)), hbw.out.setCell (by show B ≤ B; omega) _⟩
      case measure => simp [intOf]; omega
    · have e : k = n := by omega
      subst e
      have HCE := Lib.hid (show Arr wr B 63 B 256 ((Tb.cr D).map (Value.int .i64)) by
        have := HC.out
        rw [List.take_of_length_le (Nat.le_of_eq HDL.out)] at this
        exact this)
      clear HC HO
      go_upto_region 11 with (first | (with_reducible refine wpList_new_arr rfl 68 rfl 256 (.bool false) Try.infoArrB hml ?_; intro w5 ha hb hs; have HA5 := Lib.hid ha; have HB5 := Lib.hid hb; have HS5 := Lib.hid hs; clear ha hb hs))
      obtain ⟨gt, hgt⟩ : ∃ gt, wr.heap.size = gt := ⟨_, rfl⟩
      have hBt : B < gt := by have := HCE.out.lt; omega
      have HT0 := Lib.hid (show Arr w5 gt 68 gt 256 ((Tb.tk S 0).map Value.bool) by
        rw [Tb.tk_zero, List.map_replicate]
        exact hgt ▸ HA5.out)
      have HC0 := Lib.hid (show Arr w5 B 63 B 256 ((Tb.cr D).map (Value.int .i64)) from HCE.out.below (hgt ▸ HB5.out) hBt)
      have HB0 := Lib.hid (show Below B w w5 from hbw.out.trans ((hgt ▸ HB5.out).mono (by omega)))
      rw [hgt]
      clear hgt HA5 HB5 HS5 HCE hbw
      go_wp2
      go_loopw [9] (fun kv wx => ∃ k : Nat, k ≤ 16 ∧ kv = .int .i64 k ∧ Hid (Arr wx gt 68 gt 256 ((Tb.tk S k).map Value.bool)) ∧ Hid (Arr wx B 63 B 256 ((Tb.cr D).map (Value.int .i64))) ∧ Hid (Below B w wx)) (fun kv _ => 16 - (intOf kv).toNat)
      case atStart => exact ⟨0, by omega, rfl, HT0.out, HC0.out, HB0.out⟩
      case round =>
        clear HT0 HC0 HB0
        obtain ⟨q, hq, rfl, HT, HC, HB⟩ := hrel
        by_cases hlq : q < 16
        · go_wp2
          go_loopw [10, 11] (fun bv jv wy => ∃ j m : Nat, ∃ best : Int, j ≤ 256 ∧ jv = .int .i64 j ∧ bv = .int .i64 best ∧ Hid (Tb.Bst (Tb.ct D) S q j best) ∧ wy = wr.drewN m) (fun _ jv _ => 256 - (intOf jv).toNat)
          case atStart => exact ⟨0, 0, -1, by omega, rfl, rfl, Tb.Bst.zero _ _ _, rfl⟩
          case round =>
            obtain ⟨j, m, best, hj, rfl, rfl, HBs, rfl⟩ := hrel
            by_cases hlj : j < 256
            · have t0 := HT.out.atB hlj
              rw [Tb.tk_at _ _ hlj] at t0
              have hjj : (j : Int) < 256 := by omega
              by_cases ht : (j : Int) - 128 ∈ S.take q
              · rw [decide_eq_true ht] at t0
                have HBn := Lib.hid (HBs.out.taken ht)
                clear ht
                go_upto_region 18 with fail
                go_quiet (fail)
                go_wp2
                exact ⟨⟨j + 1, _, best, by omega, by go_num, rfl, HBn.out, rfl⟩, by simp [intOf]; omega⟩
              · rw [decide_eq_false ht] at t0
                have hr := HBs.out.range
                by_cases hb : best < 0
                · have HBn := Lib.hid (HBs.out.first hb ht)
                  have hb0 : decide (best < 0) = true := decide_eq_true hb
                  clear ht
                  go_upto_region 18 with fail
                  go_quiet (fail)
                  go_wp2
                  exact ⟨⟨j + 1, _, (j : Int), by omega, by go_num, rfl, HBn.out, rfl⟩, by simp [intOf]; omega⟩
                · obtain ⟨b, rfl⟩ : ∃ b : Nat, best = (b : Int) := ⟨best.toNat, by omega⟩
                  have hbj : b < 256 := by omega
                  have hbb : (b : Int) < 256 := by omega
                  have c0 := HC.out.at hlj
                  have c1 := HC.out.at hbj
                  rw [Tb.cr_at _ hlj] at c0
                  rw [Tb.cr_at _ hbj] at c1
                  have HBe := Lib.hid (fun h => HBs.out.better (by omega) ht h)
                  have HKe := Lib.hid (fun h => HBs.out.keep (by omega) h)
                  have hb0 : decide ((b : Int) < 0) = false := decide_eq_false hb
                  have hw1 : IntKind.i64.wrap ((j : Int) - 128) = (j : Int) - 128 := IntWalk.i64_in _ (by omega)
                  have hw2 : IntKind.i64.wrap ((b : Int) - 128) = (b : Int) - 128 := IntWalk.i64_in _ (by omega)
                  have CN := Lib.hid (fun w1 => r_nearer ((j : Int) - 128) ((b : Int) - 128) w1 (by omega) (by omega) (by omega) (by omega))
                  have HL := Lib.hid (show Tb.lt (Tb.ct D) ((j : Int) - 128) ((b : Int) - 128) ↔ (Tb.ct D ((b : Int) - 128) < Tb.ct D ((j : Int) - 128) ∨ (Tb.ct D ((j : Int) - 128) = Tb.ct D ((b : Int) - 128) ∧ ner ((j : Int) - 128) ((b : Int) - 128) = true)) by
                    unfold Tb.lt ner
                    rw [decide_eq_true_iff])
                  obtain ⟨cj, hcj⟩ : ∃ c, Tb.ct D ((j : Int) - 128) = c := ⟨_, rfl⟩
                  obtain ⟨cb, hcb⟩ : ∃ c, Tb.ct D ((b : Int) - 128) = c := ⟨_, rfl⟩
                  rw [hcj] at c0 HL
                  rw [hcb] at c1 HL
                  obtain ⟨nr, hnr⟩ : ∃ r, ner ((j : Int) - 128) ((b : Int) - 128) = r := ⟨_, rfl⟩
                  rw [hnr] at HL
                  simp only [hnr] at CN
                  clear ht hcj hcb hnr
                  rcases Int.lt_trichotomy cb cj with hcc | hcc | hcc
                  · have hd1 : decide (cb < cj) = true := decide_eq_true hcc
                    have HBn := Lib.hid (HBe.out (HL.out.2 (.inl hcc)))
                    go_upto_region 18 with fail
                    go_quiet (fail)
                    go_wp2
                    exact ⟨⟨j + 1, _, (j : Int), by omega, by go_num, rfl, HBn.out, rfl⟩, by simp [intOf]; omega⟩
                  · subst hcc
                    cases nr with
                    | true =>
                      have HBn := Lib.hid (HBe.out (HL.out.2 (.inr ⟨rfl, rfl⟩)))
                      go_upto_region 18 with fail
                      go_quiet ((go_at_call 48; exact (CN.out _).mono fun e w' ⟨h1, h2⟩ => ⟨h1, _, h2.symm⟩))
                      go_wp2
                      exact ⟨⟨j + 1, _, (j : Int), by omega, by go_num, rfl, HBn.out, rfl⟩, by simp [intOf]; omega⟩
                    | false =>
                      have HBn := Lib.hid (HKe.out (fun h => by have := HL.out.1 h; simp at this))
                      go_upto_region 18 with fail
                      go_quiet ((go_at_call 48; exact (CN.out _).mono fun e w' ⟨h1, h2⟩ => ⟨h1, _, h2.symm⟩))
                      go_wp2
                      exact ⟨⟨j + 1, _, (b : Int), by omega, by go_num, rfl, HBn.out, rfl⟩, by simp [intOf]; omega⟩
                  · have hd1 : decide (cb < cj) = false := decide_eq_false (by omega)
                    have hd2 : (cj == cb) = false := by simp; omega
                    have HBn := Lib.hid (HKe.out (fun h => by have := HL.out.1 h; omega))
                    go_upto_region 18 with fail
                    go_quiet (fail)
                    go_wp2
                    exact ⟨⟨j + 1, _, (b : Int), by omega, by go_num, rfl, HBn.out, rfl⟩, by simp [intOf]; omega⟩
            · have e : j = 256 := by omega
              subst e
              obtain ⟨b, rfl, hb, hbe⟩ := HBs.out.done HS.out (by omega)
              have HTN := Lib.hid (Tb.tk_step (S := S) (k := q) (b := b) (by rw [HS.out.len]; omega) hbe)
              have t0 := HT.out.atB hb
              have t1 := HT.out.free b
              have hbb : (b : Int) < 256 := by omega
              clear hbe
              go_wp2
              exact ⟨⟨q + 1, by omega, by go_num, by rw [HTN.out]; exact HT.out.setB b true, HC.out.other (by show B ≠ gt; omega) _, (below_drewN' HB.out m).setCell (by show B ≤ gt; omega) _⟩, by simp [intOf]; omega⟩
        · have e : q = 16 := by omega
          subst e
          rw [show ((16 : Nat) : Int) = 16 from rfl]
          have hqs : ∀ (j : Nat), j < 256 → wr.cell? ⟨gt, j, none⟩ = some (.bool (decide ((j : Int) - 128 ∈ S.take 16))) := fun j hj => by
            rw [HT.out.atB hj, Tb.tk_at _ _ hj]
          have HQ := Lib.hid hqs
          obtain ⟨B1, hB1⟩ : ∃ B1, wr.heap.size = B1 := ⟨_, rfl⟩
          have hB2 : gt < B1 := by have := HT.out.lt; omega
          have HQB := Lib.hid (fun wz (hb : Below B1 wr wz) j (hj : j < 256) => (hb.cell (p := ⟨gt, j, none⟩) hB2).trans (HQ.out j hj))
          have hBB : B ≤ B1 := by omega
          have hBs : B1 ≤ wr.heap.size := Nat.le_of_eq hB1.symm
          have HB1 := Lib.hid hB1
          clear hqs hB1 HT HC
          obtain ⟨i0, hinf, hz0, hz1, hz2⟩ := info_parts Try.infoInt
          go_wp2
          go_loopw [12, 13] (fun lv jv wz => ∃ j : Nat, j ≤ 256 ∧ jv = .int .i64 j ∧ Hid (wz.ownsRow B1 3 1 lv (Tb.upto S j).length ((Tb.upto S j).map (Value.int .i64))) ∧ Hid (Below B1 wr wz)) (fun _ jv _ => 256 - (intOf jv).toNat)
          case atStart => exact ⟨0, by omega, rfl, ⟨rfl, .inl ⟨rfl, rfl⟩⟩, Below.refl _ _⟩
          case round =>
            obtain ⟨j, hj, rfl, HU, hbz⟩ := hrel
            by_cases hlj : j < 256
            · have t0 := HQB.out wr hbz.out j hlj
              have hjj : (j : Int) < 256 := by omega
              by_cases ht : (j : Int) - 128 ∈ S.take 16
              · rw [decide_eq_true ht] at t0
                have HN := Lib.hid (Tb.upto_yes ht)
                have hln := Tb.upto_len S j
                obtain ⟨L, hL⟩ : ∃ L, Tb.upto S j = L := ⟨_, rfl⟩
                rw [hL] at HU HN hln
                obtain ⟨m, hm⟩ : ∃ m, L.length = m := ⟨_, rfl⟩
                have HM := Lib.hid hm
                rw [hm] at HU hln
                have hw1 : IntKind.i64.wrap ((j : Int) - 128) = (j : Int) - 128 := IntWalk.i64_in _ (by omega)
                obtain ⟨z, hz⟩ : ∃ z, (j : Int) - 128 = z := ⟨_, rfl⟩
                rw [hz] at HN hw1
                have HR1 := Lib.hid (row_stays HU.out (below_box wr (.cells #[.int .i64 z] 3)))
                have HB1' := Lib.hid (hbz.out.trans ((below_box wr (.cells #[.int .i64 z] 3)).mono (Nat.le_trans hBs hbz.out.size)))
                have hs1 : B1 ≤ (wr.alloc (.cells #[.int .i64 z] 3)).heap.size := Nat.le_trans hBs HB1'.out.size
                clear ht hL hm
                go_wp2_with (first | (at_builtin; (refine wpList_append_own _ rfl (.tmp 84) (.tmp 87) 22 rfl B1 3 i0 (.int .i64 0) 1 8 Try.underlying22 hinf hz0 hz1 hz2 rfl (by decide) u12 m (L.map (Value.int .i64)) rfl HR1.out ⟨wr.heap.size, 0, none⟩ 1 1 [.int .i64 z] rfl rfl (one_new .i64 _ wr z) (one_one .i64 z) (by unfold maxLen; omega) (by omega) hs1 ?_; intro v' w2 hown' hgrow _; have hb2 := grown_base hgrow (fun g hg => (World.ownsRow.lt HR1.out g hg).1) hs1; clear hgrow; have HR2 := Lib.hid (show w2.ownsRow B1 3 1 v' (Tb.upto S (j + 1)).length ((Tb.upto S (j + 1)).map (Value.int .i64)) by rw [HN.out, List.map_append, List.length_append, HM.out]; exact hown'); have HB2 := Lib.hid (HB1'.out.trans hb2); clear hown' hb2)))
                go_roundw
                case rel => exact ⟨j + 1, by omega, by go_num, HR2.out, HB2.out⟩
                case measure => simp [intOf]; omega
              · rw [decide_eq_false ht] at t0
                have HR2 := Lib.hid (show wr.ownsRow B1 3 1 u12 (Tb.upto S (j + 1)).length ((Tb.upto S (j + 1)).map (Value.int .i64)) by rw [Tb.upto_no ht]; exact HU.out)
                clear ht
                go_wp2
                exact ⟨⟨j + 1, by omega, by go_num, HR2.out, hbz.out⟩, by simp [intOf]; omega⟩
            · have e : j = 256 := by omega
              subst e
              go_wp2
              go_ret2
              have e := HBE.out
              subst e
              exact ⟨⟨_, rfl, row_lower HU.out hBB⟩, HB.out.trans (hbz.out.mono hBB)⟩
theorem rtable_bad (l : List Int) (p : Option Addr) (cap : Nat) (w : World) (hd : DatAt w p l) (hi : ∀ x ∈ l, -9223372036854775808 ≤ x ∧ x ≤ 9223372036854775807) (hl : (l.length : Int) ≤ 1152921504606846976) (h : whl l 8 ≠ 0) :
    Calls Try.prog 19 #[.slice p l.length cap] w fun e w' => e = .returned (.tuple #[.slice none 0 0, .int .i64 (whl l 8)]) ∧ w = w' := by
  have C1 := Lib.hid (rwhole l p cap 8 w hd hi hl)
  obtain ⟨z, hz⟩ : ∃ z, whl l 8 = z := ⟨_, rfl⟩
  rw [hz] at C1 h ⊢
  have h2 : (z != 0) = true := by simpa using h
  clear hz hd h hl hi
  go_enter Try.func19, Try.ntmps19
  go_wp2_with (first | (go_at_call 26; ((with_reducible refine C1.out.mono ?_); rintro x' w' ⟨rfl, rfl⟩)))
  go_ret2
  exact ⟨rfl, rfl⟩
end Go.Proofs.Ytfljgdehbogimaa

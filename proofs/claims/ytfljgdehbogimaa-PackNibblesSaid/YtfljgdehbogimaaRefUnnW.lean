/-
  The contract of the reference's Unnibbles: the good way, and all ways.
-/
import Derived.Test.YtfljgdehbogimaaRefUnn
namespace Go.Proofs.Ytfljgdehbogimaa
open Go.RowKit

set_option maxHeartbeats 1600000 in
theorem rfilled_nil (n : Nat) (w : World) (h2 : n ≤ 4096) :
    Calls Try.prog 38 #[.slice none 0 0, .int .i64 n] w fun e w' => (∃ g c, e = .returned (.slice (some ⟨g, 0, none⟩) n c) ∧ w'.ownsRow w.heap.size 3 1 (.slice (some ⟨g, 0, none⟩) n c) n ((List.replicate n 0).map (Value.int .i64))) ∧ Below w.heap.size w w' := by
  obtain ⟨i0, hinf, hz0, hz1, hz2⟩ := info_parts Try.infoInt
  have HE := Lib.hid (own_empty 3 w)
  have hn4 : (n : Int) ≤ 4096 := by omega
  clear h2
  go_enter Try.func38, Try.ntmps38
  go_wp2_with (first
    | (at_builtin; refine wpList_append_own_none rfl (.tmp 5) (.tmp 6) 22 rfl w.heap.size 3 i0 1 Try.underlying22 hinf (.slice (some ⟨w.heap.size, 0, none⟩) 0 0) 0 [] rfl HE.out rfl ?_)
    | (at_builtin; refine wpList_append_zeros rfl (.tmp 7) (.tmp 11) 22 3 rfl w.heap.size 3 i0 .i64 .i64 Try.underlying22 Try.underlying3 hinf hz0 hz1 (by omega) w.heap.size 0 0 [] n rfl rfl HE.out (by omega) (by simp) ?_; intro g2 c2 w2 hown2 hgrow2; have HO2 := Lib.hid hown2; have HG2 := Lib.hid (grown_base (B := w.heap.size) (v := .slice (some ⟨w.heap.size, 0, none⟩) 0 0) hgrow2 (fun k hk => (World.ownsRow.lt HE.out k hk).1) (by simp)); clear hown2 hgrow2))
  go_ret
  refine ⟨⟨g2, c2, by simp, ?_⟩, (below_box w (.cells #[] 3)).trans HG2.out⟩
  have := HO2.out
  simpa using this
/-- filled, of a list that a call has made (nil, too). -/
theorem rfilled_own (l : List Int) (p : Option Addr) (cap n B : Nat) (w : World) (hv : w.ownsRow B 3 1 (.slice p l.length cap) l.length (l.map (Value.int .i64))) (h1 : l.length ≤ n) (h2 : n ≤ 4096) :
    Calls Try.prog 38 #[.slice p l.length cap, .int .i64 n] w fun e w' => (∃ g c, e = .returned (.slice (some ⟨g, 0, none⟩) n c) ∧ w'.ownsRow w.heap.size 3 1 (.slice (some ⟨g, 0, none⟩) n c) n ((l ++ List.replicate (n - l.length) 0).map (Value.int .i64))) ∧ Below w.heap.size w w' := by
  rcases hv.2 with ⟨he, h0⟩ | ⟨g, cap', cur, he, _⟩
  · have hl : l = [] := List.eq_nil_of_length_eq_zero h0
    subst hl
    rw [he]
    simpa using rfilled_nil n w h2
  · obtain ⟨p', cp, hp, HK⟩ := own_dat hv rfl
    rw [he] at hp
    simp only [Value.slice.injEq] at hp he
    obtain ⟨rfl, -, rfl⟩ := hp
    obtain ⟨rfl, -, rfl⟩ := he
    exact rfilled l g 0 cap n w HK h1 h2
set_option maxRecDepth 20000 in
set_option maxHeartbeats 3200000 in
theorem runn_ok (b t : List Int) (pb pt : Option Addr) (capb capt n : Nat) (w : World) (hd : BytAt w pb b) (hdb : ∀ x ∈ b, 0 ≤ x ∧ x < 256) (hdt : DatAt w pt t) (hit : ∀ x ∈ t, -9223372036854775808 ≤ x ∧ x ≤ 9223372036854775807) (hlt : (t.length : Int) ≤ 1152921504606846976) (ht : tbl t = true) (h : ask b.length n = 0) :
    Calls Try.prog 23 #[.slice pb b.length capb, .slice pt t.length capt, .int .i64 n] w fun e w' => (∃ g c, e = .returned (.tuple #[.slice (some ⟨g, 0, none⟩) n c, .int .i64 ((n - unM b n : Nat) : Int), .int .i64 0]) ∧ w'.ownsRow w.heap.size 3 1 (.slice (some ⟨g, 0, none⟩) n c) n ((unx t b n).map (Value.int .i64))) ∧ Below w.heap.size w w' := by
  obtain ⟨hb1, hb2⟩ := ask_ok h
  have C1 := Lib.hid (ht ▸ rtabled_any t pt capt w hdt hit hlt)
  have C2 := Lib.hid (h ▸ rasked pb b.length capb n w (by omega))
  obtain ⟨i0, hinf, hz0, hz1, hz2⟩ := info_parts Try.infoInt
  have HDB := Lib.hid hdb
  have hvt := tbl_of ht
  have ht16 := hvt.1
  have HT16 := Lib.hid ht16
  rw [ht16] at C1
  rw [ht16]
  have HTI := Lib.hid hvt.2
  have HDL0 := Lib.hid ((Pk.sums_length 128 0 (unV t b n)).trans (unV_length t b n))
  have HSTP := Lib.hid (fun k (hk : k < (unV t b n).length) => sums_step 128 (unV t b n) hk)
  have HDI := Lib.hid (Pk.sums_in (h := 128) (by omega) 0 (unV t b n))
  have HSE := Lib.hid (show unx t b n = Pk.sums 128 0 (unV t b n) ++ List.replicate (n - unM b n) 0 from rfl)
  obtain ⟨D, hD⟩ : ∃ D, Pk.sums 128 0 (unV t b n) = D := ⟨_, rfl⟩
  rw [hD] at HDL0 HDI HSE
  simp only [hD] at HSTP
  obtain ⟨lb, hlb⟩ : ∃ lb, b.length = lb := ⟨_, rfl⟩
  have HLB := Lib.hid hlb
  have HUM := Lib.hid (show unM b n = min n (2 * lb) by unfold unM; rw [hlb])
  rw [hlb] at C2 hb1
  rw [hlb]
  have HVAT := Lib.hid (fun k (hk : k < unM b n) => unV_at t b n hk)
  have HVLE := Lib.hid (unV_length t b n)
  obtain ⟨M, hM⟩ : ∃ M, unM b n = M := ⟨_, rfl⟩
  rw [hM] at HDL0 HSE HUM HVLE ⊢
  simp only [hM] at HVAT
  have HRF := Lib.hid (fun (p : Option Addr) (c B1 : Nat) (w1 : World) (h1 : w1.ownsRow B1 3 1 (.slice p M c) M (D.map (Value.int .i64))) => by
    have := rfilled_own D p c n B1 w1 (by rw [HDL0.out]; exact h1) (by rw [HDL0.out]; have := HUM.out; omega) (by omega)
    rw [HDL0.out, ← HSE.out] at this
    exact this)
  have hMn : M ≤ n := by have := HUM.out; omega
  clear hD hlb hM hdb h ht hvt hit ht16
  go_enter Try.func23, Try.ntmps23
  go_wp2_with (first | (go_at_call 51; ((with_reducible refine C1.out.mono ?_); rintro x' w' ⟨rfl, rfl⟩)) | (go_at_call 36; ((with_reducible refine C2.out.mono ?_); rintro x' w' ⟨rfl, rfl⟩)))
  obtain ⟨B, hBe⟩ : ∃ B, w.heap.size = B := ⟨_, rfl⟩
  have HBE := Lib.hid hBe
  have hBw : B ≤ w.heap.size := Nat.le_of_eq hBe.symm
  have HDK := Lib.hid (fun wr (hb : Below B w wr) => hd.below (hBe ▸ hb))
  have HDT := Lib.hid (fun wr (hb : Below B w wr) => hdt.below (hBe ▸ hb))
  clear hBe hd hdt C1 C2
  go_loopw [10, 11, 12] (fun lv pv i wr => ∃ k : Nat, k ≤ M ∧ i = .int .i64 k ∧ pv = .int .i64 (prv D k) ∧ Hid (wr.ownsRow B 3 1 lv k ((D.take k).map (Value.int .i64))) ∧ Hid (Below B w wr)) (fun _ _ i _ => n - (intOf i).toNat)
  case atStart => exact ⟨0, by omega, rfl, rfl, ⟨rfl, .inl ⟨rfl, rfl⟩⟩, Below.refl _ _⟩
  case round =>
    obtain ⟨k, hk, rfl, rfl, HU, hbw⟩ := hrel
    by_cases hlt : k < M
    · have hkn : k < n := by omega
      have hkl : k / 2 < lb := by have := HUM.out; omega
      have hkI : ((k / 2 : Nat) : Int) < (lb : Int) := by omega
      obtain ⟨bd, od, hp1, hc1⟩ := (HDK.out wr hbw.out).at (i := k / 2) (by rw [HLB.out]; exact hkl)
      have y0 := getD_in (P := fun x => 0 ≤ x ∧ x < 256) HDB.out (show k / 2 < b.length by rw [HLB.out]; exact hkl)
      obtain ⟨y, hy⟩ : ∃ y, b.getD (k / 2) 0 = y := ⟨_, rfl⟩
      have hv := HVAT.out k hlt
      have hjn : 0 ≤ Pk.nat_ b k ∧ Pk.nat_ b k < 16 := by unfold Pk.nat_; omega
      have hnat : Pk.nat_ b k = y / 2 ^ (k % 2 * 4) % 16 := by unfold Pk.nat_; rw [hy]
      rw [hy] at hc1 y0
      obtain ⟨j, hj⟩ : ∃ j : Nat, Pk.nat_ b k = (j : Int) := ⟨(Pk.nat_ b k).toNat, by omega⟩
      rw [hj] at hjn hv hnat
      rw [Int.toNat_natCast] at hv
      obtain ⟨bt, ot, hp2, hc2⟩ := (HDT.out wr hbw.out).at (i := j) (by rw [HT16.out]; omega)
      have t0 := getD_in (P := fun x => -128 ≤ x ∧ x ≤ 127) HTI.out (show j < t.length by rw [HT16.out]; omega)
      obtain ⟨x, hx⟩ : ∃ x, t.getD j 0 = x := ⟨_, rfl⟩
      rw [hx] at hc2 t0 hv
      have hz := HSTP.out k (by rw [HVLE.out]; exact hlt)
      rw [hv] at hz
      have q0 := prv_in (a := -128) (b := 127) (by omega) (by omega) (fun x hx => by have := HDI.out x hx; omega) (l := D) (k := k) (by rw [HDL0.out]; omega)
      obtain ⟨q, hq⟩ : ∃ q, prv D k = q := ⟨_, rfl⟩
      rw [hq] at hz q0 ⊢
      obtain ⟨z, hze⟩ : ∃ z, D.getD k 0 = z := ⟨_, rfl⟩
      rw [hze] at hz
      have HZ := Lib.hid hze
      have HTN := Lib.hid (take_next (by rw [HDL0.out]; exact hlt) hze)
      have CW := Lib.hid (show Calls Try.prog 37 #[.int .i64 (q + x), .int .i64 8] wr fun e w' => e = .returned (.int .i64 z) ∧ wr = w' from hz ▸ (rwrap8 (q + x) wr (by omega) (by omega)).mono fun _ _ h => ⟨h.1, h.2.symm⟩)
      have HR1 := Lib.hid (row_stays HU.out (below_box wr (.cells #[.int .i64 z] 3)))
      have HB1 := Lib.hid (hbw.out.trans ((below_box wr (.cells #[.int .i64 z] 3)).mono (Nat.le_trans hBw hbw.out.size)))
      have hs1 : B ≤ (wr.alloc (.cells #[.int .i64 z] 3)).heap.size := Nat.le_trans hBw HB1.out.size
      have hkM : (k : Int) + 1 ≤ 4096 := by omega
      obtain ⟨m, hm⟩ : ∃ m, k / 2 = m := ⟨_, rfl⟩
      rw [hm] at hc1 hkI
      have hd1 : (k : Int) / 2 = (m : Int) := by omega
      have hd2 : (k : Int).tdiv 2 = (m : Int) := by rw [Int.tdiv_eq_ediv_of_nonneg (by omega)]; omega
      clear hy hj hx hz hze hv hm hkl hq
      subst hp1 hp2
      rcases Nat.mod_two_eq_zero_or_one k with hpar | hpar
      · rw [hpar] at hnat
        have hr1 : (k : Int) % 2 = 0 := by omega
        have hr2 : (k : Int).tmod 2 = 0 := by rw [Int.tmod_eq_emod_of_nonneg (by omega)]; omega
        have hA : bits .and .u8 y 15 = (j : Int) := by rw [byte_and15 y0.1 y0.2, hnat, Nat.zero_mul, Int.pow_zero, Int.ediv_one]
        clear hnat hpar
        go_wp2_with (first | (go_at_call 37; ((with_reducible refine CW.out.mono ?_); rintro x' w' ⟨rfl, rfl⟩)) | (at_builtin; (refine wpList_append_own _ rfl (.tmp 50) (.tmp 52) 22 rfl B 3 i0 (.int .i64 0) 1 8 Try.underlying22 hinf hz0 hz1 hz2 rfl (by decide) u10 k ((D.take k).map (Value.int .i64)) rfl HR1.out ⟨wr.heap.size, 0, none⟩ 1 1 [.int .i64 z] rfl rfl (one_new .i64 _ wr z) (one_one .i64 z) (by unfold maxLen; omega) (by omega) hs1 ?_; intro v' w2 hown' hgrow _; have hb2 := grown_base hgrow (fun g hg => (World.ownsRow.lt HR1.out g hg).1) hs1; clear hgrow; have HR2 := Lib.hid (show w2.ownsRow B 3 1 v' (k + 1) ((D.take (k + 1)).map (Value.int .i64)) by rw [HTN.out]; exact hown'); have HB2 := Lib.hid (HB1.out.trans hb2); clear hown' hb2)))
        go_roundw
        case rel => exact ⟨k + 1, by omega, by go_num, by rw [prv_succ, HZ.out], HR2.out, HB2.out⟩
        case measure => simp [intOf]; omega
      · rw [hpar] at hnat
        have hr1 : (k : Int) % 2 = 1 := by omega
        have hr2 : (k : Int).tmod 2 = 1 := by rw [Int.tmod_eq_emod_of_nonneg (by omega)]; omega
        have hA : bits .and .u8 (y / 16) 15 = (j : Int) := by rw [byte_and15 (by omega) (by omega), hnat]; rfl
        clear hnat hpar
        go_wp2_with (first | (go_at_call 37; ((with_reducible refine CW.out.mono ?_); rintro x' w' ⟨rfl, rfl⟩)) | (at_builtin; (refine wpList_append_own _ rfl (.tmp 50) (.tmp 52) 22 rfl B 3 i0 (.int .i64 0) 1 8 Try.underlying22 hinf hz0 hz1 hz2 rfl (by decide) u10 k ((D.take k).map (Value.int .i64)) rfl HR1.out ⟨wr.heap.size, 0, none⟩ 1 1 [.int .i64 z] rfl rfl (one_new .i64 _ wr z) (one_one .i64 z) (by unfold maxLen; omega) (by omega) hs1 ?_; intro v' w2 hown' hgrow _; have hb2 := grown_base hgrow (fun g hg => (World.ownsRow.lt HR1.out g hg).1) hs1; clear hgrow; have HR2 := Lib.hid (show w2.ownsRow B 3 1 v' (k + 1) ((D.take (k + 1)).map (Value.int .i64)) by rw [HTN.out]; exact hown'); have HB2 := Lib.hid (HB1.out.trans hb2); clear hown' hb2)))
        go_roundw
        case rel => exact ⟨k + 1, by omega, by go_num, by rw [prv_succ, HZ.out], HR2.out, HB2.out⟩
        case measure => simp [intOf]; omega
    · have e : k = M := by omega
      subst e
      have HU2 := HU.out
      rw [List.take_of_length_le (by rw [HDL0.out]; exact Nat.le_refl _)] at HU2
      obtain ⟨p, cp, hp, _⟩ := own_dat HU2 HDL0.out
      rw [HDL0.out] at hp
      subst hp
      have HKD := Lib.hid HU2
      have hMI : (n : Int) - (k : Int) = ((n - k : Nat) : Int) := by omega
      have HBW := Lib.hid hbw.out
      have hd1 : (k : Int) / 2 = ((k / 2 : Nat) : Int) := by omega
      have hd2 : (k : Int).tdiv 2 = ((k / 2 : Nat) : Int) := by rw [Int.tdiv_eq_ediv_of_nonneg (by omega)]; omega
      have hno : k < n → ¬ ((k / 2 : Nat) : Int) < (lb : Int) := by have := HUM.out; omega
      obtain ⟨m, hm⟩ : ∃ m, k / 2 = m := ⟨_, rfl⟩
      rw [hm] at hd1 hd2 hno
      clear HU2 HU hbw hm
      by_cases hkn : k < n
      · have hlb2 := hno hkn
        clear hno
        go_wp2_with (first
          | (go_at_call 38; go_loud ((with_reducible refine (HRF.out _ _ _ _ HKD.out).mono ?_); rintro x' w4 ⟨⟨g4, c4, rfl, ho⟩, hb⟩; have HO4 := Lib.hid (row_lower ho (Nat.le_trans hBw HBW.out.size)); have HB4 := Lib.hid (HBW.out.trans (hb.mono (Nat.le_trans hBw HBW.out.size))); clear ho hb)))
        go_ret3
        exact ⟨⟨g4, c4, ret_mid (by omega), by first | exact HO4.out | (rw [HBE.out]; exact HO4.out)⟩, by first | exact HB4.out | (rw [HBE.out]; exact HB4.out)⟩
      · clear hno
        go_wp2_with (first
          | (go_at_call 38; go_loud ((with_reducible refine (HRF.out _ _ _ _ HKD.out).mono ?_); rintro x' w4 ⟨⟨g4, c4, rfl, ho⟩, hb⟩; have HO4 := Lib.hid (row_lower ho (Nat.le_trans hBw HBW.out.size)); have HB4 := Lib.hid (HBW.out.trans (hb.mono (Nat.le_trans hBw HBW.out.size))); clear ho hb)))
        go_ret3
        exact ⟨⟨g4, c4, ret_mid (by omega), by first | exact HO4.out | (rw [HBE.out]; exact HO4.out)⟩, by first | exact HB4.out | (rw [HBE.out]; exact HB4.out)⟩
/-- The error that Unnibbles returns, and what. -/
theorem runnibbles (b t : List Int) (pb pt : Option Addr) (capb capt : Nat) (n : Int) (w : World) (hd : BytAt w pb b) (hdb : ∀ x ∈ b, 0 ≤ x ∧ x < 256) (hdt : DatAt w pt t) (hit : ∀ x ∈ t, -9223372036854775808 ≤ x ∧ x ≤ 9223372036854775807) (hlt : (t.length : Int) ≤ 1152921504606846976) (hl : (b.length : Int) ≤ 1152921504606846976) :
    Calls Try.prog 23 #[.slice pb b.length capb, .slice pt t.length capt, .int .i64 n] w fun e w' => (unnE b.length t n ≠ 0 → e = .returned (.tuple #[.slice none 0 0, .int .i64 0, .int .i64 (unnE b.length t n)])) ∧ (unnE b.length t n = 0 → ∃ g c, e = .returned (.tuple #[.slice (some ⟨g, 0, none⟩) n.toNat c, .int .i64 ((n.toNat - unM b n.toNat : Nat) : Int), .int .i64 0]) ∧ w'.ownsRow w.heap.size 3 1 (.slice (some ⟨g, 0, none⟩) n.toNat c) n.toNat ((unx t b n.toNat).map (Value.int .i64))) ∧ Below w.heap.size w w' := by
  cases ht : tbl t with
  | true =>
    have e : unnE b.length t n = ask b.length n := if_pos ht
    rw [e]
    by_cases h : ask b.length n = 0
    · have hn : 0 ≤ n := by
        unfold ask at h
        split at h
        · omega
        · split at h
          · omega
          · omega
      obtain ⟨k, rfl⟩ := Int.eq_ofNat_of_zero_le hn
      exact (runn_ok b t pb pt capb capt k w hd hdb hdt hit hlt ht h).mono fun e w' ⟨h1, h3⟩ => ⟨fun h' => absurd h h', fun _ => h1, h3⟩
    · exact (runn_ask t pb pt b.length capb capt n w hdt hit hlt hl ht h).mono fun e w' ⟨h1, h3⟩ => ⟨fun _ => h1, fun h' => absurd h' h, h3 ▸ Below.refl _ _⟩
  | false =>
    have e : unnE b.length t n = 1 := if_neg (by simp [ht])
    rw [e]
    exact (runn_tbl t pb pt b.length capb capt n w hdt hit hlt ht).mono fun e w' ⟨h1, h3⟩ => ⟨fun _ => h1, fun h' => absurd h' (by omega), h3 ▸ Below.refl _ _⟩
/-- What the project's Unnibbles returns. -/
theorem p_Unnibbles (b t : List Int) (pb pt : Option Addr) (capb capt : Nat) (n : Int) (w : World) (hd : BytAt w pb b) (hdb : ∀ x ∈ b, 0 ≤ x ∧ x < 256) (hdt : DatAt w pt t) (hlt : (t.length : Int) ≤ 1152921504606846976) (hl : (b.length : Int) ≤ 1152921504606846976) :
    Calls Try.prog 22 #[.slice pb b.length capb, .slice pt t.length capt, .int .i64 n] w fun e w' => (unnE b.length t n ≠ 0 → e = .returned (.tuple #[.slice none 0 0, .int .i64 0, .int .i64 (unnE b.length t n)])) ∧ (unnE b.length t n = 0 → ∃ g, e = .returned (.tuple #[.slice (some ⟨g, 0, none⟩) n.toNat n.toNat, .int .i64 ((n.toNat - unM b n.toNat : Nat) : Int), .int .i64 0]) ∧ w'.ownsRow w.heap.size 3 1 (.slice (some ⟨g, 0, none⟩) n.toNat n.toNat) n.toNat ((unx t b n.toNat).map (Value.int .i64))) ∧ Below w.heap.size w w' := by
  cases ht : tbl t with
  | true =>
    have e : unnE b.length t n = ask b.length n := if_pos ht
    rw [e]
    by_cases h : ask b.length n = 0
    · have hn : 0 ≤ n := by
        unfold ask at h
        split at h
        · omega
        · split at h
          · omega
          · omega
      obtain ⟨k, rfl⟩ := Int.eq_ofNat_of_zero_le hn
      exact (p_Unn_ok b t pb pt capb capt k w hd hdb hdt hlt ht h).mono fun e w' ⟨h1, h3⟩ => ⟨fun h' => absurd h h', fun _ => h1, h3⟩
    · exact (p_Unn_ask t pb pt b.length capb capt n w hdt hlt hl ht h).mono fun e w' ⟨h1, h3⟩ => ⟨fun _ => h1, fun h' => absurd h' h, h3 ▸ Below.refl _ _⟩
  | false =>
    have e : unnE b.length t n = 1 := if_neg (by simp [ht])
    rw [e]
    exact (p_Unn_tbl t pb pt b.length capb capt n w hdt hlt ht).mono fun e w' ⟨h1, h3⟩ => ⟨fun _ => h1, fun h' => absurd h' (by omega), h3 ▸ Below.refl _ _⟩
end Go.Proofs.Ytfljgdehbogimaa

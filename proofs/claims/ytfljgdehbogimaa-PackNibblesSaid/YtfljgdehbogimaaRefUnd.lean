/-
  The contract of the reference's Undelta.
-/
import Derived.Test.YtfljgdehbogimaaRefFill
import Derived.Test.YtfljgdehbogimaaRefWhl
import Derived.Test.YtfljgdehbogimaaPUnd
import Derived.Test.YtfljgdehbogimaaPBk
namespace Go.Proofs.Ytfljgdehbogimaa
open Go.RowKit

theorem rund_bits (pb : Option Addr) (m capb : Nat) (b n : Int) (w : World) (h : ¬ (b = 8 ∨ b = 16)) :
    Calls Try.prog 14 #[.slice pb m capb, .int .i64 b, .int .i64 n] w fun e w' => e = .returned (.tuple #[.slice none 0 0, .int .i64 0, .int .i64 1]) ∧ w = w' := by
  have C1 := Lib.hid (rright_f b w h)
  clear h
  go_enter Try.func14, Try.ntmps14
  go_wp2_with (first | (go_at_call 30; ((with_reducible refine C1.out.mono ?_); rintro x' w' ⟨rfl, rfl⟩)))
  go_ret3
  exact ⟨rfl, rfl⟩
theorem rund_bad (pb : Option Addr) (m capb : Nat) (b n : Int) (w : World) (hb : b = 8 ∨ b = 16) (hl : (m : Int) ≤ 1152921504606846976) (h : ask m n ≠ 0) :
    Calls Try.prog 14 #[.slice pb m capb, .int .i64 b, .int .i64 n] w fun e w' => e = .returned (.tuple #[.slice none 0 0, .int .i64 0, .int .i64 (ask m n)]) ∧ w = w' := by
  have C1 := Lib.hid (rright_t b w hb)
  have C2 := Lib.hid (rasked pb m capb n w hl)
  obtain ⟨z, hz⟩ : ∃ z, ask m n = z := ⟨_, rfl⟩
  rw [hz] at C2 h ⊢
  have h2 : (z != 0) = true := by simpa using h
  clear h hz hl hb
  go_enter Try.func14, Try.ntmps14
  go_wp2_with (first | (go_at_call 30; ((with_reducible refine C1.out.mono ?_); rintro x' w' ⟨rfl, rfl⟩)) | (go_at_call 36; ((with_reducible refine C2.out.mono ?_); rintro x' w' ⟨rfl, rfl⟩)))
  go_ret3
  exact ⟨rfl, rfl⟩
theorem sums_wrp (h : Int) (l : List Int) : Pk.sums h 0 (l.map (Pk.wrp h)) = Pk.sums h 0 l := sums_map (fun x => Pk.wrp_eq h x) 0 l
theorem ask_ok {m : Nat} {n : Nat} (h : ask m n = 0) : (m : Int) ≤ 400000 ∧ (n : Int) ≤ 4096 := by
  unfold ask at h
  split at h
  · omega
  · split at h
    · omega
    · omega
theorem map_at {f : Int → Int} {l : List Int} {k : Nat} (hk : k < l.length) : (l.map f).getD k 0 = f (l.getD k 0) := by
  rw [List.getD_eq_getElem?_getD, List.getElem?_map, List.getD_eq_getElem?_getD, List.getElem?_eq_getElem hk]
  rfl
theorem take_next {l : List Int} {k : Nat} {y : Int} (hk : k < l.length) (hy : l.getD k 0 = y) : (l.take (k + 1)).map (Value.int .i64) = (l.take k).map (Value.int .i64) ++ [.int .i64 y] := by
  rw [List.take_add_one, List.map_append, ← hy]
  simp [hk, List.getD_eq_getElem?_getD]
set_option maxRecDepth 20000 in
set_option maxHeartbeats 3200000 in
theorem rund_ok8 (bs : List Int) (pb : Option Addr) (capb n : Nat) (w : World) (hd : BytAt w pb bs) (hdb : ∀ x ∈ bs, 0 ≤ x ∧ x < 256) (h : ask bs.length n = 0) :
    Calls Try.prog 14 #[.slice pb bs.length capb, .int .i64 8, .int .i64 n] w fun e w' => (∃ g c, e = .returned (.tuple #[.slice (some ⟨g, 0, none⟩) n c, .int .i64 ((n - udM bs 8 n : Nat) : Int), .int .i64 0]) ∧ w'.ownsRow w.heap.size 3 1 (.slice (some ⟨g, 0, none⟩) n c) n ((udx bs 8 n).map (Value.int .i64))) ∧ Below w.heap.size w w' := by
  obtain ⟨hb1, hb2⟩ := ask_ok h
  have C1 := Lib.hid (rright_t 8 w (by omega))
  have C2 := Lib.hid (h ▸ rasked pb bs.length capb n w (by omega))
  obtain ⟨i0, hinf, hz0, hz1, hz2⟩ := info_parts Try.infoInt
  have HDB := Lib.hid hdb
  have HD := Lib.hid hd
  have HVL := Lib.hid (show ((udV bs 8 n).map (Pk.wrp (hlf 8))).length = udM bs 8 n by rw [List.length_map, udV_length])
  have HVI := Lib.hid (show ∀ x ∈ (udV bs 8 n).map (Pk.wrp (hlf 8)), -1048576 ≤ x ∧ x ≤ 1048576 from fun x hx => by
    rw [List.mem_map] at hx
    obtain ⟨y, _, rfl⟩ := hx
    have := Pk.wrp_lo (x := y) (hlf_pos 8)
    have := Pk.wrp_hi (x := y) (hlf_pos 8)
    have := hlf_le (b := 8) (by omega)
    omega)
  have HVA := Lib.hid (fun (k : Nat) (hk : k < udM bs 8 n) => (map_at (f := Pk.wrp (hlf 8)) (l := udV bs 8 n) (k := k) (by rw [udV_length]; exact hk)).trans (congrArg _ (udV_at bs 8 n hk)))
  have HSE := Lib.hid (show udx bs 8 n = Pk.sums (hlf 8) 0 ((udV bs 8 n).map (Pk.wrp (hlf 8))) ++ List.replicate (n - udM bs 8 n) 0 by rw [sums_wrp]; rfl)
  obtain ⟨V, hV⟩ : ∃ V, (udV bs 8 n).map (Pk.wrp (hlf 8)) = V := ⟨_, rfl⟩
  rw [hV] at HVL HVI HSE
  simp only [hV] at HVA
  obtain ⟨lb, hlb⟩ : ∃ lb, bs.length = lb := ⟨_, rfl⟩
  have HLB := Lib.hid hlb
  have HUM := Lib.hid (show udM bs 8 n = min n (lb) by unfold udM; rw [if_neg (by omega)]; rw [hlb])
  obtain ⟨M, hM⟩ : ∃ M, udM bs 8 n = M := ⟨_, rfl⟩
  rw [hM] at HVL HSE HUM ⊢
  simp only [hM] at HVA
  rw [hlb] at C2 hb1
  rw [hlb]
  have HSL := Lib.hid ((Pk.sums_length (hlf 8) 0 V).trans HVL.out)
  obtain ⟨S, hS⟩ : ∃ S, Pk.sums (hlf 8) 0 V = S := ⟨_, rfl⟩
  rw [hS] at HSL HSE
  have HRS := Lib.hid (fun (p : Option Addr) (c : Nat) (w1 : World) (h1 : DatAt w1 p V) => by
    have := rsums V p c 8 w1 h1 (by rw [HVL.out]; have := HUM.out; omega) HVI.out (by omega) (by omega)
    rw [hS, HVL.out] at this
    exact this)
  have HRF := Lib.hid (fun (g c : Nat) (w1 : World) (h1 : DatAt w1 (some ⟨g, 0, none⟩) S) => by
    have := rfilled S g 0 c n w1 h1 (by rw [HSL.out]; have := HUM.out; omega) (by omega)
    rw [HSL.out, ← HSE.out] at this
    exact this)
  have hMn : M ≤ n := by have := HUM.out; omega
  clear hV hlb hM hS hdb hd h
  go_enter Try.func14, Try.ntmps14
  go_wp2_with (first | (go_at_call 30; ((with_reducible refine C1.out.mono ?_); rintro x' w' ⟨rfl, rfl⟩)) | (go_at_call 36; ((with_reducible refine C2.out.mono ?_); rintro x' w' ⟨rfl, rfl⟩)))
  obtain ⟨B, hBe⟩ : ∃ B, w.heap.size = B := ⟨_, rfl⟩
  have HBE := Lib.hid hBe
  have hBw : B ≤ w.heap.size := Nat.le_of_eq hBe.symm
  have HDK := Lib.hid (fun wr (hb : Below B w wr) => HD.out.below (hBe ▸ hb))
  clear hBe HD C1 C2
  go_loopw [11, 12] (fun lv i wr => ∃ k : Nat, k ≤ M ∧ i = .int .i64 k ∧ Hid (wr.ownsRow B 3 1 lv k ((V.take k).map (Value.int .i64))) ∧ Hid (Below B w wr)) (fun _ i _ => n - (intOf i).toNat)
  case atStart => exact ⟨0, by omega, rfl, ⟨rfl, .inl ⟨rfl, rfl⟩⟩, Below.refl _ _⟩
  case round =>
    obtain ⟨k, hk, rfl, HU, hbw⟩ := hrel
    by_cases hlt : k < M
    · have hkn : k < n := by omega
      have hva := HVA.out k hlt
      obtain ⟨bd, od, hp1, hc1⟩ := (HDK.out wr hbw.out).at (i := k) (by rw [HLB.out]; have := HUM.out; omega)
      have y0 := getD_in (P := fun x => 0 ≤ x ∧ x < 256) HDB.out (show k < bs.length by rw [HLB.out]; have := HUM.out; omega)
      obtain ⟨y, hy⟩ : ∃ y, bs.getD k 0 = y := ⟨_, rfl⟩
      have hkl : (k : Int) + 1 ≤ (lb : Int) := by have := HUM.out; omega
      rw [hy] at hc1 y0
      rw [show udD bs 8 k = y by unfold udD; rw [if_neg (by omega)]; exact hy] at hva
      clear hy
      obtain ⟨z, hz⟩ : ∃ z, V.getD k 0 = z := ⟨_, rfl⟩
      rw [hz] at hva
      have HTN := Lib.hid (take_next (by rw [HVL.out]; exact hlt) hz)
      have CW := Lib.hid (show Calls Try.prog 37 #[.int .i64 (y), .int .i64 8] wr fun e w' => e = .returned (.int .i64 z) ∧ wr = w' from hva ▸ rwrap (y) 8 wr (by omega) (by omega) (by omega) (by omega))
      have HR1 := Lib.hid (row_stays HU.out (below_box wr (.cells #[.int .i64 z] 3)))
      have HB1 := Lib.hid (hbw.out.trans ((below_box wr (.cells #[.int .i64 z] 3)).mono (Nat.le_trans hBw hbw.out.size)))
      have hs1 : B ≤ (wr.alloc (.cells #[.int .i64 z] 3)).heap.size := Nat.le_trans hBw HB1.out.size
      have hkM : (k : Int) + 1 ≤ 4096 := by omega
      clear hva hz
      subst hp1
      go_wp2_with (first | (go_at_call 37; ((with_reducible refine CW.out.mono ?_); rintro x' w' ⟨rfl, rfl⟩)) | (at_builtin; (refine wpList_append_own _ rfl (.tmp 59) (.tmp 63) 22 rfl B 3 i0 (.int .i64 0) 1 8 Try.underlying22 hinf hz0 hz1 hz2 rfl (by decide) u11 k ((V.take k).map (Value.int .i64)) rfl HR1.out ⟨wr.heap.size, 0, none⟩ 1 1 [.int .i64 z] rfl rfl (one_new .i64 _ wr z) (one_one .i64 z) (by unfold maxLen; omega) (by omega) hs1 ?_; intro v' w2 hown' hgrow _; have hb2 := grown_base hgrow (fun g hg => (World.ownsRow.lt HR1.out g hg).1) hs1; clear hgrow; have HR2 := Lib.hid (show w2.ownsRow B 3 1 v' (k + 1) ((V.take (k + 1)).map (Value.int .i64)) by rw [HTN.out]; exact hown'); have HB2 := Lib.hid (HB1.out.trans hb2); clear hown' hb2)))
      go_roundw
      case rel => exact ⟨k + 1, by omega, by go_num, HR2.out, HB2.out⟩
      case measure => simp [intOf]; omega
    · have e : k = M := by omega
      subst e
      have hno : ¬ (k < n ∧ k + 1 ≤ lb) := by have := HUM.out; omega
      have HU2 := HU.out
      rw [List.take_of_length_le (by rw [HVL.out]; exact Nat.le_refl _)] at HU2
      obtain ⟨p, cp, hp, HK⟩ := own_dat HU2 HVL.out
      rw [HVL.out] at hp
      subst hp
      have HKD := Lib.hid (show DatAt wr p V from HK)
      have hMI : (n : Int) - (k : Int) = ((n - k : Nat) : Int) := by omega
      have HBW := Lib.hid hbw.out
      clear HU2 HK HU hbw
      by_cases hkn : k < n
      · have hlb2 : ¬ ((k : Int) + 1 ≤ (lb : Int)) := by omega
        clear hno
        go_wp2_with (first
          | (go_at_call 39; ((with_reducible refine (HRS.out _ _ _ HKD.out).mono ?_); rintro x' w3 ⟨⟨g3, rfl, ho⟩, hb⟩; have HO3 := Lib.hid (show DatAt w3 (some ⟨g3, 0, none⟩) S from OwnK.dat (k := .i64) (l := S) (B := wr.heap.size) (e := 3) (c := k) (g := g3) (w := w3) (by unfold OwnK; rw [HSL.out]; exact ho)); have HB3 := Lib.hid (HBW.out.trans (hb.mono (Nat.le_trans hBw HBW.out.size))); clear ho hb))
          | (go_at_call 38; go_loud ((with_reducible refine (HRF.out _ _ _ HO3.out).mono ?_); rintro x' w4 ⟨⟨g4, c4, rfl, ho⟩, hb⟩; have HO4 := Lib.hid (row_lower ho (Nat.le_trans hBw HB3.out.size)); have HB4 := Lib.hid (HB3.out.trans (hb.mono (Nat.le_trans hBw HB3.out.size))); clear ho hb)))
        go_ret3
        exact ⟨⟨g4, c4, ret_mid (by omega), by first | exact HO4.out | (rw [HBE.out]; exact HO4.out)⟩, by first | exact HB4.out | (rw [HBE.out]; exact HB4.out)⟩
      · clear hno
        go_wp2_with (first
          | (go_at_call 39; ((with_reducible refine (HRS.out _ _ _ HKD.out).mono ?_); rintro x' w3 ⟨⟨g3, rfl, ho⟩, hb⟩; have HO3 := Lib.hid (show DatAt w3 (some ⟨g3, 0, none⟩) S from OwnK.dat (k := .i64) (l := S) (B := wr.heap.size) (e := 3) (c := k) (g := g3) (w := w3) (by unfold OwnK; rw [HSL.out]; exact ho)); have HB3 := Lib.hid (HBW.out.trans (hb.mono (Nat.le_trans hBw HBW.out.size))); clear ho hb))
          | (go_at_call 38; go_loud ((with_reducible refine (HRF.out _ _ _ HO3.out).mono ?_); rintro x' w4 ⟨⟨g4, c4, rfl, ho⟩, hb⟩; have HO4 := Lib.hid (row_lower ho (Nat.le_trans hBw HB3.out.size)); have HB4 := Lib.hid (HB3.out.trans (hb.mono (Nat.le_trans hBw HB3.out.size))); clear ho hb)))
        go_ret3
        exact ⟨⟨g4, c4, ret_mid (by omega), by first | exact HO4.out | (rw [HBE.out]; exact HO4.out)⟩, by first | exact HB4.out | (rw [HBE.out]; exact HB4.out)⟩
set_option maxRecDepth 20000 in
set_option maxHeartbeats 3200000 in
theorem rund_ok16 (bs : List Int) (pb : Option Addr) (capb n : Nat) (w : World) (hd : BytAt w pb bs) (hdb : ∀ x ∈ bs, 0 ≤ x ∧ x < 256) (h : ask bs.length n = 0) :
    Calls Try.prog 14 #[.slice pb bs.length capb, .int .i64 16, .int .i64 n] w fun e w' => (∃ g c, e = .returned (.tuple #[.slice (some ⟨g, 0, none⟩) n c, .int .i64 ((n - udM bs 16 n : Nat) : Int), .int .i64 0]) ∧ w'.ownsRow w.heap.size 3 1 (.slice (some ⟨g, 0, none⟩) n c) n ((udx bs 16 n).map (Value.int .i64))) ∧ Below w.heap.size w w' := by
  obtain ⟨hb1, hb2⟩ := ask_ok h
  have C1 := Lib.hid (rright_t 16 w (by omega))
  have C2 := Lib.hid (h ▸ rasked pb bs.length capb n w (by omega))
  obtain ⟨i0, hinf, hz0, hz1, hz2⟩ := info_parts Try.infoInt
  have HDB := Lib.hid hdb
  have HD := Lib.hid hd
  have HVL := Lib.hid (show ((udV bs 16 n).map (Pk.wrp (hlf 16))).length = udM bs 16 n by rw [List.length_map, udV_length])
  have HVI := Lib.hid (show ∀ x ∈ (udV bs 16 n).map (Pk.wrp (hlf 16)), -1048576 ≤ x ∧ x ≤ 1048576 from fun x hx => by
    rw [List.mem_map] at hx
    obtain ⟨y, _, rfl⟩ := hx
    have := Pk.wrp_lo (x := y) (hlf_pos 16)
    have := Pk.wrp_hi (x := y) (hlf_pos 16)
    have := hlf_le (b := 16) (by omega)
    omega)
  have HVA := Lib.hid (fun (k : Nat) (hk : k < udM bs 16 n) => (map_at (f := Pk.wrp (hlf 16)) (l := udV bs 16 n) (k := k) (by rw [udV_length]; exact hk)).trans (congrArg _ (udV_at bs 16 n hk)))
  have HSE := Lib.hid (show udx bs 16 n = Pk.sums (hlf 16) 0 ((udV bs 16 n).map (Pk.wrp (hlf 16))) ++ List.replicate (n - udM bs 16 n) 0 by rw [sums_wrp]; rfl)
  obtain ⟨V, hV⟩ : ∃ V, (udV bs 16 n).map (Pk.wrp (hlf 16)) = V := ⟨_, rfl⟩
  rw [hV] at HVL HVI HSE
  simp only [hV] at HVA
  obtain ⟨lb, hlb⟩ : ∃ lb, bs.length = lb := ⟨_, rfl⟩
  have HLB := Lib.hid hlb
  have HUM := Lib.hid (show udM bs 16 n = min n (lb / 2) by unfold udM; rw [if_pos rfl]; rw [hlb])
  obtain ⟨M, hM⟩ : ∃ M, udM bs 16 n = M := ⟨_, rfl⟩
  rw [hM] at HVL HSE HUM ⊢
  simp only [hM] at HVA
  rw [hlb] at C2 hb1
  rw [hlb]
  have HSL := Lib.hid ((Pk.sums_length (hlf 16) 0 V).trans HVL.out)
  obtain ⟨S, hS⟩ : ∃ S, Pk.sums (hlf 16) 0 V = S := ⟨_, rfl⟩
  rw [hS] at HSL HSE
  have HRS := Lib.hid (fun (p : Option Addr) (c : Nat) (w1 : World) (h1 : DatAt w1 p V) => by
    have := rsums V p c 16 w1 h1 (by rw [HVL.out]; have := HUM.out; omega) HVI.out (by omega) (by omega)
    rw [hS, HVL.out] at this
    exact this)
  have HRF := Lib.hid (fun (g c : Nat) (w1 : World) (h1 : DatAt w1 (some ⟨g, 0, none⟩) S) => by
    have := rfilled S g 0 c n w1 h1 (by rw [HSL.out]; have := HUM.out; omega) (by omega)
    rw [HSL.out, ← HSE.out] at this
    exact this)
  have hMn : M ≤ n := by have := HUM.out; omega
  clear hV hlb hM hS hdb hd h
  go_enter Try.func14, Try.ntmps14
  go_wp2_with (first | (go_at_call 30; ((with_reducible refine C1.out.mono ?_); rintro x' w' ⟨rfl, rfl⟩)) | (go_at_call 36; ((with_reducible refine C2.out.mono ?_); rintro x' w' ⟨rfl, rfl⟩)))
  obtain ⟨B, hBe⟩ : ∃ B, w.heap.size = B := ⟨_, rfl⟩
  have HBE := Lib.hid hBe
  have hBw : B ≤ w.heap.size := Nat.le_of_eq hBe.symm
  have HDK := Lib.hid (fun wr (hb : Below B w wr) => HD.out.below (hBe ▸ hb))
  clear hBe HD C1 C2
  go_loopw [11, 12] (fun lv i wr => ∃ k : Nat, k ≤ M ∧ i = .int .i64 k ∧ Hid (wr.ownsRow B 3 1 lv k ((V.take k).map (Value.int .i64))) ∧ Hid (Below B w wr)) (fun _ i _ => n - (intOf i).toNat)
  case atStart => exact ⟨0, by omega, rfl, ⟨rfl, .inl ⟨rfl, rfl⟩⟩, Below.refl _ _⟩
  case round =>
    obtain ⟨k, hk, rfl, HU, hbw⟩ := hrel
    by_cases hlt : k < M
    · have hkn : k < n := by omega
      have hva := HVA.out k hlt
      obtain ⟨bd, od, hp1, hc1⟩ := (HDK.out wr hbw.out).at (i := k * 2) (by rw [HLB.out]; have := HUM.out; omega)
      obtain ⟨bd2, od2, hp2, hc2⟩ := (HDK.out wr hbw.out).at (i := k * 2 + 1) (by rw [HLB.out]; have := HUM.out; omega)
      have y0 := getD_in (P := fun x => 0 ≤ x ∧ x < 256) HDB.out (show k * 2 < bs.length by rw [HLB.out]; have := HUM.out; omega)
      have y1 := getD_in (P := fun x => 0 ≤ x ∧ x < 256) HDB.out (show k * 2 + 1 < bs.length by rw [HLB.out]; have := HUM.out; omega)
      rw [hp1] at hp2
      simp only [Option.some.injEq, Addr.mk.injEq] at hp2
      obtain ⟨rfl, rfl, _⟩ := hp2
      obtain ⟨y, hy⟩ : ∃ y, bs.getD (k * 2) 0 = y := ⟨_, rfl⟩
      obtain ⟨y', hy'⟩ : ∃ y, bs.getD (k * 2 + 1) 0 = y := ⟨_, rfl⟩
      have hkl : ((k : Int) + 1) * 2 ≤ (lb : Int) := by have := HUM.out; omega
      rw [hy] at hc1 y0
      rw [hy'] at hc2 y1
      rw [show udD bs 16 k = y + 256 * y' by unfold udD; rw [if_pos rfl, Nat.mul_comm 2 k, hy, hy']; omega] at hva
      clear hy hy'
      obtain ⟨z, hz⟩ : ∃ z, V.getD k 0 = z := ⟨_, rfl⟩
      rw [hz] at hva
      have HTN := Lib.hid (take_next (by rw [HVL.out]; exact hlt) hz)
      have CW := Lib.hid (show Calls Try.prog 37 #[.int .i64 (y + 256 * y'), .int .i64 16] wr fun e w' => e = .returned (.int .i64 z) ∧ wr = w' from hva ▸ rwrap (y + 256 * y') 16 wr (by omega) (by omega) (by omega) (by omega))
      have HR1 := Lib.hid (row_stays HU.out (below_box wr (.cells #[.int .i64 z] 3)))
      have HB1 := Lib.hid (hbw.out.trans ((below_box wr (.cells #[.int .i64 z] 3)).mono (Nat.le_trans hBw hbw.out.size)))
      have hs1 : B ≤ (wr.alloc (.cells #[.int .i64 z] 3)).heap.size := Nat.le_trans hBw HB1.out.size
      have hkM : (k : Int) + 1 ≤ 4096 := by omega
      clear hva hz
      subst hp1
      go_wp2_with (first | (go_at_call 37; ((with_reducible refine CW.out.mono ?_); rintro x' w' ⟨rfl, rfl⟩)) | (at_builtin; (refine wpList_append_own _ rfl (.tmp 59) (.tmp 63) 22 rfl B 3 i0 (.int .i64 0) 1 8 Try.underlying22 hinf hz0 hz1 hz2 rfl (by decide) u11 k ((V.take k).map (Value.int .i64)) rfl HR1.out ⟨wr.heap.size, 0, none⟩ 1 1 [.int .i64 z] rfl rfl (one_new .i64 _ wr z) (one_one .i64 z) (by unfold maxLen; omega) (by omega) hs1 ?_; intro v' w2 hown' hgrow _; have hb2 := grown_base hgrow (fun g hg => (World.ownsRow.lt HR1.out g hg).1) hs1; clear hgrow; have HR2 := Lib.hid (show w2.ownsRow B 3 1 v' (k + 1) ((V.take (k + 1)).map (Value.int .i64)) by rw [HTN.out]; exact hown'); have HB2 := Lib.hid (HB1.out.trans hb2); clear hown' hb2)))
      go_roundw
      case rel => exact ⟨k + 1, by omega, by go_num, HR2.out, HB2.out⟩
      case measure => simp [intOf]; omega
    · have e : k = M := by omega
      subst e
      have hno : ¬ (k < n ∧ (k + 1) * 2 ≤ lb) := by have := HUM.out; omega
      have HU2 := HU.out
      rw [List.take_of_length_le (by rw [HVL.out]; exact Nat.le_refl _)] at HU2
      obtain ⟨p, cp, hp, HK⟩ := own_dat HU2 HVL.out
      rw [HVL.out] at hp
      subst hp
      have HKD := Lib.hid (show DatAt wr p V from HK)
      have hMI : (n : Int) - (k : Int) = ((n - k : Nat) : Int) := by omega
      have HBW := Lib.hid hbw.out
      clear HU2 HK HU hbw
      by_cases hkn : k < n
      · have hlb2 : ¬ (((k : Int) + 1) * 2 ≤ (lb : Int)) := by omega
        clear hno
        go_wp2_with (first
          | (go_at_call 39; ((with_reducible refine (HRS.out _ _ _ HKD.out).mono ?_); rintro x' w3 ⟨⟨g3, rfl, ho⟩, hb⟩; have HO3 := Lib.hid (show DatAt w3 (some ⟨g3, 0, none⟩) S from OwnK.dat (k := .i64) (l := S) (B := wr.heap.size) (e := 3) (c := k) (g := g3) (w := w3) (by unfold OwnK; rw [HSL.out]; exact ho)); have HB3 := Lib.hid (HBW.out.trans (hb.mono (Nat.le_trans hBw HBW.out.size))); clear ho hb))
          | (go_at_call 38; go_loud ((with_reducible refine (HRF.out _ _ _ HO3.out).mono ?_); rintro x' w4 ⟨⟨g4, c4, rfl, ho⟩, hb⟩; have HO4 := Lib.hid (row_lower ho (Nat.le_trans hBw HB3.out.size)); have HB4 := Lib.hid (HB3.out.trans (hb.mono (Nat.le_trans hBw HB3.out.size))); clear ho hb)))
        go_ret3
        exact ⟨⟨g4, c4, ret_mid (by omega), by first | exact HO4.out | (rw [HBE.out]; exact HO4.out)⟩, by first | exact HB4.out | (rw [HBE.out]; exact HB4.out)⟩
      · clear hno
        go_wp2_with (first
          | (go_at_call 39; ((with_reducible refine (HRS.out _ _ _ HKD.out).mono ?_); rintro x' w3 ⟨⟨g3, rfl, ho⟩, hb⟩; have HO3 := Lib.hid (show DatAt w3 (some ⟨g3, 0, none⟩) S from OwnK.dat (k := .i64) (l := S) (B := wr.heap.size) (e := 3) (c := k) (g := g3) (w := w3) (by unfold OwnK; rw [HSL.out]; exact ho)); have HB3 := Lib.hid (HBW.out.trans (hb.mono (Nat.le_trans hBw HBW.out.size))); clear ho hb))
          | (go_at_call 38; go_loud ((with_reducible refine (HRF.out _ _ _ HO3.out).mono ?_); rintro x' w4 ⟨⟨g4, c4, rfl, ho⟩, hb⟩; have HO4 := Lib.hid (row_lower ho (Nat.le_trans hBw HB3.out.size)); have HB4 := Lib.hid (HB3.out.trans (hb.mono (Nat.le_trans hBw HB3.out.size))); clear ho hb)))
        go_ret3
        exact ⟨⟨g4, c4, ret_mid (by omega), by first | exact HO4.out | (rw [HBE.out]; exact HO4.out)⟩, by first | exact HB4.out | (rw [HBE.out]; exact HB4.out)⟩
/-- What the reference's Undelta returns. -/
theorem rundelta (bs : List Int) (pb : Option Addr) (capb : Nat) (b n : Int) (w : World) (hd : BytAt w pb bs) (hdb : ∀ x ∈ bs, 0 ≤ x ∧ x < 256) (hl : (bs.length : Int) ≤ 1152921504606846976) :
    Calls Try.prog 14 #[.slice pb bs.length capb, .int .i64 b, .int .i64 n] w fun e w' => (udE bs.length b n ≠ 0 → e = .returned (.tuple #[.slice none 0 0, .int .i64 0, .int .i64 (udE bs.length b n)])) ∧ (udE bs.length b n = 0 → ∃ g c, e = .returned (.tuple #[.slice (some ⟨g, 0, none⟩) n.toNat c, .int .i64 ((n.toNat - udM bs b n.toNat : Nat) : Int), .int .i64 0]) ∧ w'.ownsRow w.heap.size 3 1 (.slice (some ⟨g, 0, none⟩) n.toNat c) n.toNat ((udx bs b n.toNat).map (Value.int .i64))) ∧ Below w.heap.size w w' := by
  by_cases hb : b = 8 ∨ b = 16
  · have e : udE bs.length b n = ask bs.length n := if_pos hb
    rw [e]
    by_cases h : ask bs.length n = 0
    · have hn : 0 ≤ n := by
        unfold ask at h
        split at h
        · omega
        · split at h
          · omega
          · omega
      obtain ⟨k, rfl⟩ := Int.eq_ofNat_of_zero_le hn
      rcases hb with rfl | rfl
      · exact (rund_ok8 bs pb capb k w hd hdb h).mono fun e w' ⟨h1, h3⟩ => ⟨fun h' => absurd h h', fun _ => h1, h3⟩
      · exact (rund_ok16 bs pb capb k w hd hdb h).mono fun e w' ⟨h1, h3⟩ => ⟨fun h' => absurd h h', fun _ => h1, h3⟩
    · exact (rund_bad pb bs.length capb b n w hb hl h).mono fun e w' ⟨h1, h3⟩ => ⟨fun _ => h1, fun h' => absurd h' h, h3 ▸ Below.refl _ _⟩
  · have e : udE bs.length b n = 1 := if_neg hb
    rw [e]
    exact (rund_bits pb bs.length capb b n w hb).mono fun e w' ⟨h1, h3⟩ => ⟨fun _ => h1, fun h' => absurd h' (by omega), h3 ▸ Below.refl _ _⟩
end Go.Proofs.Ytfljgdehbogimaa

/-
  The contract of the reference's Delta.
-/
import Derived.Test.YtfljgdehbogimaaRefWhl
import Derived.Test.YtfljgdehbogimaaRow
namespace Go.Proofs.Ytfljgdehbogimaa
open Go.RowKit

/-- The bytes of one difference. -/
def byts (b d : Int) : List Int := if b = 16 then [d % 256, d / 256 % 256] else [d % 256]
/-- What Delta writes. -/
def dlt (l : List Int) (b : Int) : List Int := (Pk.difs (hlf b) 0 l).flatMap (byts b)
theorem rdelta_bad (l : List Int) (p : Option Addr) (cap : Nat) (b : Int) (w : World) (hd : DatAt w p l) (hi : ∀ x ∈ l, -9223372036854775808 ≤ x ∧ x ≤ 9223372036854775807) (hl : (l.length : Int) ≤ 1152921504606846976) (h : whl l b ≠ 0) :
    Calls Try.prog 10 #[.slice p l.length cap, .int .i64 b] w fun e w' => e = .returned (.tuple #[.slice none 0 0, .int .i64 (whl l b)]) ∧ w = w' := by
  have R := Lib.hid (rwhole l p cap b w hd hi hl)
  obtain ⟨z, hz⟩ : ∃ z, whl l b = z := ⟨_, rfl⟩
  rw [hz] at R h ⊢
  have h2 : (z != 0) = true := by simpa using h
  clear hz hd hi h
  go_enter Try.func10, Try.ntmps10
  go_wp2_with (first | (go_at_call 26; ((with_reducible refine R.out.mono ?_); rintro x' w' ⟨rfl, rfl⟩)))
  go_ret2
  exact ⟨rfl, rfl⟩
theorem whl_zero {l : List Int} {b : Int} (h : whl l b = 0) : (b = 8 ∨ b = 16) ∧ (∀ x ∈ l, Pk.wrp (hlf b) x = x) ∧ l.length ≤ 4096 := by
  unfold whl at h
  split at h
  · rename_i h1
    split at h
    · rename_i h2
      split at h
      · omega
      · exact ⟨h1, h2, by omega⟩
    · omega
  · omega
theorem byts_8 (S : List Int) : S.flatMap (byts 8) = S.map (· % 256) := by
  induction S with
  | nil => rfl
  | cons x S ih => rw [List.flatMap_cons, ih]; simp [byts]
set_option maxHeartbeats 1600000 in
theorem rdelta_ok8 (l : List Int) (p : Option Addr) (cap : Nat) (w : World) (hd : DatAt w p l) (hi : ∀ x ∈ l, -9223372036854775808 ≤ x ∧ x ≤ 9223372036854775807) (hl : (l.length : Int) ≤ 1152921504606846976) (h : whl l 8 = 0) :
    Calls Try.prog 10 #[.slice p l.length cap, .int .i64 8] w fun e w' => (∃ v, e = .returned (.tuple #[v, .int .i64 0]) ∧ w'.ownsRow w.heap.size 5 1 v (dlt l 8).length ((dlt l 8).map (Value.int .u8))) ∧ Below w.heap.size w w' := by
  have R := Lib.hid (h ▸ rwhole l p cap 8 w hd hi hl)
  obtain ⟨_, hz2, hz3⟩ := whl_zero h
  have D := Lib.hid (rdifs l p cap 8 w hd (by omega) (fun x hx => by
    have h0 := hz2 x hx
    have := Pk.wrp_lo (x := x) (hlf_pos 8)
    have := Pk.wrp_hi (x := x) (hlf_pos 8)
    have := hlf_le (b := 8) (by omega)
    omega) (by omega) (by omega))
  have DL := Lib.hid (Pk.difs_length (hlf 8) 0 l)
  have HDT := Lib.hid (show dlt l 8 = (Pk.difs (hlf 8) 0 l).flatMap (byts 8) from rfl)
  obtain ⟨S, hS⟩ : ∃ S, Pk.difs (hlf 8) 0 l = S := ⟨_, rfl⟩
  rw [hS] at D DL HDT
  obtain ⟨i0, hinf, hz0, hz1, hz2'⟩ := info_parts Try.infoByte
  have HL := Lib.hid hz3
  clear hS hd hi h hz2 hz3
  go_enter Try.func10, Try.ntmps10
  go_wp2_with (first | (go_at_call 26; ((with_reducible refine R.out.mono ?_); rintro x' w' ⟨rfl, rfl⟩)) | (go_at_call 27; ((with_reducible refine D.out.mono ?_); rintro x' w1 ⟨⟨g, rfl, hown⟩, hb1⟩; have HOWN := Lib.hid hown; clear hown)))
  obtain ⟨B, hBe⟩ : ∃ B, B = w1.heap.size := ⟨_, rfl⟩
  have HBB := Lib.hid hBe
  have hwB : w.heap.size ≤ B := by have := hb1.size; omega
  have HB1 := Lib.hid hb1
  clear hBe hb1 R D
  go_loopw [7, 20] (fun v i wr => ∃ k : Nat, k ≤ l.length ∧ i = .int .i64 k ∧ Hid (wr.ownsRow B 5 1 v k (((S.take k).map (· % 256)).map (Value.int .u8))) ∧ Hid (wr.ownsRow w.heap.size 3 1 (.slice (some ⟨g, 0, none⟩) l.length l.length) l.length (S.map (Value.int .i64))) ∧ Hid (Below w.heap.size w wr) ∧ Hid (B ≤ wr.heap.size ∧ g < B)) (fun _ i _ => l.length - (intOf i).toNat)
  case atStart => exact ⟨0, by omega, rfl, ⟨rfl, .inl ⟨rfl, rfl⟩⟩, HOWN.out, HB1.out, by have := HBB.out; omega, by rw [HBB.out]; exact (World.ownsRow.lt HOWN.out g rfl).2⟩
  case round =>
    clear HOWN HB1 HBB
    obtain ⟨k, hk, rfl, HU, HS, hbw, HZ⟩ := hrel
    by_cases hlt : k < l.length
    · obtain ⟨y, hy⟩ : ∃ y, S.getD k 0 = y := ⟨_, rfl⟩
      have hc : wr.cell? ⟨g, k, none⟩ = some (.int .i64 y) := by
        have hk2 : k < S.length := by rw [DL.out]; exact hlt
        rw [HS.out.cellAt k (by omega), ← hy]
        simp [hk2, List.getD_eq_getElem?_getD]
      have HY := Lib.hid hy
      clear hy
      have HR1 := Lib.hid (row_stays HU.out (below_box wr (.cells #[.int .u8 (y % 256)] 5)))
      have HS1 := Lib.hid (row_stays HS.out (below_box wr (.cells #[.int .u8 (y % 256)] 5)))
      have HB1 := Lib.hid (stepB hbw.out (below_box wr (.cells #[.int .u8 (y % 256)] 5)))
      have hs1 : B ≤ (wr.alloc (.cells #[.int .u8 (y % 256)] 5)).heap.size := by have := HZ.out.1; simp; omega
      have HSN := Lib.hid (show (S.take (k + 1)).map (· % 256) = (S.take k).map (· % 256) ++ [y % 256] by
        have hk2 : k < S.length := by rw [DL.out]; exact hlt
        rw [List.take_add_one, List.map_append, ← HY.out]
        simp [hk2, List.getD_eq_getElem?_getD])
      have hl4 := HL.out
      go_wp2_with (first | (at_builtin; go_loud (refine wpList_append_own _ rfl (.tmp 24) (.tmp 27) 24 rfl B 5 i0 (.int .u8 0) 1 1 Try.underlying24 hinf hz0 hz1 hz2' rfl (by decide) u7 k (((S.take k).map (· % 256)).map (Value.int .u8)) rfl HR1.out ⟨wr.heap.size, 0, none⟩ 1 1 [.int .u8 (y % 256)] rfl rfl (one_new .u8 _ wr (y % 256)) (one_one .u8 (y % 256)) (by unfold maxLen; omega) (by omega) hs1 ?_; intro v' w2 hown' hgrow _; have hb2 := grown_base hgrow (fun g hg => (World.ownsRow.lt HR1.out g hg).1) hs1; clear hgrow; have HR2 := Lib.hid (show w2.ownsRow B 5 1 v' (k + 1) (((S.take (k + 1)).map (· % 256)).map (Value.int .u8)) by rw [HSN.out]; simpa using hown'); have HB2 := Lib.hid (HB1.out.trans (hb2.mono hwB)); have hs2 := hb2.size; have HS2 := Lib.hid (row_base HS1.out hb2 HZ.out.2); clear hown')))
      go_roundw
      case rel => exact ⟨k + 1, by omega, by go_num, HR2.out, HS2.out, HB2.out, by have := HZ.out.1; simp at hs2; omega, HZ.out.2⟩
      case measure => simp [intOf]; omega
    · have HE := Lib.hid (show (S.take k).map (· % 256) = dlt l 8 by
        rw [HDT.out, byts_8, List.take_of_length_le (by rw [DL.out]; omega)])
      have HLN := Lib.hid (show (dlt l 8).length = k by
        rw [HDT.out, byts_8, List.length_map, DL.out]; omega)
      have HQ := Lib.hid (show wr.ownsRow w.heap.size 5 1 u7 (dlt l 8).length ((dlt l 8).map (Value.int .u8)) by
        rw [HLN.out, ← HE.out]
        exact row_lower HU.out hwB)
      go_wp2
      go_ret2
      exact ⟨⟨u7, rfl, HQ.out⟩, hbw.out⟩
theorem byts_16 (S : List Int) : (S.flatMap (byts 16)).length = 2 * S.length := by
  induction S with
  | nil => rfl
  | cons x S ih => rw [List.flatMap_cons, List.length_append, ih]; simp [byts]; omega
set_option maxHeartbeats 1600000 in
theorem rdelta_ok16 (l : List Int) (p : Option Addr) (cap : Nat) (w : World) (hd : DatAt w p l) (hi : ∀ x ∈ l, -9223372036854775808 ≤ x ∧ x ≤ 9223372036854775807) (hl : (l.length : Int) ≤ 1152921504606846976) (h : whl l 16 = 0) :
    Calls Try.prog 10 #[.slice p l.length cap, .int .i64 16] w fun e w' => (∃ v, e = .returned (.tuple #[v, .int .i64 0]) ∧ w'.ownsRow w.heap.size 5 1 v (dlt l 16).length ((dlt l 16).map (Value.int .u8))) ∧ Below w.heap.size w w' := by
  have R := Lib.hid (h ▸ rwhole l p cap 16 w hd hi hl)
  obtain ⟨_, hz2, hz3⟩ := whl_zero h
  have D := Lib.hid (rdifs l p cap 16 w hd (by omega) (fun x hx => by
    have h0 := hz2 x hx
    have := Pk.wrp_lo (x := x) (hlf_pos 16)
    have := Pk.wrp_hi (x := x) (hlf_pos 16)
    have := hlf_le (b := 16) (by omega)
    omega) (by omega) (by omega))
  have DL := Lib.hid (Pk.difs_length (hlf 16) 0 l)
  have HDT := Lib.hid (show dlt l 16 = (Pk.difs (hlf 16) 0 l).flatMap (byts 16) from rfl)
  obtain ⟨S, hS⟩ : ∃ S, Pk.difs (hlf 16) 0 l = S := ⟨_, rfl⟩
  rw [hS] at D DL HDT
  obtain ⟨i0, hinf, hz0, hz1, hz2'⟩ := info_parts Try.infoByte
  have HL := Lib.hid hz3
  clear hS hd hi h hz2 hz3
  go_enter Try.func10, Try.ntmps10
  go_wp2_with (first | (go_at_call 26; ((with_reducible refine R.out.mono ?_); rintro x' w' ⟨rfl, rfl⟩)) | (go_at_call 27; ((with_reducible refine D.out.mono ?_); rintro x' w1 ⟨⟨g, rfl, hown⟩, hb1⟩; have HOWN := Lib.hid hown; clear hown)))
  obtain ⟨B, hBe⟩ : ∃ B, B = w1.heap.size := ⟨_, rfl⟩
  have HBB := Lib.hid hBe
  have hwB : w.heap.size ≤ B := by have := hb1.size; omega
  have HB1 := Lib.hid hb1
  clear hBe hb1 R D
  go_loopw [7, 20] (fun v i wr => ∃ k : Nat, k ≤ l.length ∧ i = .int .i64 k ∧ Hid (wr.ownsRow B 5 1 v (2 * k) (((S.take k).flatMap (byts 16)).map (Value.int .u8))) ∧ Hid (wr.ownsRow w.heap.size 3 1 (.slice (some ⟨g, 0, none⟩) l.length l.length) l.length (S.map (Value.int .i64))) ∧ Hid (Below w.heap.size w wr) ∧ Hid (B ≤ wr.heap.size ∧ g < B)) (fun _ i _ => l.length - (intOf i).toNat)
  case atStart => exact ⟨0, by omega, rfl, ⟨rfl, .inl ⟨rfl, rfl⟩⟩, HOWN.out, HB1.out, by have := HBB.out; omega, by rw [HBB.out]; exact (World.ownsRow.lt HOWN.out g rfl).2⟩
  case round =>
    clear HOWN HB1 HBB
    obtain ⟨k, hk, rfl, HU, HS, hbw, HZ⟩ := hrel
    by_cases hlt : k < l.length
    · obtain ⟨y, hy⟩ : ∃ y, S.getD k 0 = y := ⟨_, rfl⟩
      have hc : wr.cell? ⟨g, k, none⟩ = some (.int .i64 y) := by
        have hk2 : k < S.length := by rw [DL.out]; exact hlt
        rw [HS.out.cellAt k (by omega), ← hy]
        simp [hk2, List.getD_eq_getElem?_getD]
      have HY := Lib.hid hy
      clear hy
      have HR1 := Lib.hid (row_stays HU.out (below_box wr (.cells #[.int .u8 (y % 256)] 5)))
      have HS1 := Lib.hid (row_stays HS.out (below_box wr (.cells #[.int .u8 (y % 256)] 5)))
      have HB1 := Lib.hid (stepB hbw.out (below_box wr (.cells #[.int .u8 (y % 256)] 5)))
      have hs1 : B ≤ (wr.alloc (.cells #[.int .u8 (y % 256)] 5)).heap.size := by have := HZ.out.1; simp; omega
      have HSN := Lib.hid (show (S.take (k + 1)).flatMap (byts 16) = (S.take k).flatMap (byts 16) ++ [y % 256] ++ [y / 256 % 256] by
        have hk2 : k < S.length := by rw [DL.out]; exact hlt
        rw [List.take_add_one, List.flatMap_append, ← HY.out]
        simp [hk2, List.getD_eq_getElem?_getD, byts])
      have hl4 := HL.out
      go_wp2_with (first | (at_builtin; refine wpList_append_own _ rfl (.tmp 24) (.tmp 27) 24 rfl B 5 i0 (.int .u8 0) 1 1 Try.underlying24 hinf hz0 hz1 hz2' rfl (by decide) u7 (2 * k) (((S.take k).flatMap (byts 16)).map (Value.int .u8)) rfl HR1.out ⟨wr.heap.size, 0, none⟩ 1 1 [.int .u8 (y % 256)] rfl rfl (one_new .u8 _ wr (y % 256)) (one_one .u8 (y % 256)) (by unfold maxLen; omega) (by omega) hs1 ?_; intro v' w2 hown' hgrow _; have hb2 := grown_base hgrow (fun g hg => (World.ownsRow.lt HR1.out g hg).1) hs1; clear hgrow; have HR2 := Lib.hid (row_stays (show w2.ownsRow B 5 1 v' (2 * k + 1) (((S.take k).flatMap (byts 16) ++ [y % 256]).map (Value.int .u8)) by simpa using hown') (below_box w2 (.cells #[.int .u8 (y / 256 % 256)] 5))); have HB2 := Lib.hid (stepB (HB1.out.trans (hb2.mono hwB)) (below_box w2 (.cells #[.int .u8 (y / 256 % 256)] 5))); have hs2 : B ≤ (w2.alloc (.cells #[.int .u8 (y / 256 % 256)] 5)).heap.size := Nat.le_trans hs1 (Nat.le_trans hb2.size (by simp)); have HS2 := Lib.hid (row_stays (row_base HS1.out hb2 HZ.out.2) (below_box w2 (.cells #[.int .u8 (y / 256 % 256)] 5))); clear hown' hb2) | (at_builtin; refine wpList_append_own _ rfl (.tmp 31) (.tmp 35) 24 rfl B 5 i0 (.int .u8 0) 1 1 Try.underlying24 hinf hz0 hz1 hz2' rfl (by decide) v' (2 * k + 1) (((S.take k).flatMap (byts 16) ++ [y % 256]).map (Value.int .u8)) rfl HR2.out ⟨w2.heap.size, 0, none⟩ 1 1 [.int .u8 (y / 256 % 256)] rfl rfl (one_new .u8 _ w2 (y / 256 % 256)) (one_one .u8 (y / 256 % 256)) (by unfold maxLen; omega) (by omega) hs2 ?_; intro v3 w3 hown3 hgrow3 _; have hb3 := grown_base hgrow3 (fun g hg => (World.ownsRow.lt HR2.out g hg).1) hs2; clear hgrow3; have HR3 := Lib.hid (show w3.ownsRow B 5 1 v3 (2 * (k + 1)) (((S.take (k + 1)).flatMap (byts 16)).map (Value.int .u8)) by rw [HSN.out, show 2 * (k + 1) = 2 * k + 1 + 1 by omega]; simpa using hown3); have HB3 := Lib.hid (HB2.out.trans (hb3.mono hwB)); have hs3 := hb3.size; have HS3 := Lib.hid (row_base HS2.out hb3 HZ.out.2); clear hown3))
      go_roundw
      case rel => exact ⟨k + 1, by omega, by go_num, HR3.out, HS3.out, HB3.out, Nat.le_trans hs2 hs3, HZ.out.2⟩
      case measure => simp [intOf]; omega
    · have HE := Lib.hid (show (S.take k).flatMap (byts 16) = dlt l 16 by
        rw [HDT.out, List.take_of_length_le (by rw [DL.out]; omega)])
      have HLN := Lib.hid (show (dlt l 16).length = 2 * k by
        rw [HDT.out, byts_16, DL.out]; omega)
      have HQ := Lib.hid (show wr.ownsRow w.heap.size 5 1 u7 (dlt l 16).length ((dlt l 16).map (Value.int .u8)) by
        rw [HLN.out, ← HE.out]
        exact row_lower HU.out hwB)
      go_wp2
      go_ret2
      exact ⟨⟨u7, rfl, HQ.out⟩, hbw.out⟩
/-- What Delta returns: bytes in memory of its own, or none, and the error. -/
theorem rdelta (l : List Int) (p : Option Addr) (cap : Nat) (b : Int) (w : World) (hd : DatAt w p l) (hi : ∀ x ∈ l, -9223372036854775808 ≤ x ∧ x ≤ 9223372036854775807) (hl : (l.length : Int) ≤ 1152921504606846976) :
    Calls Try.prog 10 #[.slice p l.length cap, .int .i64 b] w fun e w' => (∃ v, e = .returned (.tuple #[v, .int .i64 (whl l b)]) ∧ (whl l b ≠ 0 → v = .slice none 0 0) ∧ (whl l b = 0 → w'.ownsRow w.heap.size 5 1 v (dlt l b).length ((dlt l b).map (Value.int .u8)))) ∧ Below w.heap.size w w' := by
  by_cases h : whl l b = 0
  · rw [h]
    rcases (whl_zero h).1 with rfl | rfl
    · exact (rdelta_ok8 l p cap w hd hi hl h).mono fun e w' ⟨⟨v, h1, h2⟩, h3⟩ => ⟨⟨v, h1, fun h => absurd rfl h, fun _ => h2⟩, h3⟩
    · exact (rdelta_ok16 l p cap w hd hi hl h).mono fun e w' ⟨⟨v, h1, h2⟩, h3⟩ => ⟨⟨v, h1, fun h => absurd rfl h, fun _ => h2⟩, h3⟩
  · refine (rdelta_bad l p cap b w hd hi hl h).mono fun e w' h1 => ?_
    obtain ⟨h1, rfl⟩ := h1
    exact ⟨⟨_, h1, fun _ => rfl, fun h' => absurd h' h⟩, Below.refl _ _⟩
end Go.Proofs.Ytfljgdehbogimaa

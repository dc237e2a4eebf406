/-
  The contract of package pack's Undelta.
-/
import Derived.Test.YtfljgdehbogimaaPUnn
namespace Go.Proofs.Ytfljgdehbogimaa
open Go.RowKit

/-- The error that Undelta returns. -/
def udE (m : Nat) (b n : Int) : Int := if b = 8 ∨ b = 16 then ask m n else 1
/-- How many frames are there. -/
def udM (bs : List Int) (b : Int) (n : Nat) : Nat := min n (if b = 16 then bs.length / 2 else bs.length)
/-- The difference that stands at i. -/
def udD (bs : List Int) (b : Int) (i : Nat) : Int := if b = 16 then bs.getD (2 * i) 0 + bs.getD (2 * i + 1) 0 * 256 else bs.getD i 0
def udV (bs : List Int) (b : Int) (n : Nat) : List Int := (List.range (udM bs b n)).map (udD bs b)
theorem udV_length (bs : List Int) (b : Int) (n : Nat) : (udV bs b n).length = udM bs b n := by simp [udV]
theorem udV_at (bs : List Int) (b : Int) (n : Nat) {k : Nat} (hk : k < udM bs b n) : (udV bs b n).getD k 0 = udD bs b k := by simp [udV, List.getD_eq_getElem?_getD, hk]
/-- What Undelta reads. -/
def udx (bs : List Int) (b : Int) (n : Nat) : List Int := Pk.sums (hlf b) 0 (udV bs b n) ++ List.replicate (n - udM bs b n) 0
theorem udx_length (bs : List Int) (b : Int) (n : Nat) : (udx bs b n).length = n := by
  unfold udx
  rw [List.length_append, Pk.sums_length, udV_length, List.length_replicate]
  unfold udM; omega
theorem t_sum_b (b : Int) (h : b = 8 ∨ b = 16) (s : Nat) : Trans 61 #[.pointer (some ⟨s + 1, 0, none⟩), .pointer (some ⟨s, 0, none⟩)] s (s + 2) (Pk.sums (hlf b) 0) (SSum (s + 1) s b) :=
  t_sum (s + 1) s s (s + 2) b (by omega) (by omega) (by omega) (by omega) (by omega) (by omega) (by omega)
theorem p_Und_bits (pb : Option Addr) (m capb : Nat) (b n : Int) (w : World) (h : ¬ (b = 8 ∨ b = 16)) :
    Calls Try.prog 13 #[.slice pb m capb, .int .i64 b, .int .i64 n] w fun e w' => e = .returned (.tuple #[.slice none 0 0, .int .i64 0, .int .i64 1]) ∧ w = w' := by
  have C1 := Lib.hid (p_validBits_f b w h)
  clear h
  go_enter Try.func13, Try.ntmps13
  go_wp2_with (first | (go_at_call 33; ((with_reducible refine C1.out.mono ?_); rintro x' w' ⟨rfl, rfl⟩)))
  go_ret3
  exact ⟨rfl, rfl⟩
theorem p_Und_bad (pb : Option Addr) (m capb : Nat) (b n : Int) (w : World) (hb : b = 8 ∨ b = 16) (hl : (m : Int) ≤ 1152921504606846976) (h : ask m n ≠ 0) :
    Calls Try.prog 13 #[.slice pb m capb, .int .i64 b, .int .i64 n] w fun e w' => e = .returned (.tuple #[.slice none 0 0, .int .i64 0, .int .i64 (ask m n)]) ∧ w = w' := by
  have C1 := Lib.hid (p_validBits_t b w hb)
  have C2 := Lib.hid (p_askBytes pb m capb n w hl)
  obtain ⟨z, hz⟩ : ∃ z, ask m n = z := ⟨_, rfl⟩
  rw [hz] at C2 h ⊢
  have h2 : (z != 0) = true := by simpa using h
  clear h hz hl hb
  go_enter Try.func13, Try.ntmps13
  go_wp2_with (first | (go_at_call 33; ((with_reducible refine C1.out.mono ?_); rintro x' w' ⟨rfl, rfl⟩)) | (go_at_call 34; ((with_reducible refine C2.out.mono ?_); rintro x' w' ⟨rfl, rfl⟩)))
  go_ret3
  exact ⟨rfl, rfl⟩
set_option maxRecDepth 20000 in
set_option maxHeartbeats 4800000 in
theorem p_Und_ok8 (bs : List Int) (pb : Option Addr) (capb n : Nat) (w : World) (hd : BytAt w pb bs) (hdb : ∀ x ∈ bs, 0 ≤ x ∧ x < 256) (h : ask bs.length n = 0) :
    Calls Try.prog 13 #[.slice pb bs.length capb, .int .i64 8, .int .i64 n] w fun e w' => (∃ g, e = .returned (.tuple #[.slice (some ⟨g, 0, none⟩) n n, .int .i64 ((n - udM bs 8 n : Nat) : Int), .int .i64 0]) ∧ w'.ownsRow w.heap.size 3 1 (.slice (some ⟨g, 0, none⟩) n n) n ((udx bs 8 n).map (Value.int .i64))) ∧ Below w.heap.size w w' := by
  have hb4 : (bs.length : Int) ≤ 400000 ∧ (n : Int) ≤ 4096 := by
    unfold ask at h
    split at h
    · omega
    · split at h
      · omega
      · omega
  have C1 := Lib.hid (p_validBits_t 8 w (by omega))
  have C2 := Lib.hid (h ▸ p_askBytes pb bs.length capb n w (by omega))
  obtain ⟨i0, hinf, hz0, hz1, hz2⟩ := info_parts Try.infoInt
  have e1 := ent_sum
  have CS := Lib.hid (fun w1 => p_sums 8 w1 _ rfl)
  have hb1 := hb4.1
  have hb2 := hb4.2
  obtain ⟨lb, hlb⟩ : ∃ lb, bs.length = lb := ⟨_, rfl⟩
  have HLB := Lib.hid hlb
  rw [hlb] at C2 hb1
  rw [hlb]
  obtain ⟨W2, hW2⟩ : ∃ W2, lb = W2 := ⟨_, rfl⟩
  have hW3 : (lb : Int) = (W2 : Int) := by omega
  have hW4 : (lb : Int) = (W2 : Int) := by omega
  have hW5 : (W2 : Int) ≤ 400000 := by omega
  have HUM := Lib.hid (show udM bs 8 n = min n W2 by unfold udM; rw [if_neg (by omega), hlb, hW2])
  have HDB := Lib.hid hdb
  have HDL0 := Lib.hid ((Pk.sums_length (hlf 8) 0 (udV bs 8 n)).trans (udV_length bs 8 n))
  obtain ⟨D, hD⟩ : ∃ D, Pk.sums (hlf 8) 0 (udV bs 8 n) = D := ⟨_, rfl⟩
  have HDE := Lib.hid hD
  rw [hD] at HDL0
  clear hD hdb h hb4 hlb
  subst hW2
  clear hW3 hW4 hW5
  rcases Int.lt_trichotomy (n : Int) (lb : Int) with hc | hc | hc
  · have HUM := Lib.hid (show udM bs 8 n = n by rw [HUM.out]; omega)
    have HDL := Lib.hid (HDL0.out.trans HUM.out)
    go_enter Try.func13, Try.ntmps13
    go_wp2_with (first | (go_at_call 33; ((with_reducible refine C1.out.mono ?_); rintro x' w' ⟨rfl, rfl⟩)) | (go_at_call 34; ((with_reducible refine C2.out.mono ?_); rintro x' w' ⟨rfl, rfl⟩)) | (at_make; refine wpList_make_full _ rfl _ _ 22 rfl w.heap.size 3 i0 (.int .i64 0) 1 Try.underlying22 hinf hz0 hz1 .i64 .i64 _ _ n rfl rfl rfl rfl (by rw [hz2]; omega) (by unfold maxLen; omega) (by simp) ?_; intro w3 hown3 hgrow3; have HOWN := Lib.hid hown3; have HB3 := Lib.hid (grown_below hgrow3); clear hown3 hgrow3) | (go_at_call 35; ((with_reducible refine (CS.out _).mono ?_); rintro x' w4 ⟨rfl, hm4⟩; have HM4 := Lib.hid hm4; clear hm4)))
    have HOW : Hid (w3.ownsRow w.heap.size 3 1 (.slice (some ⟨w.heap.size, 0, none⟩) n n) n (frow (fun i => D.getD i 0) n 0)) := by
      have e : (madeCells (Value.int .i64 0).cells (n * 1)).toList = frow (fun i => D.getD i 0) n 0 := by rw [frow_zero, Nat.mul_one]; exact toList_madeCells_one _ n
      have := HOWN.out
      rw [e] at this
      exact Lib.hid this
    have HO4 := Lib.hid (row_stays HOW.out HM4.out.2.2.2)
    have HB4 := Lib.hid (HB3.out.trans (HM4.out.2.2.2.mono HB3.out.size))
    have HS4 := Lib.hid (dec1_start 8 w4 (w3.heap.size + 1) w3.heap.size HM4.out.2.1 HM4.out.1)
    have hgs0 := (World.ownsRow.lt HOW.out w.heap.size rfl).2
    obtain ⟨s, hs⟩ : ∃ s, w3.heap.size = s := ⟨_, rfl⟩
    rw [hs] at HS4 hgs0
    simp only [hs]
    obtain ⟨g, hge⟩ : ∃ g, g = w.heap.size := ⟨_, rfl⟩
    obtain ⟨B, hBe⟩ : ∃ B, B = w.heap.size := ⟨_, rfl⟩
    have HBE := Lib.hid hBe
    have hgs : g < s := by omega
    have hBs : B < s := by omega
    rw [← hBe] at HO4 HB4
    have hgB : B ≤ g := by omega
    have HD := Lib.hid (fun wr (hb : Below B w wr) => hd.below (hBe ▸ hb))
    have hb4s := HM4.out.2.2.1
    have hBw : B ≤ w3.heap.size := by omega
    rw [← hBe]
    rw [show (Value.slice (some ⟨B, 0, none⟩) n n) = Value.slice (some ⟨g, 0, none⟩) n n by rw [hge, hBe]] at HO4
    rw [show (⟨B, 0, none⟩ : Addr) = ⟨g, 0, none⟩ by rw [hge, hBe]]
    clear hge hBe hd HOWN HOW HB3 HM4 hs hgs0 hb4s hBw C1 C2 CS
    have HT := Lib.hid (t_sum_b 8 (by omega) s)
    go_loopw [37] (fun i wr => ∃ k : Nat, k ≤ n ∧ i = .int .i64 k ∧ Hid (SSum (s + 1) s 8 ((udV bs 8 n).take k) wr) ∧ Hid (wr.ownsRow B 3 1 (.slice (some ⟨g, 0, none⟩) n n) n (frow (fun i => D.getD i 0) n k)) ∧ Hid (Below B w wr)) (fun i _ => n - (intOf i).toNat)
    case atStart => exact ⟨0, by omega, rfl, HS4.out, HO4.out, HB4.out⟩
    case round =>
      clear HS4 HO4 HB4
      obtain ⟨k, hk, rfl, HS, HU, hbw⟩ := hrel
      by_cases hlt : k < n
      · have hv := udV_at bs 8 n (k := k) (by rw [HUM.out]; omega)
        have hkl : k < lb := by omega
        obtain ⟨bd, od, hp1, hc1⟩ := (HD.out wr hbw.out).at (i := k) (by rw [HLB.out]; exact hkl)
        have hkI : (k : Int) < (lb : Int) := by omega
        obtain ⟨y, hy⟩ : ∃ y, bs.getD k 0 = y := ⟨_, rfl⟩
        have y0 := getD_in (P := fun x => 0 ≤ x ∧ x < 256) HDB.out (show k < bs.length by rw [HLB.out]; exact hkl)
        have hud : udD bs 8 k = bs.getD k 0 := by unfold udD; rw [if_neg (by omega)]
        rw [hy] at hc1 y0 hud
        rw [hud] at hv
        have hlv : k < (udV bs 8 n).length := by rw [udV_length, HUM.out]; omega
        have hz := HT.out.at (udV bs 8 n) hlv
        rw [HDE.out, hv] at hz
        obtain ⟨z, hze⟩ : ∃ z, D.getD k 0 = z := ⟨_, rfl⟩
        rw [hze] at hz
        have HZ := Lib.hid hze
        have C := Lib.hid (show Calls Try.prog 61 #[.int .i64 y, .pointer (some ⟨s + 1, 0, none⟩), .pointer (some ⟨s, 0, none⟩)] wr fun e w' => e = .returned (.int .i64 z) ∧ SSum (s + 1) s 8 ((udV bs 8 n).take (k + 1)) w' ∧ Mid s (s + 2) wr w' by
          have := HT.out.calls ((udV bs 8 n).take k) (y) wr (by omega) (by omega) HS.out
          rw [hz, take_snoc hlv hv] at this
          exact this)
        have hkn : k < n := by omega
        clear hy hud hz hze hv hlv
        subst hp1
        go_wp2_with (first | (go_at_fn 61; ((with_reducible refine C.out.mono ?_); rintro x' w5 ⟨rfl, hs5, hm5⟩; have HS5 := Lib.hid hs5; have HB5 := Lib.hid (hbw.out.trans (hm5.belowB (by have := hbw.out.size; have := HBE.out; omega) (Nat.le_of_lt hBs))); have HU5 := Lib.hid (row_of HU.out (hm5.block g (World.ownsRow.lt HU.out g rfl).2 (.inl hgs))); have a0 := (HU5.out.cellAt k (by omega)).trans (frow_at (fun i => D.getD i 0) hkn); have a1 := HU5.out.frozenAt k; clear hs5 hm5)))
        go_roundw
        case rel => exact ⟨k + 1, by omega, by go_num, HT.out.stays _ _ _ HS5.out (out_set w5 _ (.inl hgs)), (congrArg _ (frow_set (fun i => D.getD i 0) hkn HZ.out.symm)).mp (HU5.out.stored k (.int .i64 z)).1, HB5.out.setCell hgB _⟩
        case measure => simp [intOf]; omega
      · have HE : Hid (wr.ownsRow B 3 1 (.slice (some ⟨g, 0, none⟩) n n) n ((udx bs 8 n).map (Value.int .i64))) := Lib.hid (by
          have := HU.out
          rw [show k = n by omega, frow_part HDL.out (by omega)] at this
          unfold udx
          rw [HDE.out, HUM.out]
          exact this)
        have hge : ¬ k < n := hlt
        go_wp2
        go_ret3
        have e := HBE.out
        subst e
        exact ⟨⟨_, ret_mid (by rw [HUM.out]; omega), HE.out⟩, hbw.out⟩
  · have hcc : lb = n := by omega
    subst hcc
    clear hc
    have HUM := Lib.hid (show udM bs 8 lb = lb by rw [HUM.out]; omega)
    have HDL := Lib.hid (HDL0.out.trans HUM.out)
    go_enter Try.func13, Try.ntmps13
    go_wp2_with (first | (go_at_call 33; ((with_reducible refine C1.out.mono ?_); rintro x' w' ⟨rfl, rfl⟩)) | (go_at_call 34; ((with_reducible refine C2.out.mono ?_); rintro x' w' ⟨rfl, rfl⟩)) | (at_make; refine wpList_make_full _ rfl _ _ 22 rfl w.heap.size 3 i0 (.int .i64 0) 1 Try.underlying22 hinf hz0 hz1 .i64 .i64 _ _ lb rfl rfl rfl rfl (by rw [hz2]; omega) (by unfold maxLen; omega) (by simp) ?_; intro w3 hown3 hgrow3; have HOWN := Lib.hid hown3; have HB3 := Lib.hid (grown_below hgrow3); clear hown3 hgrow3) | (go_at_call 35; ((with_reducible refine (CS.out _).mono ?_); rintro x' w4 ⟨rfl, hm4⟩; have HM4 := Lib.hid hm4; clear hm4)))
    have HOW : Hid (w3.ownsRow w.heap.size 3 1 (.slice (some ⟨w.heap.size, 0, none⟩) lb lb) lb (frow (fun i => D.getD i 0) lb 0)) := by
      have e : (madeCells (Value.int .i64 0).cells (lb * 1)).toList = frow (fun i => D.getD i 0) lb 0 := by rw [frow_zero, Nat.mul_one]; exact toList_madeCells_one _ lb
      have := HOWN.out
      rw [e] at this
      exact Lib.hid this
    have HO4 := Lib.hid (row_stays HOW.out HM4.out.2.2.2)
    have HB4 := Lib.hid (HB3.out.trans (HM4.out.2.2.2.mono HB3.out.size))
    have HS4 := Lib.hid (dec1_start 8 w4 (w3.heap.size + 1) w3.heap.size HM4.out.2.1 HM4.out.1)
    have hgs0 := (World.ownsRow.lt HOW.out w.heap.size rfl).2
    obtain ⟨s, hs⟩ : ∃ s, w3.heap.size = s := ⟨_, rfl⟩
    rw [hs] at HS4 hgs0
    simp only [hs]
    obtain ⟨g, hge⟩ : ∃ g, g = w.heap.size := ⟨_, rfl⟩
    obtain ⟨B, hBe⟩ : ∃ B, B = w.heap.size := ⟨_, rfl⟩
    have HBE := Lib.hid hBe
    have hgs : g < s := by omega
    have hBs : B < s := by omega
    rw [← hBe] at HO4 HB4
    have hgB : B ≤ g := by omega
    have HD := Lib.hid (fun wr (hb : Below B w wr) => hd.below (hBe ▸ hb))
    have hb4s := HM4.out.2.2.1
    have hBw : B ≤ w3.heap.size := by omega
    rw [← hBe]
    rw [show (Value.slice (some ⟨B, 0, none⟩) lb lb) = Value.slice (some ⟨g, 0, none⟩) lb lb by rw [hge, hBe]] at HO4
    rw [show (⟨B, 0, none⟩ : Addr) = ⟨g, 0, none⟩ by rw [hge, hBe]]
    clear hge hBe hd HOWN HOW HB3 HM4 hs hgs0 hb4s hBw C1 C2 CS
    have HT := Lib.hid (t_sum_b 8 (by omega) s)
    go_loopw [37] (fun i wr => ∃ k : Nat, k ≤ lb ∧ i = .int .i64 k ∧ Hid (SSum (s + 1) s 8 ((udV bs 8 lb).take k) wr) ∧ Hid (wr.ownsRow B 3 1 (.slice (some ⟨g, 0, none⟩) lb lb) lb (frow (fun i => D.getD i 0) lb k)) ∧ Hid (Below B w wr)) (fun i _ => lb - (intOf i).toNat)
    case atStart => exact ⟨0, by omega, rfl, HS4.out, HO4.out, HB4.out⟩
    case round =>
      clear HS4 HO4 HB4
      obtain ⟨k, hk, rfl, HS, HU, hbw⟩ := hrel
      by_cases hlt : k < lb
      · have hv := udV_at bs 8 lb (k := k) (by rw [HUM.out]; omega)
        have hkl : k < lb := by omega
        obtain ⟨bd, od, hp1, hc1⟩ := (HD.out wr hbw.out).at (i := k) (by rw [HLB.out]; exact hkl)
        have hkI : (k : Int) < (lb : Int) := by omega
        obtain ⟨y, hy⟩ : ∃ y, bs.getD k 0 = y := ⟨_, rfl⟩
        have y0 := getD_in (P := fun x => 0 ≤ x ∧ x < 256) HDB.out (show k < bs.length by rw [HLB.out]; exact hkl)
        have hud : udD bs 8 k = bs.getD k 0 := by unfold udD; rw [if_neg (by omega)]
        rw [hy] at hc1 y0 hud
        rw [hud] at hv
        have hlv : k < (udV bs 8 lb).length := by rw [udV_length, HUM.out]; omega
        have hz := HT.out.at (udV bs 8 lb) hlv
        rw [HDE.out, hv] at hz
        obtain ⟨z, hze⟩ : ∃ z, D.getD k 0 = z := ⟨_, rfl⟩
        rw [hze] at hz
        have HZ := Lib.hid hze
        have C := Lib.hid (show Calls Try.prog 61 #[.int .i64 y, .pointer (some ⟨s + 1, 0, none⟩), .pointer (some ⟨s, 0, none⟩)] wr fun e w' => e = .returned (.int .i64 z) ∧ SSum (s + 1) s 8 ((udV bs 8 lb).take (k + 1)) w' ∧ Mid s (s + 2) wr w' by
          have := HT.out.calls ((udV bs 8 lb).take k) (y) wr (by omega) (by omega) HS.out
          rw [hz, take_snoc hlv hv] at this
          exact this)
        have hkn : k < lb := by omega
        clear hy hud hz hze hv hlv
        subst hp1
        go_wp2_with (first | (go_at_fn 61; ((with_reducible refine C.out.mono ?_); rintro x' w5 ⟨rfl, hs5, hm5⟩; have HS5 := Lib.hid hs5; have HB5 := Lib.hid (hbw.out.trans (hm5.belowB (by have := hbw.out.size; have := HBE.out; omega) (Nat.le_of_lt hBs))); have HU5 := Lib.hid (row_of HU.out (hm5.block g (World.ownsRow.lt HU.out g rfl).2 (.inl hgs))); have a0 := (HU5.out.cellAt k (by omega)).trans (frow_at (fun i => D.getD i 0) hkn); have a1 := HU5.out.frozenAt k; clear hs5 hm5)))
        go_roundw
        case rel => exact ⟨k + 1, by omega, by go_num, HT.out.stays _ _ _ HS5.out (out_set w5 _ (.inl hgs)), (congrArg _ (frow_set (fun i => D.getD i 0) hkn HZ.out.symm)).mp (HU5.out.stored k (.int .i64 z)).1, HB5.out.setCell hgB _⟩
        case measure => simp [intOf]; omega
      · have HE : Hid (wr.ownsRow B 3 1 (.slice (some ⟨g, 0, none⟩) lb lb) lb ((udx bs 8 lb).map (Value.int .i64))) := Lib.hid (by
          have := HU.out
          rw [show k = lb by omega, frow_part HDL.out (by omega)] at this
          unfold udx
          rw [HDE.out, HUM.out]
          exact this)
        have hge : ¬ k < lb := hlt
        go_wp2
        go_ret3
        have e := HBE.out
        subst e
        exact ⟨⟨_, ret_mid (by rw [HUM.out]; omega), HE.out⟩, hbw.out⟩
  · have HUM := Lib.hid (show udM bs 8 n = lb by rw [HUM.out]; omega)
    have HDL := Lib.hid (HDL0.out.trans HUM.out)
    go_enter Try.func13, Try.ntmps13
    go_wp2_with (first | (go_at_call 33; ((with_reducible refine C1.out.mono ?_); rintro x' w' ⟨rfl, rfl⟩)) | (go_at_call 34; ((with_reducible refine C2.out.mono ?_); rintro x' w' ⟨rfl, rfl⟩)) | (at_make; refine wpList_make_full _ rfl _ _ 22 rfl w.heap.size 3 i0 (.int .i64 0) 1 Try.underlying22 hinf hz0 hz1 .i64 .i64 _ _ n rfl rfl rfl rfl (by rw [hz2]; omega) (by unfold maxLen; omega) (by simp) ?_; intro w3 hown3 hgrow3; have HOWN := Lib.hid hown3; have HB3 := Lib.hid (grown_below hgrow3); clear hown3 hgrow3) | (go_at_call 35; ((with_reducible refine (CS.out _).mono ?_); rintro x' w4 ⟨rfl, hm4⟩; have HM4 := Lib.hid hm4; clear hm4)))
    have HOW : Hid (w3.ownsRow w.heap.size 3 1 (.slice (some ⟨w.heap.size, 0, none⟩) n n) n (frow (fun i => D.getD i 0) n 0)) := by
      have e : (madeCells (Value.int .i64 0).cells (n * 1)).toList = frow (fun i => D.getD i 0) n 0 := by rw [frow_zero, Nat.mul_one]; exact toList_madeCells_one _ n
      have := HOWN.out
      rw [e] at this
      exact Lib.hid this
    have HO4 := Lib.hid (row_stays HOW.out HM4.out.2.2.2)
    have HB4 := Lib.hid (HB3.out.trans (HM4.out.2.2.2.mono HB3.out.size))
    have HS4 := Lib.hid (dec1_start 8 w4 (w3.heap.size + 1) w3.heap.size HM4.out.2.1 HM4.out.1)
    have hgs0 := (World.ownsRow.lt HOW.out w.heap.size rfl).2
    obtain ⟨s, hs⟩ : ∃ s, w3.heap.size = s := ⟨_, rfl⟩
    rw [hs] at HS4 hgs0
    simp only [hs]
    obtain ⟨g, hge⟩ : ∃ g, g = w.heap.size := ⟨_, rfl⟩
    obtain ⟨B, hBe⟩ : ∃ B, B = w.heap.size := ⟨_, rfl⟩
    have HBE := Lib.hid hBe
    have hgs : g < s := by omega
    have hBs : B < s := by omega
    rw [← hBe] at HO4 HB4
    have hgB : B ≤ g := by omega
    have HD := Lib.hid (fun wr (hb : Below B w wr) => hd.below (hBe ▸ hb))
    have hb4s := HM4.out.2.2.1
    have hBw : B ≤ w3.heap.size := by omega
    rw [← hBe]
    rw [show (Value.slice (some ⟨B, 0, none⟩) n n) = Value.slice (some ⟨g, 0, none⟩) n n by rw [hge, hBe]] at HO4
    rw [show (⟨B, 0, none⟩ : Addr) = ⟨g, 0, none⟩ by rw [hge, hBe]]
    clear hge hBe hd HOWN HOW HB3 HM4 hs hgs0 hb4s hBw C1 C2 CS
    have HT := Lib.hid (t_sum_b 8 (by omega) s)
    go_loopw [37] (fun i wr => ∃ k : Nat, k ≤ lb ∧ i = .int .i64 k ∧ Hid (SSum (s + 1) s 8 ((udV bs 8 n).take k) wr) ∧ Hid (wr.ownsRow B 3 1 (.slice (some ⟨g, 0, none⟩) n n) n (frow (fun i => D.getD i 0) n k)) ∧ Hid (Below B w wr)) (fun i _ => lb - (intOf i).toNat)
    case atStart => exact ⟨0, by omega, rfl, HS4.out, HO4.out, HB4.out⟩
    case round =>
      clear HS4 HO4 HB4
      obtain ⟨k, hk, rfl, HS, HU, hbw⟩ := hrel
      by_cases hlt : k < lb
      · have hv := udV_at bs 8 n (k := k) (by rw [HUM.out]; omega)
        have hkl : k < lb := by omega
        obtain ⟨bd, od, hp1, hc1⟩ := (HD.out wr hbw.out).at (i := k) (by rw [HLB.out]; exact hkl)
        have hkI : (k : Int) < (lb : Int) := by omega
        obtain ⟨y, hy⟩ : ∃ y, bs.getD k 0 = y := ⟨_, rfl⟩
        have y0 := getD_in (P := fun x => 0 ≤ x ∧ x < 256) HDB.out (show k < bs.length by rw [HLB.out]; exact hkl)
        have hud : udD bs 8 k = bs.getD k 0 := by unfold udD; rw [if_neg (by omega)]
        rw [hy] at hc1 y0 hud
        rw [hud] at hv
        have hlv : k < (udV bs 8 n).length := by rw [udV_length, HUM.out]; omega
        have hz := HT.out.at (udV bs 8 n) hlv
        rw [HDE.out, hv] at hz
        obtain ⟨z, hze⟩ : ∃ z, D.getD k 0 = z := ⟨_, rfl⟩
        rw [hze] at hz
        have HZ := Lib.hid hze
        have C := Lib.hid (show Calls Try.prog 61 #[.int .i64 y, .pointer (some ⟨s + 1, 0, none⟩), .pointer (some ⟨s, 0, none⟩)] wr fun e w' => e = .returned (.int .i64 z) ∧ SSum (s + 1) s 8 ((udV bs 8 n).take (k + 1)) w' ∧ Mid s (s + 2) wr w' by
          have := HT.out.calls ((udV bs 8 n).take k) (y) wr (by omega) (by omega) HS.out
          rw [hz, take_snoc hlv hv] at this
          exact this)
        have hkn : k < n := by omega
        clear hy hud hz hze hv hlv
        subst hp1
        go_wp2_with (first | (go_at_fn 61; ((with_reducible refine C.out.mono ?_); rintro x' w5 ⟨rfl, hs5, hm5⟩; have HS5 := Lib.hid hs5; have HB5 := Lib.hid (hbw.out.trans (hm5.belowB (by have := hbw.out.size; have := HBE.out; omega) (Nat.le_of_lt hBs))); have HU5 := Lib.hid (row_of HU.out (hm5.block g (World.ownsRow.lt HU.out g rfl).2 (.inl hgs))); have a0 := (HU5.out.cellAt k (by omega)).trans (frow_at (fun i => D.getD i 0) hkn); have a1 := HU5.out.frozenAt k; clear hs5 hm5)))
        go_roundw
        case rel => exact ⟨k + 1, by omega, by go_num, HT.out.stays _ _ _ HS5.out (out_set w5 _ (.inl hgs)), (congrArg _ (frow_set (fun i => D.getD i 0) hkn HZ.out.symm)).mp (HU5.out.stored k (.int .i64 z)).1, HB5.out.setCell hgB _⟩
        case measure => simp [intOf]; omega
      · have HE : Hid (wr.ownsRow B 3 1 (.slice (some ⟨g, 0, none⟩) n n) n ((udx bs 8 n).map (Value.int .i64))) := Lib.hid (by
          have := HU.out
          rw [show k = lb by omega, frow_part HDL.out (by omega)] at this
          unfold udx
          rw [HDE.out, HUM.out]
          exact this)
        have hge : ¬ k < lb := hlt
        go_wp2
        go_ret3
        have e := HBE.out
        subst e
        exact ⟨⟨_, ret_mid (by rw [HUM.out]; omega), HE.out⟩, hbw.out⟩
set_option maxRecDepth 20000 in
set_option maxHeartbeats 4800000 in
theorem p_Und_ok16 (bs : List Int) (pb : Option Addr) (capb n : Nat) (w : World) (hd : BytAt w pb bs) (hdb : ∀ x ∈ bs, 0 ≤ x ∧ x < 256) (h : ask bs.length n = 0) :
    Calls Try.prog 13 #[.slice pb bs.length capb, .int .i64 16, .int .i64 n] w fun e w' => (∃ g, e = .returned (.tuple #[.slice (some ⟨g, 0, none⟩) n n, .int .i64 ((n - udM bs 16 n : Nat) : Int), .int .i64 0]) ∧ w'.ownsRow w.heap.size 3 1 (.slice (some ⟨g, 0, none⟩) n n) n ((udx bs 16 n).map (Value.int .i64))) ∧ Below w.heap.size w w' := by
  have hb4 : (bs.length : Int) ≤ 400000 ∧ (n : Int) ≤ 4096 := by
    unfold ask at h
    split at h
    · omega
    · split at h
      · omega
      · omega
  have C1 := Lib.hid (p_validBits_t 16 w (by omega))
  have C2 := Lib.hid (h ▸ p_askBytes pb bs.length capb n w (by omega))
  obtain ⟨i0, hinf, hz0, hz1, hz2⟩ := info_parts Try.infoInt
  have e1 := ent_sum
  have CS := Lib.hid (fun w1 => p_sums 16 w1 _ rfl)
  have hb1 := hb4.1
  have hb2 := hb4.2
  obtain ⟨lb, hlb⟩ : ∃ lb, bs.length = lb := ⟨_, rfl⟩
  have HLB := Lib.hid hlb
  rw [hlb] at C2 hb1
  rw [hlb]
  obtain ⟨W2, hW2⟩ : ∃ W2, lb / 2 = W2 := ⟨_, rfl⟩
  have hW3 : (lb : Int).tdiv 2 = (W2 : Int) := by rw [Int.tdiv_eq_ediv_of_nonneg (by omega)]; omega
  have hW4 : (lb : Int) / 2 = (W2 : Int) := by omega
  have hW5 : (W2 : Int) ≤ 400000 := by omega
  have HUM := Lib.hid (show udM bs 16 n = min n W2 by unfold udM; rw [if_pos rfl, hlb, hW2])
  have HDB := Lib.hid hdb
  have HDL0 := Lib.hid ((Pk.sums_length (hlf 16) 0 (udV bs 16 n)).trans (udV_length bs 16 n))
  obtain ⟨D, hD⟩ : ∃ D, Pk.sums (hlf 16) 0 (udV bs 16 n) = D := ⟨_, rfl⟩
  have HDE := Lib.hid hD
  rw [hD] at HDL0
  clear hD hdb h hb4 hlb
  have HW2 := Lib.hid hW2
  clear hW2
  rcases Int.lt_trichotomy (n : Int) (W2 : Int) with hc | hc | hc
  · have HUM := Lib.hid (show udM bs 16 n = n by rw [HUM.out]; omega)
    have HDL := Lib.hid (HDL0.out.trans HUM.out)
    go_enter Try.func13, Try.ntmps13
    go_wp2_with (first | (go_at_call 33; ((with_reducible refine C1.out.mono ?_); rintro x' w' ⟨rfl, rfl⟩)) | (go_at_call 34; ((with_reducible refine C2.out.mono ?_); rintro x' w' ⟨rfl, rfl⟩)) | (at_make; refine wpList_make_full _ rfl _ _ 22 rfl w.heap.size 3 i0 (.int .i64 0) 1 Try.underlying22 hinf hz0 hz1 .i64 .i64 _ _ n rfl rfl rfl rfl (by rw [hz2]; omega) (by unfold maxLen; omega) (by simp) ?_; intro w3 hown3 hgrow3; have HOWN := Lib.hid hown3; have HB3 := Lib.hid (grown_below hgrow3); clear hown3 hgrow3) | (go_at_call 35; ((with_reducible refine (CS.out _).mono ?_); rintro x' w4 ⟨rfl, hm4⟩; have HM4 := Lib.hid hm4; clear hm4)))
    have HOW : Hid (w3.ownsRow w.heap.size 3 1 (.slice (some ⟨w.heap.size, 0, none⟩) n n) n (frow (fun i => D.getD i 0) n 0)) := by
      have e : (madeCells (Value.int .i64 0).cells (n * 1)).toList = frow (fun i => D.getD i 0) n 0 := by rw [frow_zero, Nat.mul_one]; exact toList_madeCells_one _ n
      have := HOWN.out
      rw [e] at this
      exact Lib.hid this
    have HO4 := Lib.hid (row_stays HOW.out HM4.out.2.2.2)
    have HB4 := Lib.hid (HB3.out.trans (HM4.out.2.2.2.mono HB3.out.size))
    have HS4 := Lib.hid (dec1_start 16 w4 (w3.heap.size + 1) w3.heap.size HM4.out.2.1 HM4.out.1)
    have hgs0 := (World.ownsRow.lt HOW.out w.heap.size rfl).2
    obtain ⟨s, hs⟩ : ∃ s, w3.heap.size = s := ⟨_, rfl⟩
    rw [hs] at HS4 hgs0
    simp only [hs]
    obtain ⟨g, hge⟩ : ∃ g, g = w.heap.size := ⟨_, rfl⟩
    obtain ⟨B, hBe⟩ : ∃ B, B = w.heap.size := ⟨_, rfl⟩
    have HBE := Lib.hid hBe
    have hgs : g < s := by omega
    have hBs : B < s := by omega
    rw [← hBe] at HO4 HB4
    have hgB : B ≤ g := by omega
    have HD := Lib.hid (fun wr (hb : Below B w wr) => hd.below (hBe ▸ hb))
    have hb4s := HM4.out.2.2.1
    have hBw : B ≤ w3.heap.size := by omega
    rw [← hBe]
    rw [show (Value.slice (some ⟨B, 0, none⟩) n n) = Value.slice (some ⟨g, 0, none⟩) n n by rw [hge, hBe]] at HO4
    rw [show (⟨B, 0, none⟩ : Addr) = ⟨g, 0, none⟩ by rw [hge, hBe]]
    clear hge hBe hd HOWN HOW HB3 HM4 hs hgs0 hb4s hBw C1 C2 CS
    have HT := Lib.hid (t_sum_b 16 (by omega) s)
    go_loopw [37] (fun i wr => ∃ k : Nat, k ≤ n ∧ i = .int .i64 k ∧ Hid (SSum (s + 1) s 16 ((udV bs 16 n).take k) wr) ∧ Hid (wr.ownsRow B 3 1 (.slice (some ⟨g, 0, none⟩) n n) n (frow (fun i => D.getD i 0) n k)) ∧ Hid (Below B w wr)) (fun i _ => n - (intOf i).toNat)
    case atStart => exact ⟨0, by omega, rfl, HS4.out, HO4.out, HB4.out⟩
    case round =>
      clear HS4 HO4 HB4
      obtain ⟨k, hk, rfl, HS, HU, hbw⟩ := hrel
      by_cases hlt : k < n
      · have hv := udV_at bs 16 n (k := k) (by rw [HUM.out]; omega)
        have hkl : 2 * k + 1 < lb := by have := HW2.out; omega
        obtain ⟨bd, od, hp1, hc1⟩ := (HD.out wr hbw.out).at (i := 2 * k) (by rw [HLB.out]; omega)
        obtain ⟨bd2, od2, hp2, hc2⟩ := (HD.out wr hbw.out).at (i := 2 * k + 1) (by rw [HLB.out]; omega)
        have hpp := hp1.symm.trans hp2
        simp only [Option.some.injEq, Addr.mk.injEq] at hpp
        obtain ⟨rfl, rfl, _⟩ := hpp
        clear hp2
        obtain ⟨m, hm⟩ : ∃ m, 2 * k = m := ⟨_, rfl⟩
        have hkI : (m : Int) + 1 < (lb : Int) := by omega
        have hkm : (k : Int) * 2 = (m : Int) := by omega
        obtain ⟨y, hy⟩ : ∃ y, bs.getD (2 * k) 0 = y := ⟨_, rfl⟩
        obtain ⟨y2, hy2⟩ : ∃ y, bs.getD (2 * k + 1) 0 = y := ⟨_, rfl⟩
        have y0 := getD_in (P := fun x => 0 ≤ x ∧ x < 256) HDB.out (show 2 * k < bs.length by rw [HLB.out]; omega)
        have y1 := getD_in (P := fun x => 0 ≤ x ∧ x < 256) HDB.out (show 2 * k + 1 < bs.length by rw [HLB.out]; omega)
        have hud : udD bs 16 k = bs.getD (2 * k) 0 + bs.getD (2 * k + 1) 0 * 256 := by unfold udD; rw [if_pos rfl]
        rw [hy] at hc1 y0 hud
        rw [hy2] at hc2 y1 hud
        rw [hud] at hv
        rw [hm] at hc1 hc2
        have hlv : k < (udV bs 16 n).length := by rw [udV_length, HUM.out]; omega
        have hz := HT.out.at (udV bs 16 n) hlv
        rw [HDE.out, hv] at hz
        obtain ⟨z, hze⟩ : ∃ z, D.getD k 0 = z := ⟨_, rfl⟩
        rw [hze] at hz
        have HZ := Lib.hid hze
        have C := Lib.hid (show Calls Try.prog 61 #[.int .i64 (y + y2 * 256), .pointer (some ⟨s + 1, 0, none⟩), .pointer (some ⟨s, 0, none⟩)] wr fun e w' => e = .returned (.int .i64 z) ∧ SSum (s + 1) s 16 ((udV bs 16 n).take (k + 1)) w' ∧ Mid s (s + 2) wr w' by
          have := HT.out.calls ((udV bs 16 n).take k) ((y + y2 * 256)) wr (by omega) (by omega) HS.out
          rw [hz, take_snoc hlv hv] at this
          exact this)
        have hkn : k < n := by omega
        clear hy hy2 hud hm hz hze hv hlv
        subst hp1
        go_wp2_with (first | (go_at_fn 61; ((with_reducible refine C.out.mono ?_); rintro x' w5 ⟨rfl, hs5, hm5⟩; have HS5 := Lib.hid hs5; have HB5 := Lib.hid (hbw.out.trans (hm5.belowB (by have := hbw.out.size; have := HBE.out; omega) (Nat.le_of_lt hBs))); have HU5 := Lib.hid (row_of HU.out (hm5.block g (World.ownsRow.lt HU.out g rfl).2 (.inl hgs))); have a0 := (HU5.out.cellAt k (by omega)).trans (frow_at (fun i => D.getD i 0) hkn); have a1 := HU5.out.frozenAt k; clear hs5 hm5)))
        go_roundw
        case rel => exact ⟨k + 1, by omega, by go_num, HT.out.stays _ _ _ HS5.out (out_set w5 _ (.inl hgs)), (congrArg _ (frow_set (fun i => D.getD i 0) hkn HZ.out.symm)).mp (HU5.out.stored k (.int .i64 z)).1, HB5.out.setCell hgB _⟩
        case measure => simp [intOf]; omega
      · have HE : Hid (wr.ownsRow B 3 1 (.slice (some ⟨g, 0, none⟩) n n) n ((udx bs 16 n).map (Value.int .i64))) := Lib.hid (by
          have := HU.out
          rw [show k = n by omega, frow_part HDL.out (by omega)] at this
          unfold udx
          rw [HDE.out, HUM.out]
          exact this)
        have hge : ¬ k < n := hlt
        go_wp2
        go_ret3
        have e := HBE.out
        subst e
        exact ⟨⟨_, ret_mid (by rw [HUM.out]; omega), HE.out⟩, hbw.out⟩
  · have hcc : W2 = n := by omega
    subst hcc
    clear hc
    have HUM := Lib.hid (show udM bs 16 W2 = W2 by rw [HUM.out]; omega)
    have HDL := Lib.hid (HDL0.out.trans HUM.out)
    go_enter Try.func13, Try.ntmps13
    go_wp2_with (first | (go_at_call 33; ((with_reducible refine C1.out.mono ?_); rintro x' w' ⟨rfl, rfl⟩)) | (go_at_call 34; ((with_reducible refine C2.out.mono ?_); rintro x' w' ⟨rfl, rfl⟩)) | (at_make; refine wpList_make_full _ rfl _ _ 22 rfl w.heap.size 3 i0 (.int .i64 0) 1 Try.underlying22 hinf hz0 hz1 .i64 .i64 _ _ W2 rfl rfl rfl rfl (by rw [hz2]; omega) (by unfold maxLen; omega) (by simp) ?_; intro w3 hown3 hgrow3; have HOWN := Lib.hid hown3; have HB3 := Lib.hid (grown_below hgrow3); clear hown3 hgrow3) | (go_at_call 35; ((with_reducible refine (CS.out _).mono ?_); rintro x' w4 ⟨rfl, hm4⟩; have HM4 := Lib.hid hm4; clear hm4)))
    have HOW : Hid (w3.ownsRow w.heap.size 3 1 (.slice (some ⟨w.heap.size, 0, none⟩) W2 W2) W2 (frow (fun i => D.getD i 0) W2 0)) := by
      have e : (madeCells (Value.int .i64 0).cells (W2 * 1)).toList = frow (fun i => D.getD i 0) W2 0 := by rw [frow_zero, Nat.mul_one]; exact toList_madeCells_one _ W2
      have := HOWN.out
      rw [e] at this
      exact Lib.hid this
    have HO4 := Lib.hid (row_stays HOW.out HM4.out.2.2.2)
    have HB4 := Lib.hid (HB3.out.trans (HM4.out.2.2.2.mono HB3.out.size))
    have HS4 := Lib.hid (dec1_start 16 w4 (w3.heap.size + 1) w3.heap.size HM4.out.2.1 HM4.out.1)
    have hgs0 := (World.ownsRow.lt HOW.out w.heap.size rfl).2
    obtain ⟨s, hs⟩ : ∃ s, w3.heap.size = s := ⟨_, rfl⟩
    rw [hs] at HS4 hgs0
    simp only [hs]
    obtain ⟨g, hge⟩ : ∃ g, g = w.heap.size := ⟨_, rfl⟩
    obtain ⟨B, hBe⟩ : ∃ B, B = w.heap.size := ⟨_, rfl⟩
    have HBE := Lib.hid hBe
    have hgs : g < s := by omega
    have hBs : B < s := by omega
    rw [← hBe] at HO4 HB4
    have hgB : B ≤ g := by omega
    have HD := Lib.hid (fun wr (hb : Below B w wr) => hd.below (hBe ▸ hb))
    have hb4s := HM4.out.2.2.1
    have hBw : B ≤ w3.heap.size := by omega
    rw [← hBe]
    rw [show (Value.slice (some ⟨B, 0, none⟩) W2 W2) = Value.slice (some ⟨g, 0, none⟩) W2 W2 by rw [hge, hBe]] at HO4
    rw [show (⟨B, 0, none⟩ : Addr) = ⟨g, 0, none⟩ by rw [hge, hBe]]
    clear hge hBe hd HOWN HOW HB3 HM4 hs hgs0 hb4s hBw C1 C2 CS
    have HT := Lib.hid (t_sum_b 16 (by omega) s)
    go_loopw [37] (fun i wr => ∃ k : Nat, k ≤ W2 ∧ i = .int .i64 k ∧ Hid (SSum (s + 1) s 16 ((udV bs 16 W2).take k) wr) ∧ Hid (wr.ownsRow B 3 1 (.slice (some ⟨g, 0, none⟩) W2 W2) W2 (frow (fun i => D.getD i 0) W2 k)) ∧ Hid (Below B w wr)) (fun i _ => W2 - (intOf i).toNat)
    case atStart => exact ⟨0, by omega, rfl, HS4.out, HO4.out, HB4.out⟩
    case round =>
      clear HS4 HO4 HB4
      obtain ⟨k, hk, rfl, HS, HU, hbw⟩ := hrel
      by_cases hlt : k < W2
      · have hv := udV_at bs 16 W2 (k := k) (by rw [HUM.out]; omega)
        have hkl : 2 * k + 1 < lb := by have := HW2.out; omega
        obtain ⟨bd, od, hp1, hc1⟩ := (HD.out wr hbw.out).at (i := 2 * k) (by rw [HLB.out]; omega)
        obtain ⟨bd2, od2, hp2, hc2⟩ := (HD.out wr hbw.out).at (i := 2 * k + 1) (by rw [HLB.out]; omega)
        have hpp := hp1.symm.trans hp2
        simp only [Option.some.injEq, Addr.mk.injEq] at hpp
        obtain ⟨rfl, rfl, _⟩ := hpp
        clear hp2
        obtain ⟨m, hm⟩ : ∃ m, 2 * k = m := ⟨_, rfl⟩
        have hkI : (m : Int) + 1 < (lb : Int) := by omega
        have hkm : (k : Int) * 2 = (m : Int) := by omega
        obtain ⟨y, hy⟩ : ∃ y, bs.getD (2 * k) 0 = y := ⟨_, rfl⟩
        obtain ⟨y2, hy2⟩ : ∃ y, bs.getD (2 * k + 1) 0 = y := ⟨_, rfl⟩
        have y0 := getD_in (P := fun x => 0 ≤ x ∧ x < 256) HDB.out (show 2 * k < bs.length by rw [HLB.out]; omega)
        have y1 := getD_in (P := fun x => 0 ≤ x ∧ x < 256) HDB.out (show 2 * k + 1 < bs.length by rw [HLB.out]; omega)
        have hud : udD bs 16 k = bs.getD (2 * k) 0 + bs.getD (2 * k + 1) 0 * 256 := by unfold udD; rw [if_pos rfl]
        rw [hy] at hc1 y0 hud
        rw [hy2] at hc2 y1 hud
        rw [hud] at hv
        rw [hm] at hc1 hc2
        have hlv : k < (udV bs 16 W2).length := by rw [udV_length, HUM.out]; omega
        have hz := HT.out.at (udV bs 16 W2) hlv
        rw [HDE.out, hv] at hz
        obtain ⟨z, hze⟩ : ∃ z, D.getD k 0 = z := ⟨_, rfl⟩
        rw [hze] at hz
        have HZ := Lib.hid hze
        have C := Lib.hid (show Calls Try.prog 61 #[.int .i64 (y + y2 * 256), .pointer (some ⟨s + 1, 0, none⟩), .pointer (some ⟨s, 0, none⟩)] wr fun e w' => e = .returned (.int .i64 z) ∧ SSum (s + 1) s 16 ((udV bs 16 W2).take (k + 1)) w' ∧ Mid s (s + 2) wr w' by
          have := HT.out.calls ((udV bs 16 W2).take k) ((y + y2 * 256)) wr (by omega) (by omega) HS.out
          rw [hz, take_snoc hlv hv] at this
          exact this)
        have hkn : k < W2 := by omega
        clear hy hy2 hud hm hz hze hv hlv
        subst hp1
        go_wp2_with (first | (go_at_fn 61; ((with_reducible refine C.out.mono ?_); rintro x' w5 ⟨rfl, hs5, hm5⟩; have HS5 := Lib.hid hs5; have HB5 := Lib.hid (hbw.out.trans (hm5.belowB (by have := hbw.out.size; have := HBE.out; omega) (Nat.le_of_lt hBs))); have HU5 := Lib.hid (row_of HU.out (hm5.block g (World.ownsRow.lt HU.out g rfl).2 (.inl hgs))); have a0 := (HU5.out.cellAt k (by omega)).trans (frow_at (fun i => D.getD i 0) hkn); have a1 := HU5.out.frozenAt k; clear hs5 hm5)))
        go_roundw
        case rel => exact ⟨k + 1, by omega, by go_num, HT.out.stays _ _ _ HS5.out (out_set w5 _ (.inl hgs)), (congrArg _ (frow_set (fun i => D.getD i 0) hkn HZ.out.symm)).mp (HU5.out.stored k (.int .i64 z)).1, HB5.out.setCell hgB _⟩
        case measure => simp [intOf]; omega
      · have HE : Hid (wr.ownsRow B 3 1 (.slice (some ⟨g, 0, none⟩) W2 W2) W2 ((udx bs 16 W2).map (Value.int .i64))) := Lib.hid (by
          have := HU.out
          rw [show k = W2 by omega, frow_part HDL.out (by omega)] at this
          unfold udx
          rw [HDE.out, HUM.out]
          exact this)
        have hge : ¬ k < W2 := hlt
        go_wp2
        go_ret3
        have e := HBE.out
        subst e
        exact ⟨⟨_, ret_mid (by rw [HUM.out]; omega), HE.out⟩, hbw.out⟩
  · have HUM := Lib.hid (show udM bs 16 n = W2 by rw [HUM.out]; omega)
    have HDL := Lib.hid (HDL0.out.trans HUM.out)
    go_enter Try.func13, Try.ntmps13
    go_wp2_with (first | (go_at_call 33; ((with_reducible refine C1.out.mono ?_); rintro x' w' ⟨rfl, rfl⟩)) | (go_at_call 34; ((with_reducible refine C2.out.mono ?_); rintro x' w' ⟨rfl, rfl⟩)) | (at_make; refine wpList_make_full _ rfl _ _ 22 rfl w.heap.size 3 i0 (.int .i64 0) 1 Try.underlying22 hinf hz0 hz1 .i64 .i64 _ _ n rfl rfl rfl rfl (by rw [hz2]; omega) (by unfold maxLen; omega) (by simp) ?_; intro w3 hown3 hgrow3; have HOWN := Lib.hid hown3; have HB3 := Lib.hid (grown_below hgrow3); clear hown3 hgrow3) | (go_at_call 35; ((with_reducible refine (CS.out _).mono ?_); rintro x' w4 ⟨rfl, hm4⟩; have HM4 := Lib.hid hm4; clear hm4)))
    have HOW : Hid (w3.ownsRow w.heap.size 3 1 (.slice (some ⟨w.heap.size, 0, none⟩) n n) n (frow (fun i => D.getD i 0) n 0)) := by
      have e : (madeCells (Value.int .i64 0).cells (n * 1)).toList = frow (fun i => D.getD i 0) n 0 := by rw [frow_zero, Nat.mul_one]; exact toList_madeCells_one _ n
      have := HOWN.out
      rw [e] at this
      exact Lib.hid this
    have HO4 := Lib.hid (row_stays HOW.out HM4.out.2.2.2)
    have HB4 := Lib.hid (HB3.out.trans (HM4.out.2.2.2.mono HB3.out.size))
    have HS4 := Lib.hid (dec1_start 16 w4 (w3.heap.size + 1) w3.heap.size HM4.out.2.1 HM4.out.1)
    have hgs0 := (World.ownsRow.lt HOW.out w.heap.size rfl).2
    obtain ⟨s, hs⟩ : ∃ s, w3.heap.size = s := ⟨_, rfl⟩
    rw [hs] at HS4 hgs0
    simp only [hs]
    obtain ⟨g, hge⟩ : ∃ g, g = w.heap.size := ⟨_, rfl⟩
    obtain ⟨B, hBe⟩ : ∃ B, B = w.heap.size := ⟨_, rfl⟩
    have HBE := Lib.hid hBe
    have hgs : g < s := by omega
    have hBs : B < s := by omega
    rw [← hBe] at HO4 HB4
    have hgB : B ≤ g := by omega
    have HD := Lib.hid (fun wr (hb : Below B w wr) => hd.below (hBe ▸ hb))
    have hb4s := HM4.out.2.2.1
    have hBw : B ≤ w3.heap.size := by omega
    rw [← hBe]
    rw [show (Value.slice (some ⟨B, 0, none⟩) n n) = Value.slice (some ⟨g, 0, none⟩) n n by rw [hge, hBe]] at HO4
    rw [show (⟨B, 0, none⟩ : Addr) = ⟨g, 0, none⟩ by rw [hge, hBe]]
    clear hge hBe hd HOWN HOW HB3 HM4 hs hgs0 hb4s hBw C1 C2 CS
    have HT := Lib.hid (t_sum_b 16 (by omega) s)
    go_loopw [37] (fun i wr => ∃ k : Nat, k ≤ W2 ∧ i = .int .i64 k ∧ Hid (SSum (s + 1) s 16 ((udV bs 16 n).take k) wr) ∧ Hid (wr.ownsRow B 3 1 (.slice (some ⟨g, 0, none⟩) n n) n (frow (fun i => D.getD i 0) n k)) ∧ Hid (Below B w wr)) (fun i _ => W2 - (intOf i).toNat)
    case atStart => exact ⟨0, by omega, rfl, HS4.out, HO4.out, HB4.out⟩
    case round =>
      clear HS4 HO4 HB4
      obtain ⟨k, hk, rfl, HS, HU, hbw⟩ := hrel
      by_cases hlt : k < W2
      · have hv := udV_at bs 16 n (k := k) (by rw [HUM.out]; omega)
        have hkl : 2 * k + 1 < lb := by have := HW2.out; omega
        obtain ⟨bd, od, hp1, hc1⟩ := (HD.out wr hbw.out).at (i := 2 * k) (by rw [HLB.out]; omega)
        obtain ⟨bd2, od2, hp2, hc2⟩ := (HD.out wr hbw.out).at (i := 2 * k + 1) (by rw [HLB.out]; omega)
        have hpp := hp1.symm.trans hp2
        simp only [Option.some.injEq, Addr.mk.injEq] at hpp
        obtain ⟨rfl, rfl, _⟩ := hpp
        clear hp2
        obtain ⟨m, hm⟩ : ∃ m, 2 * k = m := ⟨_, rfl⟩
        have hkI : (m : Int) + 1 < (lb : Int) := by omega
        have hkm : (k : Int) * 2 = (m : Int) := by omega
        obtain ⟨y, hy⟩ : ∃ y, bs.getD (2 * k) 0 = y := ⟨_, rfl⟩
        obtain ⟨y2, hy2⟩ : ∃ y, bs.getD (2 * k + 1) 0 = y := ⟨_, rfl⟩
        have y0 := getD_in (P := fun x => 0 ≤ x ∧ x < 256) HDB.out (show 2 * k < bs.length by rw [HLB.out]; omega)
        have y1 := getD_in (P := fun x => 0 ≤ x ∧ x < 256) HDB.out (show 2 * k + 1 < bs.length by rw [HLB.out]; omega)
        have hud : udD bs 16 k = bs.getD (2 * k) 0 + bs.getD (2 * k + 1) 0 * 256 := by unfold udD; rw [if_pos rfl]
        rw [hy] at hc1 y0 hud
        rw [hy2] at hc2 y1 hud
        rw [hud] at hv
        rw [hm] at hc1 hc2
        have hlv : k < (udV bs 16 n).length := by rw [udV_length, HUM.out]; omega
        have hz := HT.out.at (udV bs 16 n) hlv
        rw [HDE.out, hv] at hz
        obtain ⟨z, hze⟩ : ∃ z, D.getD k 0 = z := ⟨_, rfl⟩
        rw [hze] at hz
        have HZ := Lib.hid hze
        have C := Lib.hid (show Calls Try.prog 61 #[.int .i64 (y + y2 * 256), .pointer (some ⟨s + 1, 0, none⟩), .pointer (some ⟨s, 0, none⟩)] wr fun e w' => e = .returned (.int .i64 z) ∧ SSum (s + 1) s 16 ((udV bs 16 n).take (k + 1)) w' ∧ Mid s (s + 2) wr w' by
          have := HT.out.calls ((udV bs 16 n).take k) ((y + y2 * 256)) wr (by omega) (by omega) HS.out
          rw [hz, take_snoc hlv hv] at this
          exact this)
        have hkn : k < n := by omega
        clear hy hy2 hud hm hz hze hv hlv
        subst hp1
        go_wp2_with (first | (go_at_fn 61; ((with_reducible refine C.out.mono ?_); rintro x' w5 ⟨rfl, hs5, hm5⟩; have HS5 := Lib.hid hs5; have HB5 := Lib.hid (hbw.out.trans (hm5.belowB (by have := hbw.out.size; have := HBE.out; omega) (Nat.le_of_lt hBs))); have HU5 := Lib.hid (row_of HU.out (hm5.block g (World.ownsRow.lt HU.out g rfl).2 (.inl hgs))); have a0 := (HU5.out.cellAt k (by omega)).trans (frow_at (fun i => D.getD i 0) hkn); have a1 := HU5.out.frozenAt k; clear hs5 hm5)))
        go_roundw
        case rel => exact ⟨k + 1, by omega, by go_num, HT.out.stays _ _ _ HS5.out (out_set w5 _ (.inl hgs)), (congrArg _ (frow_set (fun i => D.getD i 0) hkn HZ.out.symm)).mp (HU5.out.stored k (.int .i64 z)).1, HB5.out.setCell hgB _⟩
        case measure => simp [intOf]; omega
      · have HE : Hid (wr.ownsRow B 3 1 (.slice (some ⟨g, 0, none⟩) n n) n ((udx bs 16 n).map (Value.int .i64))) := Lib.hid (by
          have := HU.out
          rw [show k = W2 by omega, frow_part HDL.out (by omega)] at this
          unfold udx
          rw [HDE.out, HUM.out]
          exact this)
        have hge : ¬ k < W2 := hlt
        go_wp2
        go_ret3
        have e := HBE.out
        subst e
        exact ⟨⟨_, ret_mid (by rw [HUM.out]; omega), HE.out⟩, hbw.out⟩
/-- What Undelta returns. -/
theorem p_Undelta (bs : List Int) (pb : Option Addr) (capb : Nat) (b n : Int) (w : World) (hd : BytAt w pb bs) (hdb : ∀ x ∈ bs, 0 ≤ x ∧ x < 256) (hl : (bs.length : Int) ≤ 1152921504606846976) :
    Calls Try.prog 13 #[.slice pb bs.length capb, .int .i64 b, .int .i64 n] w fun e w' => (∃ u m, e = .returned (.tuple #[u, .int .i64 m, .int .i64 (udE bs.length b n)]) ∧ (udE bs.length b n ≠ 0 → u = .slice none 0 0 ∧ m = 0) ∧ (udE bs.length b n = 0 → (∃ g, u = .slice (some ⟨g, 0, none⟩) n.toNat n.toNat) ∧ m = ((n.toNat - udM bs b n.toNat : Nat) : Int) ∧ w'.ownsRow w.heap.size 3 1 u n.toNat ((udx bs b n.toNat).map (Value.int .i64)))) ∧ Below w.heap.size w w' := by
  by_cases hb : b = 8 ∨ b = 16
  · have e : udE bs.length b n = ask bs.length n := if_pos hb
    rw [e]
    by_cases h : ask bs.length n = 0
    · have hn : 0 ≤ n := by
        unfold ask at h
        split at h
        · omega
        · split at h <;> omega
      obtain ⟨N, rfl⟩ : ∃ N : Nat, n = N := ⟨n.toNat, by omega⟩
      rw [h, Int.toNat_natCast]
      rcases hb with rfl | rfl
      · exact (p_Und_ok8 bs pb capb N w hd hdb h).mono fun e w' ⟨⟨g, h1, h2⟩, h3⟩ => ⟨⟨_, _, h1, fun h => absurd rfl h, fun _ => ⟨⟨g, rfl⟩, rfl, h2⟩⟩, h3⟩
      · exact (p_Und_ok16 bs pb capb N w hd hdb h).mono fun e w' ⟨⟨g, h1, h2⟩, h3⟩ => ⟨⟨_, _, h1, fun h => absurd rfl h, fun _ => ⟨⟨g, rfl⟩, rfl, h2⟩⟩, h3⟩
    · exact (p_Und_bad pb bs.length capb b n w hb hl h).mono fun e w' ⟨h1, h3⟩ => ⟨⟨_, _, h1, fun _ => ⟨rfl, rfl⟩, fun h' => absurd h' h⟩, h3 ▸ Below.refl _ _⟩
  · have e : udE bs.length b n = 1 := if_neg hb
    rw [e]
    exact (p_Und_bits pb bs.length capb b n w hb).mono fun e w' ⟨h1, h3⟩ => ⟨⟨_, _, h1, fun _ => ⟨rfl, rfl⟩, fun h' => absurd h' (by decide)⟩, h3 ▸ Below.refl _ _⟩
end Go.Proofs.Ytfljgdehbogimaa

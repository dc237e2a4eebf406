/-
  The contracts of package pack's Nibbles (all ways) and Unnibbles.
-/
import Derived.Test.YtfljgdehbogimaaPNib
import Derived.Test.YtfljgdehbogimaaPBlocksW
namespace Go.Proofs.Ytfljgdehbogimaa
open Go.RowKit

/-- The error that Nibbles returns. -/
def nibE (l t : List Int) : Int := if tbl t = true then whl l 8 else 1
theorem p_Nibbles_tbl (l t : List Int) (p pt : Option Addr) (cap capt : Nat) (w : World) (hdt : DatAt w pt t) (hlt : (t.length : Int) ≤ 1152921504606846976) (ht : tbl t = false) :
    Calls Try.prog 20 #[.slice p l.length cap, .slice pt t.length capt] w fun e w' => e = .returned (.tuple #[.slice none 0 0, .int .i64 1]) ∧ w = w' := by
  have C1 := Lib.hid (ht ▸ p_validTable t pt capt w hdt hlt)
  clear ht hdt hlt
  go_enter Try.func20, Try.ntmps20
  go_wp2_with (first | (go_at_call 49; ((with_reducible refine C1.out.mono ?_); rintro x' w' ⟨rfl, rfl⟩)))
  go_ret2
  exact ⟨rfl, rfl⟩
theorem p_Nibbles_bad (l t : List Int) (p pt : Option Addr) (cap capt : Nat) (w : World) (hd : DatAt w p l) (hdt : DatAt w pt t) (hl : (l.length : Int) ≤ 1152921504606846976) (hlt : (t.length : Int) ≤ 1152921504606846976) (ht : tbl t = true) (h : whl l 8 ≠ 0) :
    Calls Try.prog 20 #[.slice p l.length cap, .slice pt t.length capt] w fun e w' => e = .returned (.tuple #[.slice none 0 0, .int .i64 (whl l 8)]) ∧ w = w' := by
  have C1 := Lib.hid (ht ▸ p_validTable t pt capt w hdt hlt)
  have C2 := Lib.hid (p_askData l p cap 8 w hd hl)
  obtain ⟨z, hz⟩ : ∃ z, whl l 8 = z := ⟨_, rfl⟩
  rw [hz] at C2 h ⊢
  have h2 : (z != 0) = true := by simpa using h
  clear hz hd h ht hdt hl hlt
  go_enter Try.func20, Try.ntmps20
  go_wp2_with (first | (go_at_call 49; ((with_reducible refine C1.out.mono ?_); rintro x' w' ⟨rfl, rfl⟩)) | (go_at_call 24; ((with_reducible refine C2.out.mono ?_); rintro x' w' ⟨rfl, rfl⟩)))
  go_ret2
  exact ⟨rfl, rfl⟩
/-- What Nibbles returns. -/
theorem p_Nibbles (l t : List Int) (p pt : Option Addr) (cap capt : Nat) (w : World) (hd : DatAt w p l) (hdt : DatAt w pt t) (hl : (l.length : Int) ≤ 1152921504606846976) (hlt : (t.length : Int) ≤ 1152921504606846976) :
    Calls Try.prog 20 #[.slice p l.length cap, .slice pt t.length capt] w fun e w' => (∃ u, e = .returned (.tuple #[u, .int .i64 (nibE l t)]) ∧ (nibE l t ≠ 0 → u = .slice none 0 0) ∧ (nibE l t = 0 → w'.ownsRow w.heap.size 5 1 u (Pk.nby (Pk.nib t 0 l) l.length).length ((Pk.nby (Pk.nib t 0 l) l.length).map (Value.int .u8)))) ∧ Below w.heap.size w w' := by
  cases ht : tbl t with
  | true =>
    have e : nibE l t = whl l 8 := by unfold nibE; rw [if_pos ht]
    rw [e]
    by_cases h : whl l 8 = 0
    · rw [h]
      exact (p_Nibbles_ok l t p pt cap capt w hd hdt hl hlt ht h).mono fun e w' ⟨⟨u, h1, h2⟩, h3⟩ => ⟨⟨u, h1, fun h => absurd rfl h, fun _ => h2⟩, h3⟩
    · exact (p_Nibbles_bad l t p pt cap capt w hd hdt hl hlt ht h).mono fun e w' ⟨h1, h3⟩ => ⟨⟨_, h1, fun _ => rfl, fun h' => absurd h' h⟩, h3 ▸ Below.refl _ _⟩
  | false =>
    have e : nibE l t = 1 := by unfold nibE; rw [if_neg (by simp [ht])]
    rw [e]
    exact (p_Nibbles_tbl l t p pt cap capt w hdt hlt ht).mono fun e w' ⟨h1, h3⟩ => ⟨⟨_, h1, fun _ => rfl, fun h' => absurd h' (by decide)⟩, h3 ▸ Below.refl _ _⟩
theorem byte_and15 {z : Int} (h0 : 0 ≤ z) (h1 : z < 256) : bits .and .u8 z 15 = z % 16 := by
  show IntKind.u8.wrap ((BitVec.ofInt 8 z &&& BitVec.ofInt 8 15).toNat : Int) = _
  rw [BitVec.toNat_and, BitVec.toNat_ofInt, BitVec.toNat_ofInt]
  have e2 : ((15 : Int) % ((2 ^ 8 : Nat) : Int)).toNat = 2 ^ 4 - 1 := by decide
  rw [e2, Nat.and_two_pow_sub_one_eq_mod]
  have e3 : (z % ((2 ^ 8 : Nat) : Int)).toNat = z.toNat := by
    rw [Int.emod_eq_of_lt h0 (by simpa using h1)]
  rw [e3]
  simp [IntKind.wrap, IntKind.signed, IntKind.bits]
  omega
theorem ret_mid {v u : Value} {a b : Int} (h : a = b) : Ending.returned (.tuple #[v, .int .i64 a, u]) = .returned (.tuple #[v, .int .i64 b, u]) := by rw [h]
/-- How many frames are there. -/
def unM (b : List Int) (n : Nat) : Nat := min n (2 * b.length)
/-- The values that the indices choose. -/
def unV (t b : List Int) (n : Nat) : List Int := (List.range (unM b n)).map fun i => t.getD (Pk.nat_ b i).toNat 0
theorem unV_length (t b : List Int) (n : Nat) : (unV t b n).length = unM b n := by simp [unV]
theorem unV_at (t b : List Int) (n : Nat) {k : Nat} (hk : k < unM b n) : (unV t b n).getD k 0 = t.getD (Pk.nat_ b k).toNat 0 := by simp [unV, List.getD_eq_getElem?_getD, hk]
/-- What Unnibbles reads. -/
def unx (t b : List Int) (n : Nat) : List Int := Pk.sums 128 0 (unV t b n) ++ List.replicate (n - unM b n) 0
theorem unx_length (t b : List Int) (n : Nat) : (unx t b n).length = n := by
  unfold unx
  rw [List.length_append, Pk.sums_length, unV_length, List.length_replicate]
  unfold unM; omega
theorem frow_part {D : List Int} {n m : Nat} (hD : D.length = m) (hm : m ≤ n) : frow (fun i => D.getD i 0) n m = (D ++ List.replicate (n - m) 0).map (Value.int .i64) := by
  apply List.ext_getElem
  · simp [frow, hD]; omega
  · intro i h1 h2
    have hi : i < n := by simpa [frow] using h1
    by_cases h : i < m
    · simp [frow, h, hD, List.getD_eq_getElem?_getD]
    · simp [frow, h, List.getElem_append, hD]
theorem t_sum8 (c d lo hi : Nat) (hcd : c ≠ d) (c1 : lo ≤ c) (c2 : c < hi) (d1 : lo ≤ d) (d2 : d < hi) : Trans 61 #[.pointer (some ⟨c, 0, none⟩), .pointer (some ⟨d, 0, none⟩)] lo hi (Pk.sums 128 0) (SSum c d 8) := by
  have := t_sum c d lo hi 8 hcd c1 c2 d1 d2 (by omega) (by omega)
  rwa [show hlf 8 = 128 by decide] at this
set_option maxRecDepth 20000 in
set_option maxHeartbeats 4800000 in
theorem p_Unn_ok (b t : List Int) (pb pt : Option Addr) (capb capt n : Nat) (w : World) (hd : BytAt w pb b) (hdb : ∀ x ∈ b, 0 ≤ x ∧ x < 256) (hdt : DatAt w pt t) (hlt : (t.length : Int) ≤ 1152921504606846976) (ht : tbl t = true) (h : ask b.length n = 0) :
    Calls Try.prog 22 #[.slice pb b.length capb, .slice pt t.length capt, .int .i64 n] w fun e w' => (∃ g, e = .returned (.tuple #[.slice (some ⟨g, 0, none⟩) n n, .int .i64 ((n - unM b n : Nat) : Int), .int .i64 0]) ∧ w'.ownsRow w.heap.size 3 1 (.slice (some ⟨g, 0, none⟩) n n) n ((unx t b n).map (Value.int .i64))) ∧ Below w.heap.size w w' := by
  have hb4 : (b.length : Int) ≤ 400000 ∧ (n : Int) ≤ 4096 := by
    unfold ask at h
    split at h
    · omega
    · split at h
      · omega
      · omega
  have C1 := Lib.hid (ht ▸ p_validTable t pt capt w hdt hlt)
  have C2 := Lib.hid (h ▸ p_askBytes pb b.length capb n w (by omega))
  obtain ⟨i0, hinf, hz0, hz1, hz2⟩ := info_parts Try.infoInt
  have e1 := ent_sum
  have CS := Lib.hid (fun w1 => p_sums 8 w1 _ rfl)
  have hb1 := hb4.1
  have hb2 := hb4.2
  obtain ⟨lb, hlb⟩ : ∃ lb, b.length = lb := ⟨_, rfl⟩
  have HLB := Lib.hid hlb
  rw [hlb] at C2 hb1
  rw [hlb]
  obtain ⟨W2, hW2⟩ : ∃ W2, 2 * lb = W2 := ⟨_, rfl⟩
  have hW3 : 2 * (lb : Int) = (W2 : Int) := by omega
  have hW4 : (lb : Int) * 2 = (W2 : Int) := by omega
  have hW5 : (W2 : Int) ≤ 800000 := by omega
  have HUM := Lib.hid (show unM b n = min n W2 by unfold unM; rw [hlb, hW2])
  clear h hb4 hlb hW2
  have hvt := tbl_of ht
  have ht16 := hvt.1
  have HT16 := Lib.hid ht16
  rw [ht16] at C1
  rw [ht16]
  have HTI := Lib.hid hvt.2
  have HDB := Lib.hid hdb
  have HDL0 := Lib.hid ((Pk.sums_length 128 0 (unV t b n)).trans (unV_length t b n))
  obtain ⟨D, hD⟩ : ∃ D, Pk.sums 128 0 (unV t b n) = D := ⟨_, rfl⟩
  have HDE := Lib.hid hD
  rw [hD] at HDL0
  clear hD ht hdb hvt ht16
  rcases Int.lt_trichotomy (n : Int) (W2 : Int) with hc | hc | hc
  · have HUM := Lib.hid (show unM b n = n by rw [HUM.out]; omega)
    have HDL := Lib.hid (HDL0.out.trans HUM.out)
    go_enter Try.func22, Try.ntmps22
    go_wp2_with (first | (go_at_call 49; ((with_reducible refine C1.out.mono ?_); rintro x' w' ⟨rfl, rfl⟩)) | (go_at_call 34; ((with_reducible refine C2.out.mono ?_); rintro x' w' ⟨rfl, rfl⟩)) | (at_make; refine wpList_make_full _ rfl _ _ 22 rfl w.heap.size 3 i0 (.int .i64 0) 1 Try.underlying22 hinf hz0 hz1 .i64 .i64 _ _ n rfl rfl rfl rfl (by rw [hz2]; omega) (by unfold maxLen; omega) (by simp) ?_; intro w3 hown3 hgrow3; have HOWN := Lib.hid hown3; have HB3 := Lib.hid (grown_below hgrow3); clear hown3 hgrow3) | (go_at_call 35; ((with_reducible refine (CS.out _).mono ?_); rintro x' w4 ⟨rfl, hm4⟩; have HM4 := Lib.hid hm4; clear hm4)))
    have HOW : Hid (w3.ownsRow w.heap.size 3 1 (.slice (some ⟨w.heap.size, 0, none⟩) n n) n (frow (fun i => D.getD i 0) n 0)) := by
      have e : (madeCells (Value.int .i64 0).cells (n * 1)).toList = frow (fun i => D.getD i 0) n 0 := by rw [frow_zero, Nat.mul_one]; exact toList_madeCells_one _ n
      have := HOWN.out
      rw [e] at this
      exact Lib.hid this
    have HO4 := Lib.hid (row_stays HOW.out HM4.out.2.2.2)
    have HB4 := Lib.hid (HB3.out.trans (HM4.out.2.2.2.mono HB3.out.size))
    have HS4 := Lib.hid (dec1_start 8 w4 (w3.heap.size + 1) w3.heap.size HM4.out.2.1 HM4.out.1)
    have hgs0 := (World.ownsRow.lt HOW.out w.heap.size rfl).2
    obtain ⟨s, hs⟩ : ∃ s, w3.heap.size = s := ⟨_, rfl⟩
    rw [hs] at HS4 hgs0
    simp only [hs]
    obtain ⟨g, hge⟩ : ∃ g, g = w.heap.size := ⟨_, rfl⟩
    obtain ⟨B, hBe⟩ : ∃ B, B = w.heap.size := ⟨_, rfl⟩
    have HBE := Lib.hid hBe
    have hgs : g < s := by omega
    have hBs : B < s := by omega
    rw [← hBe] at HO4 HB4
    have hgB : B ≤ g := by omega
    have HD := Lib.hid (fun wr (hb : Below B w wr) => hd.below (hBe ▸ hb))
    have HDT := Lib.hid (fun wr (hb : Below B w wr) => hdt.below (hBe ▸ hb))
    have hb4s := HM4.out.2.2.1
    have hBw : B ≤ w3.heap.size := by omega
    rw [← hBe]
    rw [show (Value.slice (some ⟨B, 0, none⟩) n n) = Value.slice (some ⟨g, 0, none⟩) n n by rw [hge, hBe]] at HO4
    rw [show (⟨B, 0, none⟩ : Addr) = ⟨g, 0, none⟩ by rw [hge, hBe]]
    clear hge hBe hd hdt HOWN HOW HB3 HM4 hs hgs0 hb4s hBw C1 C2 CS
    have HT := Lib.hid (t_sum8 (s + 1) s s (s + 2) (by omega) (by omega) (by omega) (by omega) (by omega))
    go_loopw [32] (fun i wr => ∃ k : Nat, k ≤ n ∧ i = .int .i64 k ∧ Hid (SSum (s + 1) s 8 ((unV t b n).take k) wr) ∧ Hid (wr.ownsRow B 3 1 (.slice (some ⟨g, 0, none⟩) n n) n (frow (fun i => D.getD i 0) n k)) ∧ Hid (Below B w wr)) (fun i _ => n - (intOf i).toNat)
    case atStart => exact ⟨0, by omega, rfl, HS4.out, HO4.out, HB4.out⟩
    case round =>
      clear HS4 HO4 HB4
      obtain ⟨k, hk, rfl, HS, HU, hbw⟩ := hrel
      by_cases hlt : k < n
      · have hkl : k / 2 < lb := by omega
        have hkI : ((k / 2 : Nat) : Int) < (lb : Int) := by omega
        obtain ⟨bd, od, hp1, hc1⟩ := (HD.out wr hbw.out).at (i := k / 2) (by rw [HLB.out]; exact hkl)
        obtain ⟨y, hy⟩ : ∃ y, b.getD (k / 2) 0 = y := ⟨_, rfl⟩
        have y0 := getD_in (P := fun x => 0 ≤ x ∧ x < 256) HDB.out (show k / 2 < b.length by rw [HLB.out]; exact hkl)
        have hv := unV_at t b n (k := k) (by rw [HUM.out]; omega)
        have hjn : 0 ≤ Pk.nat_ b k ∧ Pk.nat_ b k < 16 := by unfold Pk.nat_; omega
        have hnat : Pk.nat_ b k = y / 2 ^ (k % 2 * 4) % 16 := by unfold Pk.nat_; rw [hy]
        rw [hy] at hc1 y0
        obtain ⟨j, hj⟩ : ∃ j : Nat, Pk.nat_ b k = (j : Int) := ⟨(Pk.nat_ b k).toNat, by omega⟩
        rw [hj] at hjn hv hnat
        rw [Int.toNat_natCast] at hv
        obtain ⟨bt, ot, hp2, hc2⟩ := (HDT.out wr hbw.out).at (i := j) (by rw [HT16.out]; omega)
        have t0 := getD_in (P := fun x => -128 ≤ x ∧ x ≤ 127) HTI.out (show j < t.length by rw [HT16.out]; omega)
        obtain ⟨x, hx⟩ : ∃ x, t.getD j 0 = x := ⟨_, rfl⟩
        rw [hx] at hc2 t0 hv
        have hlv : k < (unV t b n).length := by rw [unV_length, HUM.out]; omega
        have hz := HT.out.at (unV t b n) hlv
        rw [HDE.out, hv] at hz
        obtain ⟨z, hze⟩ : ∃ z, D.getD k 0 = z := ⟨_, rfl⟩
        rw [hze] at hz
        have HZ := Lib.hid hze
        have C := Lib.hid (show Calls Try.prog 61 #[.int .i64 x, .pointer (some ⟨s + 1, 0, none⟩), .pointer (some ⟨s, 0, none⟩)] wr fun e w' => e = .returned (.int .i64 z) ∧ SSum (s + 1) s 8 ((unV t b n).take (k + 1)) w' ∧ Mid s (s + 2) wr w' by
          have := HT.out.calls ((unV t b n).take k) x wr (by omega) (by omega) HS.out
          rw [hz, take_snoc hlv hv] at this
          exact this)
        have hkn : k < n := by omega
        obtain ⟨m, hm⟩ : ∃ m, k / 2 = m := ⟨_, rfl⟩
        rw [hm] at hc1 hkI
        have hd1 : (k : Int) / 2 = (m : Int) := by omega
        have hd2 : (k : Int).tdiv 2 = (m : Int) := by rw [Int.tdiv_eq_ediv_of_nonneg (by omega)]; omega
        clear hy hj hx hz hze hv hlv hm hkl
        subst hp1 hp2
        rcases Nat.mod_two_eq_zero_or_one k with hpar | hpar
        · rw [hpar] at hnat
          have hr1 : (k : Int) % 2 = 0 := by omega
          have hr2 : (k : Int).tmod 2 = 0 := by rw [Int.tmod_eq_emod_of_nonneg (by omega)]; omega
          have hA : bits .and .u8 y 15 = (j : Int) := by rw [byte_and15 y0.1 y0.2, hnat, Nat.zero_mul, Int.pow_zero, Int.ediv_one]
          clear hnat hpar
          go_wp2_with (first | (go_at_fn 61; ((with_reducible refine C.out.mono ?_); rintro x' w5 ⟨rfl, hs5, hm5⟩; have HS5 := Lib.hid hs5; have HB5 := Lib.hid (hbw.out.trans (hm5.belowB (by have := hbw.out.size; have := HBE.out; omega) (Nat.le_of_lt hBs))); have HU5 := Lib.hid (row_of HU.out (hm5.block g (World.ownsRow.lt HU.out g rfl).2 (.inl hgs))); have a0 := (HU5.out.cellAt k (by omega)).trans (frow_at (fun i => D.getD i 0) hkn); have a1 := HU5.out.frozenAt k; clear hs5 hm5)))
          go_roundw
          case rel => exact ⟨k + 1, by omega, by go_num, HT.out.stays _ _ _ HS5.out (out_set w5 _ (.inl hgs)), (congrArg _ (frow_set (fun i => D.getD i 0) hkn HZ.out.symm)).mp (HU5.out.stored k (.int .i64 z)).1, HB5.out.setCell hgB _⟩
          case measure => simp [intOf]; omega
        · rw [hpar] at hnat
          have hr1 : (k : Int) % 2 = 1 := by omega
          have hr2 : (k : Int).tmod 2 = 1 := by rw [Int.tmod_eq_emod_of_nonneg (by omega)]; omega
          have hA : bits .and .u8 (y / 16) 15 = (j : Int) := by rw [byte_and15 (by omega) (by omega), hnat]; rfl
          clear hnat hpar
          go_wp2_with (first | (go_at_fn 61; ((with_reducible refine C.out.mono ?_); rintro x' w5 ⟨rfl, hs5, hm5⟩; have HS5 := Lib.hid hs5; have HB5 := Lib.hid (hbw.out.trans (hm5.belowB (by have := hbw.out.size; have := HBE.out; omega) (Nat.le_of_lt hBs))); have HU5 := Lib.hid (row_of HU.out (hm5.block g (World.ownsRow.lt HU.out g rfl).2 (.inl hgs))); have a0 := (HU5.out.cellAt k (by omega)).trans (frow_at (fun i => D.getD i 0) hkn); have a1 := HU5.out.frozenAt k; clear hs5 hm5)))
          go_roundw
          case rel => exact ⟨k + 1, by omega, by go_num, HT.out.stays _ _ _ HS5.out (out_set w5 _ (.inl hgs)), (congrArg _ (frow_set (fun i => D.getD i 0) hkn HZ.out.symm)).mp (HU5.out.stored k (.int .i64 z)).1, HB5.out.setCell hgB _⟩
          case measure => simp [intOf]; omega
      · have HE : Hid (wr.ownsRow B 3 1 (.slice (some ⟨g, 0, none⟩) n n) n ((unx t b n).map (Value.int .i64))) := Lib.hid (by
          have := HU.out
          rw [show k = n by omega, frow_part HDL.out (by omega)] at this
          unfold unx
          rw [HDE.out, HUM.out]
          exact this)
        have hge : ¬ k < n := hlt
        go_wp2
        go_ret3
        have e := HBE.out
        subst e
        exact ⟨⟨_, ret_mid (by rw [HUM.out]; omega), HE.out⟩, hbw.out⟩
  · have hcc : W2 = n := by omega
    subst hcc
    clear hc
    have HUM := Lib.hid (show unM b W2 = W2 by rw [HUM.out]; omega)
    have HDL := Lib.hid (HDL0.out.trans HUM.out)
    go_enter Try.func22, Try.ntmps22
    go_wp2_with (first | (go_at_call 49; ((with_reducible refine C1.out.mono ?_); rintro x' w' ⟨rfl, rfl⟩)) | (go_at_call 34; ((with_reducible refine C2.out.mono ?_); rintro x' w' ⟨rfl, rfl⟩)) | (at_make; refine wpList_make_full _ rfl _ _ 22 rfl w.heap.size 3 i0 (.int .i64 0) 1 Try.underlying22 hinf hz0 hz1 .i64 .i64 _ _ W2 rfl rfl rfl rfl (by rw [hz2]; omega) (by unfold maxLen; omega) (by simp) ?_; intro w3 hown3 hgrow3; have HOWN := Lib.hid hown3; have HB3 := Lib.hid (grown_below hgrow3); clear hown3 hgrow3) | (go_at_call 35; ((with_reducible refine (CS.out _).mono ?_); rintro x' w4 ⟨rfl, hm4⟩; have HM4 := Lib.hid hm4; clear hm4)))
    have HOW : Hid (w3.ownsRow w.heap.size 3 1 (.slice (some ⟨w.heap.size, 0, none⟩) W2 W2) W2 (frow (fun i => D.getD i 0) W2 0)) := by
      have e : (madeCells (Value.int .i64 0).cells (W2 * 1)).toList = frow (fun i => D.getD i 0) W2 0 := by rw [frow_zero, Nat.mul_one]; exact toList_madeCells_one _ W2
      have := HOWN.out
      rw [e] at this
      exact Lib.hid this
    have HO4 := Lib.hid (row_stays HOW.out HM4.out.2.2.2)
    have HB4 := Lib.hid (HB3.out.trans (HM4.out.2.2.2.mono HB3.out.size))
    have HS4 := Lib.hid (dec1_start 8 w4 (w3.heap.size + 1) w3.heap.size HM4.out.2.1 HM4.out.1)
    have hgs0 := (World.ownsRow.lt HOW.out w.heap.size rfl).2
    obtain ⟨s, hs⟩ : ∃ s, w3.heap.size = s := ⟨_, rfl⟩
    rw [hs] at HS4 hgs0
    simp only [hs]
    obtain ⟨g, hge⟩ : ∃ g, g = w.heap.size := ⟨_, rfl⟩
    obtain ⟨B, hBe⟩ : ∃ B, B = w.heap.size := ⟨_, rfl⟩
    have HBE := Lib.hid hBe
    have hgs : g < s := by omega
    have hBs : B < s := by omega
    rw [← hBe] at HO4 HB4
    have hgB : B ≤ g := by omega
    have HD := Lib.hid (fun wr (hb : Below B w wr) => hd.below (hBe ▸ hb))
    have HDT := Lib.hid (fun wr (hb : Below B w wr) => hdt.below (hBe ▸ hb))
    have hb4s := HM4.out.2.2.1
    have hBw : B ≤ w3.heap.size := by omega
    rw [← hBe]
    rw [show (Value.slice (some ⟨B, 0, none⟩) W2 W2) = Value.slice (some ⟨g, 0, none⟩) W2 W2 by rw [hge, hBe]] at HO4
    rw [show (⟨B, 0, none⟩ : Addr) = ⟨g, 0, none⟩ by rw [hge, hBe]]
    clear hge hBe hd hdt HOWN HOW HB3 HM4 hs hgs0 hb4s hBw C1 C2 CS
    have HT := Lib.hid (t_sum8 (s + 1) s s (s + 2) (by omega) (by omega) (by omega) (by omega) (by omega))
    go_loopw [32] (fun i wr => ∃ k : Nat, k ≤ W2 ∧ i = .int .i64 k ∧ Hid (SSum (s + 1) s 8 ((unV t b W2).take k) wr) ∧ Hid (wr.ownsRow B 3 1 (.slice (some ⟨g, 0, none⟩) W2 W2) W2 (frow (fun i => D.getD i 0) W2 k)) ∧ Hid (Below B w wr)) (fun i _ => W2 - (intOf i).toNat)
    case atStart => exact ⟨0, by omega, rfl, HS4.out, HO4.out, HB4.out⟩
    case round =>
      clear HS4 HO4 HB4
      obtain ⟨k, hk, rfl, HS, HU, hbw⟩ := hrel
      by_cases hlt : k < W2
      · have hkl : k / 2 < lb := by omega
        have hkI : ((k / 2 : Nat) : Int) < (lb : Int) := by omega
        obtain ⟨bd, od, hp1, hc1⟩ := (HD.out wr hbw.out).at (i := k / 2) (by rw [HLB.out]; exact hkl)
        obtain ⟨y, hy⟩ : ∃ y, b.getD (k / 2) 0 = y := ⟨_, rfl⟩
        have y0 := getD_in (P := fun x => 0 ≤ x ∧ x < 256) HDB.out (show k / 2 < b.length by rw [HLB.out]; exact hkl)
        have hv := unV_at t b W2 (k := k) (by rw [HUM.out]; omega)
        have hjn : 0 ≤ Pk.nat_ b k ∧ Pk.nat_ b k < 16 := by unfold Pk.nat_; omega
        have hnat : Pk.nat_ b k = y / 2 ^ (k % 2 * 4) % 16 := by unfold Pk.nat_; rw [hy]
        rw [hy] at hc1 y0
        obtain ⟨j, hj⟩ : ∃ j : Nat, Pk.nat_ b k = (j : Int) := ⟨(Pk.nat_ b k).toNat, by omega⟩
        rw [hj] at hjn hv hnat
        rw [Int.toNat_natCast] at hv
        obtain ⟨bt, ot, hp2, hc2⟩ := (HDT.out wr hbw.out).at (i := j) (by rw [HT16.out]; omega)
        have t0 := getD_in (P := fun x => -128 ≤ x ∧ x ≤ 127) HTI.out (show j < t.length by rw [HT16.out]; omega)
        obtain ⟨x, hx⟩ : ∃ x, t.getD j 0 = x := ⟨_, rfl⟩
        rw [hx] at hc2 t0 hv
        have hlv : k < (unV t b W2).length := by rw [unV_length, HUM.out]; omega
        have hz := HT.out.at (unV t b W2) hlv
        rw [HDE.out, hv] at hz
        obtain ⟨z, hze⟩ : ∃ z, D.getD k 0 = z := ⟨_, rfl⟩
        rw [hze] at hz
        have HZ := Lib.hid hze
        have C := Lib.hid (show Calls Try.prog 61 #[.int .i64 x, .pointer (some ⟨s + 1, 0, none⟩), .pointer (some ⟨s, 0, none⟩)] wr fun e w' => e = .returned (.int .i64 z) ∧ SSum (s + 1) s 8 ((unV t b W2).take (k + 1)) w' ∧ Mid s (s + 2) wr w' by
          have := HT.out.calls ((unV t b W2).take k) x wr (by omega) (by omega) HS.out
          rw [hz, take_snoc hlv hv] at this
          exact this)
        have hkn : k < W2 := by omega
        obtain ⟨m, hm⟩ : ∃ m, k / 2 = m := ⟨_, rfl⟩
        rw [hm] at hc1 hkI
        have hd1 : (k : Int) / 2 = (m : Int) := by omega
        have hd2 : (k : Int).tdiv 2 = (m : Int) := by rw [Int.tdiv_eq_ediv_of_nonneg (by omega)]; omega
        clear hy hj hx hz hze hv hlv hm hkl
        subst hp1 hp2
        rcases Nat.mod_two_eq_zero_or_one k with hpar | hpar
        · rw [hpar] at hnat
          have hr1 : (k : Int) % 2 = 0 := by omega
          have hr2 : (k : Int).tmod 2 = 0 := by rw [Int.tmod_eq_emod_of_nonneg (by omega)]; omega
          have hA : bits .and .u8 y 15 = (j : Int) := by rw [byte_and15 y0.1 y0.2, hnat, Nat.zero_mul, Int.pow_zero, Int.ediv_one]
          clear hnat hpar
          go_wp2_with (first | (go_at_fn 61; ((with_reducible refine C.out.mono ?_); rintro x' w5 ⟨rfl, hs5, hm5⟩; have HS5 := Lib.hid hs5; have HB5 := Lib.hid (hbw.out.trans (hm5.belowB (by have := hbw.out.size; have := HBE.out; omega) (Nat.le_of_lt hBs))); have HU5 := Lib.hid (row_of HU.out (hm5.block g (World.ownsRow.lt HU.out g rfl).2 (.inl hgs))); have a0 := (HU5.out.cellAt k (by omega)).trans (frow_at (fun i => D.getD i 0) hkn); have a1 := HU5.out.frozenAt k; clear hs5 hm5)))
          go_roundw
          case rel => exact ⟨k + 1, by omega, by go_num, HT.out.stays _ _ _ HS5.out (out_set w5 _ (.inl hgs)), (congrArg _ (frow_set (fun i => D.getD i 0) hkn HZ.out.symm)).mp (HU5.out.stored k (.int .i64 z)).1, HB5.out.setCell hgB _⟩
          case measure => simp [intOf]; omega
        · rw [hpar] at hnat
          have hr1 : (k : Int) % 2 = 1 := by omega
          have hr2 : (k : Int).tmod 2 = 1 := by rw [Int.tmod_eq_emod_of_nonneg (by omega)]; omega
          have hA : bits .and .u8 (y / 16) 15 = (j : Int) := by rw [byte_and15 (by omega) (by omega), hnat]; rfl
          clear hnat hpar
          go_wp2_with (first | (go_at_fn 61; ((with_reducible refine C.out.mono ?_); rintro x' w5 ⟨rfl, hs5, hm5⟩; have HS5 := Lib.hid hs5; have HB5 := Lib.hid (hbw.out.trans (hm5.belowB (by have := hbw.out.size; have := HBE.out; omega) (Nat.le_of_lt hBs))); have HU5 := Lib.hid (row_of HU.out (hm5.block g (World.ownsRow.lt HU.out g rfl).2 (.inl hgs))); have a0 := (HU5.out.cellAt k (by omega)).trans (frow_at (fun i => D.getD i 0) hkn); have a1 := HU5.out.frozenAt k; clear hs5 hm5)))
          go_roundw
          case rel => exact ⟨k + 1, by omega, by go_num, HT.out.stays _ _ _ HS5.out (out_set w5 _ (.inl hgs)), (congrArg _ (frow_set (fun i => D.getD i 0) hkn HZ.out.symm)).mp (HU5.out.stored k (.int .i64 z)).1, HB5.out.setCell hgB _⟩
          case measure => simp [intOf]; omega
      · have HE : Hid (wr.ownsRow B 3 1 (.slice (some ⟨g, 0, none⟩) W2 W2) W2 ((unx t b W2).map (Value.int .i64))) := Lib.hid (by
          have := HU.out
          rw [show k = W2 by omega, frow_part HDL.out (by omega)] at this
          unfold unx
          rw [HDE.out, HUM.out]
          exact this)
        have hge : ¬ k < W2 := hlt
        go_wp2
        go_ret3
        have e := HBE.out
        subst e
        exact ⟨⟨_, ret_mid (by rw [HUM.out]; omega), HE.out⟩, hbw.out⟩
  · have HUM := Lib.hid (show unM b n = W2 by rw [HUM.out]; omega)
    have HDL := Lib.hid (HDL0.out.trans HUM.out)
    go_enter Try.func22, Try.ntmps22
    go_wp2_with (first | (go_at_call 49; ((with_reducible refine C1.out.mono ?_); rintro x' w' ⟨rfl, rfl⟩)) | (go_at_call 34; ((with_reducible refine C2.out.mono ?_); rintro x' w' ⟨rfl, rfl⟩)) | (at_make; refine wpList_make_full _ rfl _ _ 22 rfl w.heap.size 3 i0 (.int .i64 0) 1 Try.underlying22 hinf hz0 hz1 .i64 .i64 _ _ n rfl rfl rfl rfl (by rw [hz2]; omega) (by unfold maxLen; omega) (by simp) ?_; intro w3 hown3 hgrow3; have HOWN := Lib.hid hown3; have HB3 := Lib.hid (grown_below hgrow3); clear hown3 hgrow3) | (go_at_call 35; ((with_reducible refine (CS.out _).mono ?_); rintro x' w4 ⟨rfl, hm4⟩; have HM4 := Lib.hid hm4; clear hm4)))
    have HOW : Hid (w3.ownsRow w.heap.size 3 1 (.slice (some ⟨w.heap.size, 0, none⟩) n n) n (frow (fun i => D.getD i 0) n 0)) := by
      have e : (madeCells (Value.int .i64 0).cells (n * 1)).toList = frow (fun i => D.getD i 0) n 0 := by rw [frow_zero, Nat.mul_one]; exact toList_madeCells_one _ n
      have := HOWN.out
      rw [e] at this
      exact Lib.hid this
    have HO4 := Lib.hid (row_stays HOW.out HM4.out.2.2.2)
    have HB4 := Lib.hid (HB3.out.trans (HM4.out.2.2.2.mono HB3.out.size))
    have HS4 := Lib.hid (dec1_start 8 w4 (w3.heap.size + 1) w3.heap.size HM4.out.2.1 HM4.out.1)
    have hgs0 := (World.ownsRow.lt HOW.out w.heap.size rfl).2
    obtain ⟨s, hs⟩ : ∃ s, w3.heap.size = s := ⟨_, rfl⟩
    rw [hs] at HS4 hgs0
    simp only [hs]
    obtain ⟨g, hge⟩ : ∃ g, g = w.heap.size := ⟨_, rfl⟩
    obtain ⟨B, hBe⟩ : ∃ B, B = w.heap.size := ⟨_, rfl⟩
    have HBE := Lib.hid hBe
    have hgs : g < s := by omega
    have hBs : B < s := by omega
    rw [← hBe] at HO4 HB4
    have hgB : B ≤ g := by omega
    have HD := Lib.hid (fun wr (hb : Below B w wr) => hd.below (hBe ▸ hb))
    have HDT := Lib.hid (fun wr (hb : Below B w wr) => hdt.below (hBe ▸ hb))
    have hb4s := HM4.out.2.2.1
    have hBw : B ≤ w3.heap.size := by omega
    rw [← hBe]
    rw [show (Value.slice (some ⟨B, 0, none⟩) n n) = Value.slice (some ⟨g, 0, none⟩) n n by rw [hge, hBe]] at HO4
    rw [show (⟨B, 0, none⟩ : Addr) = ⟨g, 0, none⟩ by rw [hge, hBe]]
    clear hge hBe hd hdt HOWN HOW HB3 HM4 hs hgs0 hb4s hBw C1 C2 CS
    have HT := Lib.hid (t_sum8 (s + 1) s s (s + 2) (by omega) (by omega) (by omega) (by omega) (by omega))
    go_loopw [32] (fun i wr => ∃ k : Nat, k ≤ W2 ∧ i = .int .i64 k ∧ Hid (SSum (s + 1) s 8 ((unV t b n).take k) wr) ∧ Hid (wr.ownsRow B 3 1 (.slice (some ⟨g, 0, none⟩) n n) n (frow (fun i => D.getD i 0) n k)) ∧ Hid (Below B w wr)) (fun i _ => W2 - (intOf i).toNat)
    case atStart => exact ⟨0, by omega, rfl, HS4.out, HO4.out, HB4.out⟩
    case round =>
      clear HS4 HO4 HB4
      obtain ⟨k, hk, rfl, HS, HU, hbw⟩ := hrel
      by_cases hlt : k < W2
      · have hkl : k / 2 < lb := by omega
        have hkI : ((k / 2 : Nat) : Int) < (lb : Int) := by omega
        obtain ⟨bd, od, hp1, hc1⟩ := (HD.out wr hbw.out).at (i := k / 2) (by rw [HLB.out]; exact hkl)
        obtain ⟨y, hy⟩ : ∃ y, b.getD (k / 2) 0 = y := ⟨_, rfl⟩
        have y0 := getD_in (P := fun x => 0 ≤ x ∧ x < 256) HDB.out (show k / 2 < b.length by rw [HLB.out]; exact hkl)
        have hv := unV_at t b n (k := k) (by rw [HUM.out]; omega)
        have hjn : 0 ≤ Pk.nat_ b k ∧ Pk.nat_ b k < 16 := by unfold Pk.nat_; omega
        have hnat : Pk.nat_ b k = y / 2 ^ (k % 2 * 4) % 16 := by unfold Pk.nat_; rw [hy]
        rw [hy] at hc1 y0
        obtain ⟨j, hj⟩ : ∃ j : Nat, Pk.nat_ b k = (j : Int) := ⟨(Pk.nat_ b k).toNat, by omega⟩
        rw [hj] at hjn hv hnat
        rw [Int.toNat_natCast] at hv
        obtain ⟨bt, ot, hp2, hc2⟩ := (HDT.out wr hbw.out).at (i := j) (by rw [HT16.out]; omega)
        have t0 := getD_in (P := fun x => -128 ≤ x ∧ x ≤ 127) HTI.out (show j < t.length by rw [HT16.out]; omega)
        obtain ⟨x, hx⟩ : ∃ x, t.getD j 0 = x := ⟨_, rfl⟩
        rw [hx] at hc2 t0 hv
        have hlv : k < (unV t b n).length := by rw [unV_length, HUM.out]; omega
        have hz := HT.out.at (unV t b n) hlv
        rw [HDE.out, hv] at hz
        obtain ⟨z, hze⟩ : ∃ z, D.getD k 0 = z := ⟨_, rfl⟩
        rw [hze] at hz
        have HZ := Lib.hid hze
        have C := Lib.hid (show Calls Try.prog 61 #[.int .i64 x, .pointer (some ⟨s + 1, 0, none⟩), .pointer (some ⟨s, 0, none⟩)] wr fun e w' => e = .returned (.int .i64 z) ∧ SSum (s + 1) s 8 ((unV t b n).take (k + 1)) w' ∧ Mid s (s + 2) wr w' by
          have := HT.out.calls ((unV t b n).take k) x wr (by omega) (by omega) HS.out
          rw [hz, take_snoc hlv hv] at this
          exact this)
        have hkn : k < n := by omega
        obtain ⟨m, hm⟩ : ∃ m, k / 2 = m := ⟨_, rfl⟩
        rw [hm] at hc1 hkI
        have hd1 : (k : Int) / 2 = (m : Int) := by omega
        have hd2 : (k : Int).tdiv 2 = (m : Int) := by rw [Int.tdiv_eq_ediv_of_nonneg (by omega)]; omega
        clear hy hj hx hz hze hv hlv hm hkl
        subst hp1 hp2
        rcases Nat.mod_two_eq_zero_or_one k with hpar | hpar
        · rw [hpar] at hnat
          have hr1 : (k : Int) % 2 = 0 := by omega
          have hr2 : (k : Int).tmod 2 = 0 := by rw [Int.tmod_eq_emod_of_nonneg (by omega)]; omega
          have hA : bits .and .u8 y 15 = (j : Int) := by rw [byte_and15 y0.1 y0.2, hnat, Nat.zero_mul, Int.pow_zero, Int.ediv_one]
          clear hnat hpar
          go_wp2_with (first | (go_at_fn 61; ((with_reducible refine C.out.mono ?_); rintro x' w5 ⟨rfl, hs5, hm5⟩; have HS5 := Lib.hid hs5; have HB5 := Lib.hid (hbw.out.trans (hm5.belowB (by have := hbw.out.size; have := HBE.out; omega) (Nat.le_of_lt hBs))); have HU5 := Lib.hid (row_of HU.out (hm5.block g (World.ownsRow.lt HU.out g rfl).2 (.inl hgs))); have a0 := (HU5.out.cellAt k (by omega)).trans (frow_at (fun i => D.getD i 0) hkn); have a1 := HU5.out.frozenAt k; clear hs5 hm5)))
          go_roundw
          case rel => exact ⟨k + 1, by omega, by go_num, HT.out.stays _ _ _ HS5.out (out_set w5 _ (.inl hgs)), (congrArg _ (frow_set (fun i => D.getD i 0) hkn HZ.out.symm)).mp (HU5.out.stored k (.int .i64 z)).1, HB5.out.setCell hgB _⟩
          case measure => simp [intOf]; omega
        · rw [hpar] at hnat
          have hr1 : (k : Int) % 2 = 1 := by omega
          have hr2 : (k : Int).tmod 2 = 1 := by rw [Int.tmod_eq_emod_of_nonneg (by omega)]; omega
          have hA : bits .and .u8 (y / 16) 15 = (j : Int) := by rw [byte_and15 (by omega) (by omega), hnat]; rfl
          clear hnat hpar
          go_wp2_with (first | (go_at_fn 61; ((with_reducible refine C.out.mono ?_); rintro x' w5 ⟨rfl, hs5, hm5⟩; have HS5 := Lib.hid hs5; have HB5 := Lib.hid (hbw.out.trans (hm5.belowB (by have := hbw.out.size; have := HBE.out; omega) (Nat.le_of_lt hBs))); have HU5 := Lib.hid (row_of HU.out (hm5.block g (World.ownsRow.lt HU.out g rfl).2 (.inl hgs))); have a0 := (HU5.out.cellAt k (by omega)).trans (frow_at (fun i => D.getD i 0) hkn); have a1 := HU5.out.frozenAt k; clear hs5 hm5)))
          go_roundw
          case rel => exact ⟨k + 1, by omega, by go_num, HT.out.stays _ _ _ HS5.out (out_set w5 _ (.inl hgs)), (congrArg _ (frow_set (fun i => D.getD i 0) hkn HZ.out.symm)).mp (HU5.out.stored k (.int .i64 z)).1, HB5.out.setCell hgB _⟩
          case measure => simp [intOf]; omega
      · have HE : Hid (wr.ownsRow B 3 1 (.slice (some ⟨g, 0, none⟩) n n) n ((unx t b n).map (Value.int .i64))) := Lib.hid (by
          have := HU.out
          rw [show k = W2 by omega, frow_part HDL.out (by omega)] at this
          unfold unx
          rw [HDE.out, HUM.out]
          exact this)
        have hge : ¬ k < W2 := hlt
        go_wp2
        go_ret3
        have e := HBE.out
        subst e
        exact ⟨⟨_, ret_mid (by rw [HUM.out]; omega), HE.out⟩, hbw.out⟩
end Go.Proofs.Ytfljgdehbogimaa

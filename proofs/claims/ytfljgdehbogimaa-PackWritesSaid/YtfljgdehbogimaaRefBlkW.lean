/-
  The contract of the reference's block: the walk.
-/
import Derived.Test.YtfljgdehbogimaaRefBlk
import Derived.BigQuiet
import Derived.Deep.QuietTactic
namespace Go.Proofs.Ytfljgdehbogimaa
open Go.RowKit

/-- The width so far: k values fit, and nothing less would do. -/
structure Wd (l : List Int) (k W : Nat) : Prop where
  lo : 1 ≤ W
  hi : W ≤ 16
  all : alw (l.take k) (W : Int) = true
  least : ∀ u : Nat, 1 ≤ u → u < W → alw l (u : Int) = false
theorem Wd.more {l : List Int} {k V : Nat} (h : Wd l k V) (hk : k < l.length) (h16 : alw l 16 = true) (hx : ¬ Pk.wrp (hlf (V : Int)) (l.getD k 0) = l.getD k 0) : Wd l k (V + 1) where
  lo := by omega
  hi := by
    have h1 := h.hi
    rcases Nat.lt_or_ge V 16 with h2 | h2
    · exact h2
    · have e : V = 16 := by omega
      subst e
      have := alw_not hk hx
      rw [show ((16 : Nat) : Int) = 16 from rfl, h16] at this
      cases this
  all := by
    have := alw_mono h.all
    exact this
  least := fun u h1 h2 => by
    rcases Nat.lt_or_ge u V with h3 | h3
    · exact h.least u h1 h3
    · have e : u = V := by omega
      subst e
      exact alw_not hk hx
theorem Wd.next {l : List Int} {k V : Nat} (h : Wd l k V) (hk : k < l.length) (hx : Pk.wrp (hlf (V : Int)) (l.getD k 0) = l.getD k 0) : Wd l (k + 1) V := ⟨h.lo, h.hi, alw_next hk h.all hx, h.least⟩
theorem Wd.wid {l : List Int} {k V : Nat} (h : Wd l k V) (hk : l.length ≤ k) : wid l = V := by
  have ha := h.all
  rw [List.take_of_length_le hk] at ha
  exact wid_of h.lo h.hi ha h.least
theorem own_lit (w : World) (x : Value) (e : TypeId) : (w.alloc (.cells #[x] e)).ownsRow w.heap.size e 1 (.slice (some ⟨w.heap.size, 0, none⟩) 1 1) 1 [x] :=
  ⟨rfl, .inr ⟨w.heap.size, 1, #[x], rfl, Nat.le_refl _, heap_alloc_new _ _, Nat.le_refl _, by unfold maxLen; omega, rfl, rfl⟩⟩
set_option maxRecDepth 20000 in
set_option maxHeartbeats 3200000 in
theorem rblock (l : List Int) (p : Option Addr) (cap : Nat) (w : World) (hd : DatAt w p l) (hl : l.length ≤ 256) (h16 : alw l 16 = true) :
    Calls Try.prog 32 #[.slice p l.length cap] w fun e w' => (∃ g c, e = .returned (.slice (some ⟨g, 0, none⟩) (blk l).length c) ∧ w'.ownsRow w.heap.size 5 1 (.slice (some ⟨g, 0, none⟩) (blk l).length c) (blk l).length ((blk l).map (Value.int .u8))) ∧ Below w.heap.size w w' := by
  have HD := Lib.hid hd
  have H16 := Lib.hid h16
  obtain ⟨i0, hinf, hz0, hz1, hz2⟩ := info_parts Try.infoByte
  have hlI : (l.length : Int) ≤ 256 := by omega
  have HIN := Lib.hid (show ∀ x ∈ l, -32768 ≤ x ∧ x ≤ 32767 from fun x hx => by
    have := (Pk.wrp_iff (hlf_pos 16)).mp (of_decide_eq_true h16 x hx)
    rw [show hlf 16 = 32768 by decide] at this
    omega)
  obtain ⟨n, hn⟩ : ∃ n, l.length = n := ⟨_, rfl⟩
  have HN := Lib.hid hn
  rw [hn] at hlI
  rw [hn]
  clear hd h16 hl hn
  go_enter Try.func32, Try.ntmps32
  go_wp2
  go_loopw [3, 4] (fun wv i wr => ∃ k W : Nat, k ≤ n ∧ i = .int .i64 k ∧ wv = .int .i64 W ∧ Hid (Wd l k W) ∧ wr = w) (fun _ i _ => n - (intOf i).toNat)
  case atStart => exact ⟨0, 1, by omega, rfl, rfl, ⟨by omega, by omega, by simp [alw], fun u h1 h2 => by omega⟩, rfl⟩
  case round =>
    obtain ⟨k, W, hk, rfl, rfl, HW, rfl⟩ := hrel
    by_cases hlt : k < n
    · obtain ⟨bd, od, hp1, hc1⟩ := HD.out.at (i := k) (by rw [HN.out]; exact hlt)
      have HKL := Lib.hid (show k < l.length by rw [HN.out]; exact hlt)
      have y0 := getD_in (P := fun x => -32768 ≤ x ∧ x ≤ 32767) HIN.out HKL.out
      obtain ⟨y, hy⟩ : ∃ y, l.getD k 0 = y := ⟨_, rfl⟩
      rw [hy] at hc1 y0
      have HY := Lib.hid hy
      clear hy
      subst hp1
      go_wp2
      go_loopw [3] (fun wv wx => ∃ V : Nat, wv = .int .i64 V ∧ Hid (Wd l k V) ∧ V ≤ 16 ∧ wx = wr) (fun wv _ => 17 - (intOf wv).toNat)
      case atStart => exact ⟨W, rfl, HW.out, HW.out.hi, rfl⟩
      case round =>
        obtain ⟨V, rfl, HV, hV, rfl⟩ := hrel
        have hV1 := HV.out.lo
        by_cases hf : Pk.wrp (hlf (V : Int)) y = y
        · have C := Lib.hid (show Calls Try.prog 54 #[.int .i64 y, .int .i64 V] wr fun e w' => e = .returned (.bool true) ∧ wr = w' from decide_eq_true hf ▸ rfits y V wr (by omega) (by omega) (by omega) (by omega))
          have HF := Lib.hid hf
          clear hf
          go_wp2_with (first | (go_at_call 54; ((with_reducible refine C.out.mono ?_); rintro x' w' ⟨rfl, rfl⟩)))
          exact ⟨⟨k + 1, V, by omega, by go_num, rfl, HV.out.next HKL.out (by rw [HY.out]; exact HF.out), trivial⟩, by simp [intOf]; omega⟩
        · have C := Lib.hid (show Calls Try.prog 54 #[.int .i64 y, .int .i64 V] wr fun e w' => e = .returned (.bool false) ∧ wr = w' from decide_eq_false hf ▸ rfits y V wr (by omega) (by omega) (by omega) (by omega))
          have HF := Lib.hid hf
          clear hf
          go_wp2_with (first | (go_at_call 54; ((with_reducible refine C.out.mono ?_); rintro x' w' ⟨rfl, rfl⟩)))
          have HM := HV.out.more HKL.out H16.out (by rw [HY.out]; exact HF.out)
          exact ⟨⟨V + 1, by go_num, HM, HM.hi, trivial⟩, by simp [intOf]; omega⟩
    · have hw := HW.out.wid (by rw [HN.out]; omega)
      have hW1 := HW.out.lo
      have hW2 := HW.out.hi
      have HWE := Lib.hid hw
      have hkn : k = n := by omega
      subst hkn
      obtain ⟨N, hN⟩ : ∃ N, k * W = N := ⟨_, rfl⟩
      have hNI : (k : Int) * (W : Int) = (N : Int) := by rw [← hN]; exact (Int.natCast_mul _ _).symm
      have hNl : (N : Int) ≤ 4096 := by
        have : k * W ≤ 256 * 16 := Nat.mul_le_mul (by omega) hW2
        omega
      have HNE := Lib.hid hN
      obtain ⟨Z, hZ⟩ : ∃ Z, (N + 7) / 8 = Z := ⟨_, rfl⟩
      have HZE := Lib.hid hZ
      have hZI : ((N : Int) + 7) / 8 = (Z : Int) := by omega
      have hZt : ((N : Int) + 7).tdiv 8 = (Z : Int) := by rw [Int.tdiv_eq_ediv_of_nonneg (by omega)]; omega
      have hZl : (Z : Int) ≤ 513 := by omega
      have hWm : (W : Int) % 256 = W := by omega
      have HL := Lib.hid (own_lit wr (.int .u8 (W : Int)) 5)
      clear hw hN hZ HW hk hlt
      go_wp2_with (first | (at_builtin; refine wpList_append_zeros rfl (.tmp 24) (.tmp 30) 24 3 rfl wr.heap.size 5 i0 .u8 .i64 Try.underlying24 Try.underlying3 hinf hz0 hz1 (by omega) wr.heap.size 1 1 [.int .u8 (W : Int)] Z rfl rfl HL.out (by omega) (by simp) ?_; intro g c w3 hown hgrow; have HOWN := Lib.hid hown; have HG := Lib.hid hgrow; clear hown hgrow))
      obtain ⟨w0, rfl⟩ : ∃ w0, w0 = wr := ⟨_, rfl⟩
      obtain ⟨B, hBe⟩ : ∃ B, w0.heap.size = B := ⟨_, rfl⟩
      have HBE := Lib.hid hBe
      have HB3 : Hid (Below B w0 w3) := Lib.hid (hBe ▸ ((below_box w0 _).trans (grown_base (B := w0.heap.size) (v := .slice (some ⟨w0.heap.size, 0, none⟩) 1 1) HG.out (by intro k hk; simp [Value.ownBlock] at hk; omega) (by simp))))
      have HU0 : Hid (w3.ownsRow B 5 1 (.slice (some ⟨g, 0, none⟩) (1 + Z) c) (1 + Z) ((bkL l W 0).map (Value.int .u8))) := Lib.hid (by
        have := HOWN.out
        rw [hBe] at this
        rw [bkL_zero, HN.out, HNE.out, HZE.out, List.map_cons, List.map_replicate]
        exact this)
      have hgB := (World.ownsRow.lt HU0.out g rfl).1
      have HDB := Lib.hid (fun w' (hb : Below B w0 w') => HD.out.below (hBe ▸ hb))
      have HBL := Lib.hid (show bkL l W N = blk l by rw [← HNE.out, ← HN.out, ← HWE.out]; exact bkL_full l)
      have HLE := Lib.hid (fun j => (bkL_length l W j).trans (show 1 + (l.length * W + 7) / 8 = 1 + Z by rw [HN.out, HNE.out, HZE.out]))
      rw [hBe]
      clear HOWN HG HL HD hBe
      go_loopw [6] (fun i wx => ∃ j : Nat, j ≤ N ∧ i = .int .i64 j ∧ Hid (wx.ownsRow B 5 1 (.slice (some ⟨g, 0, none⟩) (1 + Z) c) (1 + Z) ((bkL l W j).map (Value.int .u8))) ∧ Hid (Below B w0 wx)) (fun i _ => N - (intOf i).toNat)
      case atStart => exact ⟨0, by omega, rfl, HU0.out, HB3.out⟩
      case round =>
        clear HU0 HB3
        obtain ⟨j, hj, rfl, HU, HB⟩ := hrel
        by_cases hlt : j < N
        · obtain ⟨q, hq⟩ : ∃ q, j / W = q := ⟨_, rfl⟩
          obtain ⟨r, hr⟩ : ∃ r, j % W = r := ⟨_, rfl⟩
          have hqk : q < k := by rw [← hq]; exact Nat.div_lt_of_lt_mul (by rw [Nat.mul_comm, HNE.out]; exact hlt)
          have hr16 : r < W := by rw [← hr]; exact Nat.mod_lt _ (by omega)
          have hq2 : (j : Int) / (W : Int) = (q : Int) := by rw [← hq]; exact (Int.natCast_ediv _ _).symm
          have hq1 : (j : Int).tdiv (W : Int) = (q : Int) := by rw [Int.tdiv_eq_ediv_of_nonneg (by omega)]; exact hq2
          have hr2 : (j : Int) % (W : Int) = (r : Int) := by rw [← hr]; exact (Int.natCast_emod _ _).symm
          have hr1 : (j : Int).tmod (W : Int) = (r : Int) := by rw [Int.tmod_eq_emod_of_nonneg (by omega)]; exact hr2
          obtain ⟨m, hm⟩ : ∃ m, j / 8 = m := ⟨_, rfl⟩
          obtain ⟨s, hs⟩ : ∃ s, j % 8 = s := ⟨_, rfl⟩
          have hm2 : (j : Int) / 8 = (m : Int) := by omega
          have hm1 : (j : Int).tdiv 8 = (m : Int) := by rw [Int.tdiv_eq_ediv_of_nonneg (by omega)]; omega
          have hs2 : (j : Int) % 8 = (s : Int) := by omega
          have hs1 : (j : Int).tmod 8 = (s : Int) := by rw [Int.tmod_eq_emod_of_nonneg (by omega)]; omega
          have hs7 : s ≤ 7 := by omega
          have hmZ : m < Z := by have := HZE.out; omega
          obtain ⟨bd, od, hp1, hc1⟩ := (HDB.out _ HB.out).at (i := q) (by rw [HN.out]; exact hqk)
          have y0 := getD_in (P := fun x => -32768 ≤ x ∧ x ≤ 32767) HIN.out (show q < l.length by rw [HN.out]; exact hqk)
          have HBI := Lib.hid (show Pk.bitsOf l W j = Pk.bitI (l.getD q 0) r by unfold Pk.bitsOf; rw [hq, hr])
          have HST := Lib.hid (bkL_step l W j)
          have HSM := Lib.hid (bkL_same l W j (by rw [HN.out, HNE.out, HZE.out, hm]; exact hmZ))
          have HSL := Lib.hid (Pk.pbyte_small (Pk.bitsOf_bits l W) j)
          have HAT := Lib.hid (bkL_at l W j (i := m) (by rw [HN.out, HNE.out, HZE.out]; exact hmZ))
          obtain ⟨y, hy⟩ : ∃ y, l.getD q 0 = y := ⟨_, rfl⟩
          rw [hy] at hc1 y0 HBI
          obtain ⟨t, ht⟩ : ∃ t, Pk.bitI y r = t := ⟨_, rfl⟩
          have hb := bit_and_i y r
          have ht01 := Pk.bitI_01 y r
          rw [ht] at hb HBI ht01
          rw [HBI.out] at HST HSM
          rw [hm, hs] at HST
          rw [hm, hs] at HSL
          obtain ⟨v, hv⟩ : ∃ v, Pk.pbyte (Pk.bitsOf l W) j m = v := ⟨_, rfl⟩
          rw [hv] at HST HSL HAT
          have c0 : wr.cell? ⟨g, 1 + m, none⟩ = some (.int .u8 v) := by
            rw [HU.out.cellAt (1 + m) (by omega), map_getD (by rw [HLE.out]; omega), HAT.out]
          have c1 := HU.out.frozenAt (1 + m)
          clear hy ht hq hr hm hs hv
          subst hp1
          have HTC := Lib.hid HSL.out
          rcases ht01 with rfl | rfl
          · have hsm := HSM.out rfl
            have HSMM := Lib.hid hsm
            clear hsm
            go_upto_region 11 with fail
            go_quiet (fail)
            go_wp2
            exact ⟨⟨j + 1, by omega, by go_num, by rw [HSMM.out]; exact HU.out, below_drewN' HB.out nq⟩, by simp [intOf]; omega⟩
          · have hor := byte_or (y := v) (b := 1) (r := s) HTC.out.1 HTC.out.2 hs7 (.inr rfl)
            have hp2 : (2 : Int) ^ s < 256 := by
              have e : ((2 ^ s : Nat) : Int) = (2 : Int) ^ s := by norm_cast
              have h2 : (2 : Nat) ^ s ≤ 2 ^ 7 := Nat.pow_le_pow_right (by decide) hs7
              omega
            have hp3 : (0 : Int) < 2 ^ s := Int.pow_pos (by decide)
            rw [Int.one_mul] at hor
            have hor2 : bits .or .u8 v (2 ^ s) = v + 2 ^ s := by rw [Int.emod_eq_of_lt (by omega) hp2] at hor; exact hor
            rw [Int.one_mul] at HST
            go_upto_region 11 with fail
            go_quiet (fail)
            go_wp2
            go_region
            go_wp2
            have h1 : (wr.drewN (nq + 1)).ownsRow B 5 1 (.slice (some ⟨g, 0, none⟩) (1 + Z) c) (1 + Z) ((bkL l W j).map (Value.int .u8)) := HU.out
            exact ⟨⟨j + 1, by omega, by go_num, by rw [HST.out, List.map_set]; exact (h1.stored (1 + m) _).1, (below_drewN' HB.out (nq + 1)).setCell hgB _⟩, by simp [intOf]; omega⟩
        · have e : j = N := by omega
          subst e
          have HQ := Lib.hid (show (blk l).length = 1 + Z by rw [← HBL.out]; exact HLE.out _)
          have HR := Lib.hid (HBL.out ▸ HU.out)
          go_wp2
          go_ret
          rw [HQ.out]
          exact ⟨⟨g, c, rfl, by first | exact HR.out | (rw [HBE.out]; exact HR.out)⟩, by first | exact HB.out | (rw [HBE.out]; exact HB.out)⟩
end Go.Proofs.Ytfljgdehbogimaa

/-
  Package pattern's validMask.
-/
import Derived.Test.YtfjfnbeegojlbaaPRv
namespace Go.Proofs.Ytfjfnbeegojlbaa
open Go.RowKit

theorem and_bit_all : ∀ k : Fin 4, ∀ m : Fin 256, (bits BinOp.and IntKind.i64 ((m.val : Nat) : Int) (IntKind.i64.wrap (2 ^ k.val)) != 0) = m.val.testBit k.val ∧ (bits BinOp.and IntKind.i64 ((m.val : Nat) : Int) (IntKind.i64.wrap (16 * 2 ^ k.val)) != 0) = m.val.testBit (k.val + 4) := by decide +kernel
theorem and_bit {m k : Nat} (hm : m < 256) (hk : k < 4) : (bits BinOp.and IntKind.i64 (m : Int) (IntKind.i64.wrap (2 ^ k)) != 0) = m.testBit k ∧ (bits BinOp.and IntKind.i64 (m : Int) (IntKind.i64.wrap (16 * 2 ^ k)) != 0) = m.testBit (k + 4) := and_bit_all ⟨k, hk⟩ ⟨m, hm⟩
theorem and_bit64_all : ∀ k : Fin 4, ∀ m : Fin 256, (bits BinOp.and IntKind.i64 ((m.val : Nat) : Int) (wrap64 (2 ^ k.val)) != 0) = m.val.testBit k.val ∧ (bits BinOp.and IntKind.i64 ((m.val : Nat) : Int) (wrap64 (16 * 2 ^ k.val)) != 0) = m.val.testBit (k.val + 4) := by decide +kernel
theorem and_bit64 {m k : Nat} (hm : m < 256) (hk : k < 4) : (bits BinOp.and IntKind.i64 (m : Int) (wrap64 (2 ^ k)) != 0) = m.testBit k ∧ (bits BinOp.and IntKind.i64 (m : Int) (wrap64 (16 * 2 ^ k)) != 0) = m.testBit (k + 4) := and_bit64_all ⟨k, hk⟩ ⟨m, hm⟩
theorem int_ne0 (m : Nat) : ((m : Int) != 0) = (m != 0) := by rw [Bool.eq_iff_iff]; simp
theorem vmask_bad {m : Nat} {la : Pt.Cl} {k : Nat} (hk : k < 4) (h : Pt.vmk m la k = false) : Pt.vmask m la = false := by
  unfold Pt.vmask
  match k, hk with
  | 0, _ => rw [h]; rfl
  | 1, _ => rw [h]; simp
  | 2, _ => rw [h]; simp
  | 3, _ => rw [h]; simp
theorem vmask_all {m : Nat} {la : Pt.Cl} (h : ∀ j, j < 4 → Pt.vmk m la j = true) : Pt.vmask m la = (m != 0) := by
  unfold Pt.vmask
  rw [h 0 (by decide), h 1 (by decide), h 2 (by decide), h 3 (by decide)]
  rfl
set_option maxRecDepth 100000 in
set_option maxHeartbeats 3200000 in
theorem p_validMask (m : Nat) (hm : m < 256) (la : Pt.Cl) (w : World) :
    Calls Try.prog 83 #[.int .i64 (m : Nat), .agg (CL la).toArray] w fun x w' => x = .returned (.bool (Pt.vmask m la)) ∧ Below w.heap.size w w' := by
  obtain ⟨W, hW⟩ : ∃ W, W = w.alloc (.cells (CL la).toArray 28) := ⟨_, rfl⟩
  have hB : Below w.heap.size w W := by rw [hW]; exact below_box _ _
  have hC : W.rangeAt w.heap.size 0 (CL la) := by rw [hW]; exact range_box _ _ _
  obtain ⟨b3, hb3⟩ : ∃ b3, b3 = w.heap.size := ⟨_, rfl⟩
  rw [← hb3] at hC
  have HB := Lib.hid hB
  have HC := Lib.hid hC
  have HM := Lib.hid hm
  have hm' : (m : Int) < 256 := by omega
  rw [cl_arr] at hW ⊢
  clear hB hC hm
  go_enter Try.func83, Try.ntmps83
  go_upto_region 1 with fail
  rw [← hW, ← hb3]
  clear hW hb3
  go_wp2_with (first | (go_at_call 49; ((with_reducible refine (p_parts _).mono ?_); rintro x' w2 ⟨rfl, hb2⟩; have HB2 := Lib.hid hb2; clear hb2)))
  have HC2 := Lib.hid (range_below HC.out HB2.out (cell_lt (HC.out 0 _ rfl)))
  have HZ := Lib.hid (show b3 < w2.heap.size from cell_lt (HC2.out 0 _ rfl))
  go_loopw [10] (fun i wr => ∃ k : Nat, k ≤ 4 ∧ i = .int .i64 (k : Nat) ∧ Hid ((∀ j, j < k → Pt.vmk m la j = true) ∧ Below w2.heap.size w2 wr)) (fun i _ => 4 - (intOf i).toNat)
  case atStart => exact ⟨0, by omega, rfl, fun j h => absurd h (by omega), Below.refl _ _⟩
  case round =>
    obtain ⟨k, hk, rfl, HR⟩ := hrel
    by_cases hlt : k < 4
    · have HLT := Lib.hid hlt
      have hlt' : (k : Int) < 4 := by omega
      go_upto_region 4 with (first | (refine ix_part HLT.out (by rfl) _ _ rfl rfl rfl ?_) | ((refine al_part (by rfl) rfl ?_); intro w2' hb2 hs2 ht2; have HB2' := Lib.hid hb2; have HT2 := Lib.hid ht2; have HS2 := Lib.hid hs2; clear hb2 ht2 hs2) | ((refine st_row (cs := PK k) Try.infoPart (pk_one k) (by rfl) _ _ rfl rfl rfl HT2.out ?_); rintro w3 e3; have h3 := World.rangeAt_setCells_same w2' wr.heap.size 0 (PK k) HT2.out; rw [← e3] at h3; have HB3 := Lib.hid (show Below wr.heap.size wr w3 by rw [e3]; exact grown_at HB2'.out (Nat.le_refl _) (by rw [HS2.out]; omega) (grown_setCells _ _ _ _)); have H3 := Lib.hid h3; clear e3 h3))
      obtain ⟨n, hn⟩ : ∃ n, m.testBit k = n := ⟨_, rfl⟩
      obtain ⟨q, hq⟩ : ∃ q, m.testBit (k + 4) = q := ⟨_, rfl⟩
      obtain ⟨e1, e2⟩ := and_bit HM.out HLT.out
      rw [hn] at e1
      rw [hq] at e2
      have HN := Lib.hid (show m.testBit k = n ∧ m.testBit (k + 4) = q from ⟨hn, hq⟩)
      clear hn hq
      go_quiet (fail)
      obtain ⟨w4, hw4⟩ : ∃ w4, w4 = w3.drewN nq := ⟨_, rfl⟩
      rw [← hw4]
      have HB4 := Lib.hid (show Below wr.heap.size wr w4 by rw [hw4]; exact below_drewN' HB3.out nq)
      have HP4 := Lib.hid (show w4.rangeAt wr.heap.size 0 (PK k) by rw [hw4]; exact H3.out)
      clear hw4
      cases q with
      | false =>
        have HV := Lib.hid (show Pt.vmk m la k = true by unfold Pt.vmk; rw [HN.out.2]; rfl)
        go_wp2_with (first | fail)
        go_roundw
        case rel => exact ⟨k + 1, by have := HLT.out; omega, by go_num, fun j hj => if e : j = k then by subst e; exact HV.out else HR.out.1 j (by omega), stepB HR.out.2 HB4.out⟩
        case measure => simp [intOf]; have := HLT.out; omega
      | true =>
        cases n with
        | true =>
          have HV := Lib.hid (show Pt.vmk m la k = false by unfold Pt.vmk; rw [HN.out.1, HN.out.2]; rfl)
          go_wp2_with (first | fail)
          go_ret
          exact ⟨ret_bool (vmask_bad HLT.out HV.out).symm, stepB (stepB (stepB HB.out HB2.out) HR.out.2) HB4.out⟩
        | false =>
          have HVK := Lib.hid (show Pt.vmk m la k = Pt.isSet (Pt.pv k la) by unfold Pt.vmk; rw [HN.out.1, HN.out.2]; simp)
          obtain ⟨v, hv⟩ : ∃ v, Pt.pv k la = v := ⟨_, rfl⟩
          have G1 := Lib.hid (fun u => g_get HLT.out la u)
          rw [hv] at HVK
          rw [hv] at G1
          have S1 := Lib.hid (fun u => p_set v u)
          unfold VV at G1 S1
          have E1 := eg hlt
          have p2 := HP4.out 2 _ rfl
          have HC4 := Lib.hid (range_below (range_below HC2.out HR.out.2 HZ.out) HB4.out (Nat.lt_of_lt_of_le HZ.out HR.out.2.size))
          clear hv hlt
          cases hs : Pt.isSet v with
          | false =>
            rw [hs] at S1 HVK
            clear hs
            go_wp2_with (first | (refine ld_cell (by rfl) _ rfl rfl HC4.out ?_) | (go_at_fn (gF k); (with_reducible refine (G1.out _).mono ?_); rintro x' w5 ⟨rfl, hb5⟩; have HB5 := Lib.hid hb5; clear hb5 p2) | (go_at_call 50; ((with_reducible refine (S1.out _).mono ?_); rintro x' w6 ⟨rfl, hb6⟩; have HB6 := Lib.hid hb6; clear hb6)))
            go_ret
            exact ⟨ret_bool (vmask_bad HLT.out HVK.out).symm, stepB (stepB (stepB (stepB (stepB HB.out HB2.out) HR.out.2) HB4.out) HB5.out) HB6.out⟩
          | true =>
            rw [hs] at S1 HVK
            clear hs
            go_wp2_with (first | (refine ld_cell (by rfl) _ rfl rfl HC4.out ?_) | (go_at_fn (gF k); (with_reducible refine (G1.out _).mono ?_); rintro x' w5 ⟨rfl, hb5⟩; have HB5 := Lib.hid hb5; clear hb5 p2) | (go_at_call 50; ((with_reducible refine (S1.out _).mono ?_); rintro x' w6 ⟨rfl, hb6⟩; have HB6 := Lib.hid hb6; clear hb6)))
            go_roundw
            case rel => exact ⟨k + 1, by have := HLT.out; omega, by go_num, fun j hj => if e : j = k then by subst e; exact HVK.out else HR.out.1 j (by omega), stepB (stepB (stepB HR.out.2 HB4.out) HB5.out) HB6.out⟩
            case measure => simp [intOf]; have := HLT.out; omega
    · have ek : k = 4 := by omega
      subst ek
      go_wp2_with (first | fail)
      go_ret
      exact ⟨ret_bool ((int_ne0 m).trans (vmask_all HR.out.1).symm), stepB (stepB HB.out HB2.out) HR.out.2⟩
end Go.Proofs.Ytfjfnbeegojlbaa

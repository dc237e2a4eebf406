/-
  Contracts of package pack's small functions on numbers and of its checks of data: wrap, within, validBits, allWithin, askData, askBytes, validTable; nothing is changed.
-/
import Derived.Test.YtfljgdehbogimaaRefTbl
namespace Go.Proofs.Ytfljgdehbogimaa
open Go.RowKit

theorem and_mask (x : Int) (n : Nat) (hn : n ≤ 62) : bits .and .i64 x (((2 ^ n - 1 : Nat)) : Int) = x % ((2 ^ n : Nat) : Int) := by
  have hp : 2 ^ n ≤ 2 ^ 62 := Nat.pow_le_pow_right (by decide) hn
  have hq : 0 < 2 ^ n := Nat.two_pow_pos n
  have hd : (2 ^ n : Nat) ∣ 2 ^ 64 := Nat.pow_dvd_pow 2 (by omega)
  have hz : (((2 ^ n : Nat)) : Int) ∣ ((2 ^ 64 : Nat) : Int) := Int.ofNat_dvd.2 hd
  have e1 : (x % ((2 ^ 64 : Nat) : Int)).toNat % 2 ^ n = (x % ((2 ^ n : Nat) : Int)).toNat := by
    apply Int.ofNat_inj.1
    have h1 : 0 ≤ x % ((2 ^ 64 : Nat) : Int) := Int.emod_nonneg _ (by decide)
    have h2 : 0 ≤ x % ((2 ^ n : Nat) : Int) := Int.emod_nonneg _ (by omega)
    rw [Int.natCast_emod, Int.toNat_of_nonneg h1, Int.toNat_of_nonneg h2, Int.emod_emod_of_dvd _ hz]
  have e2 : (((2 ^ n - 1 : Nat) : Int) % ((2 ^ 64 : Nat) : Int)).toNat = 2 ^ n - 1 := by
    rw [Int.emod_eq_of_lt (by omega) (by omega)]; rfl
  have h2 : 0 ≤ x % ((2 ^ n : Nat) : Int) := Int.emod_nonneg _ (by omega)
  have h3 : x % ((2 ^ n : Nat) : Int) < ((2 ^ n : Nat) : Int) := Int.emod_lt_of_pos _ (by omega)
  show IntKind.i64.wrap ((BitVec.ofInt 64 x &&& BitVec.ofInt 64 ((2 ^ n - 1 : Nat) : Int)).toNat : Int) = _
  rw [BitVec.toNat_and, BitVec.toNat_ofInt, BitVec.toNat_ofInt, e2, Nat.and_two_pow_sub_one_eq_mod, e1]
  rw [Int.toNat_of_nonneg h2]
  generalize x % ((2 ^ n : Nat) : Int) = z at *
  simp [IntKind.wrap, IntKind.bits, IntKind.signed]
  omega
/-- The low bits by the mask 2h - 1. -/
theorem and_hlf (x : Int) {b : Int} (hb : 1 ≤ b) (hb2 : b ≤ 17) : bits .and .i64 x (2 * hlf b - 1) = x % (2 * hlf b) := by
  have h := and_mask x b.toNat (by omega)
  have e : ((2 ^ b.toNat : Nat) : Int) = 2 * hlf b := by
    unfold hlf
    obtain ⟨n, hn⟩ : ∃ n, b.toNat = n + 1 := ⟨b.toNat - 1, by omega⟩
    rw [hn, Nat.pow_succ]
    simp [Int.mul_comm]
  have hq : 0 < 2 ^ b.toNat := Nat.two_pow_pos _
  rw [e] at h
  rw [show ((2 ^ b.toNat - 1 : Nat) : Int) = 2 * hlf b - 1 by omega] at h
  exact h
/-- The kit's wrap. -/
theorem p_wrap (x b : Int) (w : World) (h1 : -9223372036854775808 ≤ x) (h2 : x ≤ 9223372036854775807) (hb : 1 ≤ b) (hb2 : b ≤ 17) :
    Calls Try.prog 43 #[.int .i64 x, .int .i64 b] w fun e w' => e = .returned (.int .i64 (Pk.wrp (hlf b) x)) ∧ w = w' := by
  have hsh := hlf_wrap hb2
  have p0 := hlf_pos b
  have p1 := hlf_le hb2
  have ov := wrp_over (x := x) hb2
  have am := fun z => and_hlf z hb hb2
  obtain ⟨h, eh⟩ : ∃ h, hlf b = h := ⟨_, rfl⟩
  rw [eh] at hsh p0 p1 ov ⊢
  simp only [eh] at am
  clear eh
  by_cases hx : x + h ≤ 9223372036854775807
  · have E : Hid ((x + h) % (2 * h) - h = Pk.wrp h x) := Lib.hid rfl
    have m0 := Int.emod_nonneg (x + h) (b := 2 * h) (by omega)
    have m1 := Int.emod_lt_of_pos (x + h) (b := 2 * h) (by omega)
    have am1 := am (x + h)
    clear ov am
    go_enter Try.func43, Try.ntmps43
    go_wp2
    go_ret
    exact ⟨ret_int E.out, rfl⟩
  · have E := Lib.hid ov
    have ew : IntKind.i64.wrap (x + h) = x + h - 18446744073709551616 := by
      have q : (x + h) % 18446744073709551616 = x + h := Int.emod_eq_of_lt (by omega) (by omega)
      unfold IntKind.wrap
      simp [IntKind.signed, IntKind.bits, q]
      omega
    obtain ⟨z, hz⟩ : ∃ z, x + h - 18446744073709551616 = z := ⟨_, rfl⟩
    rw [hz] at E ew
    have z1 : -9223372036854775808 ≤ z := by omega
    have z2 : z ≤ 9223372036854775807 := by omega
    have m0 := Int.emod_nonneg z (b := 2 * h) (by omega)
    have m1 := Int.emod_lt_of_pos z (b := 2 * h) (by omega)
    have am1 := am z
    clear ov hz am
    go_enter Try.func43, Try.ntmps43
    go_wp2
    go_ret
    exact ⟨ret_int E.out, rfl⟩
theorem p_within (n a b : Int) (w : World) :
    Calls Try.prog 60 #[.int .i64 n, .int .i64 a, .int .i64 b] w fun e w' => e = .returned (.bool (decide (a ≤ n ∧ n ≤ b))) ∧ w = w' := by
  by_cases h1 : a ≤ n
  · go_enter Try.func60, Try.ntmps60
    go_wp2
    go_ret
    exact ⟨ret_bool (by simp [h1]), rfl⟩
  · go_enter Try.func60, Try.ntmps60
    go_wp2
    go_ret
    exact ⟨ret_bool (by rw [decide_eq_false (p := a ≤ n) (by omega), Bool.false_and]), rfl⟩
theorem p_validBits (b : Int) (w : World) :
    Calls Try.prog 33 #[.int .i64 b] w fun e w' => e = .returned (.bool (b == 8 || b == 16)) ∧ w = w' := by
  go_enter Try.func33, Try.ntmps33
  go_wp2
  all_goals (go_ret; exact ⟨ret_bool (by rename_i h; simp [h]), rfl⟩)
theorem p_validBits_t (b : Int) (w : World) (h : b = 8 ∨ b = 16) :
    Calls Try.prog 33 #[.int .i64 b] w fun e w' => e = .returned (.bool true) ∧ w = w' := by
  have : (b == 8 || b == 16) = true := by rcases h with h | h <;> simp [h]
  exact this ▸ p_validBits b w
theorem p_validBits_f (b : Int) (w : World) (h : ¬ (b = 8 ∨ b = 16)) :
    Calls Try.prog 33 #[.int .i64 b] w fun e w' => e = .returned (.bool false) ∧ w = w' := by
  have : (b == 8 || b == 16) = false := by
    simp only [Bool.or_eq_false_iff, beq_eq_false_iff_ne]
    omega
  exact this ▸ p_validBits b w
/-- Can all numbers be written in so many bits? -/
def alw (l : List Int) (b : Int) : Bool := decide (∀ x ∈ l, Pk.wrp (hlf b) x = x)
theorem wrp_in {b x : Int} : Pk.wrp (hlf b) x = x ↔ -hlf b ≤ x ∧ x ≤ hlf b - 1 :=
  (Pk.wrp_iff (hlf_pos b)).trans ⟨fun h => ⟨h.1, by omega⟩, fun h => ⟨h.1, by omega⟩⟩
set_option maxHeartbeats 1600000 in
theorem p_allWithin (l : List Int) (p : Option Addr) (cap : Nat) (b : Int) (w : World) (hd : DatAt w p l) (hl : (l.length : Int) ≤ 1152921504606846976) (hb : 1 ≤ b) (hb2 : b ≤ 17) :
    Calls Try.prog 52 #[.slice p l.length cap, .int .i64 b] w fun e w' => e = .returned (.bool (alw l b)) ∧ w = w' := by
  have HD := Lib.hid hd
  have hsh := hlf_wrap hb2
  have p0 := hlf_pos b
  have p1 := hlf_le hb2
  have HWI := Lib.hid (fun x => wrp_in (b := b) (x := x))
  have HAL : Hid (alw l b = decide (∀ x ∈ l, Pk.wrp (hlf b) x = x)) := Lib.hid rfl
  obtain ⟨h, eh⟩ : ∃ h, hlf b = h := ⟨_, rfl⟩
  rw [eh] at hsh p0 p1 HAL
  simp only [eh] at HWI
  clear hd eh
  go_enter Try.func52, Try.ntmps52
  go_wp2
  rw [hsh]
  clear hsh
  go_loopw [13] (fun i wr => ∃ k : Nat, k ≤ l.length ∧ i = .int .i64 k ∧ wr = w ∧ Hid (∀ j, j < k → Pk.wrp h (l.getD j 0) = l.getD j 0)) (fun i _ => l.length - (intOf i).toNat)
  case atStart => exact ⟨0, by omega, rfl, rfl, fun j hj => by omega⟩
  case round =>
    obtain ⟨k, hk, rfl, rfl, HA⟩ := hrel
    by_cases hlt : k < l.length
    · obtain ⟨bd, od, hp1, hc1⟩ := HD.out.at (i := k) hlt
      obtain ⟨y, hy⟩ : ∃ y, l.getD k 0 = y := ⟨_, rfl⟩
      rw [hy] at hc1
      have HY := Lib.hid hy
      have C := Lib.hid (p_within y (-h) (h - 1) wr)
      clear hy
      subst hp1
      by_cases hf : -h ≤ y ∧ y ≤ h - 1
      · rw [decide_eq_true hf] at C
        have HF := Lib.hid ((HWI.out _).2 hf)
        clear hf
        go_wp2_with (first | (go_at_call 60; ((with_reducible refine C.out.mono ?_); rintro x' w' ⟨rfl, rfl⟩)))
        go_roundw
        case rel => exact ⟨k + 1, by omega, by go_num, trivial, all_split (P := fun x => Pk.wrp h x = x) HA.out (HY.out ▸ HF.out)⟩
        case measure => simp [intOf]; omega
      · rw [decide_eq_false hf] at C
        have HF := Lib.hid (mt (HWI.out _).1 hf)
        clear hf
        go_wp2_with (first | (go_at_call 60; ((with_reducible refine C.out.mono ?_); rintro x' w' ⟨rfl, rfl⟩)))
        go_ret
        have e : alw l b = false := by
          rw [HAL.out, decide_eq_false]
          intro ha
          have := getD_in (P := fun x => Pk.wrp h x = x) ha hlt
          rw [HY.out] at this
          exact HF.out this
        exact ⟨ret_bool e.symm, rfl⟩
    · have HW := Lib.hid (show alw l b = true by
        rw [HAL.out, decide_eq_true]
        exact all_of (P := fun x => Pk.wrp h x = x) fun j hj => HA.out j (by omega))
      go_wp2
      go_ret
      exact ⟨ret_bool HW.out.symm, rfl⟩
theorem p_askData (l : List Int) (p : Option Addr) (cap : Nat) (b : Int) (w : World) (hd : DatAt w p l) (hl : (l.length : Int) ≤ 1152921504606846976) :
    Calls Try.prog 24 #[.slice p l.length cap, .int .i64 b] w fun e w' => e = .returned (.int .i64 (whl l b)) ∧ w = w' := by
  by_cases h : b = 8 ∨ b = 16
  · have R := Lib.hid (p_validBits_t b w h)
    have HB := Lib.hid h
    have A := Lib.hid (p_allWithin l p cap b w hd hl (by omega) (by omega))
    clear h hd
    by_cases ha : ∀ x ∈ l, Pk.wrp (hlf b) x = x
    · have e : alw l b = true := decide_eq_true ha
      rw [e] at A
      have HW := Lib.hid (show whl l b = if 4096 < l.length then 3 else 0 by
        unfold whl
        rw [if_pos HB.out, if_pos ha])
      clear ha e
      by_cases h4 : 4096 < l.length
      · rw [if_pos h4] at HW
        go_enter Try.func24, Try.ntmps24
        go_wp2_with (first | (go_at_call 33; ((with_reducible refine R.out.mono ?_); rintro x' w' ⟨rfl, rfl⟩)) | (go_at_call 52; ((with_reducible refine A.out.mono ?_); rintro x' w' ⟨rfl, rfl⟩)))
        go_ret
        exact ⟨ret_int HW.out.symm, rfl⟩
      · rw [if_neg h4] at HW
        go_enter Try.func24, Try.ntmps24
        go_wp2_with (first | (go_at_call 33; ((with_reducible refine R.out.mono ?_); rintro x' w' ⟨rfl, rfl⟩)) | (go_at_call 52; ((with_reducible refine A.out.mono ?_); rintro x' w' ⟨rfl, rfl⟩)))
        go_ret
        exact ⟨ret_int HW.out.symm, rfl⟩
    · have e : alw l b = false := decide_eq_false ha
      rw [e] at A
      have HW := Lib.hid (show whl l b = 1 by
        unfold whl
        rw [if_pos HB.out, if_neg ha])
      clear ha e
      go_enter Try.func24, Try.ntmps24
      go_wp2_with (first | (go_at_call 33; ((with_reducible refine R.out.mono ?_); rintro x' w' ⟨rfl, rfl⟩)) | (go_at_call 52; ((with_reducible refine A.out.mono ?_); rintro x' w' ⟨rfl, rfl⟩)))
      go_ret
      exact ⟨ret_int HW.out.symm, rfl⟩
  · have R := Lib.hid (p_validBits_f b w h)
    have HW := Lib.hid (show whl l b = 1 by unfold whl; rw [if_neg h])
    clear h hd
    go_enter Try.func24, Try.ntmps24
    go_wp2_with (first | (go_at_call 33; ((with_reducible refine R.out.mono ?_); rintro x' w' ⟨rfl, rfl⟩)))
    go_ret
    exact ⟨ret_int HW.out.symm, rfl⟩
theorem p_askBytes (p : Option Addr) (m cap : Nat) (n : Int) (w : World) (hl : (m : Int) ≤ 1152921504606846976) :
    Calls Try.prog 34 #[.slice p m cap, .int .i64 n] w fun e w' => e = .returned (.int .i64 (ask m n)) ∧ w = w' := by
  by_cases h1 : 400000 < m
  · have e : Hid (ask m n = 3) := Lib.hid (by unfold ask; rw [if_pos h1])
    go_enter Try.func34, Try.ntmps34
    go_wp2
    go_ret
    exact ⟨ret_int e.out.symm, rfl⟩
  · have C := Lib.hid (p_within n 0 4096 w)
    by_cases h2 : 0 ≤ n ∧ n ≤ 4096
    · have e : Hid (ask m n = 0) := Lib.hid (by unfold ask; rw [if_neg h1, if_neg]; omega)
      rw [decide_eq_true h2] at C
      clear h2
      go_enter Try.func34, Try.ntmps34
      go_wp2_with (first | (go_at_call 60; ((with_reducible refine C.out.mono ?_); rintro x' w' ⟨rfl, rfl⟩)))
      go_ret
      exact ⟨ret_int e.out.symm, rfl⟩
    · have e : Hid (ask m n = 5) := Lib.hid (by unfold ask; rw [if_neg h1, if_pos]; omega)
      rw [decide_eq_false h2] at C
      clear h2
      go_enter Try.func34, Try.ntmps34
      go_wp2_with (first | (go_at_call 60; ((with_reducible refine C.out.mono ?_); rintro x' w' ⟨rfl, rfl⟩)))
      go_ret
      exact ⟨ret_int e.out.symm, rfl⟩
theorem p_validTable (l : List Int) (p : Option Addr) (cap : Nat) (w : World) (hd : DatAt w p l) (hl : (l.length : Int) ≤ 1152921504606846976) :
    Calls Try.prog 49 #[.slice p l.length cap] w fun e w' => e = .returned (.bool (tbl l)) ∧ w = w' := by
  have A := Lib.hid (p_allWithin l p cap 8 w hd hl (by omega) (by omega))
  have HT : Hid (tbl l = (alw l 8 && decide (l.length = 16))) := Lib.hid rfl
  obtain ⟨z, hz⟩ : ∃ z, alw l 8 = z := ⟨_, rfl⟩
  rw [hz] at A HT
  clear hz hd
  by_cases h : l.length = 16
  · rw [decide_eq_true h] at HT
    rw [h] at A ⊢
    clear h hl
    go_enter Try.func49, Try.ntmps49
    go_wp2_with (first | (go_at_call 52; ((with_reducible refine A.out.mono ?_); rintro x' w' ⟨rfl, rfl⟩)))
    go_ret
    exact ⟨ret_bool (by rw [HT.out]; simp), rfl⟩
  · rw [decide_eq_false h] at HT
    have h2 : ((l.length : Int) == 16) = false := by simp; omega
    clear h hl
    go_enter Try.func49, Try.ntmps49
    go_wp2_with (first | (go_at_call 52; ((with_reducible refine A.out.mono ?_); rintro x' w' ⟨rfl, rfl⟩)))
    go_ret
    exact ⟨ret_bool (by rw [HT.out]; simp), rfl⟩
end Go.Proofs.Ytfljgdehbogimaa

/-
  Contracts of package pack's bitReader, its function literal, and readBlock.
-/
import Derived.Test.YtfljgdehbogimaaPUnn
namespace Go.Proofs.Ytfljgdehbogimaa
open Go.RowKit

theorem p_bitReader (pb : Option Addr) (n c : Nat) (w : World) (s : Nat) (hs : w.heap.size = s) :
    Calls Try.prog 63 #[.slice pb n c] w fun e w' => e = .returned (.func (.func 70) #[] #[.pointer (some ⟨s, 0, none⟩), .pointer (some ⟨s + 1, 0, none⟩)]) ∧ Made2 w w' s (.slice pb n c) (.int .i64 0) 24 3 := by
  have HM := Lib.hid (made2_of w s hs (.slice pb n c) (.int .i64 0) 24 3)
  subst hs
  go_enter Try.func63, Try.ntmps63
  go_wp2
  go_ret
  exact ⟨rfl, HM.out⟩
theorem ent_take (args : Array Value) (w : World) : (callFunc 70 args).run Try.prog w = .ok (.enter 70 args) w := by kernel_rfl
theorem or64 {y b : Int} {r : Nat} (y0 : 0 ≤ y) (y1 : y < 2 ^ r) (hr : r ≤ 16) (hb : b = 0 ∨ b = 1) : bits .or .i64 y (b * 2 ^ r) = y + b * 2 ^ r := by
  have e : ((2 ^ r : Nat) : Int) = (2 : Int) ^ r := by norm_cast
  have hq : (2 : Nat) ^ r ≤ 2 ^ 16 := Nat.pow_le_pow_right (by decide) hr
  have hp : (0 : Int) < 2 ^ r := Int.pow_pos (by decide)
  have hz : ∀ z : Int, 0 ≤ z → z ≤ 131072 → (z % ((2 ^ 64 : Nat) : Int)).toNat = z.toNat := fun z h1 h2 => by rw [Int.emod_eq_of_lt h1 (by omega)]
  show IntKind.i64.wrap ((BitVec.ofInt 64 y ||| BitVec.ofInt 64 (b * 2 ^ r)).toNat : Int) = _
  rw [BitVec.toNat_or, BitVec.toNat_ofInt, BitVec.toNat_ofInt, hz y y0 (by omega)]
  rcases hb with rfl | rfl
  · simp [IntKind.wrap, IntKind.signed, IntKind.bits]
    omega
  · rw [Int.one_mul, hz _ (by omega) (by omega)]
    have e4 : ((2 : Int) ^ r).toNat = 2 ^ r := by omega
    have e2 : 2 ^ r * 1 + y.toNat = 2 ^ r * 1 ||| y.toNat := Nat.two_pow_add_eq_or_of_lt (by omega) 1
    rw [e4, Nat.or_comm, ← Nat.mul_one (2 ^ r), ← e2]
    have e3 : ((2 ^ r * 1 + y.toNat : Nat) : Int) = y + 2 ^ r := by omega
    rw [e3]
    generalize hm : (2 : Int) ^ r = m at *
    have hm2 : m ≤ 65536 := by omega
    simp [IntKind.wrap, IntKind.signed, IntKind.bits]
    omega
theorem shl64 {b : Int} {r : Nat} (hr : r ≤ 16) (hb : b = 0 ∨ b = 1) : IntKind.i64.wrap (b * 2 ^ r) = b * 2 ^ r := by
  have e : ((2 ^ r : Nat) : Int) = (2 : Int) ^ r := by norm_cast
  have hq : (2 : Nat) ^ r ≤ 2 ^ 16 := Nat.pow_le_pow_right (by decide) hr
  have hp : (0 : Int) < 2 ^ r := Int.pow_pos (by decide)
  rcases hb with rfl | rfl
  · simp [IntKind.wrap, IntKind.signed, IntKind.bits]
  · rw [Int.one_mul]
    generalize hm : (2 : Int) ^ r = m at *
    have hm2 : m ≤ 65536 := by omega
    simp [IntKind.wrap, IntKind.signed, IntKind.bits]
    omega
theorem bit_and64 (x : Int) (k : Nat) : bits .and .i64 (x / 2 ^ k) 1 = Pk.bitI x k := by
  have := and_mask (x / 2 ^ k) 1 (by omega)
  simpa [Pk.bitI] using this
/-- The reader's state: at bit n of the bytes that lie at pb. -/
structure RdS (s : Nat) (pb : Option Addr) (lb c n : Nat) (w : World) : Prop where
  at_ : One w (s + 1) (.int .i64 n) 3
  sl : One w s (.slice pb lb c) 24
theorem RdS.drew {s lb c n : Nat} {pb : Option Addr} {w : World} (h : RdS s pb lb c n w) : RdS s pb lb c n w.drew := ⟨h.at_, h.sl⟩
theorem RdS.tick {s lb c n : Nat} {pb : Option Addr} {w : World} (h : RdS s pb lb c n w) (m : Nat) : RdS s pb lb c m (w.setCell ⟨s + 1, 0, none⟩ (.int .i64 m)) := ⟨h.at_.set _, h.sl.other (by show s ≠ s + 1; omega) _⟩
theorem Mid.drew {lo hi : Nat} {w w' : World} (h : Mid lo hi w w') : Mid lo hi w w'.drew := ⟨h.os, h.tape, h.output, h.size, h.block⟩
set_option maxRecDepth 20000 in
set_option maxHeartbeats 3200000 in
theorem c_take (s lb c n cnt : Nat) (pb : Option Addr) (b : List Int) (w : World) (hS : RdS s pb lb c n w) (hlb : b.length = lb) (hd : ∀ w', Mid s (s + 2) w w' → BytAt w' pb b) (hdb : ∀ x ∈ b, 0 ≤ x ∧ x < 256) (hc : (cnt : Int) ≤ 16) (hn : (n : Int) + cnt ≤ 8 * lb) (hl : (lb : Int) ≤ 400000) :
    Calls Try.prog 70 #[.int .i64 cnt, .pointer (some ⟨s, 0, none⟩), .pointer (some ⟨s + 1, 0, none⟩)] w fun e w' => e = .returned (.int .i64 (Pk.rdv b n cnt)) ∧ RdS s pb lb c (n + cnt) w' ∧ Mid s (s + 2) w w' := by
  have HS := Lib.hid hS
  have HD := Lib.hid hd
  have HDB := Lib.hid hdb
  have HLB := Lib.hid hlb
  clear hS hd hdb hlb
  go_enter Try.func70, Try.ntmps70
  go_wp2
  go_loopw [5, 9] (fun v i wr => ∃ k : Nat, k ≤ cnt ∧ i = .int .i64 k ∧ v = .int .i64 (Pk.rdv b n k) ∧ Hid (RdS s pb lb c (n + k) wr) ∧ Hid (Mid s (s + 2) w wr)) (fun _ i _ => cnt - (intOf i).toNat)
  case atStart => exact ⟨0, by omega, rfl, rfl, HS.out, Mid.refl _ _ _⟩
  case round =>
    clear HS
    obtain ⟨k, hk, rfl, rfl, HS, HM⟩ := hrel
    have a1 := HS.out.at_.cell
    have a2 := HS.out.sl.cell
    have a3 := HS.out.at_.free
    by_cases hlt : k < cnt
    · obtain ⟨m, hm⟩ : ∃ m, n + k = m := ⟨_, rfl⟩
      rw [hm] at a1
      obtain ⟨j, hj⟩ : ∃ j, m / 8 = j := ⟨_, rfl⟩
      obtain ⟨bd, od, hp1, hc1⟩ := (HD.out wr HM.out).at (i := j) (by rw [HLB.out]; omega)
      have hjI : (j : Int) < (lb : Int) := by omega
      obtain ⟨y, hy⟩ : ∃ y, b.getD j 0 = y := ⟨_, rfl⟩
      have y0 := getD_in (P := fun x => 0 ≤ x ∧ x < 256) HDB.out (show j < b.length by rw [HLB.out]; omega)
      rw [hy] at hc1 y0
      have hbit := bit_and64 y (m % 8)
      have hb01 := Pk.bitI_01 y (m % 8)
      have hst : Pk.rdv b n (k + 1) = Pk.rdv b n k + Pk.bitI y (m % 8) * 2 ^ k := by
        unfold Pk.rdv
        simp only [Pk.bsum]
        rw [hm, hj, hy]
      have hv0 : 0 ≤ Pk.rdv b n k := Pk.bsum_lo (Pk.rdv_bits b n) k
      have hv1 : Pk.rdv b n k < 2 ^ k := Pk.bsum_hi (Pk.rdv_bits b n) k
      have hsh := shl64 (r := k) (by omega) hb01
      have hor := or64 (r := k) hv0 hv1 (by omega) hb01
      obtain ⟨V, hV⟩ : ∃ V, Pk.rdv b n k = V := ⟨_, rfl⟩
      obtain ⟨V2, hV2⟩ : ∃ V2, Pk.rdv b n (k + 1) = V2 := ⟨_, rfl⟩
      obtain ⟨bt, hbt⟩ : ∃ bt, Pk.bitI y (m % 8) = bt := ⟨_, rfl⟩
      obtain ⟨q, hq⟩ : ∃ q, bt * 2 ^ k = q := ⟨_, rfl⟩
      have hb01' : bt = 0 ∨ bt = 1 := hbt ▸ hb01
      rw [hbt] at hbit hst hsh hor
      rw [hV] at hst hor ⊢
      rw [hq] at hst hsh hor
      rw [← hst, hV2] at hor
      have hd1 : (m : Int) / 8 = (j : Int) := by omega
      have hd2 : (m : Int).tdiv 8 = (j : Int) := by rw [Int.tdiv_eq_ediv_of_nonneg (by omega)]; omega
      have hsh2 : IntKind.i64.wrap (bt * 2 ^ k) = q := by rw [hq]; exact hsh
      have hq0 : 0 ≤ q ∧ q ≤ 65536 := by
        have e : ((2 ^ k : Nat) : Int) = (2 : Int) ^ k := by norm_cast
        have h2 : (2 : Nat) ^ k ≤ 2 ^ 16 := Nat.pow_le_pow_right (by decide) (by omega)
        rw [← hq]
        rcases hb01' with h | h <;> rw [h] <;> omega
      have HFIN := Lib.hid (show bits .or .i64 V (wrap64 (bits .and .i64 (wrap64 (y / 2 ^ (m % 8))) 1 * 2 ^ k)) = V2 by
        have hw : wrap64 (y / 2 ^ (m % 8)) = y / 2 ^ (m % 8) := by
          have h1 : 0 ≤ y / 2 ^ (m % 8) := Int.ediv_nonneg y0.1 (Int.le_of_lt (Pk.pow_pos2 _))
          have h2 : y / 2 ^ (m % 8) ≤ y := Int.ediv_le_self _ y0.1
          generalize y / 2 ^ (m % 8) = z at *
          exact IntWalk.wrap64_in (by omega) (by omega)
        rw [hw, hbit]
        have hs2 : wrap64 (bt * 2 ^ k) = q := by rw [hq]; exact IntWalk.wrap64_in (by omega) (by omega)
        rw [hs2, hor])
      have HV2 := Lib.hid hV2
      have HMM := Lib.hid hm
      clear hm hj hy hb01 hb01' hq0 hst hv0 hv1 hV hV2 hbt hq hsh
      subst hp1
      go_wp2
      go_region
      go_wp2
      go_roundw
      case rel => exact ⟨k + 1, by omega, by go_num, by rw [HV2.out, HFIN.out], by rw [← Nat.add_assoc, HMM.out]; exact (HS.out.drew).tick (m + 1), HM.out.drew.trans (mid_set _ _ (by show s ≤ s + 1; omega) (by show s + 1 < s + 2; omega))⟩
      case measure => simp [intOf]; omega
    · have e : k = cnt := by omega
      subst e
      go_wp2
      go_ret
      exact ⟨rfl, HS.out, HM.out⟩
end Go.Proofs.Ytfljgdehbogimaa

/-
  The contract of the reference's tabled: may a table be one?
-/
import Derived.Test.YtfljgdehbogimaaRefWhl
namespace Go.Proofs.Ytfljgdehbogimaa
open Go.RowKit

/-- May a table be one? -/
def tbl (l : List Int) : Bool := decide (∀ x ∈ l, Pk.wrp (hlf 8) x = x) && decide (l.length = 16)
set_option maxHeartbeats 1600000 in
theorem rtabled_any (l : List Int) (p : Option Addr) (cap : Nat) (w : World) (hd : DatAt w p l) (hi : ∀ x ∈ l, -9223372036854775808 ≤ x ∧ x ≤ 9223372036854775807) (hl : (l.length : Int) ≤ 1152921504606846976) :
    Calls Try.prog 51 #[.slice p l.length cap] w fun e w' => e = .returned (.bool (tbl l)) ∧ w = w' := by
  have HD := Lib.hid hd
  have HI := Lib.hid hi
  clear hd hi
  go_enter Try.func51, Try.ntmps51
  go_wp2
  go_loopw [3] (fun i wr => ∃ k : Nat, k ≤ l.length ∧ i = .int .i64 k ∧ wr = w ∧ Hid (∀ j, j < k → Pk.wrp (hlf 8) (l.getD j 0) = l.getD j 0)) (fun i _ => l.length - (intOf i).toNat)
  case atStart => exact ⟨0, by omega, rfl, rfl, fun j hj => by omega⟩
  case round =>
    obtain ⟨k, hk, rfl, rfl, HA⟩ := hrel
    by_cases hlt : k < l.length
    · obtain ⟨bd, od, hp1, hc1⟩ := HD.out.at (i := k) hlt
      obtain ⟨y, hy⟩ : ∃ y, l.getD k 0 = y := ⟨_, rfl⟩
      have y0 := getD_in (P := fun x => -9223372036854775808 ≤ x ∧ x ≤ 9223372036854775807) HI.out hlt
      rw [hy] at hc1 y0
      have HY := Lib.hid hy
      have C := Lib.hid (rfits_any y 8 wr y0.1 y0.2 (by omega) (by omega))
      clear hy
      subst hp1
      by_cases hf : Pk.wrp (hlf 8) y = y
      · rw [decide_eq_true hf] at C
        have HF := Lib.hid hf
        clear hf
        go_wp2_with (first | (go_at_call 54; ((with_reducible refine C.out.mono ?_); rintro x' w' ⟨rfl, rfl⟩)))
        go_roundw
        case rel => exact ⟨k + 1, by omega, by go_num, trivial, all_split (P := fun x => Pk.wrp (hlf 8) x = x) HA.out (HY.out ▸ HF.out)⟩
        case measure => simp [intOf]; omega
      · rw [decide_eq_false hf] at C
        have HF := Lib.hid hf
        clear hf
        go_wp2_with (first | (go_at_call 54; ((with_reducible refine C.out.mono ?_); rintro x' w' ⟨rfl, rfl⟩)))
        go_ret
        have e : tbl l = false := by
          unfold tbl
          rw [decide_eq_false, Bool.false_and]
          intro ha
          have := getD_in (P := fun x => Pk.wrp (hlf 8) x = x) ha hlt
          rw [HY.out] at this
          exact HF.out this
        exact ⟨ret_bool e.symm, rfl⟩
    · have HW := Lib.hid (show tbl l = decide (l.length = 16) by
        unfold tbl
        rw [decide_eq_true, Bool.true_and]
        exact all_of (P := fun x => Pk.wrp (hlf 8) x = x) fun j hj => HA.out j (by omega))
      by_cases h4 : l.length = 16
      · rw [decide_eq_true h4] at HW
        go_wp2
        go_ret
        exact ⟨ret_bool (by rw [HW.out]), rfl⟩
      · rw [decide_eq_false h4] at HW
        go_wp2
        go_ret
        exact ⟨ret_bool (by rw [HW.out]; simp; omega), rfl⟩
end Go.Proofs.Ytfljgdehbogimaa

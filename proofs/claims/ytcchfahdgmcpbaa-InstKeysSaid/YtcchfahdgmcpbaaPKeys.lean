/-
  The contracts of the library's slices.IndexFunc and slices.ContainsFunc at keys, and of package inst's validKeys.
-/
import Derived.Test.YtcchfahdgmcpbaaPName
namespace Go.Proofs.Ytcchfahdgmcpbaa
open Go.RowKit

set_option maxHeartbeats 1600000 in
theorem p_index (ks : List (Int × Int)) (p : Option Addr) (cap : Nat) (w : World) (hd : PtsAt w p ks) (hl : (ks.length : Int) ≤ 120) :
    Calls Try.prog 64 #[.slice p ks.length cap, .func (.func 59) #[] #[]] w fun x w' => (∃ z, x = .returned (.int .i64 z) ∧ Hid (decide (0 ≤ z) = !In.kall ks)) ∧ Below w.heap.size w w' := by
  have HD := Lib.hid hd
  clear hd
  go_enter Try.func64, Try.ntmps64
  go_wp2
  go_loopw [8] (fun i wr => ∃ k : Nat, k ≤ ks.length ∧ i = .int .i64 k ∧ Hid (∀ j, j < k → In.kok ks j = true) ∧ Hid (Below w.heap.size w wr)) (fun i _ => ks.length - (intOf i).toNat)
  case atStart => exact ⟨0, by omega, rfl, fun _ h => by omega, Below.refl _ _⟩
  case round =>
    obtain ⟨k, hk, rfl, HN, HB⟩ := hrel
    by_cases hlt : k < ks.length
    · obtain ⟨b, off, hp, hc1, hc2⟩ := (HD.out.below HB.out).at hlt
      subst hp
      obtain ⟨v, hv⟩ : ∃ v, In.kok ks k = v := ⟨_, rfl⟩
      have HV := Lib.hid hv
      have C := Lib.hid (fun w => p_keybad (In.tk ks k) (In.vl ks k) w)
      rw [show (In.wth (In.tk ks k) 0 119 && In.wth (In.vl ks k) 0 31) = v from hv] at C
      obtain ⟨x, hx⟩ : ∃ x, In.tk ks k = x := ⟨_, rfl⟩
      obtain ⟨y, hy⟩ : ∃ y, In.vl ks k = y := ⟨_, rfl⟩
      rw [hx, hy] at C
      rw [hx] at hc1
      rw [hy] at hc2
      clear hv hx hy
      cases v
      · have HE := Lib.hid (show decide (0 ≤ (k : Int)) = !In.kall ks by rw [In.kall_bad k hlt HV.out]; exact decide_eq_true (by omega))
        go_wp2_with (first | (go_at_call 59; ((with_reducible refine (C.out _).mono ?_); rintro x' w1 ⟨rfl, hb1⟩)))
        go_ret
        exact ⟨⟨_, rfl, HE.out⟩, stepB HB.out hb1⟩
      · go_wp2_with (first | (go_at_call 59; ((with_reducible refine (C.out _).mono ?_); rintro x' w1 ⟨rfl, hb1⟩)))
        go_roundw
        case rel => exact ⟨k + 1, by omega, by go_num, fun j hj => by
          by_cases e : j = k
          · subst e; exact HV.out
          · exact HN.out j (by omega), stepB HB.out hb1⟩
        case measure => simp [intOf]; omega
    · have HE := Lib.hid (show decide ((0 : Int) ≤ -1) = !In.kall ks by rw [In.kall_mk fun j hj => HN.out j (by omega)]; rfl)
      go_wp2
      go_ret
      exact ⟨⟨_, rfl, HE.out⟩, HB.out⟩
theorem p_anybad (ks : List (Int × Int)) (p : Option Addr) (cap : Nat) (w : World) (hd : PtsAt w p ks) (hl : (ks.length : Int) ≤ 120) :
    Calls Try.prog 58 #[.slice p ks.length cap, .func (.func 59) #[] #[]] w fun x w' => x = .returned (.bool (!In.kall ks)) ∧ Below w.heap.size w w' := by
  have C := Lib.hid (p_index ks p cap w hd hl)
  clear hd
  obtain ⟨v, hv⟩ : ∃ v, (!In.kall ks) = v := ⟨_, rfl⟩
  rw [hv] at C ⊢
  clear hv
  go_enter Try.func58, Try.ntmps58
  go_wp2_with (first | (go_at_call 64; ((with_reducible refine C.out.mono ?_); rintro x' w1 ⟨⟨z, rfl, HZ⟩, hb1⟩)))
  go_ret
  exact ⟨ret_bool HZ.out, hb1⟩
theorem p_keys (ks : List (Int × Int)) (p : Option Addr) (cap : Nat) (w : World) (hd : PtsAt w p ks) :
    Calls Try.prog 45 #[.slice p ks.length cap] w fun x w' => x = .returned (.bool (In.kys ks)) ∧ Below w.heap.size w w' := by
  by_cases h0 : ks = []
  · have HE := Lib.hid (show In.kys ks = true by unfold In.kys; rw [decide_eq_true h0]; rfl)
    rw [HE.out]
    subst h0
    clear HE
    go_enter Try.func45, Try.ntmps45
    go_wp2
    go_ret
    exact ⟨rfl, Below.refl _ _⟩
  · have hp : 0 < ks.length := List.length_pos_iff.2 h0
    have hne : ((ks.length : Int) == 0) = false := by simp; exact h0
    by_cases h1 : (ks.length : Int) = 120
    · have HE := Lib.hid (show In.kys ks = In.kall ks by unfold In.kys; rw [decide_eq_false h0, decide_eq_true h1]; rfl)
      have C := Lib.hid (p_anybad ks p cap w hd (by omega))
      obtain ⟨v, hv⟩ : ∃ v, In.kall ks = v := ⟨_, rfl⟩
      rw [hv] at C HE
      have hy : ((ks.length : Int) == 120) = true := by rw [h1]; rfl
      clear hv hd h0 h1
      cases v
      all_goals
        go_enter Try.func45, Try.ntmps45
        go_wp2_with (first | (go_at_call 58; ((with_reducible refine C.out.mono ?_); rintro x' w1 ⟨rfl, hb1⟩)))
        go_ret
        exact ⟨ret_bool HE.out.symm, hb1⟩
    · have HE := Lib.hid (show In.kys ks = false by unfold In.kys; rw [decide_eq_false h0, decide_eq_false h1]; rfl)
      have hy : ((ks.length : Int) == 120) = false := by simp; omega
      clear hd h0 h1
      go_enter Try.func45, Try.ntmps45
      go_wp2
      go_ret
      exact ⟨ret_bool HE.out.symm, Below.refl _ _⟩
end Go.Proofs.Ytcchfahdgmcpbaa

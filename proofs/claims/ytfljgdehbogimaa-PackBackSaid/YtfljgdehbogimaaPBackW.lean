/-
  PackBack's walk, all ways: for any data, bits, version and number the law returns true; nothing that was there is changed.
-/
import Derived.Test.YtfljgdehbogimaaPBack
namespace Go.Proofs.Ytfljgdehbogimaa
open Go.RowKit

theorem whl_val (l : List Int) (b : Int) : whl l b = 0 ∨ whl l b = 1 ∨ whl l b = 3 := by
  unfold whl
  repeat' split
  all_goals omega
set_option maxRecDepth 20000 in
set_option maxHeartbeats 1600000 in
theorem back_bad (l : List Int) (p : Option Addr) (cap : Nat) (b v k z f : Int) (w : World) (hd : DatAt w p l) (hl : (l.length : Int) ≤ 1152921504606846976) (hz : whl l b = z) (hf : blkE l b v = f) (h : z = f ∧ z ≠ 0 ∨ z = 0 ∧ f = 1 ∨ z = 3 ∧ f = 1) :
    Calls Try.prog 5 #[.slice p l.length cap, .int .i64 b, .int .i64 v, .int .i64 k] w fun e w' => e = .returned (.bool true) ∧ Below w.heap.size w w' := by
  have D0 := p_Delta l p cap b w hd hl
  rw [hz] at D0
  have DW := Lib.hid D0
  have KW := Lib.hid (fun w1 (hd1 : DatAt w1 p l) => by
    have := p_Blocks l p cap b v w1 hd1 hl
    rw [hf] at this
    exact this)
  have A := Lib.hid (fun w1 => p_awake w1)
  have HD := Lib.hid hd
  clear D0 hd hz hf hl
  rcases h with ⟨rfl, h⟩ | ⟨rfl, rfl⟩ | ⟨rfl, rfl⟩
  · have h2 : (z != 0) = true := by simpa using h
    clear h
    go_enter Try.func5, Try.ntmps5
    go_wp2_with (first
      | (go_at_call 9; ((with_reducible refine DW.out.mono ?_); rintro x' w1 ⟨⟨u, rfl, _, _⟩, hb⟩; have WB1 := Lib.hid hb; clear hb))
      | (go_at_call 11; ((with_reducible refine (KW.out _ (HD.out.below WB1.out)).mono ?_); rintro x' w2 ⟨⟨u2, rfl, _, _⟩, hb⟩; have WB2 := Lib.hid (stepB WB1.out hb); clear hb))
      | (go_at_call 8; ((with_reducible refine (A.out _).mono ?_); rintro x' w9 ⟨rfl, hb⟩; have WB9 := Lib.hid (stepB WB2.out hb); clear hb)))
    go_ret
    exact ⟨rfl, WB9.out⟩
  · go_enter Try.func5, Try.ntmps5
    go_wp2_with (first
      | (go_at_call 9; ((with_reducible refine DW.out.mono ?_); rintro x' w1 ⟨⟨u, rfl, _, _⟩, hb⟩; have WB1 := Lib.hid hb; clear hb))
      | (go_at_call 11; ((with_reducible refine (KW.out _ (HD.out.below WB1.out)).mono ?_); rintro x' w2 ⟨⟨u2, rfl, _, _⟩, hb⟩; have WB2 := Lib.hid (stepB WB1.out hb); clear hb))
      | (go_at_call 8; ((with_reducible refine (A.out _).mono ?_); rintro x' w9 ⟨rfl, hb⟩; have WB9 := Lib.hid (stepB WB2.out hb); clear hb)))
    go_ret
    exact ⟨rfl, WB9.out⟩
  · go_enter Try.func5, Try.ntmps5
    go_wp2_with (first
      | (go_at_call 9; ((with_reducible refine DW.out.mono ?_); rintro x' w1 ⟨⟨u, rfl, _, _⟩, hb⟩; have WB1 := Lib.hid hb; clear hb))
      | (go_at_call 11; ((with_reducible refine (KW.out _ (HD.out.below WB1.out)).mono ?_); rintro x' w2 ⟨⟨u2, rfl, _, _⟩, hb⟩; have WB2 := Lib.hid (stepB WB1.out hb); clear hb))
      | (go_at_call 8; ((with_reducible refine (A.out _).mono ?_); rintro x' w9 ⟨rfl, hb⟩; have WB9 := Lib.hid (stepB WB2.out hb); clear hb)))
    go_ret
    exact ⟨rfl, WB9.out⟩
theorem back_any (l : List Int) (p : Option Addr) (cap : Nat) (b v k : Int) (w : World) (hd : DatAt w p l) (hl : (l.length : Int) ≤ 140737488351232) (_hi : ∀ x ∈ l, -9223372036854775808 ≤ x ∧ x ≤ 9223372036854775807) (_hb : -9223372036854775808 ≤ b ∧ b ≤ 9223372036854775807) (_hv : -9223372036854775808 ≤ v ∧ v ≤ 9223372036854775807) (_hk : -9223372036854775808 ≤ k ∧ k ≤ 9223372036854775807) :
    Calls Try.prog 5 #[.slice p l.length cap, .int .i64 b, .int .i64 v, .int .i64 k] w fun e w' => e = .returned (.bool true) ∧ Below w.heap.size w w' := by
  have hl2 : (l.length : Int) ≤ 1152921504606846976 := by omega
  have hw := whl_val l b
  by_cases hv : v = 1 ∨ v = 2
  · have e : blkE l b v = whl l b := if_pos hv
    by_cases h : whl l b = 0
    · exact back_ok l p cap b v k w hd hl2 h hv
    · exact back_bad l p cap b v k _ _ w hd hl2 rfl e (.inl ⟨rfl, h⟩)
  · have e : blkE l b v = 1 := if_neg hv
    exact back_bad l p cap b v k _ _ w hd hl2 rfl e (by omega)
end Go.Proofs.Ytfljgdehbogimaa

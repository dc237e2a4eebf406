/-
  PackReads' walk: for any bytes, bits, version and number the law returns true; nothing that was there is changed.
-/
import Derived.Test.YtfljgdehbogimaaPReads
namespace Go.Proofs.Ytfljgdehbogimaa
open Go.RowKit

theorem p_same_two (X : List Int) (L : Nat) (pa pb : Option Addr) (ca cb : Nat) (w : World) (hX : X.length = L) (h4 : L ≤ 4096) (ha : DatAt w pa X) (hb : DatAt w pb X) :
    Calls Try.prog 15 #[.slice pa L ca, .slice pb L cb] w fun e w' => e = .returned (.bool true) ∧ Below w.heap.size w w' := by
  have := p_same X X pa pb L L ca cb w hX hX (by omega) (by omega) ha hb
  rw [show sml X X = true from decide_eq_true rfl] at this
  exact this
set_option maxRecDepth 20000 in
set_option maxHeartbeats 1600000 in
theorem reads_any (bs : List Int) (p : Option Addr) (cap : Nat) (b v n : Int) (w : World) (hd : BytAt w p bs) (hl : (bs.length : Int) ≤ 140737488351232) (hi : ∀ x ∈ bs, 0 ≤ x ∧ x < 256) (hc : bs.length ≤ cap) (_hb : -9223372036854775808 ≤ b ∧ b ≤ 9223372036854775807) (_hv : -9223372036854775808 ≤ v ∧ v ≤ 9223372036854775807) (_hn : -9223372036854775808 ≤ n ∧ n ≤ 9223372036854775807) :
    Calls Try.prog 4 #[.slice p bs.length cap, .int .i64 b, .int .i64 v, .int .i64 n] w fun e w' => e = .returned (.bool true) ∧ Below w.heap.size w w' := by
  obtain ⟨X, L, m, z, hX, hL, U1, U2⟩ := und_same bs b n hi (by omega)
  obtain ⟨Y, M, u, o, y, hY, hM, K1, K2⟩ := unb_same bs b v n hi (by omega)
  have U1 := Lib.hid (fun w1 => U1 p cap w1)
  have U2 := Lib.hid (fun w1 => U2 p cap w1)
  have K1 := Lib.hid (fun w1 => K1 p cap w1 hc)
  have K2 := Lib.hid (fun w1 => K2 p cap w1 hc)
  have S1 := Lib.hid (fun pa pb ca cb w1 => p_same_two X L pa pb ca cb w1 hX hL)
  have S2 := Lib.hid (fun pa pb ca cb w1 => p_same_two Y M pa pb ca cb w1 hY hM)
  have A := Lib.hid (fun w1 => p_awake w1)
  have HD := Lib.hid hd
  obtain ⟨lb, hlb⟩ : ∃ lb, bs.length = lb := ⟨_, rfl⟩
  rw [hlb] at U1 U2 K1 K2
  rw [hlb]
  clear hX hL hY hM hd hl hi hc hlb
  go_enter Try.func4, Try.ntmps4
  go_wp2_with (first
    | (go_at_call 13; ((with_reducible refine (U1.out _ HD.out).mono ?_); rintro x' w1 ⟨⟨p1, c1, rfl, hx⟩, hb⟩; have X1 := Lib.hid hx; have WB1 := Lib.hid hb; clear hx hb))
    | (go_at_call 14; ((with_reducible refine (U2.out _ (HD.out.below WB1.out)).mono ?_); rintro x' w2 ⟨⟨p2, c2, rfl, hx⟩, hb⟩; have X2 := Lib.hid hx; have X1' := Lib.hid (X1.out.below hb); have WB2 := Lib.hid (stepB WB1.out hb); clear hx hb))
    | (go_at_call 15; (have hx := Y2.out); ((with_reducible refine (S2.out _ _ _ _ _ Y1'.out Y2.out).mono ?_); rintro x' w6 ⟨rfl, hb⟩; have WB6 := Lib.hid (stepB WB5.out hb); clear hx hb))
    | (go_at_call 15; ((with_reducible refine (S1.out _ _ _ _ _ X1'.out X2.out).mono ?_); rintro x' w3 ⟨rfl, hb⟩; have WB3 := Lib.hid (stepB WB2.out hb); clear hb))
    | (go_at_call 16; ((with_reducible refine (K1.out _ (HD.out.below WB3.out)).mono ?_); rintro x' w4 ⟨⟨p4, c4, rfl, hx⟩, hb⟩; have Y1 := Lib.hid hx; have WB4 := Lib.hid (stepB WB3.out hb); clear hx hb))
    | (go_at_call 17; ((with_reducible refine (K2.out _ (HD.out.below WB4.out)).mono ?_); rintro x' w5 ⟨⟨p5, c5, rfl, hx⟩, hb⟩; have Y2 := Lib.hid hx; have Y1' := Lib.hid (Y1.out.below hb); have WB5 := Lib.hid (stepB WB4.out hb); clear hx hb))
    | (go_at_call 8; ((with_reducible refine (A.out _).mono ?_); rintro x' w9 ⟨rfl, hb⟩; have WB9 := Lib.hid (stepB WB6.out hb); clear hb)))
  go_ret
  exact ⟨rfl, WB9.out⟩
end Go.Proofs.Ytfljgdehbogimaa

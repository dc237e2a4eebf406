/-
  PackWrites' walk: for any data, bits and version the law returns true; nothing that was there is changed.
-/
import Derived.Test.YtfljgdehbogimaaRefBlks
import Derived.Test.YtfljgdehbogimaaPDelta
import Derived.Test.YtfljgdehbogimaaPAwake
namespace Go.Proofs.Ytfljgdehbogimaa
open Go.RowKit

/-- What a writer returned: bytes of its own, or none with an error. -/
structure Opt (B : Nat) (z : Int) (L : List Int) (v : Value) (w : World) : Prop where
  bad : z ≠ 0 → v = .slice none 0 0
  good : z = 0 → w.ownsRow B 5 1 v L.length (L.map (Value.int .u8))
theorem Opt.stays {B : Nat} {z : Int} {L : List Int} {v : Value} {w w' : World} (h : Opt B z L v w) (hb : Below w.heap.size w w') : Opt B z L v w' := ⟨h.bad, fun e => row_stays (h.good e) hb⟩
theorem Opt.str {B : Nat} {z : Int} {L : List Int} {v : Value} {w : World} (h : Opt B z L v w) : (convert 24 9 v).run Try.prog w = .ok (.string (if z = 0 then strOfNums L else strOfNums [])) w := by
  by_cases hz : z = 0
  · rw [if_pos hz]
    exact str_run (h.good hz)
  · rw [if_neg hz, h.bad hz]
    exact str_run (B := 0) (l := []) (World.ownsRow_nil w 0 _ 1)
set_option maxRecDepth 20000 in
set_option maxHeartbeats 1600000 in
theorem writes_ok (l : List Int) (p : Option Addr) (cap : Nat) (b v : Int) (w : World) (hd : DatAt w p l) (hl : (l.length : Int) ≤ 6000) (hi : ∀ x ∈ l, -9223372036854775808 ≤ x ∧ x ≤ 9223372036854775807) :
    Calls Try.prog 3 #[.slice p l.length cap, .int .i64 b, .int .i64 v] w fun e w' => e = .returned (.bool true) ∧ Below w.heap.size w w' := by
  have D1 := Lib.hid (p_Delta l p cap b w hd (by omega))
  have D2 := Lib.hid (fun w1 (h1 : DatAt w1 p l) => rdelta l p cap b w1 h1 hi (by omega))
  have K1 := Lib.hid (fun w1 (h1 : DatAt w1 p l) => p_Blocks l p cap b v w1 h1 (by omega))
  have K2 := Lib.hid (fun w1 (h1 : DatAt w1 p l) => rblocks l p cap b v w1 h1 hi (by omega))
  have A := Lib.hid (fun w1 => p_awake w1)
  have HD := Lib.hid hd
  obtain ⟨z, hz⟩ : ∃ z, whl l b = z := ⟨_, rfl⟩
  obtain ⟨f, hf⟩ : ∃ f, blkE l b v = f := ⟨_, rfl⟩
  obtain ⟨BD, hBD⟩ : ∃ BD, dlt l b = BD := ⟨_, rfl⟩
  obtain ⟨BC, hBC⟩ : ∃ BC, blks (enc b v l) = BC := ⟨_, rfl⟩
  rw [hz, hBD] at D1
  simp only [hz, hBD] at D2
  simp only [hf, hBC] at K1 K2
  obtain ⟨s1, hs1⟩ : ∃ s, (if z = 0 then strOfNums BD else strOfNums []) = s := ⟨_, rfl⟩
  obtain ⟨s2, hs2⟩ : ∃ s, (if f = 0 then strOfNums BC else strOfNums []) = s := ⟨_, rfl⟩
  have HS1 := Lib.hid hs1
  have HS2 := Lib.hid hs2
  clear hz hf hBD hBC hd hi hs1 hs2
  go_enter Try.func3, Try.ntmps3
  go_upto_region 7 with (first
    | (go_at_call 9; ((with_reducible refine D1.out.mono ?_); rintro x' w1 ⟨⟨u1, rfl, ha, hb⟩, hc⟩; have O1 := Lib.hid (Opt.mk ha hb); have WB1 := Lib.hid hc; clear ha hb hc))
    | (go_at_call 10; ((with_reducible refine (D2.out _ (HD.out.below WB1.out)).mono ?_); rintro x' w2 ⟨⟨u2, rfl, ha, hb⟩, hc⟩; have P1 := Lib.hid (O1.out.stays hc); have P2 := Lib.hid (Opt.mk ha hb); have WB2 := Lib.hid (stepB WB1.out hc); clear ha hb hc))
    | (go_at_call 11; ((with_reducible refine (K1.out _ (HD.out.below WB2.out)).mono ?_); rintro x' w3 ⟨⟨u3, rfl, ha, hb⟩, hc⟩; have Q1 := Lib.hid (P1.out.stays hc); have Q2 := Lib.hid (P2.out.stays hc); have Q3 := Lib.hid (Opt.mk ha hb); have WB3 := Lib.hid (stepB WB2.out hc); clear ha hb hc))
    | (go_at_call 12; ((with_reducible refine (K2.out _ (HD.out.below WB3.out)).mono ?_); rintro x' w4 ⟨⟨u4, rfl, ha, hb⟩, hc⟩; have R1 := Lib.hid (Q1.out.stays hc); have R2 := Lib.hid (Q2.out.stays hc); have R3 := Lib.hid (Q3.out.stays hc); have R4 := Lib.hid (Opt.mk ha hb); have WB4 := Lib.hid (stepB WB3.out hc); clear ha hb hc)))
  have e1 := R1.out.str
  have e2 := R2.out.str
  have e3 := R3.out.str
  have e4 := R4.out.str
  rw [HS1.out] at e1 e2
  rw [HS2.out] at e3 e4
  clear D1 D2 K1 K2 O1 P1 P2 Q1 Q2 Q3 R1 R2 R3 R4 WB1 WB2 WB3 HS1 HS2
  go_wp2_with (first | (go_at_call 8; ((with_reducible refine (A.out _).mono ?_); rintro x' w9 ⟨rfl, hb⟩; have WB9 := Lib.hid (stepB WB4.out hb); clear hb)))
  go_ret
  exact ⟨rfl, WB9.out⟩
theorem writes_long (n cap : Nat) (p : Option Addr) (b v : Int) (w : World) (hl : 6000 < (n : Int)) :
    Calls Try.prog 3 #[.slice p n cap, .int .i64 b, .int .i64 v] w fun e w' => e = .returned (.bool true) ∧ Below w.heap.size w w' := by
  have A := Lib.hid (fun w1 => p_awake w1)
  go_enter Try.func3, Try.ntmps3
  go_wp2_with (first | (go_at_call 8; ((with_reducible refine (A.out _).mono ?_); rintro x' w9 ⟨rfl, hb⟩; have WB9 := Lib.hid hb; clear hb)))
  go_ret
  exact ⟨rfl, WB9.out⟩
theorem writes_any (l : List Int) (p : Option Addr) (cap : Nat) (b v : Int) (w : World) (hd : DatAt w p l) (_hl : (l.length : Int) ≤ 140737488351232) (hi : ∀ x ∈ l, -9223372036854775808 ≤ x ∧ x ≤ 9223372036854775807) (_hb : -9223372036854775808 ≤ b ∧ b ≤ 9223372036854775807) (_hv : -9223372036854775808 ≤ v ∧ v ≤ 9223372036854775807) :
    Calls Try.prog 3 #[.slice p l.length cap, .int .i64 b, .int .i64 v] w fun e w' => e = .returned (.bool true) ∧ Below w.heap.size w w' := by
  by_cases h : (l.length : Int) ≤ 6000
  · exact writes_ok l p cap b v w hd h hi
  · exact writes_long l.length cap p b v w (by omega)
end Go.Proofs.Ytfljgdehbogimaa

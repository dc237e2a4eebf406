/-
  The contracts of Unnibbles: the reference's, and what the project's refuses.
-/
import Derived.Test.YtfljgdehbogimaaRefNib
import Derived.Test.YtfljgdehbogimaaRefUnd
namespace Go.Proofs.Ytfljgdehbogimaa
open Go.RowKit

/-- The error that Unnibbles returns. -/
def unnE (m : Nat) (t : List Int) (n : Int) : Int := if tbl t = true then ask m n else 1
theorem runn_tbl (t : List Int) (pb pt : Option Addr) (m capb capt : Nat) (n : Int) (w : World) (hdt : DatAt w pt t) (hit : ∀ x ∈ t, -9223372036854775808 ≤ x ∧ x ≤ 9223372036854775807) (hlt : (t.length : Int) ≤ 1152921504606846976) (h : tbl t = false) :
    Calls Try.prog 23 #[.slice pb m capb, .slice pt t.length capt, .int .i64 n] w fun e w' => e = .returned (.tuple #[.slice none 0 0, .int .i64 0, .int .i64 1]) ∧ w = w' := by
  have C1 := Lib.hid (h ▸ rtabled_any t pt capt w hdt hit hlt)
  clear h hdt hit hlt
  go_enter Try.func23, Try.ntmps23
  go_wp2_with (first | (go_at_call 51; ((with_reducible refine C1.out.mono ?_); rintro x' w' ⟨rfl, rfl⟩)))
  go_ret3
  exact ⟨rfl, rfl⟩
theorem runn_ask (t : List Int) (pb pt : Option Addr) (m capb capt : Nat) (n : Int) (w : World) (hdt : DatAt w pt t) (hit : ∀ x ∈ t, -9223372036854775808 ≤ x ∧ x ≤ 9223372036854775807) (hlt : (t.length : Int) ≤ 1152921504606846976) (hl : (m : Int) ≤ 1152921504606846976) (h : tbl t = true) (ha : ask m n ≠ 0) :
    Calls Try.prog 23 #[.slice pb m capb, .slice pt t.length capt, .int .i64 n] w fun e w' => e = .returned (.tuple #[.slice none 0 0, .int .i64 0, .int .i64 (ask m n)]) ∧ w = w' := by
  have C1 := Lib.hid (h ▸ rtabled_any t pt capt w hdt hit hlt)
  have C2 := Lib.hid (rasked pb m capb n w hl)
  obtain ⟨z, hz⟩ : ∃ z, ask m n = z := ⟨_, rfl⟩
  rw [hz] at C2 ha ⊢
  have h2 : (z != 0) = true := by simpa using ha
  clear h hdt hit hlt hl ha hz
  go_enter Try.func23, Try.ntmps23
  go_wp2_with (first | (go_at_call 51; ((with_reducible refine C1.out.mono ?_); rintro x' w' ⟨rfl, rfl⟩)) | (go_at_call 36; ((with_reducible refine C2.out.mono ?_); rintro x' w' ⟨rfl, rfl⟩)))
  go_ret3
  exact ⟨rfl, rfl⟩
theorem p_Unn_tbl (t : List Int) (pb pt : Option Addr) (m capb capt : Nat) (n : Int) (w : World) (hdt : DatAt w pt t) (hlt : (t.length : Int) ≤ 1152921504606846976) (h : tbl t = false) :
    Calls Try.prog 22 #[.slice pb m capb, .slice pt t.length capt, .int .i64 n] w fun e w' => e = .returned (.tuple #[.slice none 0 0, .int .i64 0, .int .i64 1]) ∧ w = w' := by
  have C1 := Lib.hid (h ▸ p_validTable t pt capt w hdt hlt)
  clear h hdt hlt
  go_enter Try.func22, Try.ntmps22
  go_wp2_with (first | (go_at_call 49; ((with_reducible refine C1.out.mono ?_); rintro x' w' ⟨rfl, rfl⟩)))
  go_ret3
  exact ⟨rfl, rfl⟩
theorem p_Unn_ask (t : List Int) (pb pt : Option Addr) (m capb capt : Nat) (n : Int) (w : World) (hdt : DatAt w pt t) (hlt : (t.length : Int) ≤ 1152921504606846976) (hl : (m : Int) ≤ 1152921504606846976) (h : tbl t = true) (ha : ask m n ≠ 0) :
    Calls Try.prog 22 #[.slice pb m capb, .slice pt t.length capt, .int .i64 n] w fun e w' => e = .returned (.tuple #[.slice none 0 0, .int .i64 0, .int .i64 (ask m n)]) ∧ w = w' := by
  have C1 := Lib.hid (h ▸ p_validTable t pt capt w hdt hlt)
  have C2 := Lib.hid (p_askBytes pb m capb n w hl)
  obtain ⟨z, hz⟩ : ∃ z, ask m n = z := ⟨_, rfl⟩
  rw [hz] at C2 ha ⊢
  have h2 : (z != 0) = true := by simpa using ha
  clear h hdt hlt hl ha hz
  go_enter Try.func22, Try.ntmps22
  go_wp2_with (first | (go_at_call 49; ((with_reducible refine C1.out.mono ?_); rintro x' w' ⟨rfl, rfl⟩)) | (go_at_call 34; ((with_reducible refine C2.out.mono ?_); rintro x' w' ⟨rfl, rfl⟩)))
  go_ret3
  exact ⟨rfl, rfl⟩
end Go.Proofs.Ytfljgdehbogimaa

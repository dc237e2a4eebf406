/-
  Package pattern's place: where a character stands in a list of characters.
-/
import Derived.Test.YtfjfnbeegojlbaaDoorCDem
import Derived.Test.YtfjfnbeegojlbaaDoorShelf
import Derived.Lib.IndexLaws
import Derived.Deep.QuietTactic
import Derived.BigQuiet
namespace Go.Proofs.YtfjfnbeegojlbaaDoor
open Go.RowKit

theorem byte_back8 (x : UInt8) : ((x.toNat : Int)).toNat.toUInt8 = x := by simp
theorem l_IndexByte (x : UInt8) (l : ByteArray) (w : World) {z : Int} (hz : Lib.indexByte l.data.toList x = z) :
    Calls Tryd.prog 64 #[.string l, .int .u8 (x.toNat : Int)] w fun e w' => e = .returned (.int .i64 z) ∧ w = w' :=
  (Tryd.strings_IndexByte l (x.toNat : Int) w).mono fun e w' ⟨he, hw⟩ => by
    rw [byte_back8, hz] at he
    exact ⟨he, hw.symm⟩
theorem p_place_ok (x : UInt8) (l : ByteArray) (w : World) (n : Nat) (h : Lib.indexByte l.data.toList x = n) :
    Calls Tryd.prog 51 #[.int .u8 (x.toNat : Int), .string l] w fun e w' => e = .returned (.int .i64 (n : Int)) ∧ w = w' := by
  have C := Lib.hid (fun u => l_IndexByte x l u h)
  have D := Lib.hid (fun u => p_demand_ok 2 u)
  clear h
  go_enter Tryd.func51, Tryd.ntmps51
  go_wp2_with (first | (go_at_call 64; ((with_reducible refine (C.out _).mono ?_); rintro x' w1 ⟨rfl, rfl⟩)) | (go_at_call 47; ((with_reducible refine (D.out _).mono ?_); rintro x' w1 ⟨rfl, rfl⟩)))
  go_ret
  exact ⟨rfl, rfl⟩
theorem p_place_bad (x : UInt8) (l : ByteArray) (w : World) (h : ¬ 0 ≤ Lib.indexByte l.data.toList x) :
    Calls Tryd.prog 51 #[.int .u8 (x.toNat : Int), .string l] w fun e w' => e = Pn 2 ∧ w = w' := by
  have hm : Lib.indexByte l.data.toList x = -1 := by
    have := Lib.indexByte_ge l.data.toList x
    omega
  have C := Lib.hid (fun u => l_IndexByte x l u hm)
  have D := Lib.hid (fun u => p_demand_bad 2 u)
  unfold Pn at D
  clear h hm
  go_enter Tryd.func51, Tryd.ntmps51
  go_wp2_with (first | (go_at_call 64; ((with_reducible refine (C.out _).mono ?_); rintro x' w1 ⟨rfl, rfl⟩)) | (go_at_call 47; ((with_reducible refine (D.out _).mono ?_); rintro x' w1 ⟨rfl, rfl⟩)))
  exact ⟨rfl, rfl, rfl⟩
end Go.Proofs.YtfjfnbeegojlbaaDoor

/-
  Contracts of the reference's functions key, Name and Note: for every text and number, what the call returns; nothing that was there is changed.
-/
import Derived.Test.YtfjfnbeegojlbaaDoorCTx
import Derived.Test.YtfjfnbeegojlbaaDoorPPart
import Derived.Deep.QuietTactic
import Derived.BigQuiet
import Derived.Outline
import Derived.Lib.Hide
import Derived.IntWalk
import Derived.Deep.RegionWith
import Derived.Deep.RegionHeld3
namespace Go.Proofs.YtfjfnbeegojlbaaDoor
open Go.RowKit

theorem ret_string {a b : ByteArray} (h : a = b) : Ending.returned (.string a) = .returned (.string b) := by rw [h]
theorem rwithin_yes (n lo hi : Int) (w : World) (h1 : lo ≤ n) (h2 : n ≤ hi) :
    Calls Tryd.prog 56 #[.int .i64 n, .int .i64 lo, .int .i64 hi] w fun e w' => e = .returned (.bool true) ∧ w = w' := by
  go_enter Tryd.func56, Tryd.ntmps56
  go_wp2
  go_ret
  exact ⟨rfl, rfl⟩
theorem rwithin_no (n lo hi : Int) (w : World) (h : n < lo ∨ hi < n) :
    Calls Tryd.prog 56 #[.int .i64 n, .int .i64 lo, .int .i64 hi] w fun e w' => e = .returned (.bool false) ∧ w = w' := by
  by_cases h1 : n < lo
  · go_enter Tryd.func56, Tryd.ntmps56
    go_wp2
    go_ret
    exact ⟨rfl, rfl⟩
  · have hd : decide (n ≤ hi) = false := decide_eq_false (by omega)
    go_enter Tryd.func56, Tryd.ntmps56
    go_wp2
    go_ret
    exact ⟨rfl, rfl⟩
theorem key_any (i : Nat) (w : World) (h : i < 12) :
    Calls Tryd.prog 57 #[.int .i64 i] w fun e w' => e = .returned (.string (Tm.lt i)) ∧ w = w' := by
  have hi : i = 0 ∨ i = 1 ∨ i = 2 ∨ i = 3 ∨ i = 4 ∨ i = 5 ∨ i = 6 ∨ i = 7 ∨ i = 8 ∨ i = 9 ∨ i = 10 ∨ i = 11 := by omega
  clear h
  rcases hi with rfl | rfl | rfl | rfl | rfl | rfl | rfl | rfl | rfl | rfl | rfl | rfl
  all_goals
    go_enter Tryd.func57, Tryd.ntmps57
    go_wp2
    go_ret
    exact ⟨ret_string (Tm.ext_list (by decide +kernel)), rfl⟩
/-- string(b) of one byte in a block of its own. -/
theorem run_string_one (W : World) (b : Nat) (c : Int) (hc : W.cell? ⟨b, 0, none⟩ = some (.int .u8 c)) :
    (convert 46 9 (.slice (some ⟨b, 0, none⟩) 1 1)).run Tryd.prog W = .ok (.string ⟨#[UInt8.ofNat c.toNat]⟩) W := by
  rw [run_convert_bytes_string W _ _ _ _ _ _ Tryd.underlying46 Tryd.underlying5 Tryd.underlying9]
  rw [run_bytesToString W ⟨b, 0, none⟩ 1 1 [c] (run_loadCells_list W ⟨b, 0, none⟩ [.int .u8 c] (fun j v h => by
    match j, h with
    | 0, h => obtain rfl := by simpa using h
              exact hc
    | j + 1, h => simp at h))]
  rfl
set_option maxRecDepth 20000 in
theorem rname_in (n : Nat) (w : World) (h : n ≤ 119) :
    Calls Tryd.prog 43 #[.int .i64 n] w fun e w' => e = .returned (.string (Tm.nameOf n)) ∧ Below w.heap.size w w' := by
  obtain ⟨i, hi⟩ : ∃ i, n % 12 = i := ⟨_, rfl⟩
  obtain ⟨o, ho⟩ : ∃ o, n / 12 = o := ⟨_, rfl⟩
  have hi12 : i < 12 := by omega
  have ho9 : o ≤ 9 := by omega
  have hN : Tm.nameOf n = Tm.lt i ++ Tm.dg o := by unfold Tm.nameOf; rw [hi, ho]
  have t1 : ((n : Int)).tmod 12 = (i : Int) := by rw [Int.tmod_eq_emod_of_nonneg (by omega)]; omega
  have t2 : (n : Int).tdiv 12 = (o : Int) := by rw [Int.tdiv_eq_ediv_of_nonneg (by omega)]; omega
  have hsz := Tm.lt_size hi12
  have HN := Lib.hid hN
  have hb : 0 ≤ (n : Int) ∧ (n : Int) ≤ 119 := by omega
  clear hN hi ho
  have u1 : IntKind.i64.wrap (o : Int) = (o : Int) := IntWalk.i64_in _ (by omega)
  have u2 : IntKind.u8.wrap (o : Int) = (o : Int) := IntWalk.u8_in _ (by omega)
  have u3 : IntKind.u8.wrap (48 + (o : Int)) = 48 + (o : Int) := IntWalk.u8_in _ (by omega)
  have u4 : (⟨#[UInt8.ofNat (48 + (o : Int)).toNat]⟩ : ByteArray) = Tm.dg o := by unfold Tm.dg; rw [show (48 + (o : Int)).toNat = 48 + o by omega]
  have hrun := run_string_one (w.alloc (Obj.cells #[Value.int IntKind.u8 (48 + (o : Int))] 5)).drew w.heap.size (48 + (o : Int)) (by go_simp)
  rw [u4] at hrun
  clear u4
  go_enter Tryd.func43, Tryd.ntmps43
  go_wp2_with (go_at_call 56; refine (rwithin_yes _ _ _ _ hb.1 hb.2).mono ?_; rintro e w' ⟨rfl, rfl⟩)
  go_region_with (first | (go_at_call 57; refine (key_any i _ hi12).mono ?_; rintro e w' ⟨rfl, rfl⟩))
  all_goals
    go_wp2
    go_ret
    exact ⟨ret_string HN.out.symm, ((Below.refl _ _).alloc (Nat.le_refl _) _).drew⟩
set_option maxRecDepth 20000 in
theorem rname_out (n : Int) (w : World) (h : n < 0 ∨ 119 < n) :
    Calls Tryd.prog 43 #[.int .i64 n] w fun e w' => e = .returned (.string ByteArray.empty) ∧ w = w' := by
  go_enter Tryd.func43, Tryd.ntmps43
  go_wp2_with (go_at_call 56; refine (rwithin_no _ _ _ _ h).mono ?_; rintro e w' ⟨rfl, rfl⟩)
  go_ret
  exact ⟨rfl, rfl⟩
set_option maxRecDepth 20000 in
theorem rnote_any (s : ByteArray) (w : World) :
    Calls Tryd.prog 21 #[.string s] w fun e w' => (∃ n x : Int, e = .returned (.tuple #[.int .i64 n, .int .i64 x]) ∧ Tm.NoteIs s n x) ∧ Below w.heap.size w w' := by
  go_enter Tryd.func21, Tryd.ntmps21
  go_wp2
  go_loopw [4] (fun i wr => ∃ k : Nat, k ≤ 120 ∧ i = .int .i64 k ∧ Below w.heap.size w wr ∧ Hid (∀ j, j < k → Tm.nameOf j ≠ s)) (fun i _ => 120 - (intOf i).toNat)
  case atStart => exact ⟨0, by omega, rfl, Below.refl _ _, fun _ h => by omega⟩
  case round =>
    obtain ⟨k, hk, rfl, hw, HN⟩ := hrel
    have HW := Lib.hid hw
    clear hw
    by_cases hlt : k < 120
    · by_cases ht : Tm.nameOf k = s
      · have HA := Lib.hid (show Tm.NoteIs s k 0 from .inl ⟨k, hlt, ht, rfl, rfl⟩)
        have t : ((Tm.nameOf k).toList == s.toList) = true := by rw [ht]; simp
        clear ht
        go_wp2_with (go_at_call 43; refine (rname_in k _ (by omega)).mono ?_; rintro e w' ⟨rfl, hb⟩)
        go_ret2
        exact ⟨⟨_, _, rfl, HA.out⟩, HW.out.trans (hb.mono HW.out.size)⟩
      · have t : ((Tm.nameOf k).toList == s.toList) = false := by
          rw [Bool.eq_false_iff]; intro h
          exact ht (Tm.ext_list (by simpa [ByteArray.toList_eq] using h))
        have HT := Lib.hid ht
        clear ht
        go_wp2_with (go_at_call 43; refine (rname_in k _ (by omega)).mono ?_; rintro e w' ⟨rfl, hb⟩)
        go_roundw
        case rel => exact ⟨k + 1, by omega, by go_num, HW.out.trans (hb.mono HW.out.size), fun j hj => by
          by_cases e : j = k
          · subst e; exact HT.out
          · exact HN.out j (by omega)⟩
        case measure => simp [intOf]; omega
    · obtain rfl : k = 120 := by omega
      have HA := Lib.hid (Tm.noteIs_none HN.out)
      go_wp2
      go_ret2
      exact ⟨⟨_, _, rfl, HA.out⟩, HW.out⟩
end Go.Proofs.YtfjfnbeegojlbaaDoor

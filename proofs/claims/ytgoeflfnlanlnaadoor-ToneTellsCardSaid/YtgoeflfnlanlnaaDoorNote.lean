/-
  Contracts of package tone's functions Note and Name: for every text and number, what the call returns; memory stays as it was but for draws.
-/
import Derived.Test.YtgoeflfnlanlnaaDoorWalkB
import Derived.Test.YtgoeflfnlanlnaaDoorText
import Derived.Deep.QuietTactic
import Derived.BigQuiet
import Derived.Outline
namespace Go.Proofs.YtgoeflfnlanlnaaDoor
open Go.RowKit


/-- The letters, as the program's variable holds them. -/
def LettersAre (w : World) : Prop := ∀ i : Nat, i < 12 → w.cell? ⟨0, i, none⟩ = some (.string (Tm.lt i))

theorem ret_string {a b : ByteArray} (h : a = b) : Ending.returned (.string a) = .returned (.string b) := by rw [h]
theorem LettersAre.drewN {w : World} (h : LettersAre w) (n : Nat) : LettersAre (w.drewN n) := h
theorem QuarterIs.drewN {w : World} (h : QuarterIs w) (n : Nat) : QuarterIs (w.drewN n) := h

theorem note_size (s : ByteArray) (w : World) (h : s.size ≠ 3) :
    Calls Tryd.prog 29 #[.string s] w fun e w' => e = .returned (.tuple #[.int .i64 0, .int .i64 10]) ∧ w = w' := by
  have h' : ((s.size : Int) == 3) = false := by simp; omega
  have h'' : ((s.size : Int) != 3) = true := by simp; omega
  go_enter Tryd.func29, Tryd.ntmps29
  go_wp2
  go_ret2
  exact ⟨rfl, rfl⟩
theorem note_low (s : ByteArray) (w : World) (hs : s.size = 3) (h : (s[2].toNat : Int) < 48) :
    Calls Tryd.prog 29 #[.string s] w fun e w' => e = .returned (.tuple #[.int .i64 0, .int .i64 10]) ∧ w = w' := by
  go_enter Tryd.func29, Tryd.ntmps29
  go_wp2
  go_ret2
  exact ⟨rfl, rfl⟩
theorem note_high (s : ByteArray) (w : World) (hs : s.size = 3) (h1 : 48 ≤ (s[2].toNat : Int)) (h : 57 < (s[2].toNat : Int)) :
    Calls Tryd.prog 29 #[.string s] w fun e w' => e = .returned (.tuple #[.int .i64 0, .int .i64 10]) ∧ w = w' := by
  go_enter Tryd.func29, Tryd.ntmps29
  go_wp2
  go_ret2
  exact ⟨rfl, rfl⟩
theorem note_in (s : ByteArray) (w : World) (hl : Hid (LettersAre w)) (hs : s.size = 3) (h1 : 48 ≤ (s[2].toNat : Int)) (h2 : (s[2].toNat : Int) ≤ 57) :
    Calls Tryd.prog 29 #[.string s] w fun e w' => (∃ n x : Int, e = .returned (.tuple #[.int .i64 n, .int .i64 x]) ∧ Tm.NoteIs s n x) ∧ ∃ d, w' = w.drewN d := by
  go_enter Tryd.func29, Tryd.ntmps29
  go_wp2
  go_loopw [18] (fun i wr => ∃ k d : Nat, k ≤ 12 ∧ i = .int .i64 k ∧ wr = w.drewN d ∧ ∀ j, j < k → Tm.lt j ≠ s.extract 0 2) (fun i _ => 12 - (intOf i).toNat)
  case atStart => exact ⟨0, 0, by omega, rfl, rfl, fun _ h => by omega⟩
  case round =>
    obtain ⟨k, d, hk, rfl, hw, hn⟩ := hrel
    have HN := Lib.hid hn
    have HW := Lib.hid hw
    clear hn hw
    by_cases hlt : k < 12
    · have hc : wr.cell? ⟨0, k, none⟩ = some (.string (Tm.lt k)) := by rw [HW.out]; exact hl.out k hlt
      by_cases ht : ((Tm.lt k).toList == (s.extract 0 2).toList) = true
      · have HA := Lib.hid (Tm.noteIs_at hs hlt ht h1 h2)
        go_wp2
        go_quiet (fail)
        go_wp2
        go_ret2
        exact ⟨⟨_, _, rfl, HA.out⟩, d + nq, by rw [HW.out, World.drewN_drewN]⟩
      · have ht' : ((Tm.lt k).toList == (s.extract 0 2).toList) = false := by simpa using ht
        clear ht
        go_wp2
        go_quiet (fail)
        go_wp2
        go_roundw
        case rel => exact ⟨k + 1, d + nq, by omega, by go_num, by rw [HW.out, World.drewN_drewN], fun j hj => by
          by_cases e : j = k
          · subst e; exact Tm.ne_of_test ht'
          · exact HN.out j (by omega)⟩
        case measure => simp [intOf]; omega
    · obtain rfl : k = 12 := by omega
      have HA := Lib.hid (Tm.noteIs_nowhere HN.out)
      go_wp2
      go_ret2
      exact ⟨⟨_, _, rfl, HA.out⟩, d, HW.out⟩

theorem note_any (s : ByteArray) (w : World) (hl : Hid (LettersAre w)) :
    Calls Tryd.prog 29 #[.string s] w fun e w' => (∃ n x : Int, e = .returned (.tuple #[.int .i64 n, .int .i64 x]) ∧ Tm.NoteIs s n x) ∧ ∃ d, w' = w.drewN d := by
  by_cases hs : s.size = 3
  · by_cases h1 : (s[2].toNat : Int) < 48
    · exact (note_low s w hs h1).mono fun e w' ⟨he, hw⟩ => ⟨⟨0, 10, he, Tm.noteIs_none fun k hk e => by subst e; have := Tm.name_last hk (by omega); omega⟩, 0, hw.symm⟩
    · by_cases h2 : 57 < (s[2].toNat : Int)
      · exact (note_high s w hs (by omega) h2).mono fun e w' ⟨he, hw⟩ => ⟨⟨0, 10, he, Tm.noteIs_none fun k hk e => by subst e; have := Tm.name_last hk (by omega); omega⟩, 0, hw.symm⟩
      · exact note_in s w hl hs (by omega) (by omega)
  · exact (note_size s w hs).mono fun e w' ⟨he, hw⟩ => ⟨⟨0, 10, he, Tm.noteIs_none fun k _ e => by subst e; exact hs Tm.name_size⟩, 0, hw.symm⟩

theorem name_out (n : Int) (w : World) (h : n < 0 ∨ 119 < n) :
    Calls Tryd.prog 31 #[.int .i64 n] w fun e w' => e = .returned (.string ByteArray.empty) ∧ w = w' := by
  go_enter Tryd.func31, Tryd.ntmps31
  go_wp2_with (go_at_call 33; refine (within_no _ _ _ _ h).mono ?_; rintro e w' ⟨rfl, rfl⟩)
  go_ret
  exact ⟨rfl, rfl⟩
theorem name_in (n : Nat) (w : World) (hl : Hid (LettersAre w)) (h : n ≤ 119) :
    Calls Tryd.prog 31 #[.int .i64 n] w fun e w' => e = .returned (.string (Tm.nameOf n)) ∧ ∃ d, w' = w.drewN d := by
  obtain ⟨i, hi⟩ : ∃ i, n % 12 = i := ⟨_, rfl⟩
  obtain ⟨o, ho⟩ : ∃ o, n / 12 = o := ⟨_, rfl⟩
  have hi12 : i < 12 := by omega
  have ho9 : o ≤ 9 := by omega
  have hN : Tm.nameOf n = Tm.lt i ++ Tm.dg o := by unfold Tm.nameOf; rw [hi, ho]
  have hc := hl.out i hi12
  have t1 : ((n : Int)).tmod 12 = (i : Int) := by rw [Int.tmod_eq_emod_of_nonneg (by omega)]; omega
  have t2 : (n : Int) / 12 = (o : Int) := by omega
  have t3 : IntKind.i64.wrap ((o : Int) + 1) = (o : Int) + 1 := IntWalk.i64_in _ (by omega)
  have t4 : (0 : Int) ≤ (o : Int) + 1 := by omega
  have t5 : ((o : Int) + 1).toNat = o + 1 := by omega
  have t6 : ((o : Int) + 1) ≤ 10 := by omega
  have t7 : (o : Int) ≤ (o : Int) + 1 := by omega
  have t8 : (i : Int) < 12 := by omega
  have hsz := Tm.lt_size hi12
  have HN := Lib.hid hN
  have hb : 0 ≤ (n : Int) ∧ (n : Int) ≤ 119 := by omega
  clear hN hi ho
  go_enter Tryd.func31, Tryd.ntmps31
  go_wp2_with (go_at_call 33; refine (within_yes _ _ _ _ hb.1 hb.2).mono ?_; rintro e w' ⟨rfl, rfl⟩)
  go_quiet (fail)
  go_wp2
  go_ret
  exact ⟨ret_string (by rw [HN.out, Tm.digit_at ho9]), nq, rfl⟩
end Go.Proofs.YtgoeflfnlanlnaaDoor

/-
  The contracts of package inst's validName, validNote, validSample, validKey, validKeys and of the library's slices.ContainsFunc at keys.
-/
import Derived.Test.YtcchfahdgmcpbaaPNum
import Derived.Test.YtcchfahdgmcpbaaNm
import Derived.Test.YtcchfahdgmcpbaaShelf
namespace Go.Proofs.Ytcchfahdgmcpbaa
open Go.RowKit Go.Shelf

theorem bad_gives (W : World) (r : Nat) : Go.Proofs.FnGives Try.prog 57 #[] #[Go.Proofs.encR r] (.bool (In.bad r)) W := by
  unfold Go.Proofs.FnGives
  by_cases h1 : (r : Int) < 32
  · have HB := Lib.hid (show In.bad r = true from decide_eq_true (.inl (by omega)))
    go_enter Try.func57, Try.ntmps57
    go_wp2
    go_ret
    exact ⟨ret_bool HB.out.symm, 0, rfl⟩
  · have hd1 : decide ((r : Int) < 32) = false := decide_eq_false h1
    by_cases h2 : 126 < (r : Int)
    · have HB := Lib.hid (show In.bad r = true from decide_eq_true (.inr (by omega)))
      go_enter Try.func57, Try.ntmps57
      go_wp2
      go_ret
      exact ⟨ret_bool HB.out.symm, 0, rfl⟩
    · have HB := Lib.hid (show In.bad r = false from decide_eq_false (by omega))
      have hd2 : decide (126 < (r : Int)) = false := decide_eq_false h2
      go_enter Try.func57, Try.ntmps57
      go_wp2
      go_ret
      exact ⟨ret_bool HB.out.symm, 0, rfl⟩
theorem p_contains (s : ByteArray) (w : World) : Calls Try.prog 56 #[.string s, .func (.func 57) #[] #[]] w fun e w' => e = .returned (.bool (decide (0 ≤ Lib.idxFunc In.bad true s))) ∧ Below w.heap.size w w' :=
  Go.Proofs.Any.strings_ContainsFunc holdsLays 57 #[] (enters_of Try.func57 (by kernel_rfl) rfl) In.bad s w (fun W r _ => bad_gives W r)
theorem p_name (s : ByteArray) (w : World) :
    Calls Try.prog 44 #[.string s] w fun x w' => x = .returned (.bool (In.nmd s)) ∧ Below w.heap.size w w' := by
  by_cases h : (s.size : Int) ≤ 22
  · have C := Lib.hid (p_contains s w)
    obtain ⟨v, hv⟩ : ∃ v, decide (0 ≤ Lib.idxFunc In.bad true s) = v := ⟨_, rfl⟩
    have HE := Lib.hid (In.nmd_idx h hv)
    rw [hv] at C
    clear hv
    cases v
    all_goals
      go_enter Try.func44, Try.ntmps44
      go_wp2_with (first | (go_at_call 56; ((with_reducible refine C.out.mono ?_); rintro x' w1 ⟨rfl, hb1⟩)))
      go_ret
      exact ⟨ret_bool HE.out.symm, hb1⟩
  · have HE := Lib.hid (In.nmd_long (s := s) (by omega))
    have hd : decide ((s.size : Int) ≤ 22) = false := decide_eq_false h
    go_enter Try.func44, Try.ntmps44
    go_wp2
    go_ret
    exact ⟨ret_bool HE.out.symm, Below.refl _ _⟩
theorem p_note (n : Int) (w : World) :
    Calls Try.prog 42 #[.int .i64 n] w fun x w' => x = .returned (.bool (In.wth n 0 119)) ∧ w = w' := by
  go_enter Try.func42, Try.ntmps42
  go_wp2_with (first | (go_at_call 40; ((with_reducible refine (p_within _ _ _ _).mono ?_); rintro x' w1 ⟨rfl, rfl⟩)))
  go_ret
  exact ⟨rfl, rfl⟩
theorem p_sample (n : Int) (w : World) :
    Calls Try.prog 48 #[.int .i64 n] w fun x w' => x = .returned (.bool (In.wth n 0 31)) ∧ w = w' := by
  go_enter Try.func48, Try.ntmps48
  go_wp2_with (first | (go_at_call 40; ((with_reducible refine (p_within _ _ _ _).mono ?_); rintro x' w1 ⟨rfl, rfl⟩)))
  go_ret
  exact ⟨rfl, rfl⟩
theorem p_key1 (n s : Int) (w : World) :
    Calls Try.prog 60 #[.agg #[.int .i64 n, .int .i64 s]] w fun x w' => x = .returned (.bool (In.wth n 0 119 && In.wth s 0 31)) ∧ Below w.heap.size w w' := by
  have C1 := Lib.hid (fun w => p_note n w)
  have C2 := Lib.hid (fun w => p_sample s w)
  obtain ⟨v1, hv1⟩ : ∃ v, In.wth n 0 119 = v := ⟨_, rfl⟩
  obtain ⟨v2, hv2⟩ : ∃ v, In.wth s 0 31 = v := ⟨_, rfl⟩
  rw [hv1] at C1
  rw [hv2] at C2
  rw [hv1, hv2]
  clear hv1 hv2
  cases v1 <;> cases v2
  all_goals
    go_enter Try.func60, Try.ntmps60
    go_wp2_with (first | (go_at_call 42; ((with_reducible refine (C1.out _).mono ?_); rintro x' w1 ⟨rfl, rfl⟩)) | (go_at_call 48; ((with_reducible refine (C2.out _).mono ?_); rintro x' w1 ⟨rfl, rfl⟩)))
    go_ret
    exact ⟨rfl, below_box _ _⟩
theorem p_keybad (n s : Int) (w : World) :
    Calls Try.prog 59 #[.agg #[.int .i64 n, .int .i64 s]] w fun x w' => x = .returned (.bool (!(In.wth n 0 119 && In.wth s 0 31))) ∧ Below w.heap.size w w' := by
  have C := Lib.hid (fun w => p_key1 n s w)
  obtain ⟨v, hv⟩ : ∃ v, (In.wth n 0 119 && In.wth s 0 31) = v := ⟨_, rfl⟩
  rw [hv] at C ⊢
  clear hv
  cases v
  all_goals
    go_enter Try.func59, Try.ntmps59
    go_wp2_with (first | (go_at_call 60; ((with_reducible refine (C.out _).mono ?_); rintro x' w1 ⟨rfl, hb1⟩)))
    go_ret
    exact ⟨rfl, stepB (below_box _ _) hb1⟩
end Go.Proofs.Ytcchfahdgmcpbaa

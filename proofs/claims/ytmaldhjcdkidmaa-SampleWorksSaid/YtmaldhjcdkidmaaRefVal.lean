/-
  Contracts of the reference's functions Named, Fits, Looped and Valid: for any values, what the call returns; nothing that was there is changed.
-/
import Derived.Test.YtmaldhjcdkidmaaBase
import Derived.Test.YtmaldhjcdkidmaaSmp
import Derived.LoopTactic
import Derived.Lib.Hide
namespace Go.Proofs.Ytmaldhjcdkidmaa
open Go.RowKit

theorem rfits (x b : Int) (w : World) (hb : b = 8 ∨ b = 16) :
    Calls Try.prog 45 #[.int .i64 x, .int .i64 b] w fun e w' => e = .returned (.bool (Sm.fts x b)) ∧ w = w' := by
  rcases hb with rfl | rfl
  · by_cases h1 : x < -128
    · go_enter Try.func45, Try.ntmps45
      go_wp2
      go_ret
      exact ⟨ret_bool (by simp [Sm.fts]; omega), rfl⟩
    · by_cases h2 : x < 128
      · go_enter Try.func45, Try.ntmps45
        go_wp2
        go_ret
        exact ⟨ret_bool (by simp [Sm.fts]; omega), rfl⟩
      · have hd : decide (x < 128) = false := decide_eq_false h2
        go_enter Try.func45, Try.ntmps45
        go_wp2
        go_ret
        exact ⟨ret_bool (by simp [Sm.fts]; omega), rfl⟩
  · by_cases h1 : x < -32768
    · go_enter Try.func45, Try.ntmps45
      go_wp2
      go_ret
      exact ⟨ret_bool (by simp [Sm.fts]; omega), rfl⟩
    · by_cases h2 : x < 32768
      · go_enter Try.func45, Try.ntmps45
        go_wp2
        go_ret
        exact ⟨ret_bool (by simp [Sm.fts]; omega), rfl⟩
      · have hd : decide (x < 32768) = false := decide_eq_false h2
        go_enter Try.func45, Try.ntmps45
        go_wp2
        go_ret
        exact ⟨ret_bool (by simp [Sm.fts]; omega), rfl⟩
theorem rlooped (k s e n : Int) (w : World) :
    Calls Try.prog 46 #[.int .i64 k, .int .i64 s, .int .i64 e, .int .i64 n] w fun x w' => x = .returned (.bool (Sm.lpd k s e n)) ∧ w = w' := by
  by_cases h0 : k = 0
  · subst h0
    by_cases hs : s = 0
    · by_cases he : e = 0
      · have HB := Lib.hid (show Sm.lpd 0 s e n = true by rw [lpd_zero]; exact decide_eq_true ⟨hs, he⟩)
        go_enter Try.func46, Try.ntmps46
        go_wp2
        go_ret
        exact ⟨ret_bool HB.out.symm, rfl⟩
      · have HB := Lib.hid (show Sm.lpd 0 s e n = false by rw [lpd_zero]; exact decide_eq_false (by omega))
        have he' : (e == 0) = false := by simpa using he
        go_enter Try.func46, Try.ntmps46
        go_wp2
        go_ret
        exact ⟨ret_bool HB.out.symm, rfl⟩
    · have HB := Lib.hid (show Sm.lpd 0 s e n = false by rw [lpd_zero]; exact decide_eq_false (by omega))
      have hs' : (s == 0) = false := by simpa using hs
      go_enter Try.func46, Try.ntmps46
      go_wp2
      go_ret
      exact ⟨ret_bool HB.out.symm, rfl⟩
  by_cases h1 : k = 1 ∨ k = 2
  · by_cases ha : 0 ≤ s
    · by_cases hb : s < e
      · by_cases hc : e ≤ n
        · have HB := Lib.hid (show Sm.lpd k s e n = true by rw [lpd_one h1]; exact decide_eq_true ⟨ha, hb, hc⟩)
          rcases h1 with rfl | rfl
          all_goals
            go_enter Try.func46, Try.ntmps46
            go_wp2
            go_ret
            exact ⟨ret_bool HB.out.symm, rfl⟩
        · have HB := Lib.hid (show Sm.lpd k s e n = false by rw [lpd_one h1]; exact decide_eq_false (by omega))
          have hc' : decide (e ≤ n) = false := decide_eq_false hc
          rcases h1 with rfl | rfl
          all_goals
            go_enter Try.func46, Try.ntmps46
            go_wp2
            go_ret
            exact ⟨ret_bool HB.out.symm, rfl⟩
      · have HB := Lib.hid (show Sm.lpd k s e n = false by rw [lpd_one h1]; exact decide_eq_false (by omega))
        have hb' : decide (s < e) = false := decide_eq_false hb
        rcases h1 with rfl | rfl
        all_goals
          go_enter Try.func46, Try.ntmps46
          go_wp2
          go_ret
          exact ⟨ret_bool HB.out.symm, rfl⟩
    · have HB := Lib.hid (show Sm.lpd k s e n = false by rw [lpd_one h1]; exact decide_eq_false (by omega))
      have ha' : decide (0 ≤ s) = false := decide_eq_false ha
      rcases h1 with rfl | rfl
      all_goals
        go_enter Try.func46, Try.ntmps46
        go_wp2
        go_ret
        exact ⟨ret_bool HB.out.symm, rfl⟩
  · have HB := Lib.hid (lpd_else (s := s) (e := e) (n := n) h0 (by omega) (by omega))
    have h2 : k ≠ 1 := by omega
    have h3 : k ≠ 2 := by omega
    go_enter Try.func46, Try.ntmps46
    go_wp2
    go_ret
    exact ⟨ret_bool HB.out.symm, rfl⟩
theorem rnamed (s : ByteArray) (w : World) (hm : s.size ≤ maxLen) :
    Calls Try.prog 44 #[.string s] w fun x w' => x = .returned (.bool (Sm.nmd s)) ∧ w = w' := by
  unfold maxLen at hm
  by_cases h : 22 < (s.size : Int)
  · rw [nmd_long h]
    go_enter Try.func44, Try.ntmps44
    go_wp2
    go_ret
    exact ⟨rfl, rfl⟩
  · go_enter Try.func44, Try.ntmps44
    go_wp2
    go_loop [3] (fun i => ∃ k : Nat, (k : Int) ≤ s.size ∧ i = .int .i64 k ∧ Hid (∀ j (hj : j < s.size), j < k → 32 ≤ (s[j].toNat : Int) ∧ (s[j].toNat : Int) ≤ 126)) (fun i => s.size - (intOf i).toNat)
    case atStart => exact ⟨0, by omega, rfl, fun _ _ h => by omega⟩
    case round =>
      obtain ⟨k, hk, rfl, HN⟩ := hrel
      by_cases hlt : k < s.size
      · by_cases h1 : (s[k].toNat : Int) < 32
        · have HB := Lib.hid (nmd_bad k hlt (.inl h1))
          go_wp2
          go_ret
          exact ⟨ret_bool HB.out.symm, rfl⟩
        · by_cases h2 : 126 < (s[k].toNat : Int)
          · have HB := Lib.hid (nmd_bad k hlt (.inr h2))
            go_wp2
            go_ret
            exact ⟨ret_bool HB.out.symm, rfl⟩
          · have h1' : 32 ≤ (s[k].toNat : Int) := by omega
            have h2' : (s[k].toNat : Int) ≤ 126 := by omega
            go_wp2
            go_round
            case rel => exact ⟨k + 1, by omega, by go_num, fun j hj hjk => by
              by_cases e : j = k
              · subst e; exact ⟨h1', h2'⟩
              · exact HN.out j hj (by omega)⟩
            case measure => simp [intOf]; omega
      · have HB := Lib.hid (Sm.nmd_mk (by omega) (fun i hi => HN.out i hi (by omega)))
        go_wp2
        go_ret
        exact ⟨ret_bool HB.out.symm, rfl⟩
end Go.Proofs.Ytmaldhjcdkidmaa

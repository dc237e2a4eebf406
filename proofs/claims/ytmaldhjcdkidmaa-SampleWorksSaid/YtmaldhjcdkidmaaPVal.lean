/-
  Contracts of package sample's small tests (within, validBits, limits, validName, validData): for any values, what the call returns; nothing that was there is changed.
-/
import Derived.Test.YtmaldhjcdkidmaaBase
import Derived.LoopTactic
namespace Go.Proofs.Ytmaldhjcdkidmaa
open Go.RowKit

theorem p_within_yes (n lo hi : Int) (w : World) (h1 : lo ≤ n) (h2 : n ≤ hi) :
    Calls Try.prog 39 #[.int .i64 n, .int .i64 lo, .int .i64 hi] w fun x w' => x = .returned (.bool true) ∧ w = w' := by
  go_enter Try.func39, Try.ntmps39
  go_wp2
  go_ret
  exact ⟨rfl, rfl⟩
theorem p_within_no (n lo hi : Int) (w : World) (h : n < lo ∨ hi < n) :
    Calls Try.prog 39 #[.int .i64 n, .int .i64 lo, .int .i64 hi] w fun x w' => x = .returned (.bool false) ∧ w = w' := by
  by_cases h1 : lo ≤ n
  · have h2 : decide (n ≤ hi) = false := decide_eq_false (by omega)
    clear h
    go_enter Try.func39, Try.ntmps39
    go_wp2
    go_ret
    exact ⟨rfl, rfl⟩
  · have h2 : decide (lo ≤ n) = false := decide_eq_false h1
    clear h h1
    go_enter Try.func39, Try.ntmps39
    go_wp2
    go_ret
    exact ⟨rfl, rfl⟩
/-- Whether a number lies between two. -/
def wth (n lo hi : Int) : Bool := decide (lo ≤ n ∧ n ≤ hi)
theorem p_within (n lo hi : Int) (w : World) :
    Calls Try.prog 39 #[.int .i64 n, .int .i64 lo, .int .i64 hi] w fun x w' => x = .returned (.bool (wth n lo hi)) ∧ w = w' := by
  unfold wth
  by_cases h : lo ≤ n ∧ n ≤ hi
  · rw [decide_eq_true h]; exact p_within_yes n lo hi w h.1 h.2
  · rw [decide_eq_false h]; exact p_within_no n lo hi w (by omega)
theorem p_bits_yes (b : Int) (w : World) (h : b = 8 ∨ b = 16) :
    Calls Try.prog 38 #[.int .i64 b] w fun x w' => x = .returned (.bool true) ∧ w = w' := by
  rcases h with rfl | rfl
  all_goals
    go_enter Try.func38, Try.ntmps38
    go_wp2
    go_ret
    exact ⟨rfl, rfl⟩
theorem p_bits_no (b : Int) (w : World) (h : ¬ (b = 8 ∨ b = 16)) :
    Calls Try.prog 38 #[.int .i64 b] w fun x w' => x = .returned (.bool false) ∧ w = w' := by
  have h1 : (b == 8) = false := by simp; omega
  have h2 : (b == 16) = false := by simp; omega
  clear h
  go_enter Try.func38, Try.ntmps38
  go_wp2
  go_ret
  exact ⟨rfl, rfl⟩
/-- Half of the numbers of so many bits. -/
def hlf (b : Int) : Int := 2 ^ (b - 1).toNat
theorem hlf_or {b : Int} (h : b = 8 ∨ b = 16) : (b = 8 ∧ hlf b = 128) ∨ (b = 16 ∧ hlf b = 32768) := by
  rcases h with rfl | rfl
  · exact .inl ⟨rfl, rfl⟩
  · exact .inr ⟨rfl, rfl⟩
theorem fts_hlf (x b : Int) : Sm.fts x b = decide (-(hlf b) ≤ x ∧ x < hlf b) := rfl
theorem p_limits (b : Int) (w : World) (h : b = 8 ∨ b = 16) :
    Calls Try.prog 61 #[.int .i64 b] w fun x w' => x = .returned (.tuple #[.int .i64 (-(hlf b)), .int .i64 (hlf b - 1)]) ∧ w = w' := by
  rcases h with rfl | rfl
  all_goals
    go_enter Try.func61, Try.ntmps61
    go_wp2
    go_ret2
    exact ⟨rfl, rfl⟩
theorem p_name (s : ByteArray) (w : World) (hm : s.size ≤ maxLen) :
    Calls Try.prog 37 #[.string s] w fun x w' => x = .returned (.bool (Sm.nmd s)) ∧ w = w' := by
  unfold maxLen at hm
  by_cases h : 22 < (s.size : Int)
  · rw [nmd_long h]
    go_enter Try.func37, Try.ntmps37
    go_wp2
    go_ret
    exact ⟨rfl, rfl⟩
  · go_enter Try.func37, Try.ntmps37
    go_wp2
    go_loop [9] (fun i => ∃ k : Nat, (k : Int) ≤ s.size ∧ i = .int .i64 k ∧ Hid (∀ j (hj : j < s.size), j < k → 32 ≤ (s[j].toNat : Int) ∧ (s[j].toNat : Int) ≤ 126)) (fun i => s.size - (intOf i).toNat)
    case atStart => exact ⟨0, by omega, rfl, fun _ _ h => by omega⟩
    case round =>
      obtain ⟨k, hk, rfl, HN⟩ := hrel
      by_cases hlt : k < s.size
      · by_cases h1 : 32 ≤ (s[k].toNat : Int) ∧ (s[k].toNat : Int) ≤ 126
        · obtain ⟨h1', h2'⟩ := h1
          go_wp2_with (first | (go_at_call 39; ((with_reducible refine (p_within_yes _ _ _ _ h1' h2').mono ?_); rintro x w' ⟨rfl, rfl⟩)))
          go_round
          case rel => exact ⟨k + 1, by omega, by go_num, fun j hj hjk => by
            by_cases e : j = k
            · subst e; exact ⟨h1', h2'⟩
            · exact HN.out j hj (by omega)⟩
          case measure => simp [intOf]; omega
        · have h2 : (s[k].toNat : Int) < 32 ∨ 126 < (s[k].toNat : Int) := by omega
          have HB := Lib.hid (nmd_bad k hlt h2)
          have H2 := Lib.hid h2
          have q0 : 0 ≤ (s[k].toNat : Int) := by omega
          have q1 : (s[k].toNat : Int) ≤ 255 := by have := s[k].toNat_lt; omega
          clear h1 h2
          go_wp2_with (first | (go_at_call 39; ((with_reducible refine (p_within_no _ _ _ _ H2.out).mono ?_); rintro x w' ⟨rfl, rfl⟩)))
          go_ret
          exact ⟨ret_bool HB.out.symm, rfl⟩
      · have HB := Lib.hid (Sm.nmd_mk (by omega) (fun i hi => HN.out i hi (by omega)))
        go_wp2
        go_ret
        exact ⟨ret_bool HB.out.symm, rfl⟩
/-- Frames of a valid sample. -/
def dok (zs : List Int) (b : Int) : Bool := decide ((zs.length : Int) ≤ 4096) && zs.all fun x => Sm.fts x b
theorem dok_long {zs : List Int} {b : Int} (h : 4096 < (zs.length : Int)) : dok zs b = false := by
  unfold dok; rw [decide_eq_false (by omega)]; rfl
theorem dok_bad {zs : List Int} {b : Int} (k : Nat) (hk : k < zs.length) (h : Sm.fts (zs.getD k 0) b = false) : dok zs b = false := by
  have : (zs.all fun x => Sm.fts x b) = false := by
    rw [List.all_eq_false]
    exact ⟨zs[k], List.getElem_mem hk, by simpa [List.getD_eq_getElem?_getD, List.getElem?_eq_getElem hk] using h⟩
  simp [dok, this]
theorem dok_mk {zs : List Int} {b : Int} (h : (zs.length : Int) ≤ 4096) (hf : ∀ i, i < zs.length → Sm.fts (zs.getD i 0) b = true) : dok zs b = true := by
  have : (zs.all fun x => Sm.fts x b) = true := by
    rw [List.all_eq_true]
    intro x hx
    obtain ⟨i, hi, rfl⟩ := List.mem_iff_getElem.1 hx
    have := hf i hi
    simpa [List.getD_eq_getElem?_getD, List.getElem?_eq_getElem hi] using this
  simp only [dok, this, decide_eq_true h, Bool.and_true]
theorem p_data (zs : List Int) (p : Option Addr) (cap : Nat) (b : Int) (w : World) (hb : b = 8 ∨ b = 16) (hd : DatAt w p zs) :
    Calls Try.prog 43 #[.slice p zs.length cap, .int .i64 b] w fun x w' => x = .returned (.bool (dok zs b)) ∧ w = w' := by
  by_cases h : 4096 < (zs.length : Int)
  · rw [dok_long h]
    go_enter Try.func43, Try.ntmps43
    go_wp2
    go_ret
    exact ⟨rfl, rfl⟩
  · have HD := Lib.hid hd
    have Hb := Lib.hid hb
    have hh := hlf_or hb
    clear hd hb
    go_enter Try.func43, Try.ntmps43
    go_wp2_with (first | (go_at_call 61; ((with_reducible refine (p_limits _ _ Hb.out).mono ?_); rintro x w' ⟨rfl, rfl⟩)))
    obtain ⟨y, hy⟩ : ∃ y, hlf b = y := ⟨_, rfl⟩
    rw [hy]
    rw [hy] at hh
    have HY := Lib.hid hy
    have hh1 : 128 ≤ y := by omega
    have hh2 : y ≤ 32768 := by omega
    clear hy hh
    go_loop [19] (fun i => ∃ k : Nat, (k : Int) ≤ zs.length ∧ i = .int .i64 k ∧ Hid (∀ j, j < k → Sm.fts (zs.getD j 0) b = true)) (fun i => zs.length - (intOf i).toNat)
    case atStart => exact ⟨0, by omega, rfl, fun _ h => by omega⟩
    case round =>
      obtain ⟨k, hk, rfl, HN⟩ := hrel
      by_cases hlt : k < zs.length
      · obtain ⟨bl, off, hp, hc⟩ := HD.out.at hlt
        subst hp
        obtain ⟨z, hz⟩ : ∃ z, zs.getD k 0 = z := ⟨_, rfl⟩
        rw [hz] at hc
        have HZ := Lib.hid hz
        clear hz
        by_cases ht : -y ≤ z ∧ z ≤ y - 1
        · have HF : Hid (Sm.fts (zs.getD k 0) b = true) := by
            show Sm.fts (zs.getD k 0) b = true
            rw [HZ.out, fts_hlf, HY.out]; exact decide_eq_true ⟨ht.1, by omega⟩
          have hz1 := ht.1
          have hz2 := ht.2
          clear ht
          go_wp2
          go_round
          case rel => exact ⟨k + 1, by omega, by go_num, fun j hj => by
            by_cases e : j = k
            · subst e; exact HF.out
            · exact HN.out j (by omega)⟩
          case measure => simp [intOf]; omega
        · have HB := Lib.hid (dok_bad (zs := zs) (b := b) k hlt (by rw [HZ.out, fts_hlf, HY.out]; exact decide_eq_false (by omega)))
          by_cases hz : z < -y
          · clear ht
            go_wp2
            go_ret
            exact ⟨ret_bool HB.out.symm, rfl⟩
          · have hz' : y - 1 < z := by omega
            clear ht
            go_wp2
            go_ret
            exact ⟨ret_bool HB.out.symm, rfl⟩
      · have HB := Lib.hid (dok_mk (zs := zs) (b := b) (by omega) (fun i hi => HN.out i (by omega)))
        go_wp2
        go_ret
        exact ⟨ret_bool HB.out.symm, rfl⟩
end Go.Proofs.Ytmaldhjcdkidmaa

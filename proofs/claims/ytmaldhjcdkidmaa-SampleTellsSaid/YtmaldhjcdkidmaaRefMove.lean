/-
  Contracts of the reference's Stands: which cursors are valid for a sample; nothing that was there is changed.
-/
import Derived.Test.YtmaldhjcdkidmaaRefGoneB
import Derived.Deep.RegionWith
namespace Go.Proofs.Ytmaldhjcdkidmaa
open Go.RowKit

theorem rover' (w : World) :
    Calls Try.prog 47 #[] w fun e w' => e = .returned (.agg #[.int .i64 0, .int .i64 0, .bool false, .bool true]) ∧ Below w.heap.size w w' := by
  go_enter Try.func47, Try.ntmps47
  go_wp2
  exact bodyPost_ret (v := .agg #[.int .i64 0, .int .i64 0, .bool false, .bool true]) (by simp [results, Try.results47, go_sem]) rfl ⟨rfl, ((Below.refl _ _).alloc (Nat.le_refl _) _)⟩
theorem std_case0 (s : Sm.Smp) (p : Option Addr) (cap : Nat) (po fr : Int) (bk : Bool) (w : World) (h : (po == 0) = false) :
    Calls Try.prog 52 #[SV s p cap, .agg #[.int .i64 po, .int .i64 fr, .bool bk, .bool true]] w fun x w' => x = .returned (.bool false) ∧ Below w.heap.size w w' := by
  unfold SV
  go_enter Try.func52, Try.ntmps52
  go_wp2_with fail
  go_region_with (first | (go_at_call 47; refine (rover' _).mono ?_; rintro x w' ⟨rfl, hb⟩; (have c0 := kept_cell (a := ⟨w.heap.size + 1, 0, none⟩) (v := .int .i64 po) hb (by go_simp)); (have c1 := kept_cell (a := ⟨w.heap.size + 1, 1, none⟩) (v := .int .i64 fr) hb (by go_simp)); (have c2 := kept_cell (a := ⟨w.heap.size + 1, 2, none⟩) (v := .bool bk) hb (by go_simp)); (have c3 := kept_cell (a := ⟨w.heap.size + 1, 3, none⟩) (v := .bool true) hb (by go_simp))))
  all_goals
    go_wp2
    go_ret
    exact ⟨rfl, ((((Below.refl _ _).alloc (Nat.le_refl _) _).alloc (by simp) _).drew).trans (hb.mono (by simp; omega))⟩
theorem std_case1 (s : Sm.Smp) (p : Option Addr) (cap : Nat) (fr : Int) (bk : Bool) (w : World) (h : (fr == 0) = false) :
    Calls Try.prog 52 #[SV s p cap, .agg #[.int .i64 0, .int .i64 fr, .bool bk, .bool true]] w fun x w' => x = .returned (.bool false) ∧ Below w.heap.size w w' := by
  unfold SV
  go_enter Try.func52, Try.ntmps52
  go_wp2_with fail
  go_region_with (first | (go_at_call 47; refine (rover' _).mono ?_; rintro x w' ⟨rfl, hb⟩; (have c0 := kept_cell (a := ⟨w.heap.size + 1, 0, none⟩) (v := .int .i64 0) hb (by go_simp)); (have c1 := kept_cell (a := ⟨w.heap.size + 1, 1, none⟩) (v := .int .i64 fr) hb (by go_simp)); (have c2 := kept_cell (a := ⟨w.heap.size + 1, 2, none⟩) (v := .bool bk) hb (by go_simp)); (have c3 := kept_cell (a := ⟨w.heap.size + 1, 3, none⟩) (v := .bool true) hb (by go_simp))))
  all_goals
    go_wp2
    go_ret
    exact ⟨rfl, ((((Below.refl _ _).alloc (Nat.le_refl _) _).alloc (by simp) _).drew).trans (hb.mono (by simp; omega))⟩
theorem std_case2 (s : Sm.Smp) (p : Option Addr) (cap : Nat) (w : World) :
    Calls Try.prog 52 #[SV s p cap, .agg #[.int .i64 0, .int .i64 0, .bool true, .bool true]] w fun x w' => x = .returned (.bool false) ∧ Below w.heap.size w w' := by
  unfold SV
  go_enter Try.func52, Try.ntmps52
  go_wp2_with fail
  go_region_with (first | (go_at_call 47; refine (rover' _).mono ?_; rintro x w' ⟨rfl, hb⟩; (have c0 := kept_cell (a := ⟨w.heap.size + 1, 0, none⟩) (v := .int .i64 0) hb (by go_simp)); (have c1 := kept_cell (a := ⟨w.heap.size + 1, 1, none⟩) (v := .int .i64 0) hb (by go_simp)); (have c2 := kept_cell (a := ⟨w.heap.size + 1, 2, none⟩) (v := .bool true) hb (by go_simp)); (have c3 := kept_cell (a := ⟨w.heap.size + 1, 3, none⟩) (v := .bool true) hb (by go_simp))))
  all_goals
    go_wp2
    go_ret
    exact ⟨rfl, ((((Below.refl _ _).alloc (Nat.le_refl _) _).alloc (by simp) _).drew).trans (hb.mono (by simp; omega))⟩
theorem std_case3 (s : Sm.Smp) (p : Option Addr) (cap : Nat) (w : World) :
    Calls Try.prog 52 #[SV s p cap, .agg #[.int .i64 0, .int .i64 0, .bool false, .bool true]] w fun x w' => x = .returned (.bool true) ∧ Below w.heap.size w w' := by
  unfold SV
  go_enter Try.func52, Try.ntmps52
  go_wp2_with fail
  go_region_with (first | (go_at_call 47; refine (rover' _).mono ?_; rintro x w' ⟨rfl, hb⟩; (have c0 := kept_cell (a := ⟨w.heap.size + 1, 0, none⟩) (v := .int .i64 0) hb (by go_simp)); (have c1 := kept_cell (a := ⟨w.heap.size + 1, 1, none⟩) (v := .int .i64 0) hb (by go_simp)); (have c2 := kept_cell (a := ⟨w.heap.size + 1, 2, none⟩) (v := .bool false) hb (by go_simp)); (have c3 := kept_cell (a := ⟨w.heap.size + 1, 3, none⟩) (v := .bool true) hb (by go_simp))))
  all_goals
    go_wp2
    go_ret
    exact ⟨rfl, ((((Below.refl _ _).alloc (Nat.le_refl _) _).alloc (by simp) _).drew).trans (hb.mono (by simp; omega))⟩

theorem rstands_done (s : Sm.Smp) (p : Option Addr) (cap : Nat) (po fr : Int) (bk : Bool) (w : World) :
    Calls Try.prog 52 #[SV s p cap, .agg #[.int .i64 po, .int .i64 fr, .bool bk, .bool true]] w fun x w' => x = .returned (.bool (std s.dat.length po fr bk true)) ∧ Below w.heap.size w w' := by
  have HS : std s.dat.length po fr bk true = decide (po = 0 ∧ fr = 0 ∧ bk = false) := by unfold std; rw [if_pos rfl]
  rw [HS]
  by_cases h1 : po = 0
  · subst h1
    by_cases h2 : fr = 0
    · subst h2
      cases bk
      · exact std_case3 s p cap w
      · exact std_case2 s p cap w
    · rw [decide_eq_false (by omega)]; exact std_case1 s p cap fr bk w (by simpa using h2)
  · rw [decide_eq_false (by omega)]; exact std_case0 s p cap po fr bk w (by simpa using h1)
theorem rstands_run (s : Sm.Smp) (p : Option Addr) (cap : Nat) (po fr : Int) (bk : Bool) (w : World) :
    Calls Try.prog 52 #[SV s p cap, .agg #[.int .i64 po, .int .i64 fr, .bool bk, .bool false]] w fun x w' => x = .returned (.bool (std s.dat.length po fr bk false)) ∧ Below w.heap.size w w' := by
  have HS : ∀ v, (0 ≤ po ∧ po < s.dat.length ∧ 0 ≤ fr ∧ fr ≤ 65535 ↔ v = true) → Hid (std s.dat.length po fr bk false = v) := fun v hv => by
    show std s.dat.length po fr bk false = v
    unfold std
    rw [if_neg (by simp)]
    by_cases h : 0 ≤ po ∧ po < s.dat.length ∧ 0 ≤ fr ∧ fr ≤ 65535
    · rw [decide_eq_true h, hv.1 h]
    · rw [decide_eq_false h]
      cases v
      · rfl
      · exact absurd (hv.2 rfl) h
  have HH := Lib.hid HS
  clear HS
  unfold SV
  by_cases h1 : 0 ≤ po
  · by_cases h2 : po < s.dat.length
    · by_cases h3 : 0 ≤ fr
      · by_cases h4 : fr ≤ 65535
        · have HB := HH.out true (by simp; omega)
          go_enter Try.func52, Try.ntmps52
          go_wp2
          go_ret
          exact ⟨ret_bool HB.out.symm, ((Below.refl _ _).alloc (Nat.le_refl _) _).alloc (by simp) _⟩
        · have HB := HH.out false (by simp; omega)
          have h4' : decide (fr ≤ 65535) = false := decide_eq_false h4
          go_enter Try.func52, Try.ntmps52
          go_wp2
          go_ret
          exact ⟨ret_bool HB.out.symm, ((Below.refl _ _).alloc (Nat.le_refl _) _).alloc (by simp) _⟩
      · have HB := HH.out false (by simp; omega)
        have h3' : decide (0 ≤ fr) = false := decide_eq_false h3
        go_enter Try.func52, Try.ntmps52
        go_wp2
        go_ret
        exact ⟨ret_bool HB.out.symm, ((Below.refl _ _).alloc (Nat.le_refl _) _).alloc (by simp) _⟩
    · have HB := HH.out false (by simp; omega)
      have h2' : decide (po < s.dat.length) = false := decide_eq_false h2
      go_enter Try.func52, Try.ntmps52
      go_wp2
      go_ret
      exact ⟨ret_bool HB.out.symm, ((Below.refl _ _).alloc (Nat.le_refl _) _).alloc (by simp) _⟩
  · have HB := HH.out false (by simp; omega)
    have h1' : decide (0 ≤ po) = false := decide_eq_false h1
    go_enter Try.func52, Try.ntmps52
    go_wp2
    go_ret
    exact ⟨ret_bool HB.out.symm, ((Below.refl _ _).alloc (Nat.le_refl _) _).alloc (by simp) _⟩
theorem rstands (s : Sm.Smp) (p : Option Addr) (cap : Nat) (po fr : Int) (bk dn : Bool) (w : World) :
    Calls Try.prog 52 #[SV s p cap, .agg #[.int .i64 po, .int .i64 fr, .bool bk, .bool dn]] w fun x w' => x = .returned (.bool (std s.dat.length po fr bk dn)) ∧ Below w.heap.size w w' := by
  cases dn
  · exact rstands_run s p cap po fr bk w
  · exact rstands_done s p cap po fr bk w
end Go.Proofs.Ytmaldhjcdkidmaa

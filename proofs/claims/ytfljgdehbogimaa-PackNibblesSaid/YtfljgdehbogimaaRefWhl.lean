/-
  Contracts of the reference's whole (is data in order?), versioned and asked; nothing is changed.
-/
import Derived.Test.YtfljgdehbogimaaRefAny
namespace Go.Proofs.Ytfljgdehbogimaa
open Go.RowKit

/-- The error of data of so many bits, 0 if there is none. -/
def whl (l : List Int) (b : Int) : Int := if b = 8 ∨ b = 16 then (if ∀ x ∈ l, Pk.wrp (hlf b) x = x then (if 4096 < l.length then 3 else 0) else 1) else 1
theorem rright_t (b : Int) (w : World) (h : b = 8 ∨ b = 16) :
    Calls Try.prog 30 #[.int .i64 b] w fun e w' => e = .returned (.bool true) ∧ w = w' := by
  have : (b == 8 || b == 16) = true := by rcases h with h | h <;> simp [h]
  exact this ▸ rright b w
theorem rright_f (b : Int) (w : World) (h : ¬ (b = 8 ∨ b = 16)) :
    Calls Try.prog 30 #[.int .i64 b] w fun e w' => e = .returned (.bool false) ∧ w = w' := by
  have : (b == 8 || b == 16) = false := by
    simp only [Bool.or_eq_false_iff, beq_eq_false_iff_ne]
    omega
  exact this ▸ rright b w
theorem rwhole_bits (l : List Int) (p : Option Addr) (cap : Nat) (b : Int) (w : World) (h : ¬ (b = 8 ∨ b = 16)) :
    Calls Try.prog 26 #[.slice p l.length cap, .int .i64 b] w fun e w' => e = .returned (.int .i64 1) ∧ w = w' := by
  have R := Lib.hid (rright_f b w h)
  clear h
  go_enter Try.func26, Try.ntmps26
  go_wp2_with (first | (go_at_call 30; ((with_reducible refine R.out.mono ?_); rintro x' w' ⟨rfl, rfl⟩)))
  go_ret
  exact ⟨rfl, rfl⟩
theorem all_split {P : Int → Prop} {l : List Int} {k : Nat} (h : ∀ j, j < k → P (l.getD j 0)) (hp : P (l.getD k 0)) : ∀ j, j < k + 1 → P (l.getD j 0) := fun j hj => by
  by_cases e : j = k
  · exact e ▸ hp
  · exact h j (by omega)
theorem all_of {P : Int → Prop} {l : List Int} (h : ∀ j, j < l.length → P (l.getD j 0)) : ∀ x ∈ l, P x := fun x hx => by
  obtain ⟨i, hi, rfl⟩ := List.getElem_of_mem hx
  have := h i hi
  rwa [List.getD_eq_getElem?_getD, List.getElem?_eq_getElem hi] at this
set_option maxHeartbeats 1600000 in
theorem rwhole_any (l : List Int) (p : Option Addr) (cap : Nat) (b : Int) (w : World) (hd : DatAt w p l) (hi : ∀ x ∈ l, -9223372036854775808 ≤ x ∧ x ≤ 9223372036854775807) (hl : (l.length : Int) ≤ 1152921504606846976) (h : b = 8 ∨ b = 16) :
    Calls Try.prog 26 #[.slice p l.length cap, .int .i64 b] w fun e w' => e = .returned (.int .i64 (whl l b)) ∧ w = w' := by
  have R := Lib.hid (rright_t b w h)
  have HB := Lib.hid h
  have HD := Lib.hid hd
  have HI := Lib.hid hi
  have b1 : 1 ≤ b := by omega
  have b2 : b ≤ 17 := by omega
  clear h hd hi
  go_enter Try.func26, Try.ntmps26
  go_wp2_with (first | (go_at_call 30; ((with_reducible refine R.out.mono ?_); rintro x' w' ⟨rfl, rfl⟩)))
  go_loopw [5] (fun i wr => ∃ k : Nat, k ≤ l.length ∧ i = .int .i64 k ∧ wr = w ∧ Hid (∀ j, j < k → Pk.wrp (hlf b) (l.getD j 0) = l.getD j 0)) (fun i _ => l.length - (intOf i).toNat)
  case atStart => exact ⟨0, by omega, rfl, rfl, fun j hj => by omega⟩
  case round =>
    obtain ⟨k, hk, rfl, rfl, HA⟩ := hrel
    by_cases hlt : k < l.length
    · obtain ⟨bd, od, hp1, hc1⟩ := HD.out.at (i := k) hlt
      obtain ⟨y, hy⟩ : ∃ y, l.getD k 0 = y := ⟨_, rfl⟩
      have y0 := getD_in (P := fun x => -9223372036854775808 ≤ x ∧ x ≤ 9223372036854775807) HI.out hlt
      rw [hy] at hc1 y0
      have HY := Lib.hid hy
      have C := Lib.hid (rfits_any y b wr y0.1 y0.2 b1 b2)
      clear hy
      subst hp1
      by_cases hf : Pk.wrp (hlf b) y = y
      · rw [decide_eq_true hf] at C
        have HF := Lib.hid hf
        clear hf
        go_wp2_with (first | (go_at_call 54; ((with_reducible refine C.out.mono ?_); rintro x' w' ⟨rfl, rfl⟩)))
        go_roundw
        case rel => exact ⟨k + 1, by omega, by go_num, trivial, all_split (P := fun x => Pk.wrp (hlf b) x = x) HA.out (HY.out ▸ HF.out)⟩
        case measure => simp [intOf]; omega
      · rw [decide_eq_false hf] at C
        have HF := Lib.hid hf
        clear hf
        go_wp2_with (first | (go_at_call 54; ((with_reducible refine C.out.mono ?_); rintro x' w' ⟨rfl, rfl⟩)))
        go_ret
        have e : whl l b = 1 := by
          unfold whl
          rw [if_pos HB.out, if_neg]
          intro ha
          have := getD_in (P := fun x => Pk.wrp (hlf b) x = x) ha hlt
          rw [HY.out] at this
          exact HF.out this
        exact ⟨ret_int e.symm, rfl⟩
    · have HW := Lib.hid (show whl l b = if 4096 < l.length then 3 else 0 by
        unfold whl
        rw [if_pos HB.out, if_pos]
        exact all_of (P := fun x => Pk.wrp (hlf b) x = x) fun j hj => HA.out j (by omega))
      by_cases h4 : 4096 < l.length
      · rw [if_pos h4] at HW
        go_wp2
        go_ret
        exact ⟨ret_int HW.out.symm, rfl⟩
      · rw [if_neg h4] at HW
        go_wp2
        go_ret
        exact ⟨ret_int HW.out.symm, rfl⟩
theorem rwhole (l : List Int) (p : Option Addr) (cap : Nat) (b : Int) (w : World) (hd : DatAt w p l) (hi : ∀ x ∈ l, -9223372036854775808 ≤ x ∧ x ≤ 9223372036854775807) (hl : (l.length : Int) ≤ 1152921504606846976) :
    Calls Try.prog 26 #[.slice p l.length cap, .int .i64 b] w fun e w' => e = .returned (.int .i64 (whl l b)) ∧ w = w' := by
  by_cases h : b = 8 ∨ b = 16
  · exact rwhole_any l p cap b w hd hi hl h
  · have e : whl l b = 1 := by unfold whl; rw [if_neg h]
    rw [e]
    exact rwhole_bits l p cap b w h
theorem rversioned (v : Int) (w : World) :
    Calls Try.prog 31 #[.int .i64 v] w fun e w' => e = .returned (.bool (v == 1 || v == 2)) ∧ w = w' := by
  go_enter Try.func31, Try.ntmps31
  go_wp2
  all_goals (go_ret; exact ⟨ret_bool (by rename_i h; simp [h]), rfl⟩)
/-- The error of so many bytes and frames that are wanted, 0 if there is none. -/
def ask (m : Nat) (n : Int) : Int := if 400000 < m then 3 else if n < 0 ∨ 4096 < n then 5 else 0
theorem rasked (p : Option Addr) (m cap : Nat) (n : Int) (w : World) (hl : (m : Int) ≤ 1152921504606846976) :
    Calls Try.prog 36 #[.slice p m cap, .int .i64 n] w fun e w' => e = .returned (.int .i64 (ask m n)) ∧ w = w' := by
  by_cases h1 : 400000 < m
  · have e : Hid (ask m n = 3) := Lib.hid (by unfold ask; rw [if_pos h1])
    go_enter Try.func36, Try.ntmps36
    go_wp2
    go_ret
    exact ⟨ret_int e.out.symm, rfl⟩
  · by_cases h2 : n < 0
    · have e : Hid (ask m n = 5) := Lib.hid (by unfold ask; rw [if_neg h1, if_pos (.inl h2)])
      go_enter Try.func36, Try.ntmps36
      go_wp2
      go_ret
      exact ⟨ret_int e.out.symm, rfl⟩
    · by_cases h3 : 4096 < n
      · have e : Hid (ask m n = 5) := Lib.hid (by unfold ask; rw [if_neg h1, if_pos (.inr h3)])
        go_enter Try.func36, Try.ntmps36
        go_wp2
        go_ret
        exact ⟨ret_int e.out.symm, rfl⟩
      · have e : Hid (ask m n = 0) := Lib.hid (by unfold ask; rw [if_neg h1, if_neg]; omega)
        go_enter Try.func36, Try.ntmps36
        go_wp2
        go_ret
        exact ⟨ret_int e.out.symm, rfl⟩
end Go.Proofs.Ytfljgdehbogimaa

/-
  Contracts: the library's cmp.Or (the first number that is not 0), the reference's nearer, and the comparison of package pack's Table.
-/
import Derived.Test.YtfljgdehbogimaaTabM
import Derived.Test.YtfljgdehbogimaaPNib
import Derived.Deep.RegionWith
namespace Go.Proofs.Ytfljgdehbogimaa
open Go.RowKit

/-- The first number that is not 0. -/
def orr : List Int → Int
  | [] => 0
  | x :: l => if x ≠ 0 then x else orr l
theorem orr_at : ∀ (l : List Int) (k : Nat), k < l.length → (∀ j, j < k → l.getD j 0 = 0) → l.getD k 0 ≠ 0 → orr l = l.getD k 0
  | [], k, h, _, _ => by simp at h
  | x :: l, 0, _, _, h => by
    unfold orr
    rw [if_pos (by simpa using h)]
    simp
  | x :: l, k + 1, h, h1, h2 => by
    unfold orr
    have h0 : x = 0 := by simpa using h1 0 (by omega)
    rw [if_neg (by simp [h0])]
    have := orr_at l k (by simpa using h) (fun j hj => by simpa using h1 (j + 1) (by omega)) (by simpa using h2)
    rw [this]
    simp
theorem orr_no : ∀ (l : List Int), (∀ j, j < l.length → l.getD j 0 = 0) → orr l = 0
  | [], _ => rfl
  | x :: l, h => by
    unfold orr
    have h0 : x = 0 := by simpa using h 0 (by simp)
    rw [if_neg (by simp [h0])]
    exact orr_no l fun j hj => by simpa using h (j + 1) (by simp; omega)
set_option maxHeartbeats 1600000 in
theorem l_or (l : List Int) (p : Option Addr) (cap : Nat) (w : World) (hd : DatAt w p l) (hl : (l.length : Int) ≤ 1152921504606846976) :
    Calls Try.prog 46 #[.slice p l.length cap] w fun e w' => e = .returned (.int .i64 (orr l)) ∧ w = w' := by
  have HD := Lib.hid hd
  clear hd
  go_enter Try.func46, Try.ntmps46
  go_wp2
  go_loopw [8] (fun i wr => ∃ k : Nat, k ≤ l.length ∧ i = .int .i64 k ∧ wr = w ∧ Hid (∀ j, j < k → l.getD j 0 = 0)) (fun i _ => l.length - (intOf i).toNat)
  case atStart => exact ⟨0, by omega, rfl, rfl, fun j hj => by omega⟩
  case round =>
    obtain ⟨k, hk, rfl, rfl, HA⟩ := hrel
    by_cases hlt : k < l.length
    · obtain ⟨bd, od, hp1, hc1⟩ := HD.out.at (i := k) hlt
      have HN := Lib.hid (orr_at l k hlt HA.out)
      obtain ⟨y, hy⟩ : ∃ y, l.getD k 0 = y := ⟨_, rfl⟩
      rw [hy] at hc1 HN
      have HY := Lib.hid hy
      clear hy
      subst hp1
      by_cases hz : y = 0
      · subst hz
        go_wp2
        go_roundw
        case rel =>
          refine ⟨k + 1, by omega, by go_num, trivial, fun j hj => ?_⟩
          by_cases e : j = k
          · rw [e]; exact HY.out
          · exact HA.out j (by omega)
        case measure => simp [intOf]; omega
      · have HZ := Lib.hid hz
        go_wp2
        go_ret
        exact ⟨ret_int (HN.out HZ.out).symm, rfl⟩
    · have e : k = l.length := by omega
      subst e
      have HO := Lib.hid (orr_no l HA.out)
      go_wp2
      go_ret
      exact ⟨ret_int HO.out.symm, rfl⟩
/-- Is a difference taken ahead of another one that occurs as often? -/
def ner (a b : Int) : Bool := decide (Tb.ab a < Tb.ab b ∨ (Tb.ab a = Tb.ab b ∧ b < a))
set_option maxHeartbeats 1600000 in
theorem r_nearer (a b : Int) (w : World) (a1 : -128 ≤ a) (a2 : a ≤ 127) (b1 : -128 ≤ b) (b2 : b ≤ 127) :
    Calls Try.prog 48 #[.int .i64 a, .int .i64 b] w fun e w' => e = .returned (.bool (ner a b)) ∧ w = w' := by
  have hna : IntKind.i64.wrap (-a) = -a := IntWalk.i64_in _ (by omega)
  have hnb : IntKind.i64.wrap (-b) = -b := IntWalk.i64_in _ (by omega)
  have HR := Lib.hid (show ∀ v : Bool, (v = true ↔ (Tb.ab a < Tb.ab b ∨ (Tb.ab a = Tb.ab b ∧ b < a))) → v = ner a b from fun v h => by
    unfold ner
    cases v with
    | true => exact (decide_eq_true (h.1 rfl)).symm
    | false => exact (decide_eq_false (fun h' => by have := h.2 h'; cases this)).symm)
  obtain ⟨N, hN⟩ : ∃ N, ner a b = N := ⟨_, rfl⟩
  rw [hN] at HR ⊢
  clear hN
  have ha : (a < 0 ∧ Tb.ab a = -a) ∨ (a = 0 ∧ Tb.ab a = 0) ∨ (0 < a ∧ Tb.ab a = a) := by unfold Tb.ab; omega
  have hb : (b < 0 ∧ Tb.ab b = -b) ∨ (b = 0 ∧ Tb.ab b = 0) ∨ (0 < b ∧ Tb.ab b = b) := by unfold Tb.ab; omega
  rcases ha with ⟨ha, ea⟩ | ⟨ha, ea⟩ | ⟨ha, ea⟩
  all_goals
    rcases hb with ⟨hb, eb⟩ | ⟨hb, eb⟩ | ⟨hb, eb⟩
    all_goals
      rw [ea, eb] at HR
      clear ea eb
      go_enter Try.func48, Try.ntmps48
      go_wp2
      all_goals
        go_ret
        exact ⟨ret_bool (HR.out _ (by first | (simp; done) | (simp; omega))), rfl⟩
end Go.Proofs.Ytfljgdehbogimaa

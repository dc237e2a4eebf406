/-
  The contract of the function literal of Amplify.
-/
import Derived.Test.YtmaldhjcdkidmaaPChgA
import Derived.Deep.DeepCutAuto
namespace Go.Proofs.Ytmaldhjcdkidmaa
open Go.RowKit

theorem mul_bound (x n : Int) (x1 : -65536 ≤ x) (x2 : x ≤ 65536) (n1 : -10000 ≤ n) (n2 : n ≤ 10000) : -655360000 ≤ x * n ∧ x * n ≤ 655360000 := by
  have h := Int.natAbs_mul x n
  have h2 : x.natAbs * n.natAbs ≤ 65536 * 10000 := Nat.mul_le_mul (by omega) (by omega)
  omega
theorem kin_cells {W : World} {a : Addr} {v : Value} (h : W.cell? a = some v) : ∀ u : Kin W, u.w.cell? a = some v := fun u => (u.below.cell (cell_lt h)).trans h
theorem c_amp_lo (x num den lo hi r : Int) (a b c d : Nat) (w : World) (ha : w.cell? ⟨a, 0, none⟩ = some (.int .i64 lo)) (hb : w.cell? ⟨b, 0, none⟩ = some (.int .i64 hi)) (hc : w.cell? ⟨c, 0, none⟩ = some (.int .i64 num)) (hd : w.cell? ⟨d, 0, none⟩ = some (.int .i64 den))
    (x1 : -65536 ≤ x) (x2 : x ≤ 65536) (n1 : -10000 ≤ num) (n2 : num ≤ 10000) (d1 : 0 < den) (d2 : den ≤ 10000) (hr : Sm.rnd (x * num) den = r) (q1 : r < lo) (q2 : r < hi) :
    Calls Try.prog 63 #[.int .i64 x, .pointer (some ⟨a, 0, none⟩), .pointer (some ⟨b, 0, none⟩), .pointer (some ⟨c, 0, none⟩), .pointer (some ⟨d, 0, none⟩)] w fun y w' => y = .returned (.int .i64 lo) ∧ Below w.heap.size w w' := by
  obtain ⟨m1, m2⟩ := mul_bound x num x1 x2 n1 n2
  have HRn := Lib.hid (fun w' => p_rnd (x * num) den w' (by omega) (by omega) d1 (by omega))
  rw [hr] at HRn
  have ka := kin_cells ha
  have kb := kin_cells hb
  have kc := kin_cells hc
  have kd := kin_cells hd
  have hg : Below w.heap.size w w := Below.refl _ _
  clear hr x1 x2 n1 n2 d1 d2 ha hb hc hd
  go_enter Try.func63, Try.ntmps63
  go_upto_region 1 with fail
  refine kin_region (W := w) (by kernel_rfl) (by kernel_rfl) hg ?_
  repeat (go_big_quiet_step (first | (go_at_call 64; exact kinS (HRn.out _))))
  refine wpQuiet_nil ?_
  intro w' hw
  go_wp2
  go_ret
  exact ⟨rfl, hw⟩
theorem c_amp_in (x num den lo hi r : Int) (a b c d : Nat) (w : World) (ha : w.cell? ⟨a, 0, none⟩ = some (.int .i64 lo)) (hb : w.cell? ⟨b, 0, none⟩ = some (.int .i64 hi)) (hc : w.cell? ⟨c, 0, none⟩ = some (.int .i64 num)) (hd : w.cell? ⟨d, 0, none⟩ = some (.int .i64 den))
    (x1 : -65536 ≤ x) (x2 : x ≤ 65536) (n1 : -10000 ≤ num) (n2 : num ≤ 10000) (d1 : 0 < den) (d2 : den ≤ 10000) (hr : Sm.rnd (x * num) den = r) (q1 : lo < r) (q2 : r < hi) :
    Calls Try.prog 63 #[.int .i64 x, .pointer (some ⟨a, 0, none⟩), .pointer (some ⟨b, 0, none⟩), .pointer (some ⟨c, 0, none⟩), .pointer (some ⟨d, 0, none⟩)] w fun y w' => y = .returned (.int .i64 r) ∧ Below w.heap.size w w' := by
  obtain ⟨m1, m2⟩ := mul_bound x num x1 x2 n1 n2
  have HRn := Lib.hid (fun w' => p_rnd (x * num) den w' (by omega) (by omega) d1 (by omega))
  rw [hr] at HRn
  have ka := kin_cells ha
  have kb := kin_cells hb
  have kc := kin_cells hc
  have kd := kin_cells hd
  have hg : Below w.heap.size w w := Below.refl _ _
  clear hr x1 x2 n1 n2 d1 d2 ha hb hc hd
  go_enter Try.func63, Try.ntmps63
  go_upto_region 1 with fail
  refine kin_region (W := w) (by kernel_rfl) (by kernel_rfl) hg ?_
  repeat (go_big_quiet_step (first | (go_at_call 64; exact kinS (HRn.out _))))
  refine wpQuiet_nil ?_
  intro w' hw
  go_wp2
  go_ret
  exact ⟨rfl, hw⟩
theorem c_amp_hi (x num den lo hi r : Int) (a b c d : Nat) (w : World) (ha : w.cell? ⟨a, 0, none⟩ = some (.int .i64 lo)) (hb : w.cell? ⟨b, 0, none⟩ = some (.int .i64 hi)) (hc : w.cell? ⟨c, 0, none⟩ = some (.int .i64 num)) (hd : w.cell? ⟨d, 0, none⟩ = some (.int .i64 den))
    (x1 : -65536 ≤ x) (x2 : x ≤ 65536) (n1 : -10000 ≤ num) (n2 : num ≤ 10000) (d1 : 0 < den) (d2 : den ≤ 10000) (hr : Sm.rnd (x * num) den = r) (q1 : lo < hi) (q2 : hi < r) :
    Calls Try.prog 63 #[.int .i64 x, .pointer (some ⟨a, 0, none⟩), .pointer (some ⟨b, 0, none⟩), .pointer (some ⟨c, 0, none⟩), .pointer (some ⟨d, 0, none⟩)] w fun y w' => y = .returned (.int .i64 hi) ∧ Below w.heap.size w w' := by
  obtain ⟨m1, m2⟩ := mul_bound x num x1 x2 n1 n2
  have HRn := Lib.hid (fun w' => p_rnd (x * num) den w' (by omega) (by omega) d1 (by omega))
  rw [hr] at HRn
  have ka := kin_cells ha
  have kb := kin_cells hb
  have kc := kin_cells hc
  have kd := kin_cells hd
  have hg : Below w.heap.size w w := Below.refl _ _
  clear hr x1 x2 n1 n2 d1 d2 ha hb hc hd
  go_enter Try.func63, Try.ntmps63
  go_upto_region 1 with fail
  refine kin_region (W := w) (by kernel_rfl) (by kernel_rfl) hg ?_
  repeat (go_big_quiet_step (first | (go_at_call 64; exact kinS (HRn.out _))))
  refine wpQuiet_nil ?_
  intro w' hw
  go_wp2
  go_ret
  exact ⟨rfl, hw⟩
theorem c_amp_eq (x num den lo hi r : Int) (a b c d : Nat) (w : World) (ha : w.cell? ⟨a, 0, none⟩ = some (.int .i64 lo)) (hb : w.cell? ⟨b, 0, none⟩ = some (.int .i64 hi)) (hc : w.cell? ⟨c, 0, none⟩ = some (.int .i64 num)) (hd : w.cell? ⟨d, 0, none⟩ = some (.int .i64 den))
    (x1 : -65536 ≤ x) (x2 : x ≤ 65536) (n1 : -10000 ≤ num) (n2 : num ≤ 10000) (d1 : 0 < den) (d2 : den ≤ 10000) (hr : Sm.rnd (x * num) den = r) (q1 : r = hi) (q2 : lo < hi) :
    Calls Try.prog 63 #[.int .i64 x, .pointer (some ⟨a, 0, none⟩), .pointer (some ⟨b, 0, none⟩), .pointer (some ⟨c, 0, none⟩), .pointer (some ⟨d, 0, none⟩)] w fun y w' => y = .returned (.int .i64 hi) ∧ Below w.heap.size w w' := by
  obtain ⟨m1, m2⟩ := mul_bound x num x1 x2 n1 n2
  have HRn := Lib.hid (fun w' => p_rnd (x * num) den w' (by omega) (by omega) d1 (by omega))
  rw [hr] at HRn
  have ka := kin_cells ha
  have kb := kin_cells hb
  have kc := kin_cells hc
  have kd := kin_cells hd
  have hg : Below w.heap.size w w := Below.refl _ _
  clear hr x1 x2 n1 n2 d1 d2 ha hb hc hd
  go_enter Try.func63, Try.ntmps63
  go_upto_region 1 with fail
  refine kin_region (W := w) (by kernel_rfl) (by kernel_rfl) hg ?_
  repeat (go_big_quiet_step (first | (go_at_call 64; exact kinS (HRn.out _))))
  refine wpQuiet_nil ?_
  intro w' hw
  go_wp2
  go_ret
  exact ⟨rfl, hw⟩
theorem c_amp_el (x num den lo hi r : Int) (a b c d : Nat) (w : World) (ha : w.cell? ⟨a, 0, none⟩ = some (.int .i64 lo)) (hb : w.cell? ⟨b, 0, none⟩ = some (.int .i64 hi)) (hc : w.cell? ⟨c, 0, none⟩ = some (.int .i64 num)) (hd : w.cell? ⟨d, 0, none⟩ = some (.int .i64 den))
    (x1 : -65536 ≤ x) (x2 : x ≤ 65536) (n1 : -10000 ≤ num) (n2 : num ≤ 10000) (d1 : 0 < den) (d2 : den ≤ 10000) (hr : Sm.rnd (x * num) den = r) (q1 : r = lo) (q2 : lo < hi) :
    Calls Try.prog 63 #[.int .i64 x, .pointer (some ⟨a, 0, none⟩), .pointer (some ⟨b, 0, none⟩), .pointer (some ⟨c, 0, none⟩), .pointer (some ⟨d, 0, none⟩)] w fun y w' => y = .returned (.int .i64 lo) ∧ Below w.heap.size w w' := by
  obtain ⟨m1, m2⟩ := mul_bound x num x1 x2 n1 n2
  have HRn := Lib.hid (fun w' => p_rnd (x * num) den w' (by omega) (by omega) d1 (by omega))
  rw [hr] at HRn
  have ka := kin_cells ha
  have kb := kin_cells hb
  have kc := kin_cells hc
  have kd := kin_cells hd
  have hg : Below w.heap.size w w := Below.refl _ _
  clear hr x1 x2 n1 n2 d1 d2 ha hb hc hd
  go_enter Try.func63, Try.ntmps63
  go_upto_region 1 with fail
  refine kin_region (W := w) (by kernel_rfl) (by kernel_rfl) hg ?_
  repeat (go_big_quiet_step (first | (go_at_call 64; exact kinS (HRn.out _))))
  refine wpQuiet_nil ?_
  intro w' hw
  go_wp2
  go_ret
  exact ⟨rfl, hw⟩
theorem c_amp (x num den lo hi : Int) (a b c d : Nat) (w : World) (ha : w.cell? ⟨a, 0, none⟩ = some (.int .i64 lo)) (hb : w.cell? ⟨b, 0, none⟩ = some (.int .i64 hi)) (hc : w.cell? ⟨c, 0, none⟩ = some (.int .i64 num)) (hd : w.cell? ⟨d, 0, none⟩ = some (.int .i64 den))
    (x1 : -65536 ≤ x) (x2 : x ≤ 65536) (n1 : -10000 ≤ num) (n2 : num ≤ 10000) (d1 : 0 < den) (d2 : den ≤ 10000) (hl : lo < hi) :
    Calls Try.prog 63 #[.int .i64 x, .pointer (some ⟨a, 0, none⟩), .pointer (some ⟨b, 0, none⟩), .pointer (some ⟨c, 0, none⟩), .pointer (some ⟨d, 0, none⟩)] w fun y w' => y = .returned (.int .i64 (Sm.clp lo hi (Sm.rnd (x * num) den))) ∧ Below w.heap.size w w' := by
  obtain ⟨r, hr⟩ : ∃ r, Sm.rnd (x * num) den = r := ⟨_, rfl⟩
  rw [hr]
  unfold Sm.clp
  by_cases h1 : r < lo
  · rw [if_pos h1]; exact c_amp_lo x num den lo hi r a b c d w ha hb hc hd x1 x2 n1 n2 d1 d2 hr h1 (by omega)
  · rw [if_neg h1]
    by_cases h2 : hi < r
    · rw [if_pos h2]; exact c_amp_hi x num den lo hi r a b c d w ha hb hc hd x1 x2 n1 n2 d1 d2 hr hl h2
    · rw [if_neg h2]
      by_cases h3 : r = hi
      · rw [h3]; exact c_amp_eq x num den lo hi r a b c d w ha hb hc hd x1 x2 n1 n2 d1 d2 hr h3 hl
      · by_cases h4 : r = lo
        · rw [h4]; exact c_amp_el x num den lo hi r a b c d w ha hb hc hd x1 x2 n1 n2 d1 d2 hr h4 hl
        · exact c_amp_in x num den lo hi r a b c d w ha hb hc hd x1 x2 n1 n2 d1 d2 hr (by omega) (by omega)
end Go.Proofs.Ytmaldhjcdkidmaa

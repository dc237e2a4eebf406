/-
  Package pattern's functions that write a part as text, and Text.
-/
import Derived.Test.YtfjfnbeegojlbaaDoorPMix
import Derived.Test.YtfjfnbeegojlbaaDoorTxtM
import Derived.Test.YtfjfnbeegojlbaaDoorShelf
import Derived.Deep.DeepCutAuto
namespace Go.Proofs.YtfjfnbeegojlbaaDoor
open Go.RowKit

theorem ret_str {a b : ByteArray} (h : a = b) : Ending.returned (.string a) = .returned (.string b) := by rw [h]
theorem p_two (n b q r : Nat) (w : World) (hq : n / b = q) (hr : n % b = r) (hb : b = 10 ∨ b = 16) (hn : n < b * b) :
    Calls Tryd.prog 52 #[.int .i64 n, .int .i64 b] w fun x w' => x = .returned (.string (Pt.txt2 n b)) ∧ Below w.heap.size w w' := by
  have HE := Lib.hid (show Pt.txt2 n b = (Pt.DG.extract q 36).extract 0 1 ++ (Pt.DG.extract r 36).extract 0 1 by unfold Pt.txt2 Pt.dg; rw [hq, hr])
  unfold Pt.DG at HE
  have hbb : 10 ≤ b ∧ b ≤ 16 := by omega
  have hq2 : q < b := by rw [← hq]; exact Nat.div_lt_of_lt_mul hn
  have hr2 : r < b := by rw [← hr]; exact Nat.mod_lt _ (by omega)
  have q1 : (q : Int) < 36 := by omega
  have r1 : (r : Int) < 36 := by omega
  have q0 : (0 : Int) ≤ (q : Int) := by omega
  have r0 : (0 : Int) ≤ (r : Int) := by omega
  have e1 : (n : Int).tdiv (b : Int) = (q : Int) := by rw [Int.tdiv_eq_ediv_of_nonneg (by omega), ← hq]; rfl
  have e2 : (n : Int).tmod (b : Int) = (r : Int) := by rw [Int.tmod_eq_emod_of_nonneg (by omega), ← hr]; rfl
  have b1 : ((b : Int) == 0) = false := by simp; omega
  have b2 : ¬ ((b : Int) = 0) := by omega
  have q2 : (q : Int) ≤ 36 := by omega
  clear hq hr hn hb hbb hq2 hr2
  go_enter Tryd.func52, Tryd.ntmps52
  go_upto_region 1 with fail
  go_quiet (fail)
  go_wp2
  go_ret
  exact ⟨ret_str HE.out.symm, below_drewN' (Below.refl _ _) _⟩
theorem p_two10 (n : Nat) (w : World) (hn : n < 100) : Calls Tryd.prog 52 #[.int .i64 n, .int .i64 10] w fun x w' => x = .returned (.string (Pt.txt2 n 10)) ∧ Below w.heap.size w w' := p_two n 10 _ _ w rfl rfl (.inl rfl) (by omega)
theorem p_two16 (n : Nat) (w : World) (hn : n < 256) : Calls Tryd.prog 52 #[.int .i64 n, .int .i64 16] w fun x w' => x = .returned (.string (Pt.txt2 n 16)) ∧ Below w.heap.size w w' := p_two n 16 _ _ w rfl rfl (.inr rfl) (by omega)
theorem p_wInst (n m : Nat) (w : World) (hn : n ≤ 31) :
    Calls Tryd.prog 30 #[.agg #[.int .i64 n, .int .i64 m]] w fun x w' => x = .returned (.string (Pt.txt2 n 10)) ∧ Below w.heap.size w w' := by
  have C := Lib.hid (fun u => p_two10 n u (by omega))
  go_enter Tryd.func30, Tryd.ntmps30
  go_wp2_with (first | (go_at_call 52; ((with_reducible refine (C.out _).mono ?_); rintro x' w1 ⟨rfl, hb1⟩)))
  go_ret
  exact ⟨rfl, stepB (below_box _ _) hb1⟩
theorem p_wVolume (n m : Nat) (w : World) (h1 : 1 ≤ n) (h2 : n ≤ 12) (h3 : m ≤ 99) :
    Calls Tryd.prog 34 #[.agg #[.int .i64 n, .int .i64 m]] w fun x w' => x = .returned (.string ((Pt.VO.extract (n - 1) 12).extract 0 1 ++ Pt.txt2 m 10)) ∧ Below w.heap.size w w' := by
  have C := Lib.hid (fun u => p_two10 m u (by omega))
  obtain ⟨t, ht⟩ : ∃ t, Pt.txt2 m 10 = t := ⟨_, rfl⟩
  have zt : t.size = 2 := by rw [← ht]; exact Pt.txt2_size (by omega) (by omega)
  rw [ht] at C ⊢
  obtain ⟨q, rfl⟩ : ∃ q, n = q + 1 := ⟨n - 1, by omega⟩
  have e1 : ((q + 1 : Nat) : Int) = (q : Int) + 1 := by omega
  rw [Nat.add_sub_cancel, e1]
  have q1 : (q : Int) ≤ 12 := by omega
  have q0 : (0 : Int) ≤ (q : Int) := by omega
  have q2 : (q : Int) < 12 := by omega
  have e2 : IntKind.i64.wrap ((q : Int) + 1 - 1) = (q : Int) := by rw [IntKind.wrap_i64]; omega
  have e3 : (q : Int) + 1 - 1 = (q : Int) := by omega
  have e4 : IntKind.i64.wrap (q : Int) = (q : Int) := by rw [IntKind.wrap_i64]; omega
  obtain ⟨W, hW⟩ : ∃ W, W = w.alloc (.cells #[.int .i64 ((q : Int) + 1), .int .i64 (m : Int)] 42) := ⟨_, rfl⟩
  have HB := Lib.hid (show Below w.heap.size w W by rw [hW]; exact below_box _ _)
  obtain ⟨g, hg⟩ : ∃ g, g = w.heap.size := ⟨_, rfl⟩
  have hr : W.rangeAt g 0 [.int .i64 ((q : Int) + 1), .int .i64 (m : Int)] := by rw [hW, hg]; exact range_box w [_, _] _
  have KS := Lib.hid (fun u (hu : Below W.heap.size W u) => show Below W.heap.size W u ∧ u.cell? ⟨g, 0, none⟩ = some (.int .i64 ((q : Int) + 1)) ∧ u.cell? ⟨g, 1, none⟩ = some (.int .i64 (m : Int)) from ⟨hu, kept_cell hu (hr 0 _ rfl), kept_cell hu (hr 1 _ rfl)⟩)
  have hg0 := (Below.refl W.heap.size W).drew
  have hgg := KS.out _ hg0
  clear ht h1 h2 h3 e1 hr
  obtain ⟨s0, hs0⟩ : ∃ s0, Pt.VO.extract q 12 = s0 := ⟨_, rfl⟩
  have z0 : s0.size = 12 - q := by rw [← hs0, ByteArray.size_extract]; show min 12 12 - q = _; omega
  have z1 : (1 : Int) ≤ (s0.size : Int) := by omega
  obtain ⟨s1, hs1⟩ : ∃ s1, s0.extract 0 1 = s1 := ⟨_, rfl⟩
  have z2 : s1.size = 1 := by rw [← hs1, ByteArray.size_extract]; omega
  have HS1 := Lib.hid hs1
  rw [hs0, hs1]
  unfold Pt.VO at hs0
  clear z0
  go_enter Tryd.func34, Tryd.ntmps34
  go_upto_region 1 with fail
  rw [← hW, ← hg]
  clear hW hg
  go_region_held3 (fun u => Below W.heap.size W u ∧ u.cell? ⟨g, 0, none⟩ = some (.int .i64 ((q : Int) + 1)) ∧ u.cell? ⟨g, 1, none⟩ = some (.int .i64 (m : Int)))
    (first | with_reducible exact hgg | exact KS.out _ (stepB hg0 hB4))
    (first | (go_at_call 52; refine (C.out _).mono ?_; rintro x' w4 ⟨rfl, hB4⟩))
  go_wp2
  go_ret
  exact ⟨rfl, stepB HB.out (stepB hg0 hB4)⟩
theorem p_wEffect (n m : Nat) (w : World) (h1 : 1 ≤ n) (h2 : n ≤ 36) (h3 : m ≤ 255) :
    Calls Tryd.prog 38 #[.agg #[.int .i64 n, .int .i64 m]] w fun x w' => x = .returned (.string ((Pt.DG.extract (n - 1) 36).extract 0 1 ++ Pt.txt2 m 16)) ∧ Below w.heap.size w w' := by
  have C := Lib.hid (fun u => p_two16 m u (by omega))
  obtain ⟨t, ht⟩ : ∃ t, Pt.txt2 m 16 = t := ⟨_, rfl⟩
  have zt : t.size = 2 := by rw [← ht]; exact Pt.txt2_size (by omega) (by omega)
  rw [ht] at C ⊢
  obtain ⟨q, rfl⟩ : ∃ q, n = q + 1 := ⟨n - 1, by omega⟩
  have e1 : ((q + 1 : Nat) : Int) = (q : Int) + 1 := by omega
  rw [Nat.add_sub_cancel, e1]
  have q1 : (q : Int) ≤ 36 := by omega
  have q0 : (0 : Int) ≤ (q : Int) := by omega
  have q2 : (q : Int) < 36 := by omega
  have e2 : IntKind.i64.wrap ((q : Int) + 1 - 1) = (q : Int) := by rw [IntKind.wrap_i64]; omega
  have e3 : (q : Int) + 1 - 1 = (q : Int) := by omega
  have e4 : IntKind.i64.wrap (q : Int) = (q : Int) := by rw [IntKind.wrap_i64]; omega
  obtain ⟨W, hW⟩ : ∃ W, W = w.alloc (.cells #[.int .i64 ((q : Int) + 1), .int .i64 (m : Int)] 42) := ⟨_, rfl⟩
  have HB := Lib.hid (show Below w.heap.size w W by rw [hW]; exact below_box _ _)
  obtain ⟨g, hg⟩ : ∃ g, g = w.heap.size := ⟨_, rfl⟩
  have hr : W.rangeAt g 0 [.int .i64 ((q : Int) + 1), .int .i64 (m : Int)] := by rw [hW, hg]; exact range_box w [_, _] _
  have KS := Lib.hid (fun u (hu : Below W.heap.size W u) => show Below W.heap.size W u ∧ u.cell? ⟨g, 0, none⟩ = some (.int .i64 ((q : Int) + 1)) ∧ u.cell? ⟨g, 1, none⟩ = some (.int .i64 (m : Int)) from ⟨hu, kept_cell hu (hr 0 _ rfl), kept_cell hu (hr 1 _ rfl)⟩)
  have hg0 := (Below.refl W.heap.size W).drew
  have hgg := KS.out _ hg0
  clear ht h1 h2 h3 e1 hr
  obtain ⟨s0, hs0⟩ : ∃ s0, Pt.DG.extract q 36 = s0 := ⟨_, rfl⟩
  have z0 : s0.size = 36 - q := by rw [← hs0, ByteArray.size_extract]; show min 36 36 - q = _; omega
  have z1 : (1 : Int) ≤ (s0.size : Int) := by omega
  obtain ⟨s1, hs1⟩ : ∃ s1, s0.extract 0 1 = s1 := ⟨_, rfl⟩
  have z2 : s1.size = 1 := by rw [← hs1, ByteArray.size_extract]; omega
  have HS1 := Lib.hid hs1
  rw [hs0, hs1]
  unfold Pt.DG at hs0
  clear z0
  go_enter Tryd.func38, Tryd.ntmps38
  go_upto_region 1 with fail
  rw [← hW, ← hg]
  clear hW hg
  go_region_held3 (fun u => Below W.heap.size W u ∧ u.cell? ⟨g, 0, none⟩ = some (.int .i64 ((q : Int) + 1)) ∧ u.cell? ⟨g, 1, none⟩ = some (.int .i64 (m : Int)))
    (first | with_reducible exact hgg | exact KS.out _ (stepB hg0 hB4))
    (first | (go_at_call 52; refine (C.out _).mono ?_; rintro x' w4 ⟨rfl, hB4⟩))
  go_wp2
  go_ret
  exact ⟨rfl, stepB HB.out (stepB hg0 hB4)⟩
theorem p_wNote (n m : Nat) (w : World) (hn : (1 ≤ n ∧ n ≤ 120) ∨ n = 253 ∨ n = 254 ∨ n = 255) :
    Calls Tryd.prog 26 #[.agg #[.int .i64 n, .int .i64 m]] w fun x w' => x = .returned (.string (Pt.noteT n)) ∧ Below w.heap.size w w' := by
  by_cases h5 : n = 255
  · subst h5
    go_enter Tryd.func26, Tryd.ntmps26
    go_wp2
    go_ret
    exact ⟨rfl, below_box _ _⟩
  by_cases h4 : n = 254
  · subst h4
    go_enter Tryd.func26, Tryd.ntmps26
    go_wp2
    go_ret
    exact ⟨rfl, below_box _ _⟩
  by_cases h3 : n = 253
  · subst h3
    go_enter Tryd.func26, Tryd.ntmps26
    go_wp2
    go_ret
    exact ⟨rfl, below_box _ _⟩
  have hb : 1 ≤ n ∧ n ≤ 120 := by omega
  obtain ⟨q, rfl⟩ : ∃ q, n = q + 1 := ⟨n - 1, by omega⟩
  obtain ⟨y, hy⟩ : ∃ y, q / 12 = y := ⟨_, rfl⟩
  obtain ⟨z, hz⟩ : ∃ z, q % 12 = z := ⟨_, rfl⟩
  obtain ⟨u, hu⟩ : ∃ u, 2 * z = u := ⟨_, rfl⟩
  have HE := Lib.hid (show Pt.noteT ((q + 1 : Nat) : Int) = (Pt.NM.extract u 24).extract 0 2 ++ (Pt.DG.extract y 36).extract 0 1 by
    unfold Pt.noteT
    rw [if_neg (by omega), if_neg (by omega), if_neg (by omega), Int.toNat_natCast, Nat.add_sub_cancel, hz, hu, hy]
    rfl)
  have y1 : y < 10 := by rw [← hy]; omega
  have z1 : z < 12 := by rw [← hz]; omega
  have e1 : ((q + 1 : Nat) : Int) = (q : Int) + 1 := by omega
  have d5 : ((q : Int) + 1 == 255) = false := beq_eq_false_iff_ne.2 (by omega)
  have d4 : ((q : Int) + 1 == 254) = false := beq_eq_false_iff_ne.2 (by omega)
  have d3 : ((q : Int) + 1 == 253) = false := beq_eq_false_iff_ne.2 (by omega)
  have t1 : (q : Int).tdiv 12 = (y : Int) := by rw [Int.tdiv_eq_ediv_of_nonneg (by omega)]; omega
  have t2 : (q : Int).tmod 12 = (z : Int) := by rw [Int.tmod_eq_emod_of_nonneg (by omega)]; omega
  have i4 : IntKind.i64.wrap (q : Int) = (q : Int) := by rw [IntKind.wrap_i64]; omega
  have i5 : 2 * (z : Int) = (u : Int) := by omega
  have i6 : IntKind.i64.wrap (u : Int) = (u : Int) := by rw [IntKind.wrap_i64]; omega
  have b1 : (0 : Int) ≤ (u : Int) := by omega
  have b2 : (u : Int) ≤ 24 := by omega
  have b3 : (0 : Int) ≤ (y : Int) := by omega
  have b4 : (y : Int) ≤ 36 := by omega
  obtain ⟨s0, hs0⟩ : ∃ s0, Pt.NM.extract u 24 = s0 := ⟨_, rfl⟩
  have k0 : s0.size = 24 - u := by rw [← hs0, ByteArray.size_extract]; show min 24 24 - u = _; omega
  have k1 : (2 : Int) ≤ (s0.size : Int) := by omega
  obtain ⟨s1, hs1⟩ : ∃ s1, s0.extract 0 2 = s1 := ⟨_, rfl⟩
  have k2 : s1.size = 2 := by rw [← hs1, ByteArray.size_extract]; omega
  obtain ⟨r0, hr0⟩ : ∃ r0, Pt.DG.extract y 36 = r0 := ⟨_, rfl⟩
  have k3 : r0.size = 36 - y := by rw [← hr0, ByteArray.size_extract]; show min 36 36 - y = _; omega
  have k4 : (1 : Int) ≤ (r0.size : Int) := by omega
  obtain ⟨r1, hr1⟩ : ∃ r1, r0.extract 0 1 = r1 := ⟨_, rfl⟩
  have k5 : r1.size = 1 := by rw [← hr1, ByteArray.size_extract]; omega
  rw [hs0, hs1, hr0, hr1] at HE
  unfold Pt.NM at hs0
  unfold Pt.DG at hr0
  obtain ⟨nt, hnt⟩ : ∃ nt, Pt.noteT ((q + 1 : Nat) : Int) = nt := ⟨_, rfl⟩
  rw [hnt] at HE ⊢
  rw [e1]
  have i3 : (q : Int) ≤ 120 := by omega
  have i2 : (0 : Int) ≤ (q : Int) := by omega
  clear hn h5 h4 h3 hb hy hz hu y1 z1 e1 k0 k3 hnt
  go_enter Tryd.func26, Tryd.ntmps26
  go_upto_region 8 with fail
  go_quiet (fail)
  go_upto_region 9 with fail
  go_quiet (fail)
  go_wp2
  go_ret
  exact ⟨ret_str HE.out.symm, below_drewN' (below_box _ _) _⟩
theorem ew {k : Nat} (hk : k < 4) : ∀ args w, (callFunc (wF k) args).run Tryd.prog w = .ok (.enter (wF k) args) w := by
  match k, hk with
  | 0, _ => exact enters_of Tryd.func26 (by kernel_rfl) rfl
  | 1, _ => exact enters_of Tryd.func30 (by kernel_rfl) rfl
  | 2, _ => exact enters_of Tryd.func34 (by kernel_rfl) rfl
  | 3, _ => exact enters_of Tryd.func38 (by kernel_rfl) rfl
theorem g_write {k : Nat} (hk : k < 4) (v : Int × Int) (hv : Pt.okV k v) (h2 : 0 ≤ v.2) (w : World) :
    Calls Tryd.prog (wF k) #[.agg #[.int .i64 v.1, .int .i64 v.2]] w fun x w' => x = .returned (.string (Pt.partT k v)) ∧ Below w.heap.size w w' := by
  obtain ⟨a, b⟩ := v
  have ha : 0 ≤ a := by
    match k, hk with
    | 0, _ => simp only [Pt.okV] at hv; omega
    | 1, _ => simp only [Pt.okV] at hv; omega
    | 2, _ => simp only [Pt.okV] at hv; omega
    | 3, _ => simp only [Pt.okV] at hv; omega
  obtain ⟨n, rfl⟩ : ∃ n : Nat, a = n := ⟨a.toNat, by omega⟩
  obtain ⟨m, rfl⟩ : ∃ m : Nat, b = m := ⟨b.toNat, by simp only at h2; omega⟩
  match k, hk with
  | 0, _ => simp only [Pt.okV] at hv; exact p_wNote n m w (by omega)
  | 1, _ => simp only [Pt.okV] at hv; exact p_wInst n m w (by omega)
  | 2, _ => simp only [Pt.okV] at hv; exact p_wVolume n m w (by omega) (by omega) (by omega)
  | 3, _ => simp only [Pt.okV] at hv; exact p_wEffect n m w (by omega) (by omega) (by omega)
end Go.Proofs.YtfjfnbeegojlbaaDoor

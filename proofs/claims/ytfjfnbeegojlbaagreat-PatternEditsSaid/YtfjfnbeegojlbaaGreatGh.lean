/-
  A cell as text. No program. Package pattern's functions that write a part as text, and Text. The law package's light and Same. The law package's copied and untouched.
-/
import Derived.Test.YtfjfnbeegojlbaaGreatGf
import Derived.Test.YtfjfnbeegojlbaaGreatShelf
import Derived.Deep.DeepCutAuto
import Derived.Test.YtfjfnbeegojlbaaGreatPEq
import Derived.Test.YtfjfnbeegojlbaaGreatPPack
import Derived.Deep.RegionHeld3
namespace Go.Proofs.YtfjfnbeegojlbaaGreat
open Go.RowKit

namespace Pt
def DG : ByteArray := ⟨#[48, 49, 50, 51, 52, 53, 54, 55, 56, 57, 65, 66, 67, 68, 69, 70, 71, 72, 73, 74, 75, 76, 77, 78, 79, 80, 81, 82, 83, 84, 85, 86, 87, 88, 89, 90]⟩
def NM : ByteArray := ⟨#[67, 45, 67, 35, 68, 45, 68, 35, 69, 45, 70, 45, 70, 35, 71, 45, 71, 35, 65, 45, 65, 35, 66, 45]⟩
def VO : ByteArray := ⟨#[97, 98, 99, 100, 101, 102, 103, 104, 105, 106, 107, 108]⟩
def dots (n : Nat) : ByteArray := (⟨#[46, 46, 46]⟩ : ByteArray).extract 0 n
/-- One digit. -/
def dg (k : Nat) : ByteArray := (DG.extract k 36).extract 0 1
def txt2 (n b : Nat) : ByteArray := dg (n / b) ++ dg (n % b)
def noteT (n : Int) : ByteArray := if n = 255 then ⟨#[61, 61, 61]⟩ else if n = 254 then ⟨#[94, 94, 94]⟩ else if n = 253 then ⟨#[126, 126, 126]⟩ else
  (NM.extract (2 * ((n.toNat - 1) % 12)) 24).extract 0 2 ++ dg ((n.toNat - 1) / 12)
def partT (k : Nat) (v : Int × Int) : ByteArray := match k with
  | 0 => noteT v.1
  | 1 => txt2 v.1.toNat 10
  | 2 => (VO.extract (v.1.toNat - 1) 12).extract 0 1 ++ txt2 v.2.toNat 10
  | _ => dg (v.1.toNat - 1) ++ txt2 v.2.toNat 16
def fieldT (k : Nat) (c : Cl) : ByteArray := if isSet (pv k c) then partT k (pv k c) else dots (wid k)
def fields (c : Cl) : List ByteArray := [fieldT 0 c, fieldT 1 c, fieldT 2 c, fieldT 3 c]
/-- A part that a valid cell may have. -/
def okV (k : Nat) (v : Int × Int) : Prop := match k with
  | 0 => (1 ≤ v.1 ∧ v.1 ≤ 120) ∨ v.1 = 253 ∨ v.1 = 254 ∨ v.1 = 255
  | 1 => 1 ≤ v.1 ∧ v.1 ≤ 31
  | 2 => 1 ≤ v.1 ∧ v.1 ≤ 12 ∧ 0 ≤ v.2 ∧ v.2 ≤ 99
  | _ => 1 ≤ v.1 ∧ v.1 ≤ 36 ∧ 0 ≤ v.2 ∧ v.2 ≤ 255
theorem vcl_ok {c : Cl} (h : vcl c = true) {k : Nat} (hk : k < 4) (hs : isSet (pv k c) = true) : okV k (pv k c) := by
  simp only [vcl, Bool.and_eq_true, wth_iff] at h
  obtain ⟨h1, h2, h3, h4, -, h5, h6, -⟩ := h
  simp only [vnt, decide_eq_true_eq] at h1
  simp only [isSet, bne_iff_ne, ne_eq] at hs
  match k, hk with
  | 0, _ => simp only [pv, okV] at hs ⊢; omega
  | 1, _ => simp only [pv, okV] at hs ⊢; omega
  | 2, _ => simp only [pv, okV] at hs ⊢; omega
  | 3, _ => simp only [pv, okV] at hs ⊢; omega
theorem ext_size (B : ByteArray) (k L m : Nat) (hk : k + m ≤ L) (hL : L ≤ B.size) : ((B.extract k L).extract 0 m).size = m := by
  rw [ByteArray.size_extract, ByteArray.size_extract]
  omega
theorem dg_size {k : Nat} (h : k < 36) : (dg k).size = 1 := ext_size DG k 36 1 (by omega) (by decide)
theorem txt2_size {n b : Nat} (h1 : n / b < 36) (h2 : n % b < 36) : (txt2 n b).size = 2 := by
  unfold txt2
  rw [ByteArray.size_append, dg_size h1, dg_size h2]
theorem ext_le (B : ByteArray) (k L m : Nat) : ((B.extract k L).extract 0 m).size ≤ m := by
  rw [ByteArray.size_extract]
  omega
theorem dg_le (k : Nat) : (dg k).size ≤ 1 := ext_le _ _ _ _
theorem fieldT_size (k : Nat) (c : Cl) : (fieldT k c).size ≤ 3 := by
  unfold fieldT
  split
  · unfold partT
    split
    · unfold noteT
      split
      · exact Nat.le_refl 3
      · split
        · exact Nat.le_refl 3
        · split
          · exact Nat.le_refl 3
          · rw [ByteArray.size_append]
            have := ext_le NM (2 * (((pv 0 c).1.toNat - 1) % 12)) 24 2
            have := dg_le (((pv 0 c).1.toNat - 1) / 12)
            omega
    · unfold txt2
      rw [ByteArray.size_append]
      have := dg_le ((pv 1 c).1.toNat / 10)
      have := dg_le ((pv 1 c).1.toNat % 10)
      omega
    · unfold txt2
      rw [ByteArray.size_append, ByteArray.size_append]
      have := ext_le VO ((pv 2 c).1.toNat - 1) 12 1
      have := dg_le ((pv 2 c).2.toNat / 10)
      have := dg_le ((pv 2 c).2.toNat % 10)
      omega
    · unfold txt2
      rw [ByteArray.size_append, ByteArray.size_append]
      have := dg_le ((pv k c).1.toNat - 1)
      have := dg_le ((pv k c).2.toNat / 16)
      have := dg_le ((pv k c).2.toNat % 16)
      omega
  · unfold dots
    rw [ByteArray.size_extract]
    show min (wid k) 3 - 0 ≤ 3
    omega
end Pt

theorem ret_str {a b : ByteArray} (h : a = b) : Ending.returned (.string a) = .returned (.string b) := by rw [h]
theorem p_two (n b q r : Nat) (w : World) (hq : n / b = q) (hr : n % b = r) (hb : b = 10 ∨ b = 16) (hn : n < b * b) :
    Calls Tryz.prog 91 #[.int .i64 n, .int .i64 b] w fun x w' => x = .returned (.string (Pt.txt2 n b)) ∧ Below w.heap.size w w' := by
  have HE := Lib.hid (show Pt.txt2 n b = (Pt.DG.extract q 36).extract 0 1 ++ (Pt.DG.extract r 36).extract 0 1 by unfold Pt.txt2 Pt.dg; rw [hq, hr])
  unfold Pt.DG at HE
  have hbb : 10 ≤ b ∧ b ≤ 16 := by omega
  have hq2 : q < b := by rw [← hq]; exact Nat.div_lt_of_lt_mul hn
  have hr2 : r < b := by rw [← hr]; exact Nat.mod_lt _ (by omega)
  have q1 : (q : Int) < 36 := by omega
  have r1 : (r : Int) < 36 := by omega
  have q0 : (0 : Int) ≤ (q : Int) := by omega
  have r0 : (0 : Int) ≤ (r : Int) := by omega
  have e1 : (n : Int).tdiv (b : Int) = (q : Int) := by rw [Int.tdiv_eq_ediv_of_nonneg (by omega), ← hq]; rfl
  have e2 : (n : Int).tmod (b : Int) = (r : Int) := by rw [Int.tmod_eq_emod_of_nonneg (by omega), ← hr]; rfl
  have b1 : ((b : Int) == 0) = false := by simp; omega
  have b2 : ¬ ((b : Int) = 0) := by omega
  have q2 : (q : Int) ≤ 36 := by omega
  clear hq hr hn hb hbb hq2 hr2
  go_enter Tryz.func91, Tryz.ntmps91
  go_upto_region 1 with fail
  go_quiet (fail)
  go_wp2
  go_ret
  exact ⟨ret_str HE.out.symm, below_drewN' (Below.refl _ _) _⟩
theorem p_two10 (n : Nat) (w : World) (hn : n < 100) : Calls Tryz.prog 91 #[.int .i64 n, .int .i64 10] w fun x w' => x = .returned (.string (Pt.txt2 n 10)) ∧ Below w.heap.size w w' := p_two n 10 _ _ w rfl rfl (.inl rfl) (by omega)
theorem p_two16 (n : Nat) (w : World) (hn : n < 256) : Calls Tryz.prog 91 #[.int .i64 n, .int .i64 16] w fun x w' => x = .returned (.string (Pt.txt2 n 16)) ∧ Below w.heap.size w w' := p_two n 16 _ _ w rfl rfl (.inr rfl) (by omega)
theorem p_wInst (n m : Nat) (w : World) (hn : n ≤ 31) :
    Calls Tryz.prog 75 #[.agg #[.int .i64 n, .int .i64 m]] w fun x w' => x = .returned (.string (Pt.txt2 n 10)) ∧ Below w.heap.size w w' := by
  have C := Lib.hid (fun u => p_two10 n u (by omega))
  go_enter Tryz.func75, Tryz.ntmps75
  go_wp2_with (first | (go_at_call 91; ((with_reducible refine (C.out _).mono ?_); rintro x' w1 ⟨rfl, hb1⟩)))
  go_ret
  exact ⟨rfl, stepB (below_box _ _) hb1⟩
theorem p_wVolume (n m : Nat) (w : World) (h1 : 1 ≤ n) (h2 : n ≤ 12) (h3 : m ≤ 99) :
    Calls Tryz.prog 79 #[.agg #[.int .i64 n, .int .i64 m]] w fun x w' => x = .returned (.string ((Pt.VO.extract (n - 1) 12).extract 0 1 ++ Pt.txt2 m 10)) ∧ Below w.heap.size w w' := by
  have C := Lib.hid (fun u => p_two10 m u (by omega))
  obtain ⟨t, ht⟩ : ∃ t, Pt.txt2 m 10 = t := ⟨_, rfl⟩
  have zt : t.size = 2 := by rw [← ht]; exact Pt.txt2_size (by omega) (by omega)
  rw [ht] at C ⊢
  obtain ⟨q, rfl⟩ : ∃ q, n = q + 1 := ⟨n - 1, by omega⟩
  have e1 : ((q + 1 : Nat) : Int) = (q : Int) + 1 := by omega
  rw [Nat.add_sub_cancel, e1]
  have q1 : (q : Int) ≤ 12 := by omega
  have q0 : (0 : Int) ≤ (q : Int) := by omega
  have q2 : (q : Int) < 12 := by omega
  have e2 : IntKind.i64.wrap ((q : Int) + 1 - 1) = (q : Int) := by rw [IntKind.wrap_i64]; omega
  have e3 : (q : Int) + 1 - 1 = (q : Int) := by omega
  have e4 : IntKind.i64.wrap (q : Int) = (q : Int) := by rw [IntKind.wrap_i64]; omega
  obtain ⟨W, hW⟩ : ∃ W, W = w.alloc (.cells #[.int .i64 ((q : Int) + 1), .int .i64 (m : Int)] 84) := ⟨_, rfl⟩
  have HB := Lib.hid (show Below w.heap.size w W by rw [hW]; exact below_box _ _)
  obtain ⟨g, hg⟩ : ∃ g, g = w.heap.size := ⟨_, rfl⟩
  have hr : W.rangeAt g 0 [.int .i64 ((q : Int) + 1), .int .i64 (m : Int)] := by rw [hW, hg]; exact range_box w [_, _] _
  have KS := Lib.hid (fun u (hu : Below W.heap.size W u) => show Below W.heap.size W u ∧ u.cell? ⟨g, 0, none⟩ = some (.int .i64 ((q : Int) + 1)) ∧ u.cell? ⟨g, 1, none⟩ = some (.int .i64 (m : Int)) from ⟨hu, kept_cell hu (hr 0 _ rfl), kept_cell hu (hr 1 _ rfl)⟩)
  have hg0 := (Below.refl W.heap.size W).drew
  have hgg := KS.out _ hg0
  clear ht h1 h2 h3 e1 hr
  obtain ⟨s0, hs0⟩ : ∃ s0, Pt.VO.extract q 12 = s0 := ⟨_, rfl⟩
  have z0 : s0.size = 12 - q := by rw [← hs0, ByteArray.size_extract]; show min 12 12 - q = _; omega
  have z1 : (1 : Int) ≤ (s0.size : Int) := by omega
  obtain ⟨s1, hs1⟩ : ∃ s1, s0.extract 0 1 = s1 := ⟨_, rfl⟩
  have z2 : s1.size = 1 := by rw [← hs1, ByteArray.size_extract]; omega
  have HS1 := Lib.hid hs1
  rw [hs0, hs1]
  unfold Pt.VO at hs0
  clear z0
  go_enter Tryz.func79, Tryz.ntmps79
  go_upto_region 1 with fail
  rw [← hW, ← hg]
  clear hW hg
  go_region_held3 (fun u => Below W.heap.size W u ∧ u.cell? ⟨g, 0, none⟩ = some (.int .i64 ((q : Int) + 1)) ∧ u.cell? ⟨g, 1, none⟩ = some (.int .i64 (m : Int)))
    (first | with_reducible exact hgg | exact KS.out _ (stepB hg0 hB4))
    (first | (go_at_call 91; refine (C.out _).mono ?_; rintro x' w4 ⟨rfl, hB4⟩))
  go_wp2
  go_ret
  exact ⟨rfl, stepB HB.out (stepB hg0 hB4)⟩
theorem p_wEffect (n m : Nat) (w : World) (h1 : 1 ≤ n) (h2 : n ≤ 36) (h3 : m ≤ 255) :
    Calls Tryz.prog 83 #[.agg #[.int .i64 n, .int .i64 m]] w fun x w' => x = .returned (.string ((Pt.DG.extract (n - 1) 36).extract 0 1 ++ Pt.txt2 m 16)) ∧ Below w.heap.size w w' := by
  have C := Lib.hid (fun u => p_two16 m u (by omega))
  obtain ⟨t, ht⟩ : ∃ t, Pt.txt2 m 16 = t := ⟨_, rfl⟩
  have zt : t.size = 2 := by rw [← ht]; exact Pt.txt2_size (by omega) (by omega)
  rw [ht] at C ⊢
  obtain ⟨q, rfl⟩ : ∃ q, n = q + 1 := ⟨n - 1, by omega⟩
  have e1 : ((q + 1 : Nat) : Int) = (q : Int) + 1 := by omega
  rw [Nat.add_sub_cancel, e1]
  have q1 : (q : Int) ≤ 36 := by omega
  have q0 : (0 : Int) ≤ (q : Int) := by omega
  have q2 : (q : Int) < 36 := by omega
  have e2 : IntKind.i64.wrap ((q : Int) + 1 - 1) = (q : Int) := by rw [IntKind.wrap_i64]; omega
  have e3 : (q : Int) + 1 - 1 = (q : Int) := by omega
  have e4 : IntKind.i64.wrap (q : Int) = (q : Int) := by rw [IntKind.wrap_i64]; omega
  obtain ⟨W, hW⟩ : ∃ W, W = w.alloc (.cells #[.int .i64 ((q : Int) + 1), .int .i64 (m : Int)] 84) := ⟨_, rfl⟩
  have HB := Lib.hid (show Below w.heap.size w W by rw [hW]; exact below_box _ _)
  obtain ⟨g, hg⟩ : ∃ g, g = w.heap.size := ⟨_, rfl⟩
  have hr : W.rangeAt g 0 [.int .i64 ((q : Int) + 1), .int .i64 (m : Int)] := by rw [hW, hg]; exact range_box w [_, _] _
  have KS := Lib.hid (fun u (hu : Below W.heap.size W u) => show Below W.heap.size W u ∧ u.cell? ⟨g, 0, none⟩ = some (.int .i64 ((q : Int) + 1)) ∧ u.cell? ⟨g, 1, none⟩ = some (.int .i64 (m : Int)) from ⟨hu, kept_cell hu (hr 0 _ rfl), kept_cell hu (hr 1 _ rfl)⟩)
  have hg0 := (Below.refl W.heap.size W).drew
  have hgg := KS.out _ hg0
  clear ht h1 h2 h3 e1 hr
  obtain ⟨s0, hs0⟩ : ∃ s0, Pt.DG.extract q 36 = s0 := ⟨_, rfl⟩
  have z0 : s0.size = 36 - q := by rw [← hs0, ByteArray.size_extract]; show min 36 36 - q = _; omega
  have z1 : (1 : Int) ≤ (s0.size : Int) := by omega
  obtain ⟨s1, hs1⟩ : ∃ s1, s0.extract 0 1 = s1 := ⟨_, rfl⟩
  have z2 : s1.size = 1 := by rw [← hs1, ByteArray.size_extract]; omega
  have HS1 := Lib.hid hs1
  rw [hs0, hs1]
  unfold Pt.DG at hs0
  clear z0
  go_enter Tryz.func83, Tryz.ntmps83
  go_upto_region 1 with fail
  rw [← hW, ← hg]
  clear hW hg
  go_region_held3 (fun u => Below W.heap.size W u ∧ u.cell? ⟨g, 0, none⟩ = some (.int .i64 ((q : Int) + 1)) ∧ u.cell? ⟨g, 1, none⟩ = some (.int .i64 (m : Int)))
    (first | with_reducible exact hgg | exact KS.out _ (stepB hg0 hB4))
    (first | (go_at_call 91; refine (C.out _).mono ?_; rintro x' w4 ⟨rfl, hB4⟩))
  go_wp2
  go_ret
  exact ⟨rfl, stepB HB.out (stepB hg0 hB4)⟩
theorem p_wNote (n m : Nat) (w : World) (hn : (1 ≤ n ∧ n ≤ 120) ∨ n = 253 ∨ n = 254 ∨ n = 255) :
    Calls Tryz.prog 71 #[.agg #[.int .i64 n, .int .i64 m]] w fun x w' => x = .returned (.string (Pt.noteT n)) ∧ Below w.heap.size w w' := by
  by_cases h5 : n = 255
  · subst h5
    go_enter Tryz.func71, Tryz.ntmps71
    go_wp2
    go_ret
    exact ⟨rfl, below_box _ _⟩
  by_cases h4 : n = 254
  · subst h4
    go_enter Tryz.func71, Tryz.ntmps71
    go_wp2
    go_ret
    exact ⟨rfl, below_box _ _⟩
  by_cases h3 : n = 253
  · subst h3
    go_enter Tryz.func71, Tryz.ntmps71
    go_wp2
    go_ret
    exact ⟨rfl, below_box _ _⟩
  have hb : 1 ≤ n ∧ n ≤ 120 := by omega
  obtain ⟨q, rfl⟩ : ∃ q, n = q + 1 := ⟨n - 1, by omega⟩
  obtain ⟨y, hy⟩ : ∃ y, q / 12 = y := ⟨_, rfl⟩
  obtain ⟨z, hz⟩ : ∃ z, q % 12 = z := ⟨_, rfl⟩
  obtain ⟨u, hu⟩ : ∃ u, 2 * z = u := ⟨_, rfl⟩
  have HE := Lib.hid (show Pt.noteT ((q + 1 : Nat) : Int) = (Pt.NM.extract u 24).extract 0 2 ++ (Pt.DG.extract y 36).extract 0 1 by
    unfold Pt.noteT
    rw [if_neg (by omega), if_neg (by omega), if_neg (by omega), Int.toNat_natCast, Nat.add_sub_cancel, hz, hu, hy]
    rfl)
  have y1 : y < 10 := by rw [← hy]; omega
  have z1 : z < 12 := by rw [← hz]; omega
  have e1 : ((q + 1 : Nat) : Int) = (q : Int) + 1 := by omega
  have d5 : ((q : Int) + 1 == 255) = false := beq_eq_false_iff_ne.2 (by omega)
  have d4 : ((q : Int) + 1 == 254) = false := beq_eq_false_iff_ne.2 (by omega)
  have d3 : ((q : Int) + 1 == 253) = false := beq_eq_false_iff_ne.2 (by omega)
  have t1 : (q : Int).tdiv 12 = (y : Int) := by rw [Int.tdiv_eq_ediv_of_nonneg (by omega)]; omega
  have t2 : (q : Int).tmod 12 = (z : Int) := by rw [Int.tmod_eq_emod_of_nonneg (by omega)]; omega
  have i4 : IntKind.i64.wrap (q : Int) = (q : Int) := by rw [IntKind.wrap_i64]; omega
  have i5 : 2 * (z : Int) = (u : Int) := by omega
  have i6 : IntKind.i64.wrap (u : Int) = (u : Int) := by rw [IntKind.wrap_i64]; omega
  have b1 : (0 : Int) ≤ (u : Int) := by omega
  have b2 : (u : Int) ≤ 24 := by omega
  have b3 : (0 : Int) ≤ (y : Int) := by omega
  have b4 : (y : Int) ≤ 36 := by omega
  obtain ⟨s0, hs0⟩ : ∃ s0, Pt.NM.extract u 24 = s0 := ⟨_, rfl⟩
  have k0 : s0.size = 24 - u := by rw [← hs0, ByteArray.size_extract]; show min 24 24 - u = _; omega
  have k1 : (2 : Int) ≤ (s0.size : Int) := by omega
  obtain ⟨s1, hs1⟩ : ∃ s1, s0.extract 0 2 = s1 := ⟨_, rfl⟩
  have k2 : s1.size = 2 := by rw [← hs1, ByteArray.size_extract]; omega
  obtain ⟨r0, hr0⟩ : ∃ r0, Pt.DG.extract y 36 = r0 := ⟨_, rfl⟩
  have k3 : r0.size = 36 - y := by rw [← hr0, ByteArray.size_extract]; show min 36 36 - y = _; omega
  have k4 : (1 : Int) ≤ (r0.size : Int) := by omega
  obtain ⟨r1, hr1⟩ : ∃ r1, r0.extract 0 1 = r1 := ⟨_, rfl⟩
  have k5 : r1.size = 1 := by rw [← hr1, ByteArray.size_extract]; omega
  rw [hs0, hs1, hr0, hr1] at HE
  unfold Pt.NM at hs0
  unfold Pt.DG at hr0
  obtain ⟨nt, hnt⟩ : ∃ nt, Pt.noteT ((q + 1 : Nat) : Int) = nt := ⟨_, rfl⟩
  rw [hnt] at HE ⊢
  rw [e1]
  have i3 : (q : Int) ≤ 120 := by omega
  have i2 : (0 : Int) ≤ (q : Int) := by omega
  clear hn h5 h4 h3 hb hy hz hu y1 z1 e1 k0 k3 hnt
  go_enter Tryz.func71, Tryz.ntmps71
  go_upto_region 8 with fail
  go_quiet (fail)
  go_upto_region 9 with fail
  go_quiet (fail)
  go_wp2
  go_ret
  exact ⟨ret_str HE.out.symm, below_drewN' (below_box _ _) _⟩
theorem ew {k : Nat} (hk : k < 4) : ∀ args w, (callFunc (wF k) args).run Tryz.prog w = .ok (.enter (wF k) args) w := by
  match k, hk with
  | 0, _ => exact enters_of Tryz.func71 (by kernel_rfl) rfl
  | 1, _ => exact enters_of Tryz.func75 (by kernel_rfl) rfl
  | 2, _ => exact enters_of Tryz.func79 (by kernel_rfl) rfl
  | 3, _ => exact enters_of Tryz.func83 (by kernel_rfl) rfl
theorem g_write {k : Nat} (hk : k < 4) (v : Int × Int) (hv : Pt.okV k v) (h2 : 0 ≤ v.2) (w : World) :
    Calls Tryz.prog (wF k) #[.agg #[.int .i64 v.1, .int .i64 v.2]] w fun x w' => x = .returned (.string (Pt.partT k v)) ∧ Below w.heap.size w w' := by
  obtain ⟨a, b⟩ := v
  have ha : 0 ≤ a := by
    match k, hk with
    | 0, _ => simp only [Pt.okV] at hv; omega
    | 1, _ => simp only [Pt.okV] at hv; omega
    | 2, _ => simp only [Pt.okV] at hv; omega
    | 3, _ => simp only [Pt.okV] at hv; omega
  obtain ⟨n, rfl⟩ : ∃ n : Nat, a = n := ⟨a.toNat, by omega⟩
  obtain ⟨m, rfl⟩ : ∃ m : Nat, b = m := ⟨b.toNat, by simp only at h2; omega⟩
  match k, hk with
  | 0, _ => simp only [Pt.okV] at hv; exact p_wNote n m w (by omega)
  | 1, _ => simp only [Pt.okV] at hv; exact p_wInst n m w (by omega)
  | 2, _ => simp only [Pt.okV] at hv; exact p_wVolume n m w (by omega) (by omega) (by omega)
  | 3, _ => simp only [Pt.okV] at hv; exact p_wEffect n m w (by omega) (by omega) (by omega)

theorem p_light (r : Int) (p : Option Addr) (n cap : Nat) (w : World) (h : (n : Int) ≤ 9223372036854775807) :
    Calls Tryz.prog 4 #[PV r p n cap] w fun x w' => x = .returned (.bool (decide (n ≤ 2000))) ∧ Below w.heap.size w w' := by
  unfold PV
  by_cases hn : (n : Int) ≤ 2000
  · have HE := Lib.hid (show decide (n ≤ 2000) = true from decide_eq_true (by omega))
    go_enter Tryz.func4, Tryz.ntmps4
    go_wp2
    go_ret
    exact ⟨ret_bool HE.out.symm, below_box _ _⟩
  · have HE := Lib.hid (show decide (n ≤ 2000) = false from decide_eq_false (by omega))
    have hd : decide ((n : Int) ≤ 2000) = false := decide_eq_false hn
    go_enter Tryz.func4, Tryz.ntmps4
    go_wp2
    go_ret
    exact ⟨ret_bool HE.out.symm, below_box _ _⟩
set_option maxHeartbeats 1600000 in
/-- Equal patterns are the same. -/
theorem p_Same (r : Int) (l : List Pt.Cl) (p q : Option Addr) (cap cap' : Nat) (w : World) (hp : CellsAt w p l) (hq : CellsAt w q l) (hl : (l.length : Int) ≤ 9223372036854775807) :
    Calls Tryz.prog 31 #[PV r p l.length cap, PV r q l.length cap'] w fun x w' => x = .returned (.bool true) ∧ Below w.heap.size w w' := by
  obtain ⟨W, hW⟩ : ∃ W, W = (w.alloc (.cells #[.int .i64 r, .slice p l.length cap] 24)).alloc (.cells #[.int .i64 r, .slice q l.length cap'] 24) := ⟨_, rfl⟩
  have hB : Below w.heap.size w W := by rw [hW]; exact stepB (below_box _ _) (below_box _ _)
  obtain ⟨b, hb⟩ : ∃ b, b = w.heap.size := ⟨_, rfl⟩
  have hx : Pb W b r (.slice p l.length cap) := by rw [hW, hb]; exact (pb_box _ _ _ _).kept (below_box _ _)
  have hy : Pb W (b + 1) r (.slice q l.length cap') := by
    rw [hW, hb]
    have := pb_box (w.alloc (.cells #[.int .i64 r, .slice p l.length cap] 24)) r (.slice q l.length cap') 24
    simpa using this
  have HB := Lib.hid hB
  have HP := Lib.hid (hp.below hB)
  have HQ := Lib.hid (hq.below hB)
  obtain ⟨n, hn⟩ : ∃ n, l.length = n := ⟨_, rfl⟩
  rw [hn] at hx hy hW hl ⊢
  obtain ⟨x0, x1, -, -⟩ := hx.cells
  obtain ⟨y0, y1, -, -⟩ := hy.cells
  have HN := Lib.hid hn
  unfold PV
  clear hp hq hB hx hy hn
  go_enter Tryz.func31, Tryz.ntmps31
  go_upto_region 1 with fail
  rw [← hW, ← hb]
  clear hW hb
  go_wp2
  go_loopw [23] (fun i wr => ∃ k m : Nat, k ≤ n ∧ i = .int .i64 k ∧ wr = W.drewN m) (fun i _ => n - (intOf i).toNat)
  case atStart => exact ⟨0, 0, by omega, rfl, rfl⟩
  case round =>
    obtain ⟨k, m, hk, rfl, rfl⟩ := hrel
    by_cases hlt : k < n
    · obtain ⟨bp, op, hpe, _, hr⟩ := HP.out.at (i := k) (by rw [HN.out]; exact hlt)
      obtain ⟨bq, oq, hqe, _, hs⟩ := HQ.out.at (i := k) (by rw [HN.out]; exact hlt)
      subst hpe hqe
      obtain ⟨c, hc⟩ : ∃ c, Pt.at' l k = c := ⟨_, rfl⟩
      rw [hc] at hr hs
      have EQ := eq_cl_v c c (Pt.eqC_iff.2 rfl)
      rw [cl_arr c] at EQ
      obtain ⟨a0, a1, a2, a3, a4, a5⟩ := rng_cells hr
      obtain ⟨c0, c1, c2, c3, c4, c5⟩ := rng_cells hs
      have hlt' : (k : Int) < (n : Int) := by omega
      have HLT := Lib.hid hlt
      clear hr hs hc hlt
      go_wp2
      go_quiet (fail)
      go_wp2
      go_roundw
      case rel => exact ⟨k + 1, _, HLT.out, by go_num, rfl⟩
      case measure => simp [intOf]; have := HLT.out; omega
    · go_wp2
      go_ret
      exact ⟨rfl, below_drewN' HB.out _⟩

def last77 : Pt.Cl := ⟨0, 0, 0, 0, 0, 77⟩
set_option maxRecDepth 100000 in
set_option maxHeartbeats 1600000 in
theorem l_copied (r : Int) (l : List Pt.Cl) (p : Option Addr) (cap : Nat) (w : World) (hd : CellsAt w p l) (hl : l.length ≤ 2000) :
    Calls Tryz.prog 6 #[PV r p l.length cap] w fun x w' => (∃ g, x = .returned (PV r (some ⟨g, 0, none⟩) l.length (l.length + 1)) ∧ w.heap.size ≤ g ∧ Kr w' g (l ++ [last77])) ∧ Below w.heap.size w w' := by
  obtain ⟨i0, hinf, hz0, hz1, hz2⟩ := info_parts Tryz.infoCell
  obtain ⟨V, hV⟩ : ∃ V, V = w.alloc (.cells #[.int .i64 r, .slice p l.length cap] 24) := ⟨_, rfl⟩
  obtain ⟨W, hW⟩ : ∃ W, W = V.alloc (.cells #[.int .i64 0, .slice none 0 0] 24) := ⟨_, rfl⟩
  have v1 : Below w.heap.size w V := by rw [hV]; exact below_box _ _
  have v2 : Below V.heap.size V W := by rw [hW]; exact below_box _ _
  have s1 : V.heap.size = w.heap.size + 1 := by rw [hV]; simp
  have s2 : W.heap.size = w.heap.size + 2 := by rw [hW]; simp [s1]
  have hk : Pb W w.heap.size r (.slice p l.length cap) := (show Pb V _ _ _ by rw [hV]; exact pb_box _ _ _ _).kept v2
  have hq : Pb W (w.heap.size + 1) 0 (.slice none 0 0) := by rw [hW, ← s1]; exact pb_box _ _ _ _
  have HB := Lib.hid (stepB v1 v2)
  have HD := Lib.hid (hd.below (stepB v1 v2))
  obtain ⟨b, hb⟩ : ∃ b, b = w.heap.size := ⟨_, rfl⟩
  have HZ := Lib.hid (show W.heap.size = b + 2 ∧ w.heap.size = b by omega)
  rw [← hb] at hk hq s1
  obtain ⟨n, hn⟩ : ∃ n, l.length = n := ⟨_, rfl⟩
  have HN := Lib.hid hn
  rw [hn] at hk hV hl ⊢
  have HK := Lib.hid hk
  have HQ := Lib.hid hq
  have ⟨k0, k1, k2, k3⟩ := hk.cells
  have hl' : (n : Int) ≤ 2000 := by omega
  unfold PV
  clear hd v1 v2 s2 hk hq hn
  go_enter Tryz.func6, Tryz.ntmps6
  go_upto_region 1 with fail
  rw [← hV, ← hW, ← hb]
  clear hW hV hb s1
  go_upto_region 2 with (first | (at_make; go_loud (refine wpList_make_full _ rfl _ _ 22 rfl W.heap.size 28 i0 (.agg #[.int .i64 0, .int .i64 0, .int .i64 0, .int .i64 0, .int .i64 0, .int .i64 0]) 6 Tryz.underlying22 hinf hz0 hz1 .i64 .i64 _ _ (n + 1) rfl rfl (by simp) (by simp) (by rw [hz2]; omega) (by unfold maxLen; omega) (Nat.le_refl _) ?_; intro w3 hown3 hgrow3; have HR3 := Lib.hid (show w3.ownsRow W.heap.size 28 6 (.slice (some ⟨W.heap.size, 0, none⟩) (n + 1) (n + 1)) (n + 1) (cc (List.replicate (n + 1) Pt.zc)) by rw [← made_cells]; exact hown3); have HB3 := Lib.hid (grown_below hgrow3); clear hown3 hgrow3)))
  obtain ⟨g, hg⟩ : ∃ g, g = W.heap.size := ⟨_, rfl⟩
  rw [← hg] at HR3 ⊢
  have HG := Lib.hid (show g = b + 2 ∧ g = W.heap.size by have := HZ.out; omega)
  have HK3 := Lib.hid (show Kr w3 g (List.replicate (n + 1) Pt.zc) by
    obtain ⟨p', cap', e, h1, h2⟩ := rows_own HR3.out (by simp)
    rcases h2 with h2 | ⟨g', hp', -, hk⟩
    · simp at h2
    · rw [hp'] at e
      have : g = g' := by simpa [Value.ownBlock] using congrArg Value.ownBlock e
      rw [this]
      exact hk)
  have HD3 := Lib.hid (HD.out.below HB3.out)
  clear hg k0 k1 k2 k3
  obtain ⟨k0, k1⟩ := two_cells HK.out HB3.out
  have hcp := run_copy_cells w3 3 g 0 (n + 1) (n + 1) (some ⟨g, 0, none⟩) p n cap l (by rw [HN.out]; exact (Nat.min_eq_left (by omega)).symm) (fun h => ⟨rfl, by have := HK3.out.there (i := 0) (n := l.length) (by simp; have := HN.out; omega); simpa using this, by
    rcases HD3.out with e | ⟨b1, o1, e, -, hr⟩
    · subst e; simp at h
    · exact ⟨b1, o1, e, hr⟩⟩)
  rw [HN.out] at hcp
  obtain ⟨w4, e4⟩ : ∃ w4, w4 = w3.setCells g 0 (cc l) := ⟨_, rfl⟩
  rw [← e4] at hcp
  have HK4 := Lib.hid (show Kr w4 g (l ++ [Pt.zc]) by
    have h := HK3.out.lay (i := 0) (m := l) (by simp; have := HN.out; omega)
    rw [Nat.zero_mul, ← e4] at h
    have e : lay (List.replicate (n + 1) Pt.zc) 0 l = l ++ [Pt.zc] := by simp [lay, HN.out]
    rw [e] at h
    exact h)
  have HB4 := Lib.hid (show w3.grownBy w4 (some g) by rw [e4]; exact grown_setCells _ _ _ _)
  clear e4
  have HK2 := Lib.hid ((HK.out.kept HB3.out).grown HB4.out (by have := HG.out; omega))
  have HQ2 := Lib.hid ((HQ.out.kept HB3.out).grown HB4.out (by have := HG.out; omega))
  go_upto_region 3 with fail
  clear hcp k0 k1
  obtain ⟨k0, k1, -, -⟩ := HK2.out.cells
  have ht := HK4.out.th (i := n) (by simp; have := HN.out; omega)
  obtain ⟨x5, c5⟩ := Option.isSome_iff_exists.1 (ht 5 (by decide)).1
  have f5 := (ht 5 (by decide)).2
  have hnn : (n : Int) < ((n + 1 : Nat) : Int) := by omega
  have HK5 := Lib.hid (show Kr (w4.setCell ⟨g, n * 6 + 5, none⟩ (.int .i64 77)) g (l ++ [last77]) by
    have h := HK4.out.setField (i := n) (j := 5) (c := last77) (v := .int .i64 77) (by simp; have := HN.out; omega) (by decide) (by rw [Pt.at_app, if_neg (by have := HN.out; omega), show n - l.length = 0 by have := HN.out; omega]; rfl)
    have e : (l ++ [Pt.zc]).set n last77 = l ++ [last77] := by rw [← HN.out]; simp
    rw [e] at h
    exact h)
  clear ht
  go_upto_region 4 with fail
  obtain ⟨w5, hw5⟩ : ∃ w5, w5 = w4.setCell ⟨g, n * 6 + 5, none⟩ (.int .i64 77) := ⟨_, rfl⟩
  rw [← hw5] at HK5 ⊢
  have HG5 := Lib.hid (show w4.grownBy w5 (some g) by rw [hw5]; exact grown_set _ _ _ _)
  clear hw5 k0 k1 c5 f5
  have HQ5 := Lib.hid (HQ2.out.grown HG5.out (by have := HG.out; omega))
  obtain ⟨k0, k1, -, -⟩ := (HK2.out.grown HG5.out (show b ≠ g by have := HG.out; omega)).cells
  obtain ⟨y0, y1, y2, y3⟩ := HQ5.out.cells
  have hdb : ¬ b = b + 1 := by omega
  go_region
  obtain ⟨w7, hw7⟩ : ∃ w7, w7 = ((w5.setCell ⟨b + 1, 0, none⟩ (.int .i64 r)).setCell ⟨b + 1, 1, none⟩ (.slice (some ⟨g, 0, none⟩) n (n + 1))).drew := ⟨_, rfl⟩
  rw [← hw7]
  have G7 := Lib.hid (show w5.grownBy w7 (some (b + 1)) by
    have h := (grown_set w5 (b + 1) 0 (.int .i64 r)).trans (grown_set (w5.setCell ⟨b + 1, 0, none⟩ (.int .i64 r)) (b + 1) 1 (.slice (some ⟨g, 0, none⟩) n (n + 1)))
    rw [hw7]
    exact ⟨h.os, h.tape, h.output, h.size, h.block⟩)
  have H7 := Lib.hid (show Pb w7 (b + 1) r (.slice (some ⟨g, 0, none⟩) n (n + 1)) by
    rw [hw7]
    exact ⟨World.rangeAt_setCells_same w5 (b + 1) 0 [.int .i64 r, .slice (some ⟨g, 0, none⟩) n (n + 1)] HQ5.out.2, World.there_setCells HQ5.out.2 (b + 1) 0 [.int .i64 r, .slice (some ⟨g, 0, none⟩) n (n + 1)]⟩)
  clear hw7 k0 k1 y0 y1 y2 y3
  go_wp2
  have e1 := HG.out
  have e2 := HZ.out
  have e3 := HB.out.size
  have e4 := HB3.out.size
  have e5 := HB4.out.size
  have e6 := HG5.out.size
  exact bodyPost_ret (res_p rfl rfl H7.out.1) rfl ⟨⟨g, rfl, by omega, HK5.out.grown G7.out (by omega)⟩, grown_at (grown_at (grown_at (stepB HB.out HB3.out) (by omega) (by omega) HB4.out) (by omega) (by omega) HG5.out) (by omega) (by omega) G7.out⟩
set_option maxRecDepth 100000 in
set_option maxHeartbeats 1600000 in
theorem l_untouched (r : Int) (l : List Pt.Cl) (g : Nat) (q : Option Addr) (cap : Nat) (w : World) (hk : Kr w g (l ++ [last77])) (hq : CellsAt w q l) (hl : l.length ≤ 2000) :
    Calls Tryz.prog 32 #[PV r (some ⟨g, 0, none⟩) l.length (l.length + 1), PV r q l.length cap] w fun x w' => x = .returned (.bool true) ∧ Below w.heap.size w w' := by
  obtain ⟨V, hV⟩ : ∃ V, V = w.alloc (.cells #[.int .i64 r, .slice (some ⟨g, 0, none⟩) l.length (l.length + 1)] 24) := ⟨_, rfl⟩
  obtain ⟨W, hW⟩ : ∃ W, W = V.alloc (.cells #[.int .i64 r, .slice q l.length cap] 24) := ⟨_, rfl⟩
  have v1 : Below w.heap.size w V := by rw [hV]; exact below_box _ _
  have v2 : Below V.heap.size V W := by rw [hW]; exact below_box _ _
  have s1 : V.heap.size = w.heap.size + 1 := by rw [hV]; simp
  have hk1 : Pb W w.heap.size r (.slice (some ⟨g, 0, none⟩) l.length (l.length + 1)) := (show Pb V _ _ _ by rw [hV]; exact pb_box _ _ _ _).kept v2
  have hk2 : Pb W (w.heap.size + 1) r (.slice q l.length cap) := by rw [hW, ← s1]; exact pb_box _ _ _ _
  have HB := Lib.hid (stepB v1 v2)
  have hkw := hk.kept (stepB v1 v2)
  have hgl : CellsAt w (some ⟨g, 0, none⟩) l := by
    have hr := hk.2.1
    rw [cc_app] at hr
    exact .inr ⟨g, 0, rfl, hk.1, fun j v hv => hr j v (by rw [List.getElem?_append_left (List.getElem?_eq_some_iff.1 hv).1]; exact hv)⟩
  have C1 := Lib.hid (fun u (hu : Below W.heap.size W u) => p_Same r l (some ⟨g, 0, none⟩) q (l.length + 1) cap u (hgl.below (stepB (stepB v1 v2) hu)) (hq.below (stepB (stepB v1 v2) hu)) (by omega))
  have h77 : W.cell? ⟨g, l.length * 6 + 5, none⟩ = some (.int .i64 77) := by
    have := hkw.one (i := l.length) (by simp)
    rw [Pt.at_app, if_neg (by omega), show l.length - l.length = 0 by omega] at this
    exact this 5 _ rfl
  obtain ⟨b, hb⟩ : ∃ b, b = w.heap.size := ⟨_, rfl⟩
  rw [← hb] at hk1 hk2 s1
  obtain ⟨n, hn⟩ : ∃ n, l.length = n := ⟨_, rfl⟩
  rw [hn] at hk1 hk2 hV hW h77 hl C1 ⊢
  obtain ⟨m, hm⟩ : ∃ m, n + 1 = m := ⟨_, rfl⟩
  rw [hm] at hk1 hV C1 ⊢
  have hm1 : IntKind.i64.wrap ((n : Int) + 1) = (m : Int) := by rw [IntKind.wrap_i64]; omega
  have hm0 : (0 : Int) ≤ (m : Int) := by omega
  have hnm : (n : Int) < (m : Int) := by omega
  have HK := Lib.hid (show ∀ u, Below W.heap.size W u → Below W.heap.size W u ∧ u.cell? ⟨b, 0, none⟩ = some (.int .i64 r) ∧ u.cell? ⟨b, 1, none⟩ = some (.slice (some ⟨g, 0, none⟩) n m) ∧ u.cell? ⟨b + 1, 0, none⟩ = some (.int .i64 r) ∧ u.cell? ⟨b + 1, 1, none⟩ = some (.slice q n cap) ∧ u.cell? ⟨g, n * 6 + 5, none⟩ = some (.int .i64 77) from fun u hu =>
    ⟨hu, kept_cell hu hk1.cells.1, kept_cell hu hk1.cells.2.1, kept_cell hu hk2.cells.1, kept_cell hu hk2.cells.2.1, kept_cell hu h77⟩)
  have hl' : (n : Int) ≤ 2000 := by omega
  have hg0 := HK.out _ (Below.refl W.heap.size W).drew
  unfold PV at C1 ⊢
  clear hk hq v1 v2 hkw hgl h77 hk1 hk2 hn hm
  go_enter Tryz.func32, Tryz.ntmps32
  go_upto_region 1 with fail
  rw [← hV, ← hW, ← hb]
  clear hW hV hb s1
  go_region_held3 (fun u => Below W.heap.size W u ∧ u.cell? ⟨b, 0, none⟩ = some (.int .i64 r) ∧ u.cell? ⟨b, 1, none⟩ = some (.slice (some ⟨g, 0, none⟩) n m) ∧ u.cell? ⟨b + 1, 0, none⟩ = some (.int .i64 r) ∧ u.cell? ⟨b + 1, 1, none⟩ = some (.slice q n cap) ∧ u.cell? ⟨g, n * 6 + 5, none⟩ = some (.int .i64 77))
    (first | with_reducible exact hg0 | exact HK.out _ (stepB (Below.refl W.heap.size W).drew hB4))
    (first | (go_at_call 31; (with_reducible refine (C1.out _ ?_).mono ?_); exact (Below.refl W.heap.size W).drew; rintro x' w4 ⟨rfl, hB4⟩))
  go_wp2
  go_ret
  exact ⟨rfl, stepB HB.out (stepB (Below.refl W.heap.size W).drew hB4)⟩
end Go.Proofs.YtfjfnbeegojlbaaGreat

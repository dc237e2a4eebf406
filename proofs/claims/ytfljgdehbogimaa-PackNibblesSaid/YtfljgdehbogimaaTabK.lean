/-
  The contract of the comparison that package pack's Table hands to the library's sort.
-/
import Derived.Test.YtfljgdehbogimaaTabO
import Derived.Test.YtfljgdehbogimaaPAwake
import Derived.Sort.Grow
import Derived.StillTailTactics
namespace Go.Proofs.Ytfljgdehbogimaa
open Go.RowKit Go.Sort

theorem cf_orr (C : Int → Int) (x y : Int) : orr [C y - C x, Tb.ab x - Tb.ab y, y - x] = Tb.cf C x y := by
  unfold Tb.cf
  simp only [orr]
  repeat' split
  all_goals first | rfl | omega
set_option maxHeartbeats 1600000 in
set_option maxRecDepth 100000 in
theorem c_cmp (D : List Int) (x y : Int) (b : Nat) (W : World) (hL : ∀ i, i < 256 → W.cell? ⟨b, i, none⟩ = some (.int .i64 ((Tb.cp D).getD i 0))) (hD : (D.length : Int) ≤ 4096) (x1 : -128 ≤ x) (x2 : x ≤ 127) (y1 : -128 ≤ y) (y2 : y ≤ 127) :
    Calls Try.prog 45 #[.int .i64 x, .int .i64 y, .pointer (some ⟨b, 0, none⟩)] W fun e w' => e = .returned (.int .i64 (Tb.cf (Tb.ct D) x y)) ∧ ∃ q os', w' = grow (W.drewN q) os' := by
  obtain ⟨i, hi⟩ : ∃ i : Nat, x % 256 = (i : Int) := ⟨(x % 256).toNat, by omega⟩
  obtain ⟨j, hj⟩ : ∃ j : Nat, y % 256 = (j : Int) := ⟨(y % 256).toNat, by omega⟩
  have hi2 : i < 256 := by omega
  have hj2 : j < 256 := by omega
  have c1 := hL i hi2
  have c2 := hL j hj2
  rw [Tb.cp_at D hi2, ← hi, Tb.wrp_byte x1 x2] at c1
  rw [Tb.cp_at D hj2, ← hj, Tb.wrp_byte y1 y2] at c2
  have u1 := Tb.ct_in D x
  have u2 := Tb.ct_in D y
  rw [← cf_orr]
  obtain ⟨cx, hcx⟩ : ∃ c, Tb.ct D x = c := ⟨_, rfl⟩
  obtain ⟨cy, hcy⟩ : ∃ c, Tb.ct D y = c := ⟨_, rfl⟩
  rw [hcx] at c1 u1 ⊢
  rw [hcy] at c2 u2 ⊢
  have hab : ∀ z : Int, (if z < -z then -z else z) = Tb.ab z := fun z => by unfold Tb.ab; split <;> omega
  have hax : Tb.ab x ≤ 128 ∧ 0 ≤ Tb.ab x := by unfold Tb.ab; omega
  have hay : Tb.ab y ≤ 128 ∧ 0 ≤ Tb.ab y := by unfold Tb.ab; omega
  have hx9 := hab x
  have hy9 := hab y
  obtain ⟨ax, hax9⟩ : ∃ a, Tb.ab x = a := ⟨_, rfl⟩
  obtain ⟨ay, hay9⟩ : ∃ a, Tb.ab y = a := ⟨_, rfl⟩
  rw [hax9] at hx9 hax
  rw [hay9] at hy9 hay
  rw [hax9, hay9]
  have hs3 : IntKind.i64.wrap (ax - ay) = ax - ay := IntWalk.i64_in _ (by omega)
  have hs1 : IntKind.i64.wrap (cy - cx) = cy - cx := IntWalk.i64_in _ (by omega)
  have hs2 : IntKind.i64.wrap (y - x) = y - x := IntWalk.i64_in _ (by omega)
  have hnx : IntKind.i64.wrap (-x) = -x := IntWalk.i64_in _ (by omega)
  have hny : IntKind.i64.wrap (-y) = -y := IntWalk.i64_in _ (by omega)
  have hi3 : (i : Int) < 256 := by omega
  have hj3 : (j : Int) < 256 := by omega
  have wi : IntKind.u8.wrap x = (i : Int) := by rw [← hi]; simp [IntKind.wrap, IntKind.signed, IntKind.bits]
  have wj : IntKind.u8.wrap y = (j : Int) := by rw [← hj]; simp [IntKind.wrap, IntKind.signed, IntKind.bits]
  clear hcx hcy hL hD
  clear hax hay hab hax9 hay9 hi hj
  have HC : Hid (Calls Try.prog 46 #[.slice (some ⟨W.heap.size, 0, none⟩) 3 3] (W.alloc (.cells #[.int .i64 (cy - cx), .int .i64 (ax - ay), .int .i64 (y - x)] 3)).drew fun e w' => e = .returned (.int .i64 (orr [cy - cx, ax - ay, y - x])) ∧ (W.alloc (.cells #[.int .i64 (cy - cx), .int .i64 (ax - ay), .int .i64 (y - x)] 3)).drew = w') :=
    Lib.hid (l_or [cy - cx, ax - ay, y - x] (some ⟨W.heap.size, 0, none⟩) 3 (W.alloc (.cells #[.int .i64 (cy - cx), .int .i64 (ax - ay), .int .i64 (y - x)] 3)).drew (datAt_lit W [cy - cx, ax - ay, y - x] 3) (by simp))
  obtain ⟨z, hz⟩ : ∃ z, orr [cy - cx, ax - ay, y - x] = z := ⟨_, rfl⟩
  rw [hz] at HC ⊢
  clear hz
  go_enter Try.func45, Try.ntmps45
  go_upto_region 1 with fail
  refine wp_region_still_tail 21 (by kernel_rfl) (by kernel_rfl) ?_
  obtain ⟨W', hW'⟩ : ∃ W', W' = W.drew := ⟨_, rfl⟩
  rw [show ({ W with drawn := W.drawn + 1 } : World) = W' from hW'.symm]
  have c1' : W'.cell? ⟨b, i, none⟩ = some (.int .i64 cx) := by rw [hW']; exact c1
  have c2' : W'.cell? ⟨b, j, none⟩ = some (.int .i64 cy) := by rw [hW']; exact c2
  have HWE := Lib.hid hW'
  clear c1 c2 hW'
  simp only [List.take_succ_cons, List.take_zero, List.drop_succ_cons, List.drop_zero]
  repeat still_step
  refine wpStill_nil ?_
  have HC2 := Lib.hid (show Calls Try.prog 46 #[.slice (some ⟨W'.heap.size, 0, none⟩) 3 3] (W'.alloc (.cells #[.int .i64 (cy - cx), .int .i64 (ax - ay), .int .i64 (y - x)] 3)) fun e w' => e = .returned (.int .i64 z) ∧ grow (W.drewN 1) #[.cells #[.int .i64 (cy - cx), .int .i64 (ax - ay), .int .i64 (y - x)] 3] = w' from HWE.out ▸ HC.out)
  go_wp2_with (first | (go_at_call 46; go_loud ((with_reducible refine HC2.out.mono ?_); rintro x' w' ⟨rfl, rfl⟩)))
  go_ret
  exact ⟨rfl, 1, _, rfl⟩
end Go.Proofs.Ytfljgdehbogimaa

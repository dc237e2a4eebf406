/-
  The contracts of the reference's Plays and Key: for any instrument and numbers.
-/
import Derived.Test.YtcchfahdgmcpbaaRValid
import Derived.Test.YtcchfahdgmcpbaaPKey
import Derived.Deep.DeepCutAuto
namespace Go.Proofs.Ytcchfahdgmcpbaa
open Go.RowKit

set_option maxHeartbeats 3200000 in
theorem r_Plays_none (i : In.Ins) (a : In.Loc) (n own : Int) (w : World) (hd : IPts w i a) (h0 : i.keys = []) :
    Calls Try.prog 43 #[.agg (IL i a).toArray, .int .i64 n, .int .i64 own] w fun x w' => x = .returned (.tuple #[.int .i64 (In.plA i.keys n), .int .i64 (In.plB i.keys n own)]) ∧ Below w.heap.size w w' := by
  obtain ⟨W, hW⟩ : ∃ W, W = w.alloc (.cells (IL i a).toArray 40) := ⟨_, rfl⟩
  obtain ⟨b, hbe⟩ : ∃ b, b = w.heap.size := ⟨_, rfl⟩
  have HX := Lib.hid (show Bx W b i a by rw [hW, hbe]; exact bx_new w i a hd)
  have HWb := Lib.hid (show Below w.heap.size w W by rw [hW]; exact below_box _ _)
  have HB0 := Lib.hid (Below.refl W.heap.size W)
  have HP := Lib.hid (And.intro (show In.plA i.keys n = n by unfold In.plA; rw [if_pos h0]) (show In.plB i.keys n own = own by unfold In.plB; rw [if_pos h0]))
  have x1 := (range_ib HX.out.rng).2.1
  rw [h0] at x1
  clear hd h0
  go_enter Try.func43, Try.ntmps43
  go_upto_region 1 with fail
  rw [← hW, ← hbe]
  clear hW hbe
  go_wp2
  go_ret2
  exact ⟨ret_two HP.out.1.symm HP.out.2.symm, HWb.out⟩
set_option maxHeartbeats 3200000 in
theorem r_Plays_some (i : In.Ins) (a : In.Loc) (m : Nat) (own : Int) (w : World) (hd : IPts w i a) (hm : m < i.keys.length) :
    Calls Try.prog 43 #[.agg (IL i a).toArray, .int .i64 m, .int .i64 own] w fun x w' => x = .returned (.tuple #[.int .i64 (In.plA i.keys m), .int .i64 (In.plB i.keys m own)]) ∧ Below w.heap.size w w' := by
  have hne : i.keys ≠ [] := by intro e; rw [e] at hm; simp at hm
  have HP := Lib.hid (And.intro (show In.plA i.keys (m : Int) = In.tk i.keys m by unfold In.plA; rw [if_neg hne]; simp) (show In.plB i.keys (m : Int) own = In.vl i.keys m by unfold In.plB; rw [if_neg hne]; simp))
  obtain ⟨W, hW⟩ : ∃ W, W = w.alloc (.cells (IL i a).toArray 40) := ⟨_, rfl⟩
  obtain ⟨b, hbe⟩ : ∃ b, b = w.heap.size := ⟨_, rfl⟩
  have HX := Lib.hid (show Bx W b i a by rw [hW, hbe]; exact bx_new w i a hd)
  have HWb := Lib.hid (show Below w.heap.size w W by rw [hW]; exact below_box _ _)
  have HB0 := Lib.hid (Below.refl W.heap.size W)
  have x1 := (range_ib HX.out.rng).2.1
  obtain ⟨bk, off, hp, hc1, hc2⟩ := HX.out.pts.1.at (i := m) hm
  rw [hp] at x1
  have hmi : (m : Int) < (i.keys.length : Int) := by omega
  have hz : ((i.keys.length : Int) == 0) = false := by simp [hne]
  obtain ⟨x, hx⟩ : ∃ x, In.tk i.keys m = x := ⟨_, rfl⟩
  obtain ⟨y, hy⟩ : ∃ y, In.vl i.keys m = y := ⟨_, rfl⟩
  rw [hx] at hc1 HP
  rw [hy] at hc2 HP
  clear hx hy hne hd hp
  go_enter Try.func43, Try.ntmps43
  go_upto_region 1 with fail
  rw [← hW, ← hbe]
  clear hW hbe
  go_upto_region 3 with fail
  go_quiet (fail)
  go_wp2
  go_ret2
  exact ⟨ret_two HP.out.1.symm HP.out.2.symm, below_drewN' HWb.out _⟩
theorem r_Plays (i : In.Ins) (a : In.Loc) (m : Nat) (own : Int) (w : World) (hd : IPts w i a) (hm : i.keys = [] ∨ m < i.keys.length) :
    Calls Try.prog 43 #[.agg (IL i a).toArray, .int .i64 m, .int .i64 own] w fun x w' => x = .returned (.tuple #[.int .i64 (In.plA i.keys m), .int .i64 (In.plB i.keys m own)]) ∧ Below w.heap.size w w' := by
  rcases hm with h | h
  · exact r_Plays_none i a m own w hd h
  · exact r_Plays_some i a m own w hd h
set_option maxHeartbeats 6400000 in
theorem r_Key (i : In.Ins) (a : In.Loc) (n own : Int) (w : World) (hd : IPts w i a) (hm : i.name.size ≤ maxLen) (h5 : (i.keys.length : Int) ≤ 500) :
    Calls Try.prog 19 #[.agg (IL i a).toArray, .int .i64 n, .int .i64 own] w fun x w' => x = .returned (.tuple #[.int .i64 (In.keyA i n), .int .i64 (In.keyB i n own)]) ∧ Below w.heap.size w w' := by
  obtain ⟨W, hW⟩ : ∃ W, W = w.alloc (.cells (IL i a).toArray 40) := ⟨_, rfl⟩
  obtain ⟨b, hbe⟩ : ∃ b, b = w.heap.size := ⟨_, rfl⟩
  have HX := Lib.hid (show Bx W b i a by rw [hW, hbe]; exact bx_new w i a hd)
  have HWb := Lib.hid (show Below w.heap.size w W by rw [hW]; exact below_box _ _)
  have HB0 := Lib.hid (Below.refl W.heap.size W)
  have C2 := Lib.hid (fun u (hu : Below W.heap.size W u) => onB hu (r_Valid i a u (HX.out.kept hu).pts hm h5))
  have HK := Lib.hid (fun h : In.ivld i = true => In.kys_parts (In.ivld_keys h))
  by_cases hv : (In.ivld i && In.wth n 0 119) = true
  · have h1 : In.ivld i = true := by simp only [Bool.and_eq_true] at hv; exact hv.1
    have h2 : In.wth n 0 119 = true := by simp only [Bool.and_eq_true] at hv; exact hv.2
    obtain ⟨n0, n1⟩ : 0 ≤ n ∧ n ≤ 119 := of_decide_eq_true h2
    obtain ⟨m, rfl⟩ : ∃ m : Nat, n = m := ⟨n.toNat, by omega⟩
    have HA := Lib.hid (show In.keyA i m = In.plA i.keys m by unfold In.keyA; rw [if_pos hv])
    have HB := Lib.hid (show In.keyB i m own = In.plB i.keys m own by unfold In.keyB; rw [if_pos hv])
    have hk : i.keys = [] ∨ m < i.keys.length := by rcases HK.out h1 with h | ⟨h, _⟩; exact .inl h; exact .inr (by omega)
    have C3 := Lib.hid (fun u (hu : Below W.heap.size W u) => onB hu (r_Plays i a m own u (HX.out.kept hu).pts hk))
    rw [h1] at C2
    have d1 : decide ((m : Int) < 0) = false := decide_eq_false (by omega)
    have d2 : decide (119 < (m : Int)) = false := decide_eq_false (by omega)
    clear hv h1 h2 hk hd hm h5 HK
    go_enter Try.func19, Try.ntmps19
    go_upto_region 1 with fail
    rw [← hW, ← hbe]
    clear hW hbe
    go_wp2_with (first | (refine ld_inst (by rfl) _ rfl rfl (HX.out.kept HB0.out).rng ?_) | (go_at_call 21; ((with_reducible refine (C2.out _ HB0.out).mono ?_); rintro x' w2 ⟨rfl, hb2⟩; have HB2 := Lib.hid hb2; clear hb2)) | (refine ld_inst (by rfl) _ rfl rfl (HX.out.kept HB2.out).rng ?_) | (go_at_call 43; ((with_reducible refine (C3.out _ HB2.out).mono ?_); rintro x' w3 ⟨rfl, hb3⟩; have HB3 := Lib.hid hb3; clear hb3)))
    go_ret2
    exact ⟨ret_two HA.out.symm HB.out.symm, HWb.out.trans (HB3.out.mono HWb.out.size)⟩
  · have HA := Lib.hid (show In.keyA i n = 0 by unfold In.keyA; rw [if_neg hv])
    have HB := Lib.hid (show In.keyB i n own = 0 by unfold In.keyB; rw [if_neg hv])
    have HV := Lib.hid (show In.ivld i = false ∨ (In.ivld i = true ∧ (n < 0 ∨ (¬ n < 0 ∧ 119 < n))) by
      cases h1 : In.ivld i
      · exact .inl rfl
      · refine .inr ⟨rfl, ?_⟩
        rw [h1, Bool.true_and] at hv
        have : ¬ (0 ≤ n ∧ n ≤ 119) := fun h => hv (decide_eq_true h)
        omega)
    clear hv hd hm h5 HK
    rcases HV.out with h1 | ⟨h1, h2 | ⟨h2, h3⟩⟩
    · rw [h1] at C2
      clear h1 HV
      go_enter Try.func19, Try.ntmps19
      go_upto_region 1 with fail
      rw [← hW, ← hbe]
      clear hW hbe
      go_wp2_with (first | (refine ld_inst (by rfl) _ rfl rfl (HX.out.kept HB0.out).rng ?_) | (go_at_call 21; ((with_reducible refine (C2.out _ HB0.out).mono ?_); rintro x' w2 ⟨rfl, hb2⟩; have HB2 := Lib.hid hb2; clear hb2)))
      go_ret2
      exact ⟨ret_two (by rw [HA.out]) (by rw [HB.out]), HWb.out.trans (HB2.out.mono HWb.out.size)⟩
    · rw [h1] at C2
      have d1 : decide (n < 0) = true := decide_eq_true h2
      clear h1 HV
      go_enter Try.func19, Try.ntmps19
      go_upto_region 1 with fail
      rw [← hW, ← hbe]
      clear hW hbe
      go_wp2_with (first | (refine ld_inst (by rfl) _ rfl rfl (HX.out.kept HB0.out).rng ?_) | (go_at_call 21; ((with_reducible refine (C2.out _ HB0.out).mono ?_); rintro x' w2 ⟨rfl, hb2⟩; have HB2 := Lib.hid hb2; clear hb2)))
      go_ret2
      exact ⟨ret_two (by rw [HA.out]) (by rw [HB.out]), HWb.out.trans (HB2.out.mono HWb.out.size)⟩
    · rw [h1] at C2
      have d1 : decide (n < 0) = false := decide_eq_false h2
      have d2 : decide (119 < n) = true := decide_eq_true h3
      clear h1 HV
      go_enter Try.func19, Try.ntmps19
      go_upto_region 1 with fail
      rw [← hW, ← hbe]
      clear hW hbe
      go_wp2_with (first | (refine ld_inst (by rfl) _ rfl rfl (HX.out.kept HB0.out).rng ?_) | (go_at_call 21; ((with_reducible refine (C2.out _ HB0.out).mono ?_); rintro x' w2 ⟨rfl, hb2⟩; have HB2 := Lib.hid hb2; clear hb2)))
      go_ret2
      exact ⟨ret_two (by rw [HA.out]) (by rw [HB.out]), HWb.out.trans (HB2.out.mono HWb.out.size)⟩
end Go.Proofs.Ytcchfahdgmcpbaa

/-
  The contract of package inst's Key: for any instrument and numbers.
-/
import Derived.Test.YtcchfahdgmcpbaaPBig
import Derived.Test.YtcchfahdgmcpbaaLex
import Derived.Deep.DeepCutAuto
namespace Go.Proofs.Ytcchfahdgmcpbaa
open Go.RowKit

theorem ret_two {a b c d : Int} (h1 : a = b) (h2 : c = d) : Ending.returned (.tuple #[.int .i64 a, .int .i64 c]) = .returned (.tuple #[.int .i64 b, .int .i64 d]) := by rw [h1, h2]
set_option maxHeartbeats 3200000 in
theorem p_Key (i : In.Ins) (a : In.Loc) (n own : Int) (w : World) (hd : IPts w i a) :
    Calls Try.prog 18 #[.agg (IL i a).toArray, .int .i64 n, .int .i64 own] w fun x w' => x = .returned (.tuple #[.int .i64 (In.keyA i n), .int .i64 (In.keyB i n own)]) ∧ Below w.heap.size w w' := by
  obtain ⟨W, hW⟩ : ∃ W, W = w.alloc (.cells (IL i a).toArray 40) := ⟨_, rfl⟩
  obtain ⟨b, hbe⟩ : ∃ b, b = w.heap.size := ⟨_, rfl⟩
  have HX := Lib.hid (show Bx W b i a by rw [hW, hbe]; exact bx_new w i a hd)
  have HWb := Lib.hid (show Below w.heap.size w W by rw [hW]; exact below_box _ _)
  have HB0 := Lib.hid (Below.refl W.heap.size W)
  have C1 := Lib.hid (fun u => p_note n u)
  have C2 := Lib.hid (fun u (hu : Below W.heap.size W u) => onB hu (p_Valid i a u (HX.out.kept hu).pts))
  have HA := Lib.hid (show In.keyA i n = if (In.ivld i && In.wth n 0 119) = true then In.plA i.keys n else 0 from rfl)
  have HB := Lib.hid (show In.keyB i n own = if (In.ivld i && In.wth n 0 119) = true then In.plB i.keys n own else 0 from rfl)
  have HK := Lib.hid (fun h : In.ivld i = true => In.kys_parts (In.ivld_keys h))
  have HN := Lib.hid (fun h : In.wth n 0 119 = true => (of_decide_eq_true h : 0 ≤ n ∧ n ≤ 119))
  obtain ⟨v1, hv1⟩ : ∃ v, In.wth n 0 119 = v := ⟨_, rfl⟩
  obtain ⟨v2, hv2⟩ : ∃ v, In.ivld i = v := ⟨_, rfl⟩
  rw [hv1] at C1 HA HB HN
  rw [hv2] at C2 HA HB HK
  clear hv1 hv2 hd
  simp only [iv_il] at C2
  cases v1
  · go_enter Try.func18, Try.ntmps18
    go_upto_region 1 with fail
    rw [← hW, ← hbe]
    clear hW hbe
    go_wp2_with (first | (go_at_call 42; ((with_reducible refine (C1.out _).mono ?_); rintro x' w1 ⟨rfl, rfl⟩)))
    go_ret2
    exact ⟨ret_two (by rw [HA.out]; simp) (by rw [HB.out]; simp), HWb.out⟩
  · cases v2
    · go_enter Try.func18, Try.ntmps18
      go_upto_region 1 with fail
      rw [← hW, ← hbe]
      clear hW hbe
      go_wp2_with (first | (go_at_call 42; ((with_reducible refine (C1.out _).mono ?_); rintro x' w1 ⟨rfl, rfl⟩)) | (refine ld_inst (by rfl) _ rfl rfl (HX.out.kept HB0.out).rng ?_) | (go_at_call 20; ((with_reducible refine (C2.out _ HB0.out).mono ?_); rintro x' w2 ⟨rfl, hb2⟩; have HB2 := Lib.hid hb2; clear hb2)))
      go_ret2
      exact ⟨ret_two (by rw [HA.out]; simp) (by rw [HB.out]; simp), HWb.out.trans (HB2.out.mono HWb.out.size)⟩
    · obtain ⟨n0, n1⟩ := HN.out rfl
      obtain ⟨m, rfl⟩ : ∃ m : Nat, n = m := ⟨n.toNat, by omega⟩
      have HKT := Lib.hid (HK.out rfl)
      clear HN HK
      go_enter Try.func18, Try.ntmps18
      go_upto_region 1 with fail
      rw [← hW, ← hbe]
      clear hW hbe
      go_upto_region 3 with (first | (go_at_call 42; ((with_reducible refine (C1.out _).mono ?_); rintro x' w1 ⟨rfl, rfl⟩)) | (refine ld_inst (by rfl) _ rfl rfl (HX.out.kept HB0.out).rng ?_) | (go_at_call 20; ((with_reducible refine (C2.out _ HB0.out).mono ?_); rintro x' w2 ⟨rfl, hb2⟩; have HB2 := Lib.hid hb2; clear hb2)))
      have x1 := (range_ib (HX.out.kept HB2.out).rng).2.1
      have HF := Lib.hid (HWb.out.trans (HB2.out.mono HWb.out.size))
      rcases HKT.out with h0 | ⟨h1, -⟩
      · have HX := Lib.hid (And.intro (show In.plA i.keys (m : Int) = m by unfold In.plA; rw [if_pos h0]) (show In.plB i.keys (m : Int) own = own by unfold In.plB; rw [if_pos h0]))
        rw [h0] at x1
        clear h0
        go_wp2
        go_ret2
        exact ⟨ret_two (by rw [HA.out, if_pos (by rfl), HX.out.1]) (by rw [HB.out, if_pos (by rfl), HX.out.2]), HF.out⟩
      · have hne : i.keys ≠ [] := by intro e; rw [e] at h1; simp at h1
        have HP := Lib.hid (And.intro (show In.plA i.keys (m : Int) = In.tk i.keys m by unfold In.plA; rw [if_neg hne]; simp) (show In.plB i.keys (m : Int) own = In.vl i.keys m by unfold In.plB; rw [if_neg hne]; simp))
        obtain ⟨bk, off, hp, hc1, hc2⟩ := (HX.out.kept HB2.out).pts.1.at (i := m) (by omega)
        rw [hp] at x1
        have hmi : (m : Int) < (i.keys.length : Int) := by omega
        have hz : ((i.keys.length : Int) == 0) = false := by rw [h1]; rfl
        obtain ⟨x, hx⟩ : ∃ x, In.tk i.keys m = x := ⟨_, rfl⟩
        obtain ⟨y, hy⟩ : ∃ y, In.vl i.keys m = y := ⟨_, rfl⟩
        rw [hx] at hc1 HP
        rw [hy] at hc2 HP
        clear hx hy hne h1 hp
        go_upto_region 5 with fail
        go_quiet (fail)
        go_wp2
        go_ret2
        exact ⟨ret_two (by rw [HA.out, if_pos (by rfl), HP.out.1]) (by rw [HB.out, if_pos (by rfl), HP.out.2]), below_drewN' HF.out _⟩
end Go.Proofs.Ytcchfahdgmcpbaa

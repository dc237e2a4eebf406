/-
  The law package's copied and untouched.
-/
import Derived.Test.YtfjfnbeegojlbaaPSame
import Derived.Test.YtfjfnbeegojlbaaPUnA
import Derived.Deep.RegionHeld3
namespace Go.Proofs.Ytfjfnbeegojlbaa
open Go.RowKit

def last77 : Pt.Cl := ⟨0, 0, 0, 0, 0, 77⟩
set_option maxRecDepth 100000 in
set_option maxHeartbeats 1600000 in
theorem l_copied (r : Int) (l : List Pt.Cl) (p : Option Addr) (cap : Nat) (w : World) (hd : CellsAt w p l) (hl : l.length ≤ 2000) :
    Calls Try.prog 15 #[PV r p l.length cap] w fun x w' => (∃ g, x = .returned (PV r (some ⟨g, 0, none⟩) l.length (l.length + 1)) ∧ w.heap.size ≤ g ∧ Kr w' g (l ++ [last77])) ∧ Below w.heap.size w w' := by
  obtain ⟨i0, hinf, hz0, hz1, hz2⟩ := info_parts Try.infoCell
  obtain ⟨V, hV⟩ : ∃ V, V = w.alloc (.cells #[.int .i64 r, .slice p l.length cap] 24) := ⟨_, rfl⟩
  obtain ⟨W, hW⟩ : ∃ W, W = V.alloc (.cells #[.int .i64 0, .slice none 0 0] 24) := ⟨_, rfl⟩
  have v1 : Below w.heap.size w V := by rw [hV]; exact below_box _ _
  have v2 : Below V.heap.size V W := by rw [hW]; exact below_box _ _
  have s1 : V.heap.size = w.heap.size + 1 := by rw [hV]; simp
  have s2 : W.heap.size = w.heap.size + 2 := by rw [hW]; simp [s1]
  have hk : Pb W w.heap.size r (.slice p l.length cap) := (show Pb V _ _ _ by rw [hV]; exact pb_box _ _ _ _).kept v2
  have hq : Pb W (w.heap.size + 1) 0 (.slice none 0 0) := by rw [hW, ← s1]; exact pb_box _ _ _ _
  have HB := Lib.hid (stepB v1 v2)
  have HD := Lib.hid (hd.below (stepB v1 v2))
  obtain ⟨b, hb⟩ : ∃ b, b = w.heap.size := ⟨_, rfl⟩
  have HZ := Lib.hid (show W.heap.size = b + 2 ∧ w.heap.size = b by omega)
  rw [← hb] at hk hq s1
  obtain ⟨n, hn⟩ : ∃ n, l.length = n := ⟨_, rfl⟩
  have HN := Lib.hid hn
  rw [hn] at hk hV hl ⊢
  have HK := Lib.hid hk
  have HQ := Lib.hid hq
  have ⟨k0, k1, k2, k3⟩ := hk.cells
  have hl' : (n : Int) ≤ 2000 := by omega
  unfold PV
  clear hd v1 v2 s2 hk hq hn
  go_enter Try.func15, Try.ntmps15
  go_upto_region 1 with fail
  rw [← hV, ← hW, ← hb]
  clear hW hV hb s1
  go_upto_region 2 with (first | (at_make; go_loud (refine wpList_make_full _ rfl _ _ 22 rfl W.heap.size 28 i0 (.agg #[.int .i64 0, .int .i64 0, .int .i64 0, .int .i64 0, .int .i64 0, .int .i64 0]) 6 Try.underlying22 hinf hz0 hz1 .i64 .i64 _ _ (n + 1) rfl rfl (by simp) (by simp) (by rw [hz2]; omega) (by unfold maxLen; omega) (Nat.le_refl _) ?_; intro w3 hown3 hgrow3; have HR3 := Lib.hid (show w3.ownsRow W.heap.size 28 6 (.slice (some ⟨W.heap.size, 0, none⟩) (n + 1) (n + 1)) (n + 1) (cc (List.replicate (n + 1) Pt.zc)) by rw [← made_cells]; exact hown3); have HB3 := Lib.hid (grown_below hgrow3); clear hown3 hgrow3)))
  obtain ⟨g, hg⟩ : ∃ g, g = W.heap.size := ⟨_, rfl⟩
  rw [← hg] at HR3 ⊢
  have HG := Lib.hid (show g = b + 2 ∧ g = W.heap.size by have := HZ.out; omega)
  have HK3 := Lib.hid (show Kr w3 g (List.replicate (n + 1) Pt.zc) by
    obtain ⟨p', cap', e, h1, h2⟩ := rows_own HR3.out (by simp)
    rcases h2 with h2 | ⟨g', hp', -, hk⟩
    · simp at h2
    · rw [hp'] at e
      have : g = g' := by simpa [Value.ownBlock] using congrArg Value.ownBlock e
      rw [this]
      exact hk)
  have HD3 := Lib.hid (HD.out.below HB3.out)
  clear hg k0 k1 k2 k3
  obtain ⟨k0, k1⟩ := two_cells HK.out HB3.out
  have hcp := run_copy_cells w3 3 g 0 (n + 1) (n + 1) (some ⟨g, 0, none⟩) p n cap l (by rw [HN.out]; exact (Nat.min_eq_left (by omega)).symm) (fun h => ⟨rfl, by have := HK3.out.there (i := 0) (n := l.length) (by simp; have := HN.out; omega); simpa using this, by
    rcases HD3.out with e | ⟨b1, o1, e, -, hr⟩
    · subst e; simp at h
    · exact ⟨b1, o1, e, hr⟩⟩)
  rw [HN.out] at hcp
  obtain ⟨w4, e4⟩ : ∃ w4, w4 = w3.setCells g 0 (cc l) := ⟨_, rfl⟩
  rw [← e4] at hcp
  have HK4 := Lib.hid (show Kr w4 g (l ++ [Pt.zc]) by
    have h := HK3.out.lay (i := 0) (m := l) (by simp; have := HN.out; omega)
    rw [Nat.zero_mul, ← e4] at h
    have e : lay (List.replicate (n + 1) Pt.zc) 0 l = l ++ [Pt.zc] := by simp [lay, HN.out]
    rw [e] at h
    exact h)
  have HB4 := Lib.hid (show w3.grownBy w4 (some g) by rw [e4]; exact grown_setCells _ _ _ _)
  clear e4
  have HK2 := Lib.hid ((HK.out.kept HB3.out).grown HB4.out (by have := HG.out; omega))
  have HQ2 := Lib.hid ((HQ.out.kept HB3.out).grown HB4.out (by have := HG.out; omega))
  go_upto_region 3 with fail
  clear hcp k0 k1
  obtain ⟨k0, k1, -, -⟩ := HK2.out.cells
  have ht := HK4.out.th (i := n) (by simp; have := HN.out; omega)
  obtain ⟨x5, c5⟩ := Option.isSome_iff_exists.1 (ht 5 (by decide)).1
  have f5 := (ht 5 (by decide)).2
  have hnn : (n : Int) < ((n + 1 : Nat) : Int) := by omega
  have HK5 := Lib.hid (show Kr (w4.setCell ⟨g, n * 6 + 5, none⟩ (.int .i64 77)) g (l ++ [last77]) by
    have h := HK4.out.setField (i := n) (j := 5) (c := last77) (v := .int .i64 77) (by simp; have := HN.out; omega) (by decide) (by rw [Pt.at_app, if_neg (by have := HN.out; omega), show n - l.length = 0 by have := HN.out; omega]; rfl)
    have e : (l ++ [Pt.zc]).set n last77 = l ++ [last77] := by rw [← HN.out]; simp
    rw [e] at h
    exact h)
  clear ht
  go_upto_region 4 with fail
  obtain ⟨w5, hw5⟩ : ∃ w5, w5 = w4.setCell ⟨g, n * 6 + 5, none⟩ (.int .i64 77) := ⟨_, rfl⟩
  rw [← hw5] at HK5 ⊢
  have HG5 := Lib.hid (show w4.grownBy w5 (some g) by rw [hw5]; exact grown_set _ _ _ _)
  clear hw5 k0 k1 c5 f5
  have HQ5 := Lib.hid (HQ2.out.grown HG5.out (by have := HG.out; omega))
  obtain ⟨k0, k1, -, -⟩ := (HK2.out.grown HG5.out (show b ≠ g by have := HG.out; omega)).cells
  obtain ⟨y0, y1, y2, y3⟩ := HQ5.out.cells
  have hdb : ¬ b = b + 1 := by omega
  go_region
  obtain ⟨w7, hw7⟩ : ∃ w7, w7 = ((w5.setCell ⟨b + 1, 0, none⟩ (.int .i64 r)).setCell ⟨b + 1, 1, none⟩ (.slice (some ⟨g, 0, none⟩) n (n + 1))).drew := ⟨_, rfl⟩
  rw [← hw7]
  have G7 := Lib.hid (show w5.grownBy w7 (some (b + 1)) by
    have h := (grown_set w5 (b + 1) 0 (.int .i64 r)).trans (grown_set (w5.setCell ⟨b + 1, 0, none⟩ (.int .i64 r)) (b + 1) 1 (.slice (some ⟨g, 0, none⟩) n (n + 1)))
    rw [hw7]
    exact ⟨h.os, h.tape, h.output, h.size, h.block⟩)
  have H7 := Lib.hid (show Pb w7 (b + 1) r (.slice (some ⟨g, 0, none⟩) n (n + 1)) by
    rw [hw7]
    exact ⟨World.rangeAt_setCells_same w5 (b + 1) 0 [.int .i64 r, .slice (some ⟨g, 0, none⟩) n (n + 1)] HQ5.out.2, World.there_setCells HQ5.out.2 (b + 1) 0 [.int .i64 r, .slice (some ⟨g, 0, none⟩) n (n + 1)]⟩)
  clear hw7 k0 k1 y0 y1 y2 y3
  go_wp2
  have e1 := HG.out
  have e2 := HZ.out
  have e3 := HB.out.size
  have e4 := HB3.out.size
  have e5 := HB4.out.size
  have e6 := HG5.out.size
  exact bodyPost_ret (res_p rfl rfl H7.out.1) rfl ⟨⟨g, rfl, by omega, HK5.out.grown G7.out (by omega)⟩, grown_at (grown_at (grown_at (stepB HB.out HB3.out) (by omega) (by omega) HB4.out) (by omega) (by omega) HG5.out) (by omega) (by omega) G7.out⟩
set_option maxRecDepth 100000 in
set_option maxHeartbeats 1600000 in
theorem l_untouched (r : Int) (l : List Pt.Cl) (g : Nat) (q : Option Addr) (cap : Nat) (w : World) (hk : Kr w g (l ++ [last77])) (hq : CellsAt w q l) (hl : l.length ≤ 2000) :
    Calls Try.prog 18 #[PV r (some ⟨g, 0, none⟩) l.length (l.length + 1), PV r q l.length cap] w fun x w' => x = .returned (.bool true) ∧ Below w.heap.size w w' := by
  obtain ⟨V, hV⟩ : ∃ V, V = w.alloc (.cells #[.int .i64 r, .slice (some ⟨g, 0, none⟩) l.length (l.length + 1)] 24) := ⟨_, rfl⟩
  obtain ⟨W, hW⟩ : ∃ W, W = V.alloc (.cells #[.int .i64 r, .slice q l.length cap] 24) := ⟨_, rfl⟩
  have v1 : Below w.heap.size w V := by rw [hV]; exact below_box _ _
  have v2 : Below V.heap.size V W := by rw [hW]; exact below_box _ _
  have s1 : V.heap.size = w.heap.size + 1 := by rw [hV]; simp
  have hk1 : Pb W w.heap.size r (.slice (some ⟨g, 0, none⟩) l.length (l.length + 1)) := (show Pb V _ _ _ by rw [hV]; exact pb_box _ _ _ _).kept v2
  have hk2 : Pb W (w.heap.size + 1) r (.slice q l.length cap) := by rw [hW, ← s1]; exact pb_box _ _ _ _
  have HB := Lib.hid (stepB v1 v2)
  have hkw := hk.kept (stepB v1 v2)
  have hgl : CellsAt w (some ⟨g, 0, none⟩) l := by
    have hr := hk.2.1
    rw [cc_app] at hr
    exact .inr ⟨g, 0, rfl, hk.1, fun j v hv => hr j v (by rw [List.getElem?_append_left (List.getElem?_eq_some_iff.1 hv).1]; exact hv)⟩
  have C1 := Lib.hid (fun u (hu : Below W.heap.size W u) => p_Same r l (some ⟨g, 0, none⟩) q (l.length + 1) cap u (hgl.below (stepB (stepB v1 v2) hu)) (hq.below (stepB (stepB v1 v2) hu)) (by omega))
  have h77 : W.cell? ⟨g, l.length * 6 + 5, none⟩ = some (.int .i64 77) := by
    have := hkw.one (i := l.length) (by simp)
    rw [Pt.at_app, if_neg (by omega), show l.length - l.length = 0 by omega] at this
    exact this 5 _ rfl
  obtain ⟨b, hb⟩ : ∃ b, b = w.heap.size := ⟨_, rfl⟩
  rw [← hb] at hk1 hk2 s1
  obtain ⟨n, hn⟩ : ∃ n, l.length = n := ⟨_, rfl⟩
  rw [hn] at hk1 hk2 hV hW h77 hl C1 ⊢
  obtain ⟨m, hm⟩ : ∃ m, n + 1 = m := ⟨_, rfl⟩
  rw [hm] at hk1 hV C1 ⊢
  have hm1 : IntKind.i64.wrap ((n : Int) + 1) = (m : Int) := by rw [IntKind.wrap_i64]; omega
  have hm0 : (0 : Int) ≤ (m : Int) := by omega
  have hnm : (n : Int) < (m : Int) := by omega
  have HK := Lib.hid (show ∀ u, Below W.heap.size W u → Below W.heap.size W u ∧ u.cell? ⟨b, 0, none⟩ = some (.int .i64 r) ∧ u.cell? ⟨b, 1, none⟩ = some (.slice (some ⟨g, 0, none⟩) n m) ∧ u.cell? ⟨b + 1, 0, none⟩ = some (.int .i64 r) ∧ u.cell? ⟨b + 1, 1, none⟩ = some (.slice q n cap) ∧ u.cell? ⟨g, n * 6 + 5, none⟩ = some (.int .i64 77) from fun u hu =>
    ⟨hu, kept_cell hu hk1.cells.1, kept_cell hu hk1.cells.2.1, kept_cell hu hk2.cells.1, kept_cell hu hk2.cells.2.1, kept_cell hu h77⟩)
  have hl' : (n : Int) ≤ 2000 := by omega
  have hg0 := HK.out _ (Below.refl W.heap.size W).drew
  unfold PV at C1 ⊢
  clear hk hq v1 v2 hkw hgl h77 hk1 hk2 hn hm
  go_enter Try.func18, Try.ntmps18
  go_upto_region 1 with fail
  rw [← hV, ← hW, ← hb]
  clear hW hV hb s1
  go_region_held3 (fun u => Below W.heap.size W u ∧ u.cell? ⟨b, 0, none⟩ = some (.int .i64 r) ∧ u.cell? ⟨b, 1, none⟩ = some (.slice (some ⟨g, 0, none⟩) n m) ∧ u.cell? ⟨b + 1, 0, none⟩ = some (.int .i64 r) ∧ u.cell? ⟨b + 1, 1, none⟩ = some (.slice q n cap) ∧ u.cell? ⟨g, n * 6 + 5, none⟩ = some (.int .i64 77))
    (first | with_reducible exact hg0 | exact HK.out _ (stepB (Below.refl W.heap.size W).drew hB4))
    (first | (go_at_call 11; (with_reducible refine (C1.out _ ?_).mono ?_); exact (Below.refl W.heap.size W).drew; rintro x' w4 ⟨rfl, hB4⟩))
  go_wp2
  go_ret
  exact ⟨rfl, stepB HB.out (stepB (Below.refl W.heap.size W).drew hB4)⟩
end Go.Proofs.Ytfjfnbeegojlbaa

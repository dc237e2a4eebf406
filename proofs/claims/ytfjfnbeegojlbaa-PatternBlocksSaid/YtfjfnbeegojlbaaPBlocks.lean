/-
  The law PatternBlocks' walk.
-/
import Derived.Test.YtfjfnbeegojlbaaBlkN
import Derived.Test.YtfjfnbeegojlbaaPWork
import Derived.Test.YtfjfnbeegojlbaaPAwake
import Derived.Test.YtfjfnbeegojlbaaPSame
namespace Go.Proofs.Ytfjfnbeegojlbaa
open Go.RowKit

theorem onB' {P : Program} {f : FuncId} {args : Array Value} {W u : World} {R : Ending → World → Prop} (hb : Below W.heap.size W u) (h : Calls P f args u fun x u' => R x u' ∧ Below u.heap.size u u') : Calls P f args u fun x u' => R x u' ∧ Below W.heap.size W u' ∧ Below u.heap.size u u' :=
  h.mono fun _ _ h => ⟨h.1, stepB hb h.2, h.2⟩
theorem two_alloc (u : World) : Pb ((u.alloc (.cells #[.int .i64 0, .slice none 0 0] 24)).alloc (.cells #[.int .i64 0, .slice none 0 0] 24)) u.heap.size 0 (.slice none 0 0) ∧ Pb ((u.alloc (.cells #[.int .i64 0, .slice none 0 0] 24)).alloc (.cells #[.int .i64 0, .slice none 0 0] 24)) (u.heap.size + 1) 0 (.slice none 0 0) ∧ Below u.heap.size u ((u.alloc (.cells #[.int .i64 0, .slice none 0 0] 24)).alloc (.cells #[.int .i64 0, .slice none 0 0] 24)) := by
  refine ⟨(pb_box _ _ _ _).kept (below_box _ _), ?_, stepB (below_box _ _) (below_box _ _)⟩
  have := pb_box (u.alloc (.cells #[.int .i64 0, .slice none 0 0] 24)) 0 (.slice none 0 0) 24
  simpa using this
theorem one_at {w : World} {B D : Nat} {p : Option Addr} {l : List Pt.Cl} (h : l = [] ∨ ∃ g, p = some ⟨g, 0, none⟩ ∧ B ≤ g ∧ g < D ∧ Kr w g l) : CellsAt w p l := by
  rcases h with h | ⟨g, rfl, _, _, h⟩
  · exact .inl h
  · exact h.at
/-- Two patterns that were stored into new blocks. -/
theorem stT {V u v w : World} (hu : Below V.heap.size V u) (hg : ((u.alloc (.cells #[.int .i64 0, .slice none 0 0] 24)).alloc (.cells #[.int .i64 0, .slice none 0 0] 24)).grownBy v (some u.heap.size)) (hg2 : v.grownBy w (some (u.heap.size + 1))) : Below V.heap.size V w ∧ Below u.heap.size u w := by
  have h0 := (two_alloc u).2.2
  have h1 : Below u.heap.size u w := grown_at (grown_at h0 (Nat.le_refl _) h0.size hg) (by omega) (Nat.le_trans h0.size hg.size) hg2
  exact ⟨stepB hu h1, h1⟩
/-- A note that leaves, or does not: the law's tests. -/
theorem stay_ways (n s : Int) : (¬ 1 ≤ n ∧ Pt.pitched n = false) ∨ (1 ≤ n ∧ ¬ n ≤ 120 ∧ Pt.pitched n = false) ∨ ((1 ≤ n ∧ n ≤ 120) ∧ n + s < 1 ∧ Pt.pitched n = true ∧ Pt.pitched (n + s) = false) ∨ ((1 ≤ n ∧ n ≤ 120) ∧ ¬ n + s < 1 ∧ 120 < n + s ∧ Pt.pitched n = true ∧ Pt.pitched (n + s) = false) ∨ ((1 ≤ n ∧ n ≤ 120) ∧ ¬ n + s < 1 ∧ ¬ 120 < n + s ∧ Pt.pitched (n + s) = true) := by
  simp only [Pt.pitched, Pt.wth, decide_eq_true_eq, decide_eq_false_iff_not]
  omega
/-- What the law reads again behind each call. -/
theorem bkF {V : World} {b b3 : Nat} {x : Wk} {p : Option Addr} {cap : Nat} {p2 : Option Addr} {cap2 : Nat} {v : Value} (hx : V.rangeAt b 0 (WL x p cap p2 cap2)) (h3 : Pb V b3 x.r v) {u : World} (hu : Below V.heap.size V u) :
    u.cell? ⟨b, 6, none⟩ = some (.int .i64 x.row) ∧ u.cell? ⟨b, 10, none⟩ = some (.int .i64 x.a.r) ∧ u.cell? ⟨b, 11, none⟩ = some (.int .i64 x.a.c) ∧ u.cell? ⟨b, 12, none⟩ = some (.int .i64 x.a.h) ∧ u.cell? ⟨b, 13, none⟩ = some (.int .i64 x.a.w) ∧ u.cell? ⟨b, 14, none⟩ = some (.int .i64 x.s) ∧ u.cell? ⟨b3, 0, none⟩ = some (.int .i64 x.r) ∧ u.cell? ⟨b3, 1, none⟩ = some v :=
  ⟨kept_cell hu (hx 6 _ rfl), kept_cell hu (hx 10 _ rfl), kept_cell hu (hx 11 _ rfl), kept_cell hu (hx 12 _ rfl), kept_cell hu (hx 13 _ rfl), kept_cell hu (hx 14 _ rfl), kept_cell hu (h3.1 0 _ rfl), kept_cell hu (h3.1 1 _ rfl)⟩
theorem okI0 (v : Int) : Pt.okI 0 v = v := rfl
theorem okL0 (l : List Pt.Cl) : Pt.okL 0 l = l := rfl
theorem okIn {e : Int} (h : e ≠ 0) (v : Int) : Pt.okI e v = 0 := if_neg h
theorem okLn {e : Int} (h : e ≠ 0) (l : List Pt.Cl) : Pt.okL e l = [] := if_neg h
/-- A pattern that was stored into a new block. -/
theorem stN {V u w : World} (hu : Below V.heap.size V u) (hg : (u.alloc (.cells #[.int .i64 0, .slice none 0 0] 24)).grownBy w (some u.heap.size)) : Below V.heap.size V w ∧ Below u.heap.size u w :=
  ⟨grown_at (stepB hu (below_box _ _)) hu.size (Nat.le_trans hu.size (below_box _ _).size) hg, grown_at (below_box _ _) (Nat.le_refl _) (below_box _ _).size hg⟩
set_option maxRecDepth 100000 in
set_option maxHeartbeats 6400000 in
/-- A pattern that is not looked at. -/
theorem blocks_out (x : Wk) (p : Option Addr) (cap : Nat) (p2 : Option Addr) (cap2 : Nat) (w : World) (hd : CellsAt w p x.l) (hl : (x.l.length : Int) ≤ 9223372036854775807) (h : ¬ (x.l.length ≤ 2000 ∧ Pt.vpat x.r x.l x.ch = true)) :
    Calls Try.prog 3 #[.agg (WL x p cap p2 cap2).toArray] w fun e w' => e = .returned (.bool true) ∧ Below w.heap.size w w' := by
  obtain ⟨W, hW⟩ : ∃ W, W = w.alloc (.cells (WL x p cap p2 cap2).toArray 30) := ⟨_, rfl⟩
  have hB : Below w.heap.size w W := by rw [hW]; exact below_box _ _
  obtain ⟨b, hb⟩ : ∃ b, b = w.heap.size := ⟨_, rfl⟩
  have hx : W.rangeAt b 0 (WL x p cap p2 cap2) := by rw [hW, hb]; exact range_box _ _ _
  have HB := Lib.hid hB
  have HX := Lib.hid hx
  have CL1 := Lib.hid (fun (u : World) => p_light x.r p x.l.length cap u hl)
  have CV := Lib.hid (fun u (hu : Below w.heap.size w u) => p_Valid x.r x.l p cap x.ch u (hd.below hu))
  have CA := Lib.hid (fun u => p_awake u)
  have k0 : W.cell? ⟨b, 0, none⟩ = some (.int .i64 x.r) := hx 0 _ rfl
  have k1 : W.cell? ⟨b, 1, none⟩ = some (.slice p x.l.length cap) := hx 1 _ rfl
  have k4 : W.cell? ⟨b, 4, none⟩ = some (.int .i64 x.ch) := hx 4 _ rfl
  obtain ⟨n, hn⟩ : ∃ n, x.l.length = n := ⟨_, rfl⟩
  unfold PV at CL1 CV
  rw [hn] at CL1 CV k1 h
  cases hlt : decide (n ≤ 2000) with
  | false =>
    rw [hlt] at CL1
    clear hd h hB hx hl hlt
    have m0 := kept_cell (below_box W (.cells #[.int .i64 0, .slice none 0 0] 24)) k0
    have m1 := kept_cell (below_box W (.cells #[.int .i64 0, .slice none 0 0] 24)) k1
    have m4 := kept_cell (below_box W (.cells #[.int .i64 0, .slice none 0 0] 24)) k4
    have n0 := kept_cell (below_box W (.cells #[.int .i64 x.r, .slice p n cap] 24)) k0
    have n1 := kept_cell (below_box W (.cells #[.int .i64 x.r, .slice p n cap] 24)) k1
    have n4 := kept_cell (below_box W (.cells #[.int .i64 x.r, .slice p n cap] 24)) k4
    obtain ⟨V, hV⟩ : ∃ V, V = (W.alloc (.cells #[.int .i64 x.r, .slice p n cap] 24)).drew := ⟨_, rfl⟩
    obtain ⟨b3, hb3⟩ : ∃ b3, b3 = W.heap.size := ⟨_, rfl⟩
    have hBV : Below W.heap.size W V := by rw [hV]; exact (below_box _ _).drew
    have h3 : Pb V b3 x.r (.slice p n cap) := by rw [hV, hb3]; exact ⟨(pb_box W x.r (.slice p n cap) _).1, (pb_box W x.r (.slice p n cap) _).2⟩
    have HV := Lib.hid hBV
    have H3 := Lib.hid h3
    have HXV := Lib.hid (range_below HX.out hBV (by rw [← hb3] at hBV; exact cell_lt (HX.out 0 _ rfl)))
    have HB3 := Lib.hid (show b3 = W.heap.size ∧ b = w.heap.size ∧ W.heap.size = b + 1 from ⟨hb3, hb, by rw [hW, hb]; simp⟩)
    have HVE := Lib.hid hV
    have HBE := Lib.hid hb3
    clear hBV h3 hV hb3
    go_enter Try.func3, Try.ntmps3
    go_upto_region 1 with fail
    rw [← hW, ← hb]
    clear hW hb
    go_region
    rw [← HVE.out, ← HBE.out]
    clear HVE HBE m0 m1 m4 n0 n1 n4 k0 k1 k4
    have hc := two_cells' H3.out
    obtain ⟨c0, c1⟩ := hc
    go_wp2_with (first | (go_at_call 6; ((with_reducible refine (CL1.out _).mono ?_); rintro x' w1 ⟨rfl, hb1⟩; have HB1 := Lib.hid hb1; clear hb1)) | (go_at_call 8; ((with_reducible refine (CA.out _).mono ?_); rintro x' w2 ⟨rfl, hb2⟩)))
    go_ret
    exact ⟨rfl, stepB HB.out (stepB HV.out (stepB HB1.out hb2))⟩
  | true =>
    have hv : Pt.vpat x.r x.l x.ch = false := Bool.eq_false_iff.2 fun e => h ⟨of_decide_eq_true hlt, e⟩
    rw [hlt] at CL1
    rw [hv] at CV
    clear hd h hB hx hl hlt hv
    have m0 := kept_cell (below_box W (.cells #[.int .i64 0, .slice none 0 0] 24)) k0
    have m1 := kept_cell (below_box W (.cells #[.int .i64 0, .slice none 0 0] 24)) k1
    have m4 := kept_cell (below_box W (.cells #[.int .i64 0, .slice none 0 0] 24)) k4
    have n0 := kept_cell (below_box W (.cells #[.int .i64 x.r, .slice p n cap] 24)) k0
    have n1 := kept_cell (below_box W (.cells #[.int .i64 x.r, .slice p n cap] 24)) k1
    have n4 := kept_cell (below_box W (.cells #[.int .i64 x.r, .slice p n cap] 24)) k4
    obtain ⟨V, hV⟩ : ∃ V, V = (W.alloc (.cells #[.int .i64 x.r, .slice p n cap] 24)).drew := ⟨_, rfl⟩
    obtain ⟨b3, hb3⟩ : ∃ b3, b3 = W.heap.size := ⟨_, rfl⟩
    have hBV : Below W.heap.size W V := by rw [hV]; exact (below_box _ _).drew
    have h3 : Pb V b3 x.r (.slice p n cap) := by rw [hV, hb3]; exact ⟨(pb_box W x.r (.slice p n cap) _).1, (pb_box W x.r (.slice p n cap) _).2⟩
    have HV := Lib.hid hBV
    have H3 := Lib.hid h3
    have HXV := Lib.hid (range_below HX.out hBV (by rw [← hb3] at hBV; exact cell_lt (HX.out 0 _ rfl)))
    have HB3 := Lib.hid (show b3 = W.heap.size ∧ b = w.heap.size ∧ W.heap.size = b + 1 from ⟨hb3, hb, by rw [hW, hb]; simp⟩)
    have HVE := Lib.hid hV
    have HBE := Lib.hid hb3
    clear hBV h3 hV hb3
    go_enter Try.func3, Try.ntmps3
    go_upto_region 1 with fail
    rw [← hW, ← hb]
    clear hW hb
    go_region
    rw [← HVE.out, ← HBE.out]
    clear HVE HBE m0 m1 m4 n0 n1 n4 k0 k1 k4
    have hc := two_cells' H3.out
    obtain ⟨c0, c1⟩ := hc
    go_wp2_with (first | (go_at_call 6; ((with_reducible refine (CL1.out _).mono ?_); rintro x' w1 ⟨rfl, hb1⟩; have HB1 := Lib.hid hb1; clear hb1 c0 c1; obtain ⟨c0, c1⟩ := two_cells H3.out HB1.out)) | (go_at_call 7; ((with_reducible refine (CV.out _ (stepB HB.out (stepB HV.out HB1.out))).mono ?_); rintro x' w3 ⟨rfl, hb3'⟩; have HB3' := Lib.hid hb3'; clear hb3')) | (go_at_call 8; ((with_reducible refine (CA.out _).mono ?_); rintro x' w2 ⟨rfl, hb2⟩)))
    go_ret
    exact ⟨rfl, stepB HB.out (stepB HV.out (stepB HB1.out (stepB HB3'.out hb2)))⟩
end Go.Proofs.Ytfjfnbeegojlbaa

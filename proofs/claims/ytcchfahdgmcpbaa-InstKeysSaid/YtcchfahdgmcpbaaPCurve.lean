/-
  The contract of package inst's Curve.
-/
import Derived.Test.YtcchfahdgmcpbaaPIter
namespace Go.Proofs.Ytcchfahdgmcpbaa
open Go.RowKit

/-- The row's cells after k rounds, from the front. -/
def frow (f : Nat → Int) (n k : Nat) : List Value := (List.range n).map fun j => .int .i64 (if j < k then f j else 0)
theorem frow_zero (f : Nat → Int) (n : Nat) : frow f n 0 = List.replicate n (.int .i64 0) := by
  apply List.ext_getElem?
  intro i
  by_cases hi : i < n <;> simp [frow, hi]
theorem frow_set (f : Nat → Int) {n k : Nat} (hk : k < n) {v : Int} (hv : v = f k) : (frow f n k).set k (.int .i64 v) = frow f n (k + 1) := by
  apply List.ext_getElem?
  intro i
  rw [List.getElem?_set]
  by_cases e : k = i
  · subst e
    simp [frow, hk, hv]
  · rw [if_neg e]
    simp only [frow, List.getElem?_map]
    by_cases hi : i < n
    · simp only [List.getElem?_range hi, Option.map_some]
      congr 3
      exact propext ⟨fun _ => by omega, fun _ => by omega⟩
    · simp [hi]
theorem frow_at (f : Nat → Int) {n k : Nat} (hk : k < n) : (frow f n k)[k]? = some (.int .i64 0) := by simp [frow, hk]
theorem frow_full (f : Nat → Int) {n : Nat} {l : List Int} (hl : l.length = n) (h : ∀ i, i < n → l.getD i 0 = f i) : frow f n n = l.map (Value.int .i64) := by
  apply List.ext_getElem
  · simp [frow, hl]
  · intro i h1 h2
    have hi : i < n := by simpa [frow] using h1
    have := h i hi
    rw [List.getD_eq_getElem?_getD, List.getElem?_eq_getElem (by omega)] at this
    simp at this
    simp [frow, hi, this]
attribute [local go_sem] Oper.semAt_some
theorem Try.infoInt : (Try.prog.info? 3).map (fun i => (i.zero, i.size, i.bytes)) = some (some (.int .i64 0), 1, 8) := by kernel_rfl
/-- A call has returned these numbers, in memory of its own, or none. -/
def RetI (l : List Int) (B : Nat) (e : Ending) (w' : World) : Prop := ∃ v, e = .returned v ∧ w'.ownsRow B 3 1 v l.length (l.map (Value.int .i64))
theorem p_Curve_out (on : Bool) (pts : List (Int × Int)) (sus : Bool) (ss se : Int) (lp : Bool) (ls le : Int) (p : Option Addr) (cap : Nat) (n r : Int) (w : World) (h : In.wth n 0 4000 = false) :
    Calls Try.prog 16 #[EV (⟨on, pts, sus, ss, se, lp, ls, le⟩ : In.Env) p cap, .int .i64 n, .int .i64 r] w fun x w' => RetI (In.crv (⟨on, pts, sus, ss, se, lp, ls, le⟩ : In.Env) n r) w.heap.size x w' ∧ Below w.heap.size w w' := by
  have hn : ¬ (0 ≤ n ∧ n ≤ 4000) := of_decide_eq_false h
  have HE := Lib.hid (show In.crv (⟨on, pts, sus, ss, se, lp, ls, le⟩ : In.Env) n r = [] by unfold In.crv; rw [if_neg hn])
  have C := Lib.hid (fun w => p_within_v n 0 4000 w h)
  clear hn h
  unfold EV
  go_enter Try.func16, Try.ntmps16
  go_wp2_with (first | (go_at_call 40; ((with_reducible refine (C.out _).mono ?_); rintro x' w' ⟨rfl, rfl⟩)))
  go_ret
  exact ⟨by rw [HE.out]; exact ⟨_, rfl, rfl, .inl ⟨rfl, rfl⟩⟩, stepB (below_box _ _) (below_box _ _)⟩
theorem made_row (N : Nat) : (madeCells (Value.int .i64 0).cells (N * 1)).toList = (List.replicate N 0).map (Value.int .i64) := by
  rw [Nat.mul_one, List.map_replicate]
  exact toList_madeCells_one _ N
set_option maxHeartbeats 1600000 in
theorem p_Curve_dead (on : Bool) (pts : List (Int × Int)) (sus : Bool) (ss se : Int) (lp : Bool) (ls le : Int) (p : Option Addr) (cap : Nat) (N : Nat) (r : Int) (w : World) (hd : PtsAt w p pts) (hN : N ≤ 4000) (hv : In.lv (⟨on, pts, sus, ss, se, lp, ls, le⟩ : In.Env) = false) :
    Calls Try.prog 16 #[EV (⟨on, pts, sus, ss, se, lp, ls, le⟩ : In.Env) p cap, .int .i64 N, .int .i64 r] w fun x w' => RetI (In.crv (⟨on, pts, sus, ss, se, lp, ls, le⟩ : In.Env) N r) w.heap.size x w' ∧ Below w.heap.size w w' := by
  have HE := Lib.hid (show In.crv (⟨on, pts, sus, ss, se, lp, ls, le⟩ : In.Env) N r = List.replicate N 0 by
    unfold In.crv; rw [if_pos (by omega)]
    apply List.ext_getElem
    · simp
    · intro i h1 h2
      simp [In.valueOf, hv])
  have C := Lib.hid (fun w => p_within_v (N : Int) 0 4000 w (decide_eq_true (by omega)))
  have CP := Lib.hid (fun w hd => hv ▸ p_plays on pts sus ss se lp ls le p cap w hd)
  obtain ⟨i0, hinf, hz0, hz1, hz2⟩ := info_parts Try.infoInt
  obtain ⟨W, hW⟩ : ∃ W, W = (w.alloc (.cells #[.bool on, .slice p pts.length cap, .bool sus, .int .i64 ss, .int .i64 se, .bool lp, .int .i64 ls, .int .i64 le] 24)).alloc (.cells #[.int .i64 (N : Int)] 3) := ⟨_, rfl⟩
  have hWb : Below w.heap.size w W := by rw [hW]; exact stepB (below_box _ _) (below_box _ _)
  obtain ⟨b, hbe⟩ : ∃ b, b = w.heap.size := ⟨_, rfl⟩
  have HEB := Lib.hid (show EB W b (⟨on, pts, sus, ss, se, lp, ls, le⟩ : In.Env) p cap by rw [hW, hbe]; exact (eb_new w (⟨on, pts, sus, ss, se, lp, ls, le⟩ : In.Env) p cap _).kept (below_box _ _))
  have hn1 : W.cell? ⟨b + 1, 0, none⟩ = some (.int .i64 (N : Int)) := by rw [hW, hbe]; simp
  obtain ⟨B, hBe⟩ : ∃ B, B = w.heap.size := ⟨_, rfl⟩
  have hBW : B ≤ W.heap.size := by rw [hBe]; exact hWb.size
  have HWb := Lib.hid hWb
  have HD := Lib.hid (fun u (hu : Below w.heap.size w u) => hd.below hu)
  have HBE := Lib.hid hBe
  clear hWb hv hd hBe
  unfold EV at CP ⊢
  go_enter Try.func16, Try.ntmps16
  go_upto_region 1 with fail
  rw [← hW, ← hbe]
  clear hW hbe
  go_wp2_with (first | (go_at_call 40; ((with_reducible refine (C.out _).mono ?_); rintro x' w' ⟨rfl, rfl⟩)) | (at_make; refine wpList_make_full _ rfl _ _ 33 rfl B 3 i0 (.int .i64 0) 1 Try.underlying33 hinf hz0 hz1 .i64 .i64 _ _ N rfl rfl rfl rfl (by rw [hz2]; omega) (by unfold maxLen; omega) hBW ?_; intro w3 hown3 hgrow3; have HOWN := Lib.hid hown3; have HB3 := Lib.hid (grown_below hgrow3); clear hown3 hgrow3; have HB3W := Lib.hid (stepB HWb.out HB3.out); obtain ⟨x0, x1, x2, x3, x4, x5, x6, x7⟩ := HEB.out.kept HB3.out; have hb3 := EB.lt (HEB.out.kept HB3.out)) | (go_at_call 31; ((with_reducible refine (CP.out _ (HD.out _ (stepB HB3W.out (below_box _ _)))).mono ?_); rintro x' w4 ⟨rfl, hb4⟩; have hc4 := kept_cell hb4 (cell_new1 w3 _ _); have HR4 := Lib.hid (row_stays (row_stays HOWN.out (below_box w3 _)) hb4); have HB4 := Lib.hid (stepB (stepB HB3W.out (below_box w3 _)) hb4); clear hb4)))
  go_ret
  refine ⟨⟨_, rfl, ?_⟩, HB4.out⟩
  rw [HE.out, List.length_replicate, ← HBE.out, ← made_row]
  exact HR4.out
/-- The curve's rounds: what lay when they began lies as it lay but for the curve's own row, of which k values are filled. -/
structure Rn (w5 : World) (g B N : Nat) (f : Nat → Int) (k : Nat) (W : World) : Prop where
  le : k ≤ N
  grw : w5.grownBy W (some g)
  row : W.ownsRow B 3 1 (.slice (some ⟨g, 0, none⟩) N N) N (frow f N k)
theorem Rn.from {w5 : World} {g B N : Nat} {f : Nat → Int} (hg : g < w5.heap.size) : OwnFrom w5.heap.size (Rn w5 g B N f) := by
  intro k W W' row h hgr hr
  refine ⟨h.le, ⟨hgr.os.trans h.grw.os, hgr.tape.trans h.grw.tape, hgr.output.trans h.grw.output, Nat.le_trans h.grw.size hgr.size, fun i hi hne => ?_⟩, h.row.kept hgr (.inr ?_)⟩
  · refine (hgr.block i (Nat.lt_of_lt_of_le hi h.grw.size) (fun e => ?_)).trans (h.grw.block i hi hne)
    have := (hr i e.symm).1
    omega
  · intro e
    have := (hr g (by simpa [Value.ownBlock] using e.symm)).1
    omega
theorem wb_far {w W : World} {g b : Nat} {th : Bool} {x y l : Int} (hg : w.grownBy W (some g)) (h : Wb w b th x y l) (hn : b ≠ g) : Wb W b th x y l := by
  have hl := h.lt
  have e : W.heap[b]? = w.heap[b]? := hg.block b hl (by simpa using hn)
  obtain ⟨⟨h0, h1, h2, h3⟩, f0, f1, f2, f3⟩ := h
  have ec : ∀ j, W.cell? ⟨b, j, none⟩ = w.cell? ⟨b, j, none⟩ := fun j => World.cell?_of_block (a := ⟨b, j, none⟩) e
  have ef : ∀ j, W.frozen? ⟨b, j, none⟩ = w.frozen? ⟨b, j, none⟩ := fun j => World.frozen?_of_block (a := ⟨b, j, none⟩) e
  exact ⟨⟨(ec 0).trans h0, (ec 1).trans h1, (ec 2).trans h2, (ec 3).trans h3⟩, (ef 0).trans f0, (ef 1).trans f1, (ef 2).trans f2, (ef 3).trans f3⟩
theorem Rn.cell {w5 W : World} {g B N k : Nat} {f : Nat → Int} (h : Rn w5 g B N f k W) {a : Addr} {v : Value} (hc : w5.cell? a = some v) (hn : a.block ≠ g) : W.cell? a = some v := h.grw.cell hc (by simpa using hn)
theorem Rn.below {w w5 W : World} {g B N k : Nat} {f : Nat → Int} (h : Rn w5 g B N f k W) (hb : Below w.heap.size w w5) (hg : w.heap.size ≤ g) : Below w.heap.size w W :=
  hb.trans ⟨h.grw.os, h.grw.tape, h.grw.output, h.grw.size, fun i hi => h.grw.block i (Nat.lt_of_lt_of_le hi hb.size) (by simp; omega)⟩
theorem Rn.next {w5 W W' : World} {g B N k : Nat} {f : Nat → Int} (h : Rn w5 g B N f k W) (hk : k < N) (hb : Below W.heap.size W W') {v : Int} (hv : v = f k) : Rn w5 g B N f (k + 1) (W'.setCell ⟨g, k, none⟩ (.int .i64 v)) := by
  have hr := row_stays h.row hb
  obtain ⟨h1, h2⟩ := hr.stored k (.int .i64 v)
  rw [frow_set f hk hv] at h1
  refine ⟨by omega, ⟨h2.os.trans (hb.os.trans h.grw.os), h2.tape.trans (hb.tape.trans h.grw.tape), h2.output.trans (hb.output.trans h.grw.output), Nat.le_trans h.grw.size (Nat.le_trans hb.size h2.size), fun i hi hne => ?_⟩, h1⟩
  exact (h2.block i (Nat.lt_of_lt_of_le hi (Nat.le_trans h.grw.size hb.size)) hne).trans ((hb.block i (Nat.lt_of_lt_of_le hi h.grw.size)).trans (h.grw.block i hi hne))
theorem Rn.drew {w5 W : World} {g B N k : Nat} {f : Nat → Int} (h : Rn w5 g B N f k W) : Rn w5 g B N f k W.drew := ⟨h.le, ⟨h.grw.os, h.grw.tape, h.grw.output, h.grw.size, h.grw.block⟩, h.row⟩
set_option maxRecDepth 100000 in
set_option maxHeartbeats 3200000 in
theorem p_Curve_live (on : Bool) (pts : List (Int × Int)) (sus : Bool) (ss se : Int) (lp : Bool) (ls le : Int) (p : Option Addr) (cap : Nat) (N : Nat) (r : Int) (w : World) (hd : PtsAt w p pts) (hcap : pts.length ≤ cap) (hN : N ≤ 4000) (hv : In.lv (⟨on, pts, sus, ss, se, lp, ls, le⟩ : In.Env) = true) :
    Calls Try.prog 16 #[EV (⟨on, pts, sus, ss, se, lp, ls, le⟩ : In.Env) p cap, .int .i64 N, .int .i64 r] w fun x w' => RetI (In.crv (⟨on, pts, sus, ss, se, lp, ls, le⟩ : In.Env) N r) w.heap.size x w' ∧ Below w.heap.size w w' := by
  have ha := In.lv_asc hv
  have h16 := In.lv_len hv
  have HL := Lib.hid (show (In.crv (⟨on, pts, sus, ss, se, lp, ls, le⟩ : In.Env) N r).length = N by rw [In.crv_length (by omega)]; omega)
  have HAT := Lib.hid (show ∀ i, i < N → (In.crv (⟨on, pts, sus, ss, se, lp, ls, le⟩ : In.Env) N r).getD i 0 = In.val pts (In.tks (⟨on, pts, sus, ss, se, lp, ls, le⟩ : In.Env) r i) by
    intro i hi
    rw [In.crv_at (by omega) (by omega)]
    unfold In.valueOf
    rw [if_pos hv])
  have C := Lib.hid (fun w => p_within_v (N : Int) 0 4000 w (decide_eq_true (by omega)))
  have CP := Lib.hid (fun w hd => hv ▸ p_plays on pts sus ss se lp ls le p cap w hd)
  have CT := Lib.hid (fun w hd => p_ticks on pts sus ss se lp ls le p cap r w hd hv)
  have CV := Lib.hid (fun t w hd => p_valueAt pts p cap t w hd hcap ha h16)
  have HV := Lib.hid hv
  obtain ⟨i0, hinf, hz0, hz1, hz2⟩ := info_parts Try.infoInt
  obtain ⟨W, hW⟩ : ∃ W, W = (w.alloc (.cells #[.bool on, .slice p pts.length cap, .bool sus, .int .i64 ss, .int .i64 se, .bool lp, .int .i64 ls, .int .i64 le] 24)).alloc (.cells #[.int .i64 (N : Int)] 3) := ⟨_, rfl⟩
  have hWb : Below w.heap.size w W := by rw [hW]; exact stepB (below_box _ _) (below_box _ _)
  obtain ⟨b, hbe⟩ : ∃ b, b = w.heap.size := ⟨_, rfl⟩
  have HEB := Lib.hid (show EB W b (⟨on, pts, sus, ss, se, lp, ls, le⟩ : In.Env) p cap by rw [hW, hbe]; exact (eb_new w (⟨on, pts, sus, ss, se, lp, ls, le⟩ : In.Env) p cap _).kept (below_box _ _))
  have hn1 : W.cell? ⟨b + 1, 0, none⟩ = some (.int .i64 (N : Int)) := by rw [hW, hbe]; simp
  have HN1 := Lib.hid hn1
  obtain ⟨B, hBe⟩ : ∃ B, B = w.heap.size := ⟨_, rfl⟩
  have hBW : B ≤ W.heap.size := by rw [hBe]; exact hWb.size
  have HWb := Lib.hid hWb
  have HD := Lib.hid (fun u (hu : Below w.heap.size w u) => hd.below hu)
  have HBE := Lib.hid hBe
  have hwb : w.heap.size ≤ b := Nat.le_of_eq hbe.symm
  clear hWb hv hd hBe ha h16 hcap
  unfold EV at CP CT ⊢
  refine (callsIn_wide (n := 9)).1 ?_
  refine callsIn_of_wp_marks Try.func16 rfl trivial ?_ rfl
  refine wpIn_wide.2 ?_
  simp only [Try.ntmps16, List.size_toArray, List.length_cons, List.length_nil, Nat.reduceAdd, Nat.reduceSub, Array.replicate_succ, Array.replicate_zero, List.push_toArray, List.append_toArray, List.nil_append, List.cons_append]
  go_upto_region 1 with fail
  rw [← hW, ← hbe]
  clear hW hbe
  go_wp2_with (first | (go_at_call 40; ((with_reducible refine (C.out _).mono ?_); rintro x' w' ⟨rfl, rfl⟩)) | (at_make; refine wpList_make_full _ rfl _ _ 33 rfl B 3 i0 (.int .i64 0) 1 Try.underlying33 hinf hz0 hz1 .i64 .i64 _ _ N rfl rfl rfl rfl (by rw [hz2]; omega) (by unfold maxLen; omega) hBW ?_; intro w3 hown3 hgrow3; have HOWN := Lib.hid hown3; have HB3 := Lib.hid (grown_below hgrow3); clear hown3 hgrow3; have HB3W := Lib.hid (stepB HWb.out HB3.out); obtain ⟨x0, x1, x2, x3, x4, x5, x6, x7⟩ := HEB.out.kept HB3.out; have hb3 := EB.lt (HEB.out.kept HB3.out)) | (go_at_call 31; ((with_reducible refine (CP.out _ (HD.out _ (stepB HB3W.out (below_box _ _)))).mono ?_); rintro x' w4 ⟨rfl, hb4⟩; have HC4 := Lib.hid (kept_cell hb4 (cell_new1 w3 _ _)); have HR4 := Lib.hid (row_stays (row_stays HOWN.out (below_box w3 _)) hb4); have HB4 := Lib.hid (stepB (stepB HB3W.out (below_box w3 _)) hb4); have HE4 := Lib.hid (((HEB.out.kept HB3.out).kept (below_box w3 _)).kept hb4); have HN4 := Lib.hid (kept_cell hb4 (kept_cell (below_box w3 _) (kept_cell HB3.out HN1.out))); obtain ⟨x0, x1, x2, x3, x4, x5, x6, x7⟩ := HE4.out; clear hb4)) | (go_at_call 41; ((with_reducible refine (CT.out _ (HD.out _ HB4.out)).mono ?_); rintro x' w5 ⟨⟨rb, hb, fb, rfl, hge, hrel, hheld, hfree⟩, hb5⟩)))
  obtain ⟨hge1, hge2, hge3⟩ := hge
  obtain ⟨g, hgE⟩ : ∃ g, g = W.heap.size := ⟨_, rfl⟩
  obtain ⟨s, hsE⟩ : ∃ s, s = w3.heap.size := ⟨_, rfl⟩
  have l1 : b < g := by rw [hgE]; exact HEB.out.lt
  have l2 : b + 1 < g := by rw [hgE]; exact cell_lt HN1.out
  have l3 : g < s := by rw [hgE, hsE]; exact (World.ownsRow.lt HOWN.out _ rfl).2
  have l4 : s < w4.heap.size := by rw [hsE]; exact cell_lt HC4.out
  have l5 := hb5.size
  rw [← hgE] at HC4 HR4 HOWN ⊢
  rw [← hsE] at HC4 ⊢
  have HB5 := Lib.hid (stepB HB4.out hb5)
  have HR5 := Lib.hid (row_stays HR4.out hb5)
  have hc5 := kept_cell hb5 HC4.out
  have hn5 := kept_cell hb5 HN4.out
  have hx5 := kept_cell hb5 HE4.out.2.1
  have hCap : Cap (⟨on, pts, sus, ss, se, lp, ls, le⟩ : In.Env) r rb hb fb w5 := ⟨hrel, hheld, hfree⟩
  have HCP := Lib.hid hCap
  have HX := Lib.hid (And.intro hc5 (And.intro hn5 hx5))
  have HGS := Lib.hid (show g < w5.heap.size by omega)
  have hgw : w.heap.size ≤ g := by omega
  clear hrel hheld hfree hb5 hCap hc5 hn5 hx5 hgE hsE C CP CT HOWN HR4 HC4 HN4 HE4 HB4 HB3W HB3 HEB HN1 x0 x1 x2 x3 x4 x5 x6 x7
  refine wp_range_break (gf := 55) (lb := #[.pointer (some ⟨rb, 0, none⟩), .pointer (some ⟨hb, 0, none⟩), .pointer (some ⟨fb, 0, none⟩)]) rfl (enters_of Try.func55 (by kernel_rfl) rfl) (encT (⟨on, pts, sus, ss, se, lp, ls, le⟩ : In.Env) r) (fun _ => rfl)
    (Rn w5 g B N fun i => In.val pts (In.tks (⟨on, pts, sus, ss, se, lp, ls, le⟩ : In.Env) r i)) (Rn w5 g B N (fun i => In.val pts (In.tks (⟨on, pts, sus, ss, se, lp, ls, le⟩ : In.Env) r i)) N) 0
    (p_iter (⟨on, pts, sus, ss, se, lp, ls, le⟩ : In.Env) r rb hb fb N hN HV.out _ fun k W' h => ⟨h.le, ⟨h.cell HCP.out.rel (by simp; omega), ?held, ?free⟩⟩)
    (Rn.from HGS.out) (fun _ W1 W2 row h hg hr => Rn.from HGS.out N W1 W2 row h hg hr) ⟨Nat.zero_le _, World.grownBy.refl _ _, ?start⟩
    (fun k => { tmps := #[.agg #[.bool on, .slice p pts.length cap, .bool sus, .int .i64 ss, .int .i64 se, .bool lp, .int .i64 ls, .int .i64 le], .int .i64 N, .int .i64 r, .pointer (some ⟨b, 0, none⟩), .pointer (some ⟨b + 1, 0, none⟩), undef, .slice none 0 0, .pointer (some ⟨s, 0, none⟩), .int .i64 k, .int .i64 (In.tks (⟨on, pts, sus, ss, se, lp, ls, le⟩ : In.Env) r k), .int .i64 N, .bool true, .bool false, .int .i64 N, .slice (some ⟨g, 0, none⟩) N N, .agg #[.bool on, .slice p pts.length cap, .bool sus, .int .i64 ss, .int .i64 se, .bool lp, .int .i64 ls, .int .i64 le], .bool true, .bool false, undef, .agg #[.bool on, .slice p pts.length cap, .bool sus, .int .i64 ss, .int .i64 se, .bool lp, .int .i64 ls, .int .i64 le], .int .i64 r, .func (.func 55) #[] #[.pointer (some ⟨rb, 0, none⟩), .pointer (some ⟨hb, 0, none⟩), .pointer (some ⟨fb, 0, none⟩)], .int .i64 k, .int .i64 (In.tks (⟨on, pts, sus, ss, se, lp, ls, le⟩ : In.Env) r k), undef, undef, undef, undef, undef, undef, undef, undef, undef, undef, undef], defers := [] }) ?assign ?body ?stop
  case held =>
    have h0 := HCP.out.held
    have hl := h0.lt
    refine wb_far h.grw h0 (by omega)
  case free =>
    have h0 := HCP.out.free
    refine wb_far h.grw h0 (by omega)
  case start =>
    rw [frow_zero, ← List.map_replicate, ← made_row]
    exact HR5.out
  case assign =>
    intro l k W' K hK
    unfold encT
    gi_wp2
    exact hK
  case body =>
    rintro l k W' hr
    have hc := hr.cell HX.out.1 (by simp; omega)
    have hn := hr.cell HX.out.2.1 (by simp; omega)
    have hx := hr.cell HX.out.2.2 (by simp; omega)
    have hk := hr.le
    have HR := Lib.hid hr
    by_cases hkN : k = N
    · subst hkN
      gi_wp2
      exact ⟨rfl, KeepsOthers.refl _, HR.out⟩
    · have hlt : k < N := by omega
      have hlt1 : k < N * 1 := by omega
      have hne : ((k : Int) == (N : Int)) = false := by simp; omega
      have HDr := Lib.hid (HD.out W' (hr.below HB5.out hgw))
      have hmx : Try.prog.follows .mixedOrders = true := by kernel_rfl
      have CVt := Lib.hid (CV.out (In.tks (⟨on, pts, sus, ss, se, lp, ls, le⟩ : In.Env) r k))
      obtain ⟨v, hvv⟩ : ∃ v, In.val pts (In.tks (⟨on, pts, sus, ss, se, lp, ls, le⟩ : In.Env) r k) = v := ⟨_, rfl⟩
      rw [hvv] at CVt
      have HVV := Lib.hid hvv
      obtain ⟨t, ht⟩ : ∃ t, In.tks (⟨on, pts, sus, ss, se, lp, ls, le⟩ : In.Env) r k = t := ⟨_, rfl⟩
      rw [ht] at CVt
      rw [ht]
      clear hr hvv ht CV HV HL HAT HCP
      gi_wp2
      gi_region_with_o (refine ⟨trivial, ?_⟩; gi_at_call 32; refine (CallsIn.inRound l (callsIn_wide.2 (CVt.out _ (HDr.out.below (Below.refl _ _).drew)))).mono ?_; rintro x' w6 ⟨rfl, hb6⟩; have hb7 := Lib.hid ((Below.refl W'.heap.size W').drew.trans hb6); have hc6 := kept_cell hb7.out hc; have hr6 := Lib.hid (row_stays HR.out.row hb7.out); have ha6 := (hr6.out.cellAt k hlt1).trans (frow_at _ hlt); have hf6 := hr6.out.frozenAt k)
      all_goals gi_wp2
      all_goals exact ⟨(KeepsOthers.of_grownBy (grown_of_below hb7.out) (fun j o e => by cases e)).trans (KeepsOthers.setCell _ _ _), HR.out.next hlt hb7.out HVV.out.symm⟩
  case stop =>
    rintro D W' hD hr hK
    have hc := hr.cell HX.out.1 (by simp; omega)
    have HE := Lib.hid (frow_full (fun i => In.val pts (In.tks (⟨on, pts, sus, ss, se, lp, ls, le⟩ : In.Env) r i)) HL.out HAT.out)
    go_wp2
    refine ⟨by simp, .inl ⟨_, _, rfl, run_takeDeferred hK, ?_⟩⟩
    refine ⟨_, results_tmp rfl _ _ _, ⟨_, rfl, ?_⟩, ?_⟩
    · rw [HL.out, ← HE.out, ← HBE.out]
      exact ownsRow_putObj hr.row _ hK rfl
    · exact (hr.below HB5.out hgw).trans (belowK_b (w := w) (Nat.le_refl _) W' D _ _ (Nat.le_trans HB5.out.size hD) hK rfl rfl)
end Go.Proofs.Ytcchfahdgmcpbaa

/-
  The contracts of package inst's circleOf and walkerOf.
-/
import Derived.Test.YtcchfahdgmcpbaaPCirc
import Derived.Deep.RegionHeld3
namespace Go.Proofs.Ytcchfahdgmcpbaa
open Go.RowKit

theorem p_circleOf (on : Bool) (pts : List (Int × Int)) (sus : Bool) (ss se : Int) (lp : Bool) (ls le : Int) (p : Option Addr) (cap : Nat) (h : Bool) (w : World) (hd : PtsAt w p pts) (hv : In.lv (⟨on, pts, sus, ss, se, lp, ls, le⟩ : In.Env) = true) :
    Calls Try.prog 54 #[EV (⟨on, pts, sus, ss, se, lp, ls, le⟩ : In.Env) p cap, .bool h] w fun x w' => x = .returned (.agg #[.bool (In.cT (⟨on, pts, sus, ss, se, lp, ls, le⟩ : In.Env) h), .int .i64 (In.cF (⟨on, pts, sus, ss, se, lp, ls, le⟩ : In.Env) h), .int .i64 (In.cE (⟨on, pts, sus, ss, se, lp, ls, le⟩ : In.Env) h)]) ∧ Below w.heap.size w w' := by
  have hv2 := hv
  simp only [In.lv, Bool.and_eq_true] at hv2
  obtain ⟨_, _, _, h4, h5⟩ := In.vld_parts hv2.2
  cases hs : (h && sus)
  · cases hl : lp
    · have e1 : In.cT (⟨on, pts, sus, ss, se, false, ls, le⟩ : In.Env) h = false := by simp [In.cT, hs]
      have e2 : In.cF (⟨on, pts, sus, ss, se, false, ls, le⟩ : In.Env) h = 0 := by simp [In.cF, hs]
      have e3 : In.cE (⟨on, pts, sus, ss, se, false, ls, le⟩ : In.Env) h = 0 := by simp [In.cE, hs]
      rw [e1, e2, e3]
      exact p_co_none on pts sus ss se false ls le p cap h w hd hs rfl
    · rw [hl] at h5
      simp only [In.cok, if_true, decide_eq_true_eq] at h5
      have e1 : In.cT (⟨on, pts, sus, ss, se, true, ls, le⟩ : In.Env) h = true := by simp [In.cT]
      have e2 : In.cF (⟨on, pts, sus, ss, se, true, ls, le⟩ : In.Env) h = In.tk pts ls.toNat := by simp [In.cF, hs]
      have e3 : In.cE (⟨on, pts, sus, ss, se, true, ls, le⟩ : In.Env) h = In.tk pts le.toNat := by simp [In.cE, hs]
      rw [e1, e2, e3]
      exact p_co_lp on pts sus ss se true ls le p cap h w hd hs rfl ls.toNat le.toNat (by omega) (by omega) (by omega) (by omega)
  · obtain ⟨rfl, rfl⟩ : h = true ∧ sus = true := by revert hs; cases h <;> simp
    simp only [In.cok, if_true, decide_eq_true_eq] at h4
    have e1 : In.cT (⟨on, pts, true, ss, se, lp, ls, le⟩ : In.Env) true = true := by simp [In.cT]
    have e2 : In.cF (⟨on, pts, true, ss, se, lp, ls, le⟩ : In.Env) true = In.tk pts ss.toNat := by simp [In.cF]
    have e3 : In.cE (⟨on, pts, true, ss, se, lp, ls, le⟩ : In.Env) true = In.tk pts se.toNat := by simp [In.cE]
    rw [e1, e2, e3]
    exact p_co_sus on pts true ss se lp ls le p cap true w hd rfl ss.toNat se.toNat (by omega) (by omega) (by omega) (by omega)
/-- A walker's block, which may be written. -/
def Wb (w : World) (b : Nat) (th : Bool) (x y l : Int) : Prop := (w.cell? ⟨b, 0, none⟩ = some (.bool th) ∧ w.cell? ⟨b, 1, none⟩ = some (.int .i64 x) ∧ w.cell? ⟨b, 2, none⟩ = some (.int .i64 y) ∧ w.cell? ⟨b, 3, none⟩ = some (.int .i64 l)) ∧ w.frozen? ⟨b, 0, none⟩ = false ∧ w.frozen? ⟨b, 1, none⟩ = false ∧ w.frozen? ⟨b, 2, none⟩ = false ∧ w.frozen? ⟨b, 3, none⟩ = false
theorem wb_new (w : World) (th : Bool) (x y l : Int) (t : TypeId) : Wb (w.alloc (.cells #[.bool th, .int .i64 x, .int .i64 y, .int .i64 l] t)) w.heap.size th x y l := by
  refine ⟨⟨?_, ?_, ?_, ?_⟩, World.frozen?_alloc_at _ _ _ _ rfl, World.frozen?_alloc_at _ _ _ _ rfl, World.frozen?_alloc_at _ _ _ _ rfl, World.frozen?_alloc_at _ _ _ _ rfl⟩ <;> simp [World.cell?_alloc_new]
theorem Wb.c0 {w : World} {b : Nat} {th : Bool} {x y l : Int} (h : Wb w b th x y l) : w.cell? ⟨b, 0, none⟩ = some (.bool th) := h.1.1
theorem Wb.c1 {w : World} {b : Nat} {th : Bool} {x y l : Int} (h : Wb w b th x y l) : w.cell? ⟨b, 1, none⟩ = some (.int .i64 x) := h.1.2.1
theorem Wb.c2 {w : World} {b : Nat} {th : Bool} {x y l : Int} (h : Wb w b th x y l) : w.cell? ⟨b, 2, none⟩ = some (.int .i64 y) := h.1.2.2.1
theorem Wb.c3 {w : World} {b : Nat} {th : Bool} {x y l : Int} (h : Wb w b th x y l) : w.cell? ⟨b, 3, none⟩ = some (.int .i64 l) := h.1.2.2.2
theorem Wb.f0 {w : World} {b : Nat} {th : Bool} {x y l : Int} (h : Wb w b th x y l) : w.frozen? ⟨b, 0, none⟩ = false := h.2.1
theorem Wb.f1 {w : World} {b : Nat} {th : Bool} {x y l : Int} (h : Wb w b th x y l) : w.frozen? ⟨b, 1, none⟩ = false := h.2.2.1
theorem Wb.f2 {w : World} {b : Nat} {th : Bool} {x y l : Int} (h : Wb w b th x y l) : w.frozen? ⟨b, 2, none⟩ = false := h.2.2.2.1
theorem Wb.f3 {w : World} {b : Nat} {th : Bool} {x y l : Int} (h : Wb w b th x y l) : w.frozen? ⟨b, 3, none⟩ = false := h.2.2.2.2
theorem Wb.lt {w : World} {b : Nat} {th : Bool} {x y l : Int} (h : Wb w b th x y l) : b < w.heap.size := cell_lt h.1.1
theorem Wb.kept {w w' : World} {b : Nat} {th : Bool} {x y l : Int} (h : Wb w b th x y l) (hb : Below w.heap.size w w') : Wb w' b th x y l := by
  have hl := h.lt
  obtain ⟨⟨h0, h1, h2, h3⟩, f0, f1, f2, f3⟩ := h
  refine ⟨⟨kept_cell hb h0, kept_cell hb h1, kept_cell hb h2, kept_cell hb h3⟩, ?_, ?_, ?_, ?_⟩
  · rw [hb.frozen (p := ⟨b, 0, none⟩) hl]; exact f0
  · rw [hb.frozen (p := ⟨b, 1, none⟩) hl]; exact f1
  · rw [hb.frozen (p := ⟨b, 2, none⟩) hl]; exact f2
  · rw [hb.frozen (p := ⟨b, 3, none⟩) hl]; exact f3
/-- What walkerOf's region reads: an envelope's cells and the last point's tick. -/
def Wr (w : World) (b : Nat) (e : In.Env) (q : Addr) (p : Option Addr) (cap : Nat) (l : Int) : Prop := EB w b e p cap ∧ w.cell? q = some (.int .i64 l)
theorem Wr.kept {w w' : World} {b : Nat} {e : In.Env} {q : Addr} {p : Option Addr} {cap : Nat} {l : Int} (h : Wr w b e q p cap l) (hb : Below w.heap.size w w') : Wr w' b e q p cap l := ⟨h.1.kept hb, kept_cell hb h.2⟩
theorem Wr.store {w : World} {b : Nat} {e : In.Env} {q : Addr} {p : Option Addr} {cap : Nat} {l : Int} (h : Wr w b e q p cap l) {r : Nat} (h1 : b ≠ r) (h2 : q.block ≠ r) (j : Nat) (v : Value) : Wr (w.setCell ⟨r, j, none⟩ v) b e q p cap l := by
  obtain ⟨h3, h4⟩ := h
  refine ⟨?_, ?_⟩
  · unfold EB at h3 ⊢
    have e : ∀ i, (w.setCell ⟨r, j, none⟩ v).cell? ⟨b, i, none⟩ = w.cell? ⟨b, i, none⟩ := fun i => World.cell?_setCell_other _ _ _ _ (fun h => h1 (congrArg Addr.block h).symm)
    simp only [e]
    exact h3
  · rw [World.cell?_setCell_other _ _ _ _ (fun h => h2 (congrArg Addr.block h).symm)]
    exact h4
theorem wr_open {w : World} {b n : Nat} {on : Bool} {pts : List (Int × Int)} {sus : Bool} {ss se : Int} {lp : Bool} {ls le : Int} {q : Addr} {p : Option Addr} {cap : Nat} {l : Int} (hn : Hid (pts.length = n)) (h : Wr w b (⟨on, pts, sus, ss, se, lp, ls, le⟩ : In.Env) q p cap l) : (w.cell? ⟨b, 0, none⟩ = some (.bool on) ∧ w.cell? ⟨b, 1, none⟩ = some (.slice p n cap) ∧ w.cell? ⟨b, 2, none⟩ = some (.bool sus) ∧ w.cell? ⟨b, 3, none⟩ = some (.int .i64 ss) ∧ w.cell? ⟨b, 4, none⟩ = some (.int .i64 se) ∧ w.cell? ⟨b, 5, none⟩ = some (.bool lp) ∧ w.cell? ⟨b, 6, none⟩ = some (.int .i64 ls) ∧ w.cell? ⟨b, 7, none⟩ = some (.int .i64 le)) ∧ w.cell? q = some (.int .i64 l) := by
  have := hn.out
  subst this
  exact h
theorem wr_store {w : World} {b n : Nat} {on : Bool} {pts : List (Int × Int)} {sus : Bool} {ss se : Int} {lp : Bool} {ls le : Int} {q : Addr} {p : Option Addr} {cap : Nat} {l : Int} (hn : Hid (pts.length = n)) (h : Wr w b (⟨on, pts, sus, ss, se, lp, ls, le⟩ : In.Env) q p cap l) {r : Nat} (h1 : b ≠ r) (h2 : q.block ≠ r) {v0 v1 v2 v3 : Value} :
    (((((w.setCell ⟨r, 0, none⟩ v0).setCell ⟨r, 1, none⟩ v1).setCell ⟨r, 2, none⟩ v2).setCell ⟨r, 3, none⟩ v3).cell? ⟨b, 0, none⟩ = some (.bool on) ∧ ((((w.setCell ⟨r, 0, none⟩ v0).setCell ⟨r, 1, none⟩ v1).setCell ⟨r, 2, none⟩ v2).setCell ⟨r, 3, none⟩ v3).cell? ⟨b, 1, none⟩ = some (.slice p n cap) ∧ ((((w.setCell ⟨r, 0, none⟩ v0).setCell ⟨r, 1, none⟩ v1).setCell ⟨r, 2, none⟩ v2).setCell ⟨r, 3, none⟩ v3).cell? ⟨b, 2, none⟩ = some (.bool sus) ∧ ((((w.setCell ⟨r, 0, none⟩ v0).setCell ⟨r, 1, none⟩ v1).setCell ⟨r, 2, none⟩ v2).setCell ⟨r, 3, none⟩ v3).cell? ⟨b, 3, none⟩ = some (.int .i64 ss) ∧ ((((w.setCell ⟨r, 0, none⟩ v0).setCell ⟨r, 1, none⟩ v1).setCell ⟨r, 2, none⟩ v2).setCell ⟨r, 3, none⟩ v3).cell? ⟨b, 4, none⟩ = some (.int .i64 se) ∧ ((((w.setCell ⟨r, 0, none⟩ v0).setCell ⟨r, 1, none⟩ v1).setCell ⟨r, 2, none⟩ v2).setCell ⟨r, 3, none⟩ v3).cell? ⟨b, 5, none⟩ = some (.bool lp) ∧ ((((w.setCell ⟨r, 0, none⟩ v0).setCell ⟨r, 1, none⟩ v1).setCell ⟨r, 2, none⟩ v2).setCell ⟨r, 3, none⟩ v3).cell? ⟨b, 6, none⟩ = some (.int .i64 ls) ∧ ((((w.setCell ⟨r, 0, none⟩ v0).setCell ⟨r, 1, none⟩ v1).setCell ⟨r, 2, none⟩ v2).setCell ⟨r, 3, none⟩ v3).cell? ⟨b, 7, none⟩ = some (.int .i64 le)) ∧ ((((w.setCell ⟨r, 0, none⟩ v0).setCell ⟨r, 1, none⟩ v1).setCell ⟨r, 2, none⟩ v2).setCell ⟨r, 3, none⟩ v3).cell? q = some (.int .i64 l) := by
  have := hn.out
  subst this
  exact (((h.store h1 h2 0 v0).store h1 h2 1 v1).store h1 h2 2 v2).store h1 h2 3 v3
set_option maxHeartbeats 1600000 in
theorem p_walkerOf (on : Bool) (pts : List (Int × Int)) (sus : Bool) (ss se : Int) (lp : Bool) (ls le : Int) (p : Option Addr) (cap : Nat) (h : Bool) (w : World) (hd : PtsAt w p pts) (hv : In.lv (⟨on, pts, sus, ss, se, lp, ls, le⟩ : In.Env) = true) :
    Calls Try.prog 35 #[EV (⟨on, pts, sus, ss, se, lp, ls, le⟩ : In.Env) p cap, .bool h] w fun x w' => x = .returned (.agg #[.bool (In.cT (⟨on, pts, sus, ss, se, lp, ls, le⟩ : In.Env) h), .int .i64 (In.cF (⟨on, pts, sus, ss, se, lp, ls, le⟩ : In.Env) h), .int .i64 (In.cE (⟨on, pts, sus, ss, se, lp, ls, le⟩ : In.Env) h), .int .i64 (In.lst (⟨on, pts, sus, ss, se, lp, ls, le⟩ : In.Env))]) ∧ Below w.heap.size w w' := by
  have ha := In.lv_asc hv
  have h16 := In.lv_len hv
  have hp := ha.pos
  dsimp only at hp h16
  obtain ⟨W, hW⟩ : ∃ W, W = (w.alloc (.cells #[.bool on, .slice p pts.length cap, .bool sus, .int .i64 ss, .int .i64 se, .bool lp, .int .i64 ls, .int .i64 le] 24)).alloc (.cells #[.bool false, .int .i64 0, .int .i64 0, .int .i64 0] 63) := ⟨_, rfl⟩
  have hWb : Below w.heap.size w W := by rw [hW]; exact stepB (below_box _ _) (below_box _ _)
  obtain ⟨b, hbe⟩ : ∃ b, b = w.heap.size := ⟨_, rfl⟩
  have hE : EB W b (⟨on, pts, sus, ss, se, lp, ls, le⟩ : In.Env) p cap := by rw [hW, hbe]; exact (eb_new w (⟨on, pts, sus, ss, se, lp, ls, le⟩ : In.Env) p cap _).kept (below_box _ _)
  have hC : Wb W (b + 1) false 0 0 0 := by rw [hW, hbe]; have := wb_new (w.alloc (.cells #[.bool on, .slice p pts.length cap, .bool sus, .int .i64 ss, .int .i64 se, .bool lp, .int .i64 ls, .int .i64 le] 24)) false 0 0 0 63; rwa [World.size_alloc] at this
  have hD := hd.below hWb
  obtain ⟨b1, off, hpp, hc1, _⟩ := hd.at (i := pts.length - 1) (by omega)
  have hb1 : b1 < b := by rw [hbe]; exact cell_lt hc1
  subst hpp
  have CO := Lib.hid (fun w hd => p_circleOf on pts sus ss se lp ls le (some ⟨b1, off, none⟩) cap h w hd hv)
  obtain ⟨th, hth⟩ : ∃ th, In.cT (⟨on, pts, sus, ss, se, lp, ls, le⟩ : In.Env) h = th := ⟨_, rfl⟩
  obtain ⟨x, hx⟩ : ∃ x, In.cF (⟨on, pts, sus, ss, se, lp, ls, le⟩ : In.Env) h = x := ⟨_, rfl⟩
  obtain ⟨y, hy⟩ : ∃ y, In.cE (⟨on, pts, sus, ss, se, lp, ls, le⟩ : In.Env) h = y := ⟨_, rfl⟩
  obtain ⟨l, hl⟩ : ∃ l, In.lst (⟨on, pts, sus, ss, se, lp, ls, le⟩ : In.Env) = l := ⟨_, rfl⟩
  have hl' : In.tk pts (pts.length - 1) = l := hl
  rw [hth, hx, hy] at CO
  rw [hth, hx, hy, hl]
  rw [hl'] at hc1
  have hWr : Wr W b (⟨on, pts, sus, ss, se, lp, ls, le⟩ : In.Env) ⟨b1, off + (pts.length - 1) * 2, none⟩ (some ⟨b1, off, none⟩) cap l := ⟨hE, kept_cell hWb hc1⟩
  have HWr := Lib.hid hWr
  have HC := Lib.hid hC
  have HD := Lib.hid hD
  have HWb := Lib.hid hWb
  obtain ⟨n, hn⟩ : ∃ n, pts.length = n + 1 := ⟨pts.length - 1, by omega⟩
  have HN := Lib.hid hn
  have hg : (W.drew.cell? ⟨b, 0, none⟩ = some (.bool on) ∧ W.drew.cell? ⟨b, 1, none⟩ = some (.slice (some ⟨b1, off, none⟩) (n + 1) cap) ∧ W.drew.cell? ⟨b, 2, none⟩ = some (.bool sus) ∧ W.drew.cell? ⟨b, 3, none⟩ = some (.int .i64 ss) ∧ W.drew.cell? ⟨b, 4, none⟩ = some (.int .i64 se) ∧ W.drew.cell? ⟨b, 5, none⟩ = some (.bool lp) ∧ W.drew.cell? ⟨b, 6, none⟩ = some (.int .i64 ls) ∧ W.drew.cell? ⟨b, 7, none⟩ = some (.int .i64 le)) ∧ W.drew.cell? ⟨b1, off + n * 2, none⟩ = some (.int .i64 l) := by
    have := hWr
    unfold Wr EB at this
    rw [hn] at this
    exact this
  have ne1 : b ≠ b + 1 := by omega
  have ne2 : b1 ≠ b + 1 := by omega
  have hwb : w.heap.size ≤ b := Nat.le_of_eq hbe.symm
  unfold EV at CO ⊢
  rw [hn] at CO HWr hp h16 hW ⊢
  have i2 : (n : Int) ≤ 16 := by omega
  have i3 : IntKind.i64.wrap (n : Int) = (n : Int) := IntWalk.i64_in _ (by omega)
  have i4 : IntKind.i64.wrap ((n : Int) + 1 - 1) = (n : Int) := by rw [show (n : Int) + 1 - 1 = n by omega]; exact i3
  have i5 : (n : Int) < (n : Int) + 1 := by omega
  rw [show n + 1 - 1 = n from rfl] at HWr
  clear hv ha hth hx hy hl hl' hd hD hE hC hWr hWb hc1 hn
  go_enter Try.func35, Try.ntmps35
  go_upto_region 1 with fail
  rw [← hW, ← hbe]
  clear hW hbe
  go_region_held3 (fun w' => (w'.cell? ⟨b, 0, none⟩ = some (.bool on) ∧ w'.cell? ⟨b, 1, none⟩ = some (.slice (some ⟨b1, off, none⟩) (n + 1) cap) ∧ w'.cell? ⟨b, 2, none⟩ = some (.bool sus) ∧ w'.cell? ⟨b, 3, none⟩ = some (.int .i64 ss) ∧ w'.cell? ⟨b, 4, none⟩ = some (.int .i64 se) ∧ w'.cell? ⟨b, 5, none⟩ = some (.bool lp) ∧ w'.cell? ⟨b, 6, none⟩ = some (.int .i64 ls) ∧ w'.cell? ⟨b, 7, none⟩ = some (.int .i64 le)) ∧ w'.cell? ⟨b1, off + n * 2, none⟩ = some (.int .i64 l))
    (first | with_reducible exact hg | with_reducible exact hgx | with_reducible exact wr_store HN hg' ne1 ne2)
    (first | (go_at_call 54; ((with_reducible refine (CO.out W.drew (HD.out.below (Below.refl _ _).drew)).mono ?_); rintro x' w' ⟨rfl, hb'⟩; have hg' := HWr.out.kept (w := W.drew) hb'; have hgx := wr_open HN hg'; obtain ⟨⟨r0, r1, r2, r3⟩, ⟨f0, f1, f2, f3⟩⟩ := Wb.kept (w := W.drew) HC.out hb')))
  go_wp2
  exact bodyPost_ret (v := .agg #[.bool th, .int .i64 x, .int .i64 y, .int .i64 l]) (by simp [results, Try.results35, go_sem, r0, r1, r2, r3, World.cell?_setCell_other]) rfl ⟨rfl, ((((HWb.out.trans ((show Below W.heap.size W w' from (Below.refl _ _).drew.trans hb').mono HWb.out.size)).setCell (p := ⟨b + 1, 0, none⟩) (Nat.le_succ_of_le hwb) _).setCell (p := ⟨b + 1, 1, none⟩) (Nat.le_succ_of_le hwb) _).setCell (p := ⟨b + 1, 2, none⟩) (Nat.le_succ_of_le hwb) _).setCell (p := ⟨b + 1, 3, none⟩) (Nat.le_succ_of_le hwb) _⟩
end Go.Proofs.Ytcchfahdgmcpbaa

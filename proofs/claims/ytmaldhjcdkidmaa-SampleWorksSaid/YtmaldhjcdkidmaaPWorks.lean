/-
  The walk of the law SampleWorks: for any sample and numbers it returns true; nothing that was there is changed.
-/
import Derived.Test.YtmaldhjcdkidmaaPPairW
import Derived.Test.YtmaldhjcdkidmaaPAwake
import Derived.Test.YtmaldhjcdkidmaaPAlike
import Derived.Test.YtmaldhjcdkidmaaPAsk
import Derived.Outline
import Derived.Deep.DeepCutAuto
import Derived.Deep.CutBlock
namespace Go.Proofs.Ytmaldhjcdkidmaa
open Go.RowKit

theorem AB.store {w : World} {b r : Nat} {x : Ak} {p : Option Addr} {cap : Nat} (h : AB w b x p cap) (hr : b ≠ r) (j : Nat) (v : Value) : AB (w.setCell ⟨r, j, none⟩ v) b x p cap := by
  unfold AB Boxed at *
  simp only [cell_set hr]
  exact h
/-- A block that is a sample, still zero, and may be written. -/
def ZB (w : World) (a : Nat) : Prop := (w.cell? ⟨a, 0, none⟩ = some (.string ByteArray.empty) ∧ w.cell? ⟨a, 1, none⟩ = some (.slice none 0 0) ∧ w.cell? ⟨a, 2, none⟩ = some (.int .i64 0) ∧ w.cell? ⟨a, 3, none⟩ = some (.int .i64 0) ∧ w.cell? ⟨a, 4, none⟩ = some (.int .i64 0) ∧ w.cell? ⟨a, 5, none⟩ = some (.int .i64 0) ∧ w.cell? ⟨a, 6, none⟩ = some (.int .i64 0) ∧ w.cell? ⟨a, 7, none⟩ = some (.int .i64 0) ∧ w.cell? ⟨a, 8, none⟩ = some (.int .i64 0) ∧ w.cell? ⟨a, 9, none⟩ = some (.int .i64 0) ∧ w.cell? ⟨a, 10, none⟩ = some (.int .i64 0) ∧ w.cell? ⟨a, 11, none⟩ = some (.int .i64 0) ∧ w.cell? ⟨a, 12, none⟩ = some (.int .i64 0)) ∧ ∀ j, w.frozen? ⟨a, j, none⟩ = false
theorem ZB.kept {w w' : World} {a : Nat} (h : ZB w a) (hb : Below w.heap.size w w') : ZB w' a := by
  obtain ⟨⟨z0, z1, z2, z3, z4, z5, z6, z7, z8, z9, z10, z11, z12⟩, f⟩ := h
  refine ⟨⟨kept_cell hb z0, kept_cell hb z1, kept_cell hb z2, kept_cell hb z3, kept_cell hb z4, kept_cell hb z5, kept_cell hb z6, kept_cell hb z7, kept_cell hb z8, kept_cell hb z9, kept_cell hb z10, kept_cell hb z11, kept_cell hb z12⟩, fun j => ?_⟩
  have hl : a < w.heap.size := cell_lt z0
  rw [hb.frozen (p := ⟨a, j, none⟩) hl]; exact f j
theorem ZB.store {w : World} {a r : Nat} (h : ZB w a) (hr : a ≠ r) (j : Nat) (v : Value) : ZB (w.setCell ⟨r, j, none⟩ v) a := by
  unfold ZB at *
  simp only [cell_set hr, World.frozen?_setCell]
  exact h
theorem zb_new (w : World) : ZB (w.alloc (.cells #[.string ByteArray.empty, .slice none 0 0, .int .i64 0, .int .i64 0, .int .i64 0, .int .i64 0, .int .i64 0, .int .i64 0, .int .i64 0, .int .i64 0, .int .i64 0, .int .i64 0, .int .i64 0] 24)) w.heap.size := by
  refine ⟨⟨?_, ?_, ?_, ?_, ?_, ?_, ?_, ?_, ?_, ?_, ?_, ?_, ?_⟩, fun j => World.frozen?_alloc_at _ _ _ _ rfl⟩ <;> simp [World.cell?_alloc_new]
theorem cell_set_same {w : World} {a : Nat} (i j : Nat) (hij : i ≠ j) (v : Value) : (w.setCell ⟨a, j, none⟩ v).cell? ⟨a, i, none⟩ = w.cell? ⟨a, i, none⟩ :=
  World.cell?_setCell_other _ _ _ _ (fun e => hij (congrArg Addr.off e).symm)
theorem zb_fill {w : World} {a : Nat} (h : ZB w a) (r : Sm.Smp) (pa : Option Addr) (ca : Nat) : Boxed (((((((((((((w.setCell ⟨a, 0, none⟩ (.string r.name)).setCell ⟨a, 1, none⟩ (.slice pa r.dat.length ca)).setCell ⟨a, 2, none⟩ (.int .i64 r.bits)).setCell ⟨a, 3, none⟩ (.int .i64 r.rate)).setCell ⟨a, 4, none⟩ (.int .i64 r.vol)).setCell ⟨a, 5, none⟩ (.int .i64 r.pan)).setCell ⟨a, 6, none⟩ (.int .i64 r.fine)).setCell ⟨a, 7, none⟩ (.int .i64 r.loop)).setCell ⟨a, 8, none⟩ (.int .i64 r.start)).setCell ⟨a, 9, none⟩ (.int .i64 r.fin)).setCell ⟨a, 10, none⟩ (.int .i64 r.sus)).setCell ⟨a, 11, none⟩ (.int .i64 r.sstart)).setCell ⟨a, 12, none⟩ (.int .i64 r.sfin)) a r pa ca := by
  obtain ⟨⟨z0, z1, z2, z3, z4, z5, z6, z7, z8, z9, z10, z11, z12⟩, _⟩ := h
  refine ⟨?_, ?_, ?_, ?_, ?_, ?_, ?_, ?_, ?_, ?_, ?_, ?_, ?_⟩
  · rw [cell_set_same 0 12 (by omega) , cell_set_same 0 11 (by omega) , cell_set_same 0 10 (by omega) , cell_set_same 0 9 (by omega) , cell_set_same 0 8 (by omega) , cell_set_same 0 7 (by omega) , cell_set_same 0 6 (by omega) , cell_set_same 0 5 (by omega) , cell_set_same 0 4 (by omega) , cell_set_same 0 3 (by omega) , cell_set_same 0 2 (by omega) , cell_set_same 0 1 (by omega)]
    exact World.cell?_setCell_same _ _ _ (by exact z0)
  · rw [cell_set_same 1 12 (by omega) , cell_set_same 1 11 (by omega) , cell_set_same 1 10 (by omega) , cell_set_same 1 9 (by omega) , cell_set_same 1 8 (by omega) , cell_set_same 1 7 (by omega) , cell_set_same 1 6 (by omega) , cell_set_same 1 5 (by omega) , cell_set_same 1 4 (by omega) , cell_set_same 1 3 (by omega) , cell_set_same 1 2 (by omega)]
    exact World.cell?_setCell_same _ _ _ (by rw [cell_set_same 1 0 (by omega)]; exact z1)
  · rw [cell_set_same 2 12 (by omega) , cell_set_same 2 11 (by omega) , cell_set_same 2 10 (by omega) , cell_set_same 2 9 (by omega) , cell_set_same 2 8 (by omega) , cell_set_same 2 7 (by omega) , cell_set_same 2 6 (by omega) , cell_set_same 2 5 (by omega) , cell_set_same 2 4 (by omega) , cell_set_same 2 3 (by omega)]
    exact World.cell?_setCell_same _ _ _ (by rw [cell_set_same 2 1 (by omega), cell_set_same 2 0 (by omega)]; exact z2)
  · rw [cell_set_same 3 12 (by omega) , cell_set_same 3 11 (by omega) , cell_set_same 3 10 (by omega) , cell_set_same 3 9 (by omega) , cell_set_same 3 8 (by omega) , cell_set_same 3 7 (by omega) , cell_set_same 3 6 (by omega) , cell_set_same 3 5 (by omega) , cell_set_same 3 4 (by omega)]
    exact World.cell?_setCell_same _ _ _ (by rw [cell_set_same 3 2 (by omega), cell_set_same 3 1 (by omega), cell_set_same 3 0 (by omega)]; exact z3)
  · rw [cell_set_same 4 12 (by omega) , cell_set_same 4 11 (by omega) , cell_set_same 4 10 (by omega) , cell_set_same 4 9 (by omega) , cell_set_same 4 8 (by omega) , cell_set_same 4 7 (by omega) , cell_set_same 4 6 (by omega) , cell_set_same 4 5 (by omega)]
    exact World.cell?_setCell_same _ _ _ (by rw [cell_set_same 4 3 (by omega), cell_set_same 4 2 (by omega), cell_set_same 4 1 (by omega), cell_set_same 4 0 (by omega)]; exact z4)
  · rw [cell_set_same 5 12 (by omega) , cell_set_same 5 11 (by omega) , cell_set_same 5 10 (by omega) , cell_set_same 5 9 (by omega) , cell_set_same 5 8 (by omega) , cell_set_same 5 7 (by omega) , cell_set_same 5 6 (by omega)]
    exact World.cell?_setCell_same _ _ _ (by rw [cell_set_same 5 4 (by omega), cell_set_same 5 3 (by omega), cell_set_same 5 2 (by omega), cell_set_same 5 1 (by omega), cell_set_same 5 0 (by omega)]; exact z5)
  · rw [cell_set_same 6 12 (by omega) , cell_set_same 6 11 (by omega) , cell_set_same 6 10 (by omega) , cell_set_same 6 9 (by omega) , cell_set_same 6 8 (by omega) , cell_set_same 6 7 (by omega)]
    exact World.cell?_setCell_same _ _ _ (by rw [cell_set_same 6 5 (by omega), cell_set_same 6 4 (by omega), cell_set_same 6 3 (by omega), cell_set_same 6 2 (by omega), cell_set_same 6 1 (by omega), cell_set_same 6 0 (by omega)]; exact z6)
  · rw [cell_set_same 7 12 (by omega) , cell_set_same 7 11 (by omega) , cell_set_same 7 10 (by omega) , cell_set_same 7 9 (by omega) , cell_set_same 7 8 (by omega)]
    exact World.cell?_setCell_same _ _ _ (by rw [cell_set_same 7 6 (by omega), cell_set_same 7 5 (by omega), cell_set_same 7 4 (by omega), cell_set_same 7 3 (by omega), cell_set_same 7 2 (by omega), cell_set_same 7 1 (by omega), cell_set_same 7 0 (by omega)]; exact z7)
  · rw [cell_set_same 8 12 (by omega) , cell_set_same 8 11 (by omega) , cell_set_same 8 10 (by omega) , cell_set_same 8 9 (by omega)]
    exact World.cell?_setCell_same _ _ _ (by rw [cell_set_same 8 7 (by omega), cell_set_same 8 6 (by omega), cell_set_same 8 5 (by omega), cell_set_same 8 4 (by omega), cell_set_same 8 3 (by omega), cell_set_same 8 2 (by omega), cell_set_same 8 1 (by omega), cell_set_same 8 0 (by omega)]; exact z8)
  · rw [cell_set_same 9 12 (by omega) , cell_set_same 9 11 (by omega) , cell_set_same 9 10 (by omega)]
    exact World.cell?_setCell_same _ _ _ (by rw [cell_set_same 9 8 (by omega), cell_set_same 9 7 (by omega), cell_set_same 9 6 (by omega), cell_set_same 9 5 (by omega), cell_set_same 9 4 (by omega), cell_set_same 9 3 (by omega), cell_set_same 9 2 (by omega), cell_set_same 9 1 (by omega), cell_set_same 9 0 (by omega)]; exact z9)
  · rw [cell_set_same 10 12 (by omega) , cell_set_same 10 11 (by omega)]
    exact World.cell?_setCell_same _ _ _ (by rw [cell_set_same 10 9 (by omega), cell_set_same 10 8 (by omega), cell_set_same 10 7 (by omega), cell_set_same 10 6 (by omega), cell_set_same 10 5 (by omega), cell_set_same 10 4 (by omega), cell_set_same 10 3 (by omega), cell_set_same 10 2 (by omega), cell_set_same 10 1 (by omega), cell_set_same 10 0 (by omega)]; exact z10)
  · rw [cell_set_same 11 12 (by omega)]
    exact World.cell?_setCell_same _ _ _ (by rw [cell_set_same 11 10 (by omega), cell_set_same 11 9 (by omega), cell_set_same 11 8 (by omega), cell_set_same 11 7 (by omega), cell_set_same 11 6 (by omega), cell_set_same 11 5 (by omega), cell_set_same 11 4 (by omega), cell_set_same 11 3 (by omega), cell_set_same 11 2 (by omega), cell_set_same 11 1 (by omega), cell_set_same 11 0 (by omega)]; exact z11)
  · exact World.cell?_setCell_same _ _ _ (by rw [cell_set_same 12 11 (by omega), cell_set_same 12 10 (by omega), cell_set_same 12 9 (by omega), cell_set_same 12 8 (by omega), cell_set_same 12 7 (by omega), cell_set_same 12 6 (by omega), cell_set_same 12 5 (by omega), cell_set_same 12 4 (by omega), cell_set_same 12 3 (by omega), cell_set_same 12 2 (by omega), cell_set_same 12 1 (by omega), cell_set_same 12 0 (by omega)]; exact z12)
/-- What each round keeps: the question, the copy, the copy's frames. -/
structure WK (w : World) (x : Ak) (p : Option Addr) (cap b cp g : Nat) (wr : World) : Prop where
  ab : AB wr b x p cap
  bx : Boxed wr cp x.s (some ⟨g, 0, none⟩) (x.s.dat.length + 1)
  cop : Cop wr g x.s
  bel : Below w.heap.size w wr
theorem WK.kept {w : World} {x : Ak} {p : Option Addr} {cap b cp g : Nat} {wr wr' : World} (h : WK w x p cap b cp g wr) (hb : Below wr.heap.size wr wr') : WK w x p cap b cp g wr' :=
  ⟨h.ab.kept hb, h.bx.below hb (cell_lt h.bx.1), ⟨h.cop.1.below hb, kept_cell hb h.cop.2⟩, stepB h.bel hb⟩
theorem WK.store {w : World} {x : Ak} {p : Option Addr} {cap b cp g : Nat} {wr : World} (h : WK w x p cap b cp g wr) {r : Nat} (h1 : b ≠ r) (h2 : cp ≠ r) (h3 : g ≠ r) (h4 : w.heap.size ≤ r) (j : Nat) (v : Value) : WK w x p cap b cp g (wr.setCell ⟨r, j, none⟩ v) :=
  ⟨h.ab.store h1 j v, h.bx.store h2 j v, h.cop.store h3 j v, h.bel.setCell h4 v⟩
theorem WK.lt {w : World} {x : Ak} {p : Option Addr} {cap b cp g : Nat} {wr : World} (h : WK w x p cap b cp g wr) : b < wr.heap.size ∧ cp < wr.heap.size ∧ g < wr.heap.size := ⟨h.ab.lt, cell_lt h.bx.1, cell_lt h.cop.2⟩
/-- The loop of the four changes. -/
structure WO (w : World) (x : Ak) (p : Option Addr) (cap b cp g : Nat) (i : Value) (wr : World) : Prop where
  out : ∃ k : Nat, k ≤ 4 ∧ i = .int .i64 k ∧ Hid (WK w x p cap b cp g wr)
/-- Behind the switch: the two results. -/
structure SW (w : World) (x : Ak) (p : Option Addr) (cap b cp g a : Nat) (r : Sm.Smp) (er : Int) (wr : World) : Prop where
  wk : WK w x p cap b cp g wr
  fa : ∃ pa, Boxed wr a r pa r.dat.length ∧ (r.dat = [] ∨ ∃ ga, pa = some ⟨ga, 0, none⟩ ∧ OwnS wr (a + 2) ga r.dat)
  fb : ∃ pb cb, Boxed wr (a + 1) r pb cb ∧ DatAt wr pb r.dat
  vl : er = 0 → Sm.vld r = true
  ln : (r.dat.length : Int) ≤ 4096
  nm : r.name.size ≤ maxLen
theorem SW.kept {w : World} {x : Ak} {p : Option Addr} {cap b cp g a : Nat} {r : Sm.Smp} {er : Int} {wr wr' : World} (h : SW w x p cap b cp g a r er wr) (hb : Below wr.heap.size wr wr') : SW w x p cap b cp g a r er wr' := by
  obtain ⟨pa, h1, h2⟩ := h.fa
  obtain ⟨pb, cb, h3, h4⟩ := h.fb
  exact ⟨h.wk.kept hb, ⟨pa, h1.below hb (cell_lt h1.1), h2.imp id fun ⟨ga, e, ho⟩ => ⟨ga, e, ho.kept hb⟩⟩, ⟨pb, cb, h3.below hb (cell_lt h3.1), h4.below hb⟩, h.vl, h.ln, h.nm⟩
/-- The loop that writes zeros. -/
structure IL (w : World) (x : Ak) (p : Option Addr) (cap b cp g a : Nat) (r : Sm.Smp) (pa : Option Addr) (i : Value) (wr : World) : Prop where
  out : ∃ j : Nat, j ≤ r.dat.length ∧ i = .int .i64 j ∧ Hid (WK w x p cap b cp g wr) ∧ Hid (Boxed wr a r pa r.dat.length) ∧ Hid (r.dat = [] ∨ ∃ ga xs, pa = some ⟨ga, 0, none⟩ ∧ wr.ownsRow (a + 2) 3 1 (.slice (some ⟨ga, 0, none⟩) r.dat.length r.dat.length) r.dat.length xs)
set_option maxRecDepth 100000 in
set_option maxHeartbeats 12800000 in
theorem works_any (x : Ak) (p : Option Addr) (cap : Nat) (w : World) (hm : x.s.name.size ≤ maxLen) (hd : DatAt w p x.s.dat) (hcap : x.s.dat.length ≤ cap) (hcw : (cap : Int) * 8 ≤ 140737488351232) (hnil : p = none → cap = 0) :
    Calls Try.prog 4 #[AV x p cap] w fun z w' => z = .returned (.bool true) ∧ Below w.heap.size w w' := by
  have HCp := Lib.hid (l_copy x.s p cap (w.alloc (.cells #[.string x.s.name, .slice p x.s.dat.length cap, .int .i64 x.s.bits, .int .i64 x.s.rate, .int .i64 x.s.vol, .int .i64 x.s.pan, .int .i64 x.s.fine, .int .i64 x.s.loop, .int .i64 x.s.start, .int .i64 x.s.fin, .int .i64 x.s.sus, .int .i64 x.s.sstart, .int .i64 x.s.sfin, .int .i64 x.po, .int .i64 x.fr, .bool x.bk, .bool x.dn, .int .i64 x.step, .int .i64 x.k, .int .i64 x.n, .int .i64 x.off, .int .i64 x.frm, .int .i64 x.til, .int .i64 x.num, .int .i64 x.den, .int .i64 x.bits, .bool x.held, .bool x.back] 28)) (hd.below (below_box _ _)) (by omega))
  have HUt := Lib.hid (fun g w' hc hp => l_untouched x.s p g cap w' hc hp (by omega))
  have HAl := Lib.hid (fun r pa pb ca cb w' h1 h2 hl => l_alike r pa pb ca cb w' h1 h2 hl)
  have HVa := Lib.hid (fun r pa ca w' hm hd (hv : Sm.vld r = true) => p_valid_v r pa ca w' hm hd hv)
  have hcp1 : x.s.dat.length ≤ x.s.dat.length + 1 := by omega
  have HD0 := Lib.hid hd
  have HM := Lib.hid hm
  clear hm hd hcw
  unfold RetCopy SV at HCp
  unfold SV at HUt HAl HVa
  unfold AV
  go_enter Try.func4, Try.ntmps4
  go_wp2_with (first | (go_at_call 10; ((with_reducible refine (HCp.out).mono ?_); rintro z w1 ⟨⟨g, rfl, hcop⟩, hb1⟩; have HWK := Lib.hid (show WK w x p cap w.heap.size w1.heap.size g (w1.alloc (.cells #[.string x.s.name, .slice (some ⟨g, 0, none⟩) x.s.dat.length (x.s.dat.length + 1), .int .i64 x.s.bits, .int .i64 x.s.rate, .int .i64 x.s.vol, .int .i64 x.s.pan, .int .i64 x.s.fine, .int .i64 x.s.loop, .int .i64 x.s.start, .int .i64 x.s.fin, .int .i64 x.s.sus, .int .i64 x.s.sstart, .int .i64 x.s.sfin] 24)) from ⟨((ab_new w x p cap).kept hb1).kept (below_box w1 (.cells #[.string x.s.name, .slice (some ⟨g, 0, none⟩) x.s.dat.length (x.s.dat.length + 1), .int .i64 x.s.bits, .int .i64 x.s.rate, .int .i64 x.s.vol, .int .i64 x.s.pan, .int .i64 x.s.fine, .int .i64 x.s.loop, .int .i64 x.s.start, .int .i64 x.s.fin, .int .i64 x.s.sus, .int .i64 x.s.sstart, .int .i64 x.s.sfin] 24)), boxed_new w1 x.s (some ⟨g, 0, none⟩) (x.s.dat.length + 1) 24, ⟨hcop.1.below (below_box w1 (.cells #[.string x.s.name, .slice (some ⟨g, 0, none⟩) x.s.dat.length (x.s.dat.length + 1), .int .i64 x.s.bits, .int .i64 x.s.rate, .int .i64 x.s.vol, .int .i64 x.s.pan, .int .i64 x.s.fine, .int .i64 x.s.loop, .int .i64 x.s.start, .int .i64 x.s.fin, .int .i64 x.s.sus, .int .i64 x.s.sstart, .int .i64 x.s.sfin] 24)), kept_cell (below_box w1 (.cells #[.string x.s.name, .slice (some ⟨g, 0, none⟩) x.s.dat.length (x.s.dat.length + 1), .int .i64 x.s.bits, .int .i64 x.s.rate, .int .i64 x.s.vol, .int .i64 x.s.pan, .int .i64 x.s.fine, .int .i64 x.s.loop, .int .i64 x.s.start, .int .i64 x.s.fin, .int .i64 x.s.sus, .int .i64 x.s.sstart, .int .i64 x.s.sfin] 24)) hcop.2⟩, stepB (stepB (below_box _ _) hb1) (below_box w1 (.cells #[.string x.s.name, .slice (some ⟨g, 0, none⟩) x.s.dat.length (x.s.dat.length + 1), .int .i64 x.s.bits, .int .i64 x.s.rate, .int .i64 x.s.vol, .int .i64 x.s.pan, .int .i64 x.s.fine, .int .i64 x.s.loop, .int .i64 x.s.start, .int .i64 x.s.fin, .int .i64 x.s.sus, .int .i64 x.s.sstart, .int .i64 x.s.sfin] 24))⟩); clear hcop)))
  obtain ⟨W, hW⟩ : ∃ W, W = w1.alloc (.cells #[.string x.s.name, .slice (some ⟨g, 0, none⟩) x.s.dat.length (x.s.dat.length + 1), .int .i64 x.s.bits, .int .i64 x.s.rate, .int .i64 x.s.vol, .int .i64 x.s.pan, .int .i64 x.s.fine, .int .i64 x.s.loop, .int .i64 x.s.start, .int .i64 x.s.fin, .int .i64 x.s.sus, .int .i64 x.s.sstart, .int .i64 x.s.sfin] 24) := ⟨_, rfl⟩
  obtain ⟨cp, hcpe⟩ : ∃ cp, cp = w1.heap.size := ⟨_, rfl⟩
  obtain ⟨b, hbe⟩ : ∃ b, b = w.heap.size := ⟨_, rfl⟩
  have hwb0 : w.heap.size ≤ b := by omega
  have hwc0 : w.heap.size ≤ cp := by have := hb1.size; simp at this; omega
  rw [← hW] at HWK ⊢
  rw [← hcpe] at HWK ⊢
  rw [← hbe] at HWK ⊢
  clear hW hcpe hb1
  clear hbe
  go_loopw [4] (fun i wr => WO w x p cap b cp g i wr) (fun i _ => 4 - (intOf i).toNat)
  case atStart => exact ⟨⟨0, by omega, rfl, HWK.out⟩⟩
  case round =>
    clear HWK HCp
    obtain ⟨k, hk, rfl, HK⟩ := hrel.out
    clear hrel
    by_cases hlt : k < 4
    · obtain ⟨⟨x0, x1, x2, x3, x4, x5, x6, x7, x8, x9, x10, x11, x12⟩, y13, y14, y15, y16, y17, y18, y19, y20, y21, y22, y23, y24, y25, y26, y27⟩ := HK.out.ab
      obtain ⟨s0, s1, s2, s3, s4, s5, s6, s7, s8, s9, s10, s11, s12⟩ := HK.out.bx
      go_upto_block 2 with fail
      have HKV := Lib.hid (show WK w x p cap b cp g ((wr.alloc (.cells #[.string { data := #[] }, .slice none 0 0, .int .i64 0, .int .i64 0, .int .i64 0, .int .i64 0, .int .i64 0, .int .i64 0, .int .i64 0, .int .i64 0, .int .i64 0, .int .i64 0, .int .i64 0] 24)).alloc (.cells #[.string { data := #[] }, .slice none 0 0, .int .i64 0, .int .i64 0, .int .i64 0, .int .i64 0, .int .i64 0, .int .i64 0, .int .i64 0, .int .i64 0, .int .i64 0, .int .i64 0, .int .i64 0] 24)) from (HK.out.kept (below_box wr (.cells #[.string { data := #[] }, .slice none 0 0, .int .i64 0, .int .i64 0, .int .i64 0, .int .i64 0, .int .i64 0, .int .i64 0, .int .i64 0, .int .i64 0, .int .i64 0, .int .i64 0, .int .i64 0] 24))).kept (below_box _ (.cells #[.string { data := #[] }, .slice none 0 0, .int .i64 0, .int .i64 0, .int .i64 0, .int .i64 0, .int .i64 0, .int .i64 0, .int .i64 0, .int .i64 0, .int .i64 0, .int .i64 0, .int .i64 0] 24)))
      have HZa := Lib.hid (show ZB ((wr.alloc (.cells #[.string { data := #[] }, .slice none 0 0, .int .i64 0, .int .i64 0, .int .i64 0, .int .i64 0, .int .i64 0, .int .i64 0, .int .i64 0, .int .i64 0, .int .i64 0, .int .i64 0, .int .i64 0] 24)).alloc (.cells #[.string { data := #[] }, .slice none 0 0, .int .i64 0, .int .i64 0, .int .i64 0, .int .i64 0, .int .i64 0, .int .i64 0, .int .i64 0, .int .i64 0, .int .i64 0, .int .i64 0, .int .i64 0] 24)) wr.heap.size from (zb_new wr).kept (below_box _ _))
      have HZb := Lib.hid (show ZB ((wr.alloc (.cells #[.string { data := #[] }, .slice none 0 0, .int .i64 0, .int .i64 0, .int .i64 0, .int .i64 0, .int .i64 0, .int .i64 0, .int .i64 0, .int .i64 0, .int .i64 0, .int .i64 0, .int .i64 0] 24)).alloc (.cells #[.string { data := #[] }, .slice none 0 0, .int .i64 0, .int .i64 0, .int .i64 0, .int .i64 0, .int .i64 0, .int .i64 0, .int .i64 0, .int .i64 0, .int .i64 0, .int .i64 0, .int .i64 0] 24)) (wr.heap.size + 1) from (by have h := zb_new (wr.alloc (.cells #[.string { data := #[] }, .slice none 0 0, .int .i64 0, .int .i64 0, .int .i64 0, .int .i64 0, .int .i64 0, .int .i64 0, .int .i64 0, .int .i64 0, .int .i64 0, .int .i64 0, .int .i64 0] 24)); rw [show (wr.alloc (.cells #[.string { data := #[] }, .slice none 0 0, .int .i64 0, .int .i64 0, .int .i64 0, .int .i64 0, .int .i64 0, .int .i64 0, .int .i64 0, .int .i64 0, .int .i64 0, .int .i64 0, .int .i64 0] 24)).heap.size = wr.heap.size + 1 by simp] at h; exact h))
      have hV5' : wr.heap.size + 2 = ((wr.alloc (.cells #[.string { data := #[] }, .slice none 0 0, .int .i64 0, .int .i64 0, .int .i64 0, .int .i64 0, .int .i64 0, .int .i64 0, .int .i64 0, .int .i64 0, .int .i64 0, .int .i64 0, .int .i64 0] 24)).alloc (.cells #[.string { data := #[] }, .slice none 0 0, .int .i64 0, .int .i64 0, .int .i64 0, .int .i64 0, .int .i64 0, .int .i64 0, .int .i64 0, .int .i64 0, .int .i64 0, .int .i64 0, .int .i64 0] 24)).heap.size := by simp
      obtain ⟨hl1, hl2, hl3⟩ := HK.out.lt
      have hwr := HK.out.bel.size
      obtain ⟨V, hV⟩ : ∃ V, V = (wr.alloc (.cells #[.string { data := #[] }, .slice none 0 0, .int .i64 0, .int .i64 0, .int .i64 0, .int .i64 0, .int .i64 0, .int .i64 0, .int .i64 0, .int .i64 0, .int .i64 0, .int .i64 0, .int .i64 0] 24)).alloc (.cells #[.string { data := #[] }, .slice none 0 0, .int .i64 0, .int .i64 0, .int .i64 0, .int .i64 0, .int .i64 0, .int .i64 0, .int .i64 0, .int .i64 0, .int .i64 0, .int .i64 0, .int .i64 0] 24) := ⟨_, rfl⟩
      obtain ⟨a, hae⟩ : ∃ a, a = wr.heap.size := ⟨_, rfl⟩
      rw [← hV] at HKV HZa HZb hV5' ⊢
      rw [← hae] at HZa HZb hV5' hl1 hl2 hl3 hwr ⊢
      have hV5 : a + 2 ≤ V.heap.size := Nat.le_of_eq hV5'
      have nab : b ≠ a := by omega
      have nacp : cp ≠ a := by omega
      have nag : g ≠ a := by omega
      have hwa : w.heap.size ≤ a := by omega
      have nbb : b ≠ a + 1 := by omega
      have nbcp : cp ≠ a + 1 := by omega
      have nbg : g ≠ a + 1 := by omega
      have hwb : w.heap.size ≤ a + 1 := by omega
      have na1 : a + 1 ≠ a := by omega
      have na2 : a ≠ a + 1 := by omega
      clear x0 x1 x2 x3 x4 x5 x6 x7 x8 x9 x10 x11 x12 y13 y14 y15 y16 y17 y18 y19 y20 y21 y22 y23 y24 y25 y26 y27 s0 s1 s2 s3 s4 s5 s6 s7 s8 s9 s10 s11 s12 hV hae
      clear HK
      go_cut [7, 8] (fun t7 t8 wx => ∃ r er, t7 = .int .i64 er ∧ t8 = .int .i64 er ∧ SW w x p cap b cp g a r er wx)
      case first =>
        obtain ⟨⟨x0, x1, x2, x3, x4, x5, x6, x7, x8, x9, x10, x11, x12⟩, y13, y14, y15, y16, y17, y18, y19, y20, y21, y22, y23, y24, y25, y26, y27⟩ := HKV.out.ab
        obtain ⟨s0, s1, s2, s3, s4, s5, s6, s7, s8, s9, s10, s11, s12⟩ := HKV.out.bx
        obtain ⟨⟨z0, z1, z2, z3, z4, z5, z6, z7, z8, z9, z10, z11, z12⟩, fz⟩ := HZa.out
        obtain ⟨⟨b0, b1, b2, b3, b4, b5, b6, b7, b8, b9, b10, b11, b12⟩, fb⟩ := HZb.out
        have HDc := Lib.hid HKV.out.cop.1
        rcases (show k = 0 ∨ k = 1 ∨ k = 2 ∨ k = 3 by omega) with rfl | rfl | rfl | rfl
        · obtain ⟨r, er, hvl, hln, hnm, hp, hr⟩ := pairw_reverse x.s HM.out
          have HP := Lib.hid hp
          have HR := Lib.hid hr
          have HVL := Lib.hid hvl
          have HLN := Lib.hid hln
          have HNM := Lib.hid hnm
          clear hp hr hvl hln hnm
          unfold SV at HP HR
          unfold RetWP SV at HP
          unfold RetWR SV at HR
          go_wp2_with (first | (go_at_call 26; ((with_reducible refine (HP.out _ _ _ HDc.out hcp1).mono ?_); rintro z w5 ⟨⟨pa, rfl, hpa⟩, hb5⟩; have hz5 : a + 2 ≤ w5.heap.size := Nat.le_trans hV5 hb5.size; have HK5 := Lib.hid (HKV.out.kept hb5); have HZA := Lib.hid (HZa.out.kept hb5); have HZB := Lib.hid (HZb.out.kept hb5); have HPA := Lib.hid (show r.dat = [] ∨ ∃ ga, pa = some ⟨ga, 0, none⟩ ∧ OwnS (((((((((((((w5.setCell ⟨a, 0, none⟩ (.string r.name)).setCell ⟨a, 1, none⟩ (.slice pa r.dat.length r.dat.length)).setCell ⟨a, 2, none⟩ (.int .i64 r.bits)).setCell ⟨a, 3, none⟩ (.int .i64 r.rate)).setCell ⟨a, 4, none⟩ (.int .i64 r.vol)).setCell ⟨a, 5, none⟩ (.int .i64 r.pan)).setCell ⟨a, 6, none⟩ (.int .i64 r.fine)).setCell ⟨a, 7, none⟩ (.int .i64 r.loop)).setCell ⟨a, 8, none⟩ (.int .i64 r.start)).setCell ⟨a, 9, none⟩ (.int .i64 r.fin)).setCell ⟨a, 10, none⟩ (.int .i64 r.sus)).setCell ⟨a, 11, none⟩ (.int .i64 r.sstart)).setCell ⟨a, 12, none⟩ (.int .i64 r.sfin)) (a + 2) ga r.dat from hpa.imp id fun ⟨ga, e, ho⟩ => ⟨ga, e, by (have hge := ho.ge; have ho' := ho.mono hV5; exact ((((((((((((((((((((((((((ho').store (by omega) _ _)).store (by omega) _ _)).store (by omega) _ _)).store (by omega) _ _)).store (by omega) _ _)).store (by omega) _ _)).store (by omega) _ _)).store (by omega) _ _)).store (by omega) _ _)).store (by omega) _ _)).store (by omega) _ _)).store (by omega) _ _)).store (by omega) _ _))⟩); clear hpa; have HK6 := Lib.hid (show WK w x p cap b cp g (((((((((((((w5.setCell ⟨a, 0, none⟩ (.string r.name)).setCell ⟨a, 1, none⟩ (.slice pa r.dat.length r.dat.length)).setCell ⟨a, 2, none⟩ (.int .i64 r.bits)).setCell ⟨a, 3, none⟩ (.int .i64 r.rate)).setCell ⟨a, 4, none⟩ (.int .i64 r.vol)).setCell ⟨a, 5, none⟩ (.int .i64 r.pan)).setCell ⟨a, 6, none⟩ (.int .i64 r.fine)).setCell ⟨a, 7, none⟩ (.int .i64 r.loop)).setCell ⟨a, 8, none⟩ (.int .i64 r.start)).setCell ⟨a, 9, none⟩ (.int .i64 r.fin)).setCell ⟨a, 10, none⟩ (.int .i64 r.sus)).setCell ⟨a, 11, none⟩ (.int .i64 r.sstart)).setCell ⟨a, 12, none⟩ (.int .i64 r.sfin)) from ((((((((((((((((((((((((((HK5.out).store nab nacp nag hwa _ _)).store nab nacp nag hwa _ _)).store nab nacp nag hwa _ _)).store nab nacp nag hwa _ _)).store nab nacp nag hwa _ _)).store nab nacp nag hwa _ _)).store nab nacp nag hwa _ _)).store nab nacp nag hwa _ _)).store nab nacp nag hwa _ _)).store nab nacp nag hwa _ _)).store nab nacp nag hwa _ _)).store nab nacp nag hwa _ _)).store nab nacp nag hwa _ _)); have HXA := Lib.hid (show Boxed (((((((((((((w5.setCell ⟨a, 0, none⟩ (.string r.name)).setCell ⟨a, 1, none⟩ (.slice pa r.dat.length r.dat.length)).setCell ⟨a, 2, none⟩ (.int .i64 r.bits)).setCell ⟨a, 3, none⟩ (.int .i64 r.rate)).setCell ⟨a, 4, none⟩ (.int .i64 r.vol)).setCell ⟨a, 5, none⟩ (.int .i64 r.pan)).setCell ⟨a, 6, none⟩ (.int .i64 r.fine)).setCell ⟨a, 7, none⟩ (.int .i64 r.loop)).setCell ⟨a, 8, none⟩ (.int .i64 r.start)).setCell ⟨a, 9, none⟩ (.int .i64 r.fin)).setCell ⟨a, 10, none⟩ (.int .i64 r.sus)).setCell ⟨a, 11, none⟩ (.int .i64 r.sstart)).setCell ⟨a, 12, none⟩ (.int .i64 r.sfin)) a r pa r.dat.length from zb_fill HZA.out r pa r.dat.length); have HZB6 := Lib.hid (show ZB (((((((((((((w5.setCell ⟨a, 0, none⟩ (.string r.name)).setCell ⟨a, 1, none⟩ (.slice pa r.dat.length r.dat.length)).setCell ⟨a, 2, none⟩ (.int .i64 r.bits)).setCell ⟨a, 3, none⟩ (.int .i64 r.rate)).setCell ⟨a, 4, none⟩ (.int .i64 r.vol)).setCell ⟨a, 5, none⟩ (.int .i64 r.pan)).setCell ⟨a, 6, none⟩ (.int .i64 r.fine)).setCell ⟨a, 7, none⟩ (.int .i64 r.loop)).setCell ⟨a, 8, none⟩ (.int .i64 r.start)).setCell ⟨a, 9, none⟩ (.int .i64 r.fin)).setCell ⟨a, 10, none⟩ (.int .i64 r.sus)).setCell ⟨a, 11, none⟩ (.int .i64 r.sstart)).setCell ⟨a, 12, none⟩ (.int .i64 r.sfin)) (a + 1) from ((((((((((((((((((((((((((HZB.out).store na1 _ _)).store na1 _ _)).store na1 _ _)).store na1 _ _)).store na1 _ _)).store na1 _ _)).store na1 _ _)).store na1 _ _)).store na1 _ _)).store na1 _ _)).store na1 _ _)).store na1 _ _)).store na1 _ _)); obtain ⟨⟨z0, z1, z2, z3, z4, z5, z6, z7, z8, z9, z10, z11, z12⟩, fz⟩ := HZA.out; obtain ⟨⟨b0, b1, b2, b3, b4, b5, b6, b7, b8, b9, b10, b11, b12⟩, fb⟩ := HZB6.out; obtain ⟨⟨x0, x1, x2, x3, x4, x5, x6, x7, x8, x9, x10, x11, x12⟩, y13, y14, y15, y16, y17, y18, y19, y20, y21, y22, y23, y24, y25, y26, y27⟩ := HK6.out.ab; obtain ⟨s0, s1, s2, s3, s4, s5, s6, s7, s8, s9, s10, s11, s12⟩ := HK6.out.bx)) | (go_at_call 27; ((with_reducible refine (HR.out _ _ _ (HD0.out.below HK6.out.bel) hcap hnil).mono ?_); rintro z w6 ⟨⟨pb, cb, rfl, hpb⟩, hb6⟩; have HK7 := Lib.hid (HK6.out.kept hb6); have HX7 := Lib.hid (HXA.out.below hb6 (cell_lt HXA.out.1)); have HZ7 := Lib.hid (HZB6.out.kept hb6); have HP7 := Lib.hid (show r.dat = [] ∨ ∃ ga, pa = some ⟨ga, 0, none⟩ ∧ OwnS w6 (a + 2) ga r.dat from HPA.out.imp id fun ⟨ga, e, ho⟩ => ⟨ga, e, ho.kept hb6⟩); have HQ7 := Lib.hid hpb; clear hpb; obtain ⟨⟨b0, b1, b2, b3, b4, b5, b6, b7, b8, b9, b10, b11, b12⟩, fb⟩ := HZ7.out)))
          go_meet
          have hA : r.dat = [] ∨ ∃ ga, pa = some ⟨ga, 0, none⟩ ∧ OwnS (((((((((((((w6.setCell ⟨(a + 1), 0, none⟩ (.string r.name)).setCell ⟨(a + 1), 1, none⟩ (.slice pb r.dat.length cb)).setCell ⟨(a + 1), 2, none⟩ (.int .i64 r.bits)).setCell ⟨(a + 1), 3, none⟩ (.int .i64 r.rate)).setCell ⟨(a + 1), 4, none⟩ (.int .i64 r.vol)).setCell ⟨(a + 1), 5, none⟩ (.int .i64 r.pan)).setCell ⟨(a + 1), 6, none⟩ (.int .i64 r.fine)).setCell ⟨(a + 1), 7, none⟩ (.int .i64 r.loop)).setCell ⟨(a + 1), 8, none⟩ (.int .i64 r.start)).setCell ⟨(a + 1), 9, none⟩ (.int .i64 r.fin)).setCell ⟨(a + 1), 10, none⟩ (.int .i64 r.sus)).setCell ⟨(a + 1), 11, none⟩ (.int .i64 r.sstart)).setCell ⟨(a + 1), 12, none⟩ (.int .i64 r.sfin)) (a + 2) ga r.dat := HP7.out.imp id fun ⟨ga, e, ho⟩ => ⟨ga, e, by
            have hge := ho.ge
            exact ((((((((((((((((((((((((((ho).store (by omega) _ _)).store (by omega) _ _)).store (by omega) _ _)).store (by omega) _ _)).store (by omega) _ _)).store (by omega) _ _)).store (by omega) _ _)).store (by omega) _ _)).store (by omega) _ _)).store (by omega) _ _)).store (by omega) _ _)).store (by omega) _ _)).store (by omega) _ _)⟩
          have hB : DatAt (((((((((((((w6.setCell ⟨(a + 1), 0, none⟩ (.string r.name)).setCell ⟨(a + 1), 1, none⟩ (.slice pb r.dat.length cb)).setCell ⟨(a + 1), 2, none⟩ (.int .i64 r.bits)).setCell ⟨(a + 1), 3, none⟩ (.int .i64 r.rate)).setCell ⟨(a + 1), 4, none⟩ (.int .i64 r.vol)).setCell ⟨(a + 1), 5, none⟩ (.int .i64 r.pan)).setCell ⟨(a + 1), 6, none⟩ (.int .i64 r.fine)).setCell ⟨(a + 1), 7, none⟩ (.int .i64 r.loop)).setCell ⟨(a + 1), 8, none⟩ (.int .i64 r.start)).setCell ⟨(a + 1), 9, none⟩ (.int .i64 r.fin)).setCell ⟨(a + 1), 10, none⟩ (.int .i64 r.sus)).setCell ⟨(a + 1), 11, none⟩ (.int .i64 r.sstart)).setCell ⟨(a + 1), 12, none⟩ (.int .i64 r.sfin)) pb r.dat := by
            rcases HQ7.out with h | ⟨gb, e, hdt, hge⟩
            · exact .inl h
            · subst e
              have hge2 : w5.heap.size ≤ gb := by simpa [World.setCell] using hge
              iterate 13 (refine dat_store ?_ (by omega) _ _)
              exact hdt
          exact ⟨r, er, rfl, rfl, ⟨((((((((((((((((((((((((((HK7.out).store nbb nbcp nbg hwb _ _)).store nbb nbcp nbg hwb _ _)).store nbb nbcp nbg hwb _ _)).store nbb nbcp nbg hwb _ _)).store nbb nbcp nbg hwb _ _)).store nbb nbcp nbg hwb _ _)).store nbb nbcp nbg hwb _ _)).store nbb nbcp nbg hwb _ _)).store nbb nbcp nbg hwb _ _)).store nbb nbcp nbg hwb _ _)).store nbb nbcp nbg hwb _ _)).store nbb nbcp nbg hwb _ _)).store nbb nbcp nbg hwb _ _), ⟨pa, ((((((((((((((((((((((((((HX7.out).store na2 _ _)).store na2 _ _)).store na2 _ _)).store na2 _ _)).store na2 _ _)).store na2 _ _)).store na2 _ _)).store na2 _ _)).store na2 _ _)).store na2 _ _)).store na2 _ _)).store na2 _ _)).store na2 _ _), hA⟩, ⟨pb, cb, zb_fill HZ7.out r pb cb, hB⟩, HVL.out, HLN.out, HNM.out⟩⟩
        · obtain ⟨r, er, hvl, hln, hnm, hp, hr⟩ := pairw_crop x.s HM.out x.frm x.til
          have HP := Lib.hid hp
          have HR := Lib.hid hr
          have HVL := Lib.hid hvl
          have HLN := Lib.hid hln
          have HNM := Lib.hid hnm
          clear hp hr hvl hln hnm
          unfold SV at HP HR
          unfold RetWP SV at HP
          unfold RetWR SV at HR
          go_wp2_with (first | (go_at_call 28; ((with_reducible refine (HP.out _ _ _ HDc.out hcp1).mono ?_); rintro z w5 ⟨⟨pa, rfl, hpa⟩, hb5⟩; have hz5 : a + 2 ≤ w5.heap.size := Nat.le_trans hV5 hb5.size; have HK5 := Lib.hid (HKV.out.kept hb5); have HZA := Lib.hid (HZa.out.kept hb5); have HZB := Lib.hid (HZb.out.kept hb5); have HPA := Lib.hid (show r.dat = [] ∨ ∃ ga, pa = some ⟨ga, 0, none⟩ ∧ OwnS (((((((((((((w5.setCell ⟨a, 0, none⟩ (.string r.name)).setCell ⟨a, 1, none⟩ (.slice pa r.dat.length r.dat.length)).setCell ⟨a, 2, none⟩ (.int .i64 r.bits)).setCell ⟨a, 3, none⟩ (.int .i64 r.rate)).setCell ⟨a, 4, none⟩ (.int .i64 r.vol)).setCell ⟨a, 5, none⟩ (.int .i64 r.pan)).setCell ⟨a, 6, none⟩ (.int .i64 r.fine)).setCell ⟨a, 7, none⟩ (.int .i64 r.loop)).setCell ⟨a, 8, none⟩ (.int .i64 r.start)).setCell ⟨a, 9, none⟩ (.int .i64 r.fin)).setCell ⟨a, 10, none⟩ (.int .i64 r.sus)).setCell ⟨a, 11, none⟩ (.int .i64 r.sstart)).setCell ⟨a, 12, none⟩ (.int .i64 r.sfin)) (a + 2) ga r.dat from hpa.imp id fun ⟨ga, e, ho⟩ => ⟨ga, e, by (have hge := ho.ge; have ho' := ho.mono hV5; exact ((((((((((((((((((((((((((ho').store (by omega) _ _)).store (by omega) _ _)).store (by omega) _ _)).store (by omega) _ _)).store (by omega) _ _)).store (by omega) _ _)).store (by omega) _ _)).store (by omega) _ _)).store (by omega) _ _)).store (by omega) _ _)).store (by omega) _ _)).store (by omega) _ _)).store (by omega) _ _))⟩); clear hpa; have HK6 := Lib.hid (show WK w x p cap b cp g (((((((((((((w5.setCell ⟨a, 0, none⟩ (.string r.name)).setCell ⟨a, 1, none⟩ (.slice pa r.dat.length r.dat.length)).setCell ⟨a, 2, none⟩ (.int .i64 r.bits)).setCell ⟨a, 3, none⟩ (.int .i64 r.rate)).setCell ⟨a, 4, none⟩ (.int .i64 r.vol)).setCell ⟨a, 5, none⟩ (.int .i64 r.pan)).setCell ⟨a, 6, none⟩ (.int .i64 r.fine)).setCell ⟨a, 7, none⟩ (.int .i64 r.loop)).setCell ⟨a, 8, none⟩ (.int .i64 r.start)).setCell ⟨a, 9, none⟩ (.int .i64 r.fin)).setCell ⟨a, 10, none⟩ (.int .i64 r.sus)).setCell ⟨a, 11, none⟩ (.int .i64 r.sstart)).setCell ⟨a, 12, none⟩ (.int .i64 r.sfin)) from ((((((((((((((((((((((((((HK5.out).store nab nacp nag hwa _ _)).store nab nacp nag hwa _ _)).store nab nacp nag hwa _ _)).store nab nacp nag hwa _ _)).store nab nacp nag hwa _ _)).store nab nacp nag hwa _ _)).store nab nacp nag hwa _ _)).store nab nacp nag hwa _ _)).store nab nacp nag hwa _ _)).store nab nacp nag hwa _ _)).store nab nacp nag hwa _ _)).store nab nacp nag hwa _ _)).store nab nacp nag hwa _ _)); have HXA := Lib.hid (show Boxed (((((((((((((w5.setCell ⟨a, 0, none⟩ (.string r.name)).setCell ⟨a, 1, none⟩ (.slice pa r.dat.length r.dat.length)).setCell ⟨a, 2, none⟩ (.int .i64 r.bits)).setCell ⟨a, 3, none⟩ (.int .i64 r.rate)).setCell ⟨a, 4, none⟩ (.int .i64 r.vol)).setCell ⟨a, 5, none⟩ (.int .i64 r.pan)).setCell ⟨a, 6, none⟩ (.int .i64 r.fine)).setCell ⟨a, 7, none⟩ (.int .i64 r.loop)).setCell ⟨a, 8, none⟩ (.int .i64 r.start)).setCell ⟨a, 9, none⟩ (.int .i64 r.fin)).setCell ⟨a, 10, none⟩ (.int .i64 r.sus)).setCell ⟨a, 11, none⟩ (.int .i64 r.sstart)).setCell ⟨a, 12, none⟩ (.int .i64 r.sfin)) a r pa r.dat.length from zb_fill HZA.out r pa r.dat.length); have HZB6 := Lib.hid (show ZB (((((((((((((w5.setCell ⟨a, 0, none⟩ (.string r.name)).setCell ⟨a, 1, none⟩ (.slice pa r.dat.length r.dat.length)).setCell ⟨a, 2, none⟩ (.int .i64 r.bits)).setCell ⟨a, 3, none⟩ (.int .i64 r.rate)).setCell ⟨a, 4, none⟩ (.int .i64 r.vol)).setCell ⟨a, 5, none⟩ (.int .i64 r.pan)).setCell ⟨a, 6, none⟩ (.int .i64 r.fine)).setCell ⟨a, 7, none⟩ (.int .i64 r.loop)).setCell ⟨a, 8, none⟩ (.int .i64 r.start)).setCell ⟨a, 9, none⟩ (.int .i64 r.fin)).setCell ⟨a, 10, none⟩ (.int .i64 r.sus)).setCell ⟨a, 11, none⟩ (.int .i64 r.sstart)).setCell ⟨a, 12, none⟩ (.int .i64 r.sfin)) (a + 1) from ((((((((((((((((((((((((((HZB.out).store na1 _ _)).store na1 _ _)).store na1 _ _)).store na1 _ _)).store na1 _ _)).store na1 _ _)).store na1 _ _)).store na1 _ _)).store na1 _ _)).store na1 _ _)).store na1 _ _)).store na1 _ _)).store na1 _ _)); obtain ⟨⟨z0, z1, z2, z3, z4, z5, z6, z7, z8, z9, z10, z11, z12⟩, fz⟩ := HZA.out; obtain ⟨⟨b0, b1, b2, b3, b4, b5, b6, b7, b8, b9, b10, b11, b12⟩, fb⟩ := HZB6.out; obtain ⟨⟨x0, x1, x2, x3, x4, x5, x6, x7, x8, x9, x10, x11, x12⟩, y13, y14, y15, y16, y17, y18, y19, y20, y21, y22, y23, y24, y25, y26, y27⟩ := HK6.out.ab; obtain ⟨s0, s1, s2, s3, s4, s5, s6, s7, s8, s9, s10, s11, s12⟩ := HK6.out.bx)) | (go_at_call 29; ((with_reducible refine (HR.out _ _ _ (HD0.out.below HK6.out.bel) hcap hnil).mono ?_); rintro z w6 ⟨⟨pb, cb, rfl, hpb⟩, hb6⟩; have HK7 := Lib.hid (HK6.out.kept hb6); have HX7 := Lib.hid (HXA.out.below hb6 (cell_lt HXA.out.1)); have HZ7 := Lib.hid (HZB6.out.kept hb6); have HP7 := Lib.hid (show r.dat = [] ∨ ∃ ga, pa = some ⟨ga, 0, none⟩ ∧ OwnS w6 (a + 2) ga r.dat from HPA.out.imp id fun ⟨ga, e, ho⟩ => ⟨ga, e, ho.kept hb6⟩); have HQ7 := Lib.hid hpb; clear hpb; obtain ⟨⟨b0, b1, b2, b3, b4, b5, b6, b7, b8, b9, b10, b11, b12⟩, fb⟩ := HZ7.out)))
          go_meet
          have hA : r.dat = [] ∨ ∃ ga, pa = some ⟨ga, 0, none⟩ ∧ OwnS (((((((((((((w6.setCell ⟨(a + 1), 0, none⟩ (.string r.name)).setCell ⟨(a + 1), 1, none⟩ (.slice pb r.dat.length cb)).setCell ⟨(a + 1), 2, none⟩ (.int .i64 r.bits)).setCell ⟨(a + 1), 3, none⟩ (.int .i64 r.rate)).setCell ⟨(a + 1), 4, none⟩ (.int .i64 r.vol)).setCell ⟨(a + 1), 5, none⟩ (.int .i64 r.pan)).setCell ⟨(a + 1), 6, none⟩ (.int .i64 r.fine)).setCell ⟨(a + 1), 7, none⟩ (.int .i64 r.loop)).setCell ⟨(a + 1), 8, none⟩ (.int .i64 r.start)).setCell ⟨(a + 1), 9, none⟩ (.int .i64 r.fin)).setCell ⟨(a + 1), 10, none⟩ (.int .i64 r.sus)).setCell ⟨(a + 1), 11, none⟩ (.int .i64 r.sstart)).setCell ⟨(a + 1), 12, none⟩ (.int .i64 r.sfin)) (a + 2) ga r.dat := HP7.out.imp id fun ⟨ga, e, ho⟩ => ⟨ga, e, by
            have hge := ho.ge
            exact ((((((((((((((((((((((((((ho).store (by omega) _ _)).store (by omega) _ _)).store (by omega) _ _)).store (by omega) _ _)).store (by omega) _ _)).store (by omega) _ _)).store (by omega) _ _)).store (by omega) _ _)).store (by omega) _ _)).store (by omega) _ _)).store (by omega) _ _)).store (by omega) _ _)).store (by omega) _ _)⟩
          have hB : DatAt (((((((((((((w6.setCell ⟨(a + 1), 0, none⟩ (.string r.name)).setCell ⟨(a + 1), 1, none⟩ (.slice pb r.dat.length cb)).setCell ⟨(a + 1), 2, none⟩ (.int .i64 r.bits)).setCell ⟨(a + 1), 3, none⟩ (.int .i64 r.rate)).setCell ⟨(a + 1), 4, none⟩ (.int .i64 r.vol)).setCell ⟨(a + 1), 5, none⟩ (.int .i64 r.pan)).setCell ⟨(a + 1), 6, none⟩ (.int .i64 r.fine)).setCell ⟨(a + 1), 7, none⟩ (.int .i64 r.loop)).setCell ⟨(a + 1), 8, none⟩ (.int .i64 r.start)).setCell ⟨(a + 1), 9, none⟩ (.int .i64 r.fin)).setCell ⟨(a + 1), 10, none⟩ (.int .i64 r.sus)).setCell ⟨(a + 1), 11, none⟩ (.int .i64 r.sstart)).setCell ⟨(a + 1), 12, none⟩ (.int .i64 r.sfin)) pb r.dat := by
            rcases HQ7.out with h | ⟨gb, e, hdt, hge⟩
            · exact .inl h
            · subst e
              have hge2 : w5.heap.size ≤ gb := by simpa [World.setCell] using hge
              iterate 13 (refine dat_store ?_ (by omega) _ _)
              exact hdt
          exact ⟨r, er, rfl, rfl, ⟨((((((((((((((((((((((((((HK7.out).store nbb nbcp nbg hwb _ _)).store nbb nbcp nbg hwb _ _)).store nbb nbcp nbg hwb _ _)).store nbb nbcp nbg hwb _ _)).store nbb nbcp nbg hwb _ _)).store nbb nbcp nbg hwb _ _)).store nbb nbcp nbg hwb _ _)).store nbb nbcp nbg hwb _ _)).store nbb nbcp nbg hwb _ _)).store nbb nbcp nbg hwb _ _)).store nbb nbcp nbg hwb _ _)).store nbb nbcp nbg hwb _ _)).store nbb nbcp nbg hwb _ _), ⟨pa, ((((((((((((((((((((((((((HX7.out).store na2 _ _)).store na2 _ _)).store na2 _ _)).store na2 _ _)).store na2 _ _)).store na2 _ _)).store na2 _ _)).store na2 _ _)).store na2 _ _)).store na2 _ _)).store na2 _ _)).store na2 _ _)).store na2 _ _), hA⟩, ⟨pb, cb, zb_fill HZ7.out r pb cb, hB⟩, HVL.out, HLN.out, HNM.out⟩⟩
        · obtain ⟨r, er, hvl, hln, hnm, hp, hr⟩ := pairw_amplify x.s HM.out x.num x.den
          have HP := Lib.hid hp
          have HR := Lib.hid hr
          have HVL := Lib.hid hvl
          have HLN := Lib.hid hln
          have HNM := Lib.hid hnm
          clear hp hr hvl hln hnm
          unfold SV at HP HR
          unfold RetWP SV at HP
          unfold RetWR SV at HR
          go_wp2_with (first | (go_at_call 30; ((with_reducible refine (HP.out _ _ _ HDc.out hcp1).mono ?_); rintro z w5 ⟨⟨pa, rfl, hpa⟩, hb5⟩; have hz5 : a + 2 ≤ w5.heap.size := Nat.le_trans hV5 hb5.size; have HK5 := Lib.hid (HKV.out.kept hb5); have HZA := Lib.hid (HZa.out.kept hb5); have HZB := Lib.hid (HZb.out.kept hb5); have HPA := Lib.hid (show r.dat = [] ∨ ∃ ga, pa = some ⟨ga, 0, none⟩ ∧ OwnS (((((((((((((w5.setCell ⟨a, 0, none⟩ (.string r.name)).setCell ⟨a, 1, none⟩ (.slice pa r.dat.length r.dat.length)).setCell ⟨a, 2, none⟩ (.int .i64 r.bits)).setCell ⟨a, 3, none⟩ (.int .i64 r.rate)).setCell ⟨a, 4, none⟩ (.int .i64 r.vol)).setCell ⟨a, 5, none⟩ (.int .i64 r.pan)).setCell ⟨a, 6, none⟩ (.int .i64 r.fine)).setCell ⟨a, 7, none⟩ (.int .i64 r.loop)).setCell ⟨a, 8, none⟩ (.int .i64 r.start)).setCell ⟨a, 9, none⟩ (.int .i64 r.fin)).setCell ⟨a, 10, none⟩ (.int .i64 r.sus)).setCell ⟨a, 11, none⟩ (.int .i64 r.sstart)).setCell ⟨a, 12, none⟩ (.int .i64 r.sfin)) (a + 2) ga r.dat from hpa.imp id fun ⟨ga, e, ho⟩ => ⟨ga, e, by (have hge := ho.ge; have ho' := ho.mono hV5; exact ((((((((((((((((((((((((((ho').store (by omega) _ _)).store (by omega) _ _)).store (by omega) _ _)).store (by omega) _ _)).store (by omega) _ _)).store (by omega) _ _)).store (by omega) _ _)).store (by omega) _ _)).store (by omega) _ _)).store (by omega) _ _)).store (by omega) _ _)).store (by omega) _ _)).store (by omega) _ _))⟩); clear hpa; have HK6 := Lib.hid (show WK w x p cap b cp g (((((((((((((w5.setCell ⟨a, 0, none⟩ (.string r.name)).setCell ⟨a, 1, none⟩ (.slice pa r.dat.length r.dat.length)).setCell ⟨a, 2, none⟩ (.int .i64 r.bits)).setCell ⟨a, 3, none⟩ (.int .i64 r.rate)).setCell ⟨a, 4, none⟩ (.int .i64 r.vol)).setCell ⟨a, 5, none⟩ (.int .i64 r.pan)).setCell ⟨a, 6, none⟩ (.int .i64 r.fine)).setCell ⟨a, 7, none⟩ (.int .i64 r.loop)).setCell ⟨a, 8, none⟩ (.int .i64 r.start)).setCell ⟨a, 9, none⟩ (.int .i64 r.fin)).setCell ⟨a, 10, none⟩ (.int .i64 r.sus)).setCell ⟨a, 11, none⟩ (.int .i64 r.sstart)).setCell ⟨a, 12, none⟩ (.int .i64 r.sfin)) from ((((((((((((((((((((((((((HK5.out).store nab nacp nag hwa _ _)).store nab nacp nag hwa _ _)).store nab nacp nag hwa _ _)).store nab nacp nag hwa _ _)).store nab nacp nag hwa _ _)).store nab nacp nag hwa _ _)).store nab nacp nag hwa _ _)).store nab nacp nag hwa _ _)).store nab nacp nag hwa _ _)).store nab nacp nag hwa _ _)).store nab nacp nag hwa _ _)).store nab nacp nag hwa _ _)).store nab nacp nag hwa _ _)); have HXA := Lib.hid (show Boxed (((((((((((((w5.setCell ⟨a, 0, none⟩ (.string r.name)).setCell ⟨a, 1, none⟩ (.slice pa r.dat.length r.dat.length)).setCell ⟨a, 2, none⟩ (.int .i64 r.bits)).setCell ⟨a, 3, none⟩ (.int .i64 r.rate)).setCell ⟨a, 4, none⟩ (.int .i64 r.vol)).setCell ⟨a, 5, none⟩ (.int .i64 r.pan)).setCell ⟨a, 6, none⟩ (.int .i64 r.fine)).setCell ⟨a, 7, none⟩ (.int .i64 r.loop)).setCell ⟨a, 8, none⟩ (.int .i64 r.start)).setCell ⟨a, 9, none⟩ (.int .i64 r.fin)).setCell ⟨a, 10, none⟩ (.int .i64 r.sus)).setCell ⟨a, 11, none⟩ (.int .i64 r.sstart)).setCell ⟨a, 12, none⟩ (.int .i64 r.sfin)) a r pa r.dat.length from zb_fill HZA.out r pa r.dat.length); have HZB6 := Lib.hid (show ZB (((((((((((((w5.setCell ⟨a, 0, none⟩ (.string r.name)).setCell ⟨a, 1, none⟩ (.slice pa r.dat.length r.dat.length)).setCell ⟨a, 2, none⟩ (.int .i64 r.bits)).setCell ⟨a, 3, none⟩ (.int .i64 r.rate)).setCell ⟨a, 4, none⟩ (.int .i64 r.vol)).setCell ⟨a, 5, none⟩ (.int .i64 r.pan)).setCell ⟨a, 6, none⟩ (.int .i64 r.fine)).setCell ⟨a, 7, none⟩ (.int .i64 r.loop)).setCell ⟨a, 8, none⟩ (.int .i64 r.start)).setCell ⟨a, 9, none⟩ (.int .i64 r.fin)).setCell ⟨a, 10, none⟩ (.int .i64 r.sus)).setCell ⟨a, 11, none⟩ (.int .i64 r.sstart)).setCell ⟨a, 12, none⟩ (.int .i64 r.sfin)) (a + 1) from ((((((((((((((((((((((((((HZB.out).store na1 _ _)).store na1 _ _)).store na1 _ _)).store na1 _ _)).store na1 _ _)).store na1 _ _)).store na1 _ _)).store na1 _ _)).store na1 _ _)).store na1 _ _)).store na1 _ _)).store na1 _ _)).store na1 _ _)); obtain ⟨⟨z0, z1, z2, z3, z4, z5, z6, z7, z8, z9, z10, z11, z12⟩, fz⟩ := HZA.out; obtain ⟨⟨b0, b1, b2, b3, b4, b5, b6, b7, b8, b9, b10, b11, b12⟩, fb⟩ := HZB6.out; obtain ⟨⟨x0, x1, x2, x3, x4, x5, x6, x7, x8, x9, x10, x11, x12⟩, y13, y14, y15, y16, y17, y18, y19, y20, y21, y22, y23, y24, y25, y26, y27⟩ := HK6.out.ab; obtain ⟨s0, s1, s2, s3, s4, s5, s6, s7, s8, s9, s10, s11, s12⟩ := HK6.out.bx)) | (go_at_call 31; ((with_reducible refine (HR.out _ _ _ (HD0.out.below HK6.out.bel) hcap hnil).mono ?_); rintro z w6 ⟨⟨pb, cb, rfl, hpb⟩, hb6⟩; have HK7 := Lib.hid (HK6.out.kept hb6); have HX7 := Lib.hid (HXA.out.below hb6 (cell_lt HXA.out.1)); have HZ7 := Lib.hid (HZB6.out.kept hb6); have HP7 := Lib.hid (show r.dat = [] ∨ ∃ ga, pa = some ⟨ga, 0, none⟩ ∧ OwnS w6 (a + 2) ga r.dat from HPA.out.imp id fun ⟨ga, e, ho⟩ => ⟨ga, e, ho.kept hb6⟩); have HQ7 := Lib.hid hpb; clear hpb; obtain ⟨⟨b0, b1, b2, b3, b4, b5, b6, b7, b8, b9, b10, b11, b12⟩, fb⟩ := HZ7.out)))
          go_meet
          have hA : r.dat = [] ∨ ∃ ga, pa = some ⟨ga, 0, none⟩ ∧ OwnS (((((((((((((w6.setCell ⟨(a + 1), 0, none⟩ (.string r.name)).setCell ⟨(a + 1), 1, none⟩ (.slice pb r.dat.length cb)).setCell ⟨(a + 1), 2, none⟩ (.int .i64 r.bits)).setCell ⟨(a + 1), 3, none⟩ (.int .i64 r.rate)).setCell ⟨(a + 1), 4, none⟩ (.int .i64 r.vol)).setCell ⟨(a + 1), 5, none⟩ (.int .i64 r.pan)).setCell ⟨(a + 1), 6, none⟩ (.int .i64 r.fine)).setCell ⟨(a + 1), 7, none⟩ (.int .i64 r.loop)).setCell ⟨(a + 1), 8, none⟩ (.int .i64 r.start)).setCell ⟨(a + 1), 9, none⟩ (.int .i64 r.fin)).setCell ⟨(a + 1), 10, none⟩ (.int .i64 r.sus)).setCell ⟨(a + 1), 11, none⟩ (.int .i64 r.sstart)).setCell ⟨(a + 1), 12, none⟩ (.int .i64 r.sfin)) (a + 2) ga r.dat := HP7.out.imp id fun ⟨ga, e, ho⟩ => ⟨ga, e, by
            have hge := ho.ge
            exact ((((((((((((((((((((((((((ho).store (by omega) _ _)).store (by omega) _ _)).store (by omega) _ _)).store (by omega) _ _)).store (by omega) _ _)).store (by omega) _ _)).store (by omega) _ _)).store (by omega) _ _)).store (by omega) _ _)).store (by omega) _ _)).store (by omega) _ _)).store (by omega) _ _)).store (by omega) _ _)⟩
          have hB : DatAt (((((((((((((w6.setCell ⟨(a + 1), 0, none⟩ (.string r.name)).setCell ⟨(a + 1), 1, none⟩ (.slice pb r.dat.length cb)).setCell ⟨(a + 1), 2, none⟩ (.int .i64 r.bits)).setCell ⟨(a + 1), 3, none⟩ (.int .i64 r.rate)).setCell ⟨(a + 1), 4, none⟩ (.int .i64 r.vol)).setCell ⟨(a + 1), 5, none⟩ (.int .i64 r.pan)).setCell ⟨(a + 1), 6, none⟩ (.int .i64 r.fine)).setCell ⟨(a + 1), 7, none⟩ (.int .i64 r.loop)).setCell ⟨(a + 1), 8, none⟩ (.int .i64 r.start)).setCell ⟨(a + 1), 9, none⟩ (.int .i64 r.fin)).setCell ⟨(a + 1), 10, none⟩ (.int .i64 r.sus)).setCell ⟨(a + 1), 11, none⟩ (.int .i64 r.sstart)).setCell ⟨(a + 1), 12, none⟩ (.int .i64 r.sfin)) pb r.dat := by
            rcases HQ7.out with h | ⟨gb, e, hdt, hge⟩
            · exact .inl h
            · subst e
              have hge2 : w5.heap.size ≤ gb := by simpa [World.setCell] using hge
              iterate 13 (refine dat_store ?_ (by omega) _ _)
              exact hdt
          exact ⟨r, er, rfl, rfl, ⟨((((((((((((((((((((((((((HK7.out).store nbb nbcp nbg hwb _ _)).store nbb nbcp nbg hwb _ _)).store nbb nbcp nbg hwb _ _)).store nbb nbcp nbg hwb _ _)).store nbb nbcp nbg hwb _ _)).store nbb nbcp nbg hwb _ _)).store nbb nbcp nbg hwb _ _)).store nbb nbcp nbg hwb _ _)).store nbb nbcp nbg hwb _ _)).store nbb nbcp nbg hwb _ _)).store nbb nbcp nbg hwb _ _)).store nbb nbcp nbg hwb _ _)).store nbb nbcp nbg hwb _ _), ⟨pa, ((((((((((((((((((((((((((HX7.out).store na2 _ _)).store na2 _ _)).store na2 _ _)).store na2 _ _)).store na2 _ _)).store na2 _ _)).store na2 _ _)).store na2 _ _)).store na2 _ _)).store na2 _ _)).store na2 _ _)).store na2 _ _)).store na2 _ _), hA⟩, ⟨pb, cb, zb_fill HZ7.out r pb cb, hB⟩, HVL.out, HLN.out, HNM.out⟩⟩
        · obtain ⟨r, er, hvl, hln, hnm, hp, hr⟩ := pairw_convert x.s HM.out x.bits
          have HP := Lib.hid hp
          have HR := Lib.hid hr
          have HVL := Lib.hid hvl
          have HLN := Lib.hid hln
          have HNM := Lib.hid hnm
          clear hp hr hvl hln hnm
          unfold SV at HP HR
          unfold RetWP SV at HP
          unfold RetWR SV at HR
          go_wp2_with (first | (go_at_call 32; ((with_reducible refine (HP.out _ _ _ HDc.out hcp1).mono ?_); rintro z w5 ⟨⟨pa, rfl, hpa⟩, hb5⟩; have hz5 : a + 2 ≤ w5.heap.size := Nat.le_trans hV5 hb5.size; have HK5 := Lib.hid (HKV.out.kept hb5); have HZA := Lib.hid (HZa.out.kept hb5); have HZB := Lib.hid (HZb.out.kept hb5); have HPA := Lib.hid (show r.dat = [] ∨ ∃ ga, pa = some ⟨ga, 0, none⟩ ∧ OwnS (((((((((((((w5.setCell ⟨a, 0, none⟩ (.string r.name)).setCell ⟨a, 1, none⟩ (.slice pa r.dat.length r.dat.length)).setCell ⟨a, 2, none⟩ (.int .i64 r.bits)).setCell ⟨a, 3, none⟩ (.int .i64 r.rate)).setCell ⟨a, 4, none⟩ (.int .i64 r.vol)).setCell ⟨a, 5, none⟩ (.int .i64 r.pan)).setCell ⟨a, 6, none⟩ (.int .i64 r.fine)).setCell ⟨a, 7, none⟩ (.int .i64 r.loop)).setCell ⟨a, 8, none⟩ (.int .i64 r.start)).setCell ⟨a, 9, none⟩ (.int .i64 r.fin)).setCell ⟨a, 10, none⟩ (.int .i64 r.sus)).setCell ⟨a, 11, none⟩ (.int .i64 r.sstart)).setCell ⟨a, 12, none⟩ (.int .i64 r.sfin)) (a + 2) ga r.dat from hpa.imp id fun ⟨ga, e, ho⟩ => ⟨ga, e, by (have hge := ho.ge; have ho' := ho.mono hV5; exact ((((((((((((((((((((((((((ho').store (by omega) _ _)).store (by omega) _ _)).store (by omega) _ _)).store (by omega) _ _)).store (by omega) _ _)).store (by omega) _ _)).store (by omega) _ _)).store (by omega) _ _)).store (by omega) _ _)).store (by omega) _ _)).store (by omega) _ _)).store (by omega) _ _)).store (by omega) _ _))⟩); clear hpa; have HK6 := Lib.hid (show WK w x p cap b cp g (((((((((((((w5.setCell ⟨a, 0, none⟩ (.string r.name)).setCell ⟨a, 1, none⟩ (.slice pa r.dat.length r.dat.length)).setCell ⟨a, 2, none⟩ (.int .i64 r.bits)).setCell ⟨a, 3, none⟩ (.int .i64 r.rate)).setCell ⟨a, 4, none⟩ (.int .i64 r.vol)).setCell ⟨a, 5, none⟩ (.int .i64 r.pan)).setCell ⟨a, 6, none⟩ (.int .i64 r.fine)).setCell ⟨a, 7, none⟩ (.int .i64 r.loop)).setCell ⟨a, 8, none⟩ (.int .i64 r.start)).setCell ⟨a, 9, none⟩ (.int .i64 r.fin)).setCell ⟨a, 10, none⟩ (.int .i64 r.sus)).setCell ⟨a, 11, none⟩ (.int .i64 r.sstart)).setCell ⟨a, 12, none⟩ (.int .i64 r.sfin)) from ((((((((((((((((((((((((((HK5.out).store nab nacp nag hwa _ _)).store nab nacp nag hwa _ _)).store nab nacp nag hwa _ _)).store nab nacp nag hwa _ _)).store nab nacp nag hwa _ _)).store nab nacp nag hwa _ _)).store nab nacp nag hwa _ _)).store nab nacp nag hwa _ _)).store nab nacp nag hwa _ _)).store nab nacp nag hwa _ _)).store nab nacp nag hwa _ _)).store nab nacp nag hwa _ _)).store nab nacp nag hwa _ _)); have HXA := Lib.hid (show Boxed (((((((((((((w5.setCell ⟨a, 0, none⟩ (.string r.name)).setCell ⟨a, 1, none⟩ (.slice pa r.dat.length r.dat.length)).setCell ⟨a, 2, none⟩ (.int .i64 r.bits)).setCell ⟨a, 3, none⟩ (.int .i64 r.rate)).setCell ⟨a, 4, none⟩ (.int .i64 r.vol)).setCell ⟨a, 5, none⟩ (.int .i64 r.pan)).setCell ⟨a, 6, none⟩ (.int .i64 r.fine)).setCell ⟨a, 7, none⟩ (.int .i64 r.loop)).setCell ⟨a, 8, none⟩ (.int .i64 r.start)).setCell ⟨a, 9, none⟩ (.int .i64 r.fin)).setCell ⟨a, 10, none⟩ (.int .i64 r.sus)).setCell ⟨a, 11, none⟩ (.int .i64 r.sstart)).setCell ⟨a, 12, none⟩ (.int .i64 r.sfin)) a r pa r.dat.length from zb_fill HZA.out r pa r.dat.length); have HZB6 := Lib.hid (show ZB (((((((((((((w5.setCell ⟨a, 0, none⟩ (.string r.name)).setCell ⟨a, 1, none⟩ (.slice pa r.dat.length r.dat.length)).setCell ⟨a, 2, none⟩ (.int .i64 r.bits)).setCell ⟨a, 3, none⟩ (.int .i64 r.rate)).setCell ⟨a, 4, none⟩ (.int .i64 r.vol)).setCell ⟨a, 5, none⟩ (.int .i64 r.pan)).setCell ⟨a, 6, none⟩ (.int .i64 r.fine)).setCell ⟨a, 7, none⟩ (.int .i64 r.loop)).setCell ⟨a, 8, none⟩ (.int .i64 r.start)).setCell ⟨a, 9, none⟩ (.int .i64 r.fin)).setCell ⟨a, 10, none⟩ (.int .i64 r.sus)).setCell ⟨a, 11, none⟩ (.int .i64 r.sstart)).setCell ⟨a, 12, none⟩ (.int .i64 r.sfin)) (a + 1) from ((((((((((((((((((((((((((HZB.out).store na1 _ _)).store na1 _ _)).store na1 _ _)).store na1 _ _)).store na1 _ _)).store na1 _ _)).store na1 _ _)).store na1 _ _)).store na1 _ _)).store na1 _ _)).store na1 _ _)).store na1 _ _)).store na1 _ _)); obtain ⟨⟨z0, z1, z2, z3, z4, z5, z6, z7, z8, z9, z10, z11, z12⟩, fz⟩ := HZA.out; obtain ⟨⟨b0, b1, b2, b3, b4, b5, b6, b7, b8, b9, b10, b11, b12⟩, fb⟩ := HZB6.out; obtain ⟨⟨x0, x1, x2, x3, x4, x5, x6, x7, x8, x9, x10, x11, x12⟩, y13, y14, y15, y16, y17, y18, y19, y20, y21, y22, y23, y24, y25, y26, y27⟩ := HK6.out.ab; obtain ⟨s0, s1, s2, s3, s4, s5, s6, s7, s8, s9, s10, s11, s12⟩ := HK6.out.bx)) | (go_at_call 33; ((with_reducible refine (HR.out _ _ _ (HD0.out.below HK6.out.bel) hcap hnil).mono ?_); rintro z w6 ⟨⟨pb, cb, rfl, hpb⟩, hb6⟩; have HK7 := Lib.hid (HK6.out.kept hb6); have HX7 := Lib.hid (HXA.out.below hb6 (cell_lt HXA.out.1)); have HZ7 := Lib.hid (HZB6.out.kept hb6); have HP7 := Lib.hid (show r.dat = [] ∨ ∃ ga, pa = some ⟨ga, 0, none⟩ ∧ OwnS w6 (a + 2) ga r.dat from HPA.out.imp id fun ⟨ga, e, ho⟩ => ⟨ga, e, ho.kept hb6⟩); have HQ7 := Lib.hid hpb; clear hpb; obtain ⟨⟨b0, b1, b2, b3, b4, b5, b6, b7, b8, b9, b10, b11, b12⟩, fb⟩ := HZ7.out)))
          go_meet
          have hA : r.dat = [] ∨ ∃ ga, pa = some ⟨ga, 0, none⟩ ∧ OwnS (((((((((((((w6.setCell ⟨(a + 1), 0, none⟩ (.string r.name)).setCell ⟨(a + 1), 1, none⟩ (.slice pb r.dat.length cb)).setCell ⟨(a + 1), 2, none⟩ (.int .i64 r.bits)).setCell ⟨(a + 1), 3, none⟩ (.int .i64 r.rate)).setCell ⟨(a + 1), 4, none⟩ (.int .i64 r.vol)).setCell ⟨(a + 1), 5, none⟩ (.int .i64 r.pan)).setCell ⟨(a + 1), 6, none⟩ (.int .i64 r.fine)).setCell ⟨(a + 1), 7, none⟩ (.int .i64 r.loop)).setCell ⟨(a + 1), 8, none⟩ (.int .i64 r.start)).setCell ⟨(a + 1), 9, none⟩ (.int .i64 r.fin)).setCell ⟨(a + 1), 10, none⟩ (.int .i64 r.sus)).setCell ⟨(a + 1), 11, none⟩ (.int .i64 r.sstart)).setCell ⟨(a + 1), 12, none⟩ (.int .i64 r.sfin)) (a + 2) ga r.dat := HP7.out.imp id fun ⟨ga, e, ho⟩ => ⟨ga, e, by
            have hge := ho.ge
            exact ((((((((((((((((((((((((((ho).store (by omega) _ _)).store (by omega) _ _)).store (by omega) _ _)).store (by omega) _ _)).store (by omega) _ _)).store (by omega) _ _)).store (by omega) _ _)).store (by omega) _ _)).store (by omega) _ _)).store (by omega) _ _)).store (by omega) _ _)).store (by omega) _ _)).store (by omega) _ _)⟩
          have hB : DatAt (((((((((((((w6.setCell ⟨(a + 1), 0, none⟩ (.string r.name)).setCell ⟨(a + 1), 1, none⟩ (.slice pb r.dat.length cb)).setCell ⟨(a + 1), 2, none⟩ (.int .i64 r.bits)).setCell ⟨(a + 1), 3, none⟩ (.int .i64 r.rate)).setCell ⟨(a + 1), 4, none⟩ (.int .i64 r.vol)).setCell ⟨(a + 1), 5, none⟩ (.int .i64 r.pan)).setCell ⟨(a + 1), 6, none⟩ (.int .i64 r.fine)).setCell ⟨(a + 1), 7, none⟩ (.int .i64 r.loop)).setCell ⟨(a + 1), 8, none⟩ (.int .i64 r.start)).setCell ⟨(a + 1), 9, none⟩ (.int .i64 r.fin)).setCell ⟨(a + 1), 10, none⟩ (.int .i64 r.sus)).setCell ⟨(a + 1), 11, none⟩ (.int .i64 r.sstart)).setCell ⟨(a + 1), 12, none⟩ (.int .i64 r.sfin)) pb r.dat := by
            rcases HQ7.out with h | ⟨gb, e, hdt, hge⟩
            · exact .inl h
            · subst e
              have hge2 : w5.heap.size ≤ gb := by simpa [World.setCell] using hge
              iterate 13 (refine dat_store ?_ (by omega) _ _)
              exact hdt
          exact ⟨r, er, rfl, rfl, ⟨((((((((((((((((((((((((((HK7.out).store nbb nbcp nbg hwb _ _)).store nbb nbcp nbg hwb _ _)).store nbb nbcp nbg hwb _ _)).store nbb nbcp nbg hwb _ _)).store nbb nbcp nbg hwb _ _)).store nbb nbcp nbg hwb _ _)).store nbb nbcp nbg hwb _ _)).store nbb nbcp nbg hwb _ _)).store nbb nbcp nbg hwb _ _)).store nbb nbcp nbg hwb _ _)).store nbb nbcp nbg hwb _ _)).store nbb nbcp nbg hwb _ _)).store nbb nbcp nbg hwb _ _), ⟨pa, ((((((((((((((((((((((((((HX7.out).store na2 _ _)).store na2 _ _)).store na2 _ _)).store na2 _ _)).store na2 _ _)).store na2 _ _)).store na2 _ _)).store na2 _ _)).store na2 _ _)).store na2 _ _)).store na2 _ _)).store na2 _ _)).store na2 _ _), hA⟩, ⟨pb, cb, zb_fill HZ7.out r pb cb, hB⟩, HVL.out, HLN.out, HNM.out⟩⟩
      case rest =>
        obtain ⟨r, er, rfl, rfl, hsw⟩ := hcut
        have HSW := Lib.hid hsw
        obtain ⟨pa, hxa, hoa⟩ := hsw.fa
        obtain ⟨pb, cb, hxb, hdb⟩ := hsw.fb
        have hln := hsw.ln
        have HXA := Lib.hid hxa
        have HDB := Lib.hid hdb
        have HDA := Lib.hid (show DatAt _ pa r.dat from by
          rcases hoa with h | ⟨ga, e, ho⟩
          · exact .inl h
          · subst e; exact ho.dat)
        obtain ⟨a0, a1, a2, a3, a4, a5, a6, a7, a8, a9, a10, a11, a12⟩ := hxa
        obtain ⟨b0, b1, b2, b3, b4, b5, b6, b7, b8, b9, b10, b11, b12⟩ := hxb
        clear hsw hoa hdb HKV HZa HZb
        go_upto_region 19 with fail
        go_cut [105] (fun t wx => t = .bool false ∧ Hid (SW w x p cap b cp g a r er wx))
        case first =>
          by_cases he : er = 0
          · have HVv := Lib.hid (fun w' hd => HVa.out r pa r.dat.length w' HSW.out.nm hd (HSW.out.vl he))
            subst he
            go_wp2_with (first | (go_at_call 34; ((with_reducible refine (HAl.out r pa pb r.dat.length cb _ HDA.out HDB.out (by omega)).mono ?_); rintro z w7 ⟨rfl, hb7⟩; have HX7 := Lib.hid (HXA.out.below hb7 (cell_lt HXA.out.1)); obtain ⟨a0, a1, a2, a3, a4, a5, a6, a7, a8, a9, a10, a11, a12⟩ := HX7.out)) | (go_at_call 13; ((with_reducible refine (HVv.out _ (HDA.out.below hb7)).mono ?_); rintro z w8 ⟨rfl, hb8⟩)))
            go_meet
            exact ⟨rfl, (HSW.out.kept hb7).kept hb8⟩
          · have he' : (er == 0) = false := by simpa using he
            clear he
            go_wp2_with (first | (go_at_call 34; ((with_reducible refine (HAl.out r pa pb r.dat.length cb _ HDA.out HDB.out (by omega)).mono ?_); rintro z w7 ⟨rfl, hb7⟩; have HX7 := Lib.hid (HXA.out.below hb7 (cell_lt HXA.out.1)); obtain ⟨a0, a1, a2, a3, a4, a5, a6, a7, a8, a9, a10, a11, a12⟩ := HX7.out)))
            go_meet
            exact ⟨rfl, HSW.out.kept hb7⟩
        case rest =>
          obtain ⟨rfl, hsw2⟩ := hcut
          clear HSW HXA HDB HDA a0 a1 a2 a3 a4 a5 a6 a7 a8 a9 a10 a11 a12 b0 b1 b2 b3 b4 b5 b6 b7 b8 b9 b10 b11 b12
          obtain ⟨pa2, hxa, hoa⟩ := hsw2.out.fa
          have HXA := Lib.hid hxa
          have HOA := Lib.hid hoa
          obtain ⟨a0, a1, a2, a3, a4, a5, a6, a7, a8, a9, a10, a11, a12⟩ := hxa
          clear hoa
          go_wp2_with fail
          go_loopw [109] (fun i wr2 => IL w x p cap b cp g a r pa2 i wr2) (fun i _ => r.dat.length - (intOf i).toNat)
          case atStart => exact ⟨⟨0, by omega, rfl, hsw2.out.wk, HXA.out, HOA.out.imp id fun ⟨ga, e, ho⟩ => ⟨ga, _, e, ho⟩⟩⟩
          case round =>
            clear HXA HOA hsw2
            obtain ⟨j, hj, rfl, HK2, HX2, HO2⟩ := hrel.out
            clear hrel
            by_cases hjl : j < r.dat.length
            · rcases HO2.out with h | ⟨ga, xs, e, ho⟩
              · rw [h] at hjl; simp at hjl
              · subst e
                have hge := (World.ownsRow.lt ho ga rfl).1
                have hxl := ho.1
                obtain ⟨u, hu⟩ : ∃ u, xs[j]? = some u := ⟨_, List.getElem?_eq_getElem (by omega)⟩
                have c0 := (ho.cellAt j (by omega)).trans hu
                have c1 := ho.frozenAt j
                have HO3 := Lib.hid ho
                clear hu ho HO2
                clear hxl
                obtain ⟨a0, a1, a2, a3, a4, a5, a6, a7, a8, a9, a10, a11, a12⟩ := HX2.out
                go_wp2
                go_roundw
                case rel => exact ⟨⟨j + 1, by omega, by go_num, HK2.out.store (by omega) (by omega) (by omega) (by omega) _ _, HX2.out.store (by omega) _ _, .inr ⟨ga, _, rfl, (HO3.out.stored j _).1⟩⟩⟩
                case measure => simp [intOf]; omega
            · obtain ⟨⟨x0, x1, x2, x3, x4, x5, x6, x7, x8, x9, x10, x11, x12⟩, y13, y14, y15, y16, y17, y18, y19, y20, y21, y22, y23, y24, y25, y26, y27⟩ := HK2.out.ab
              obtain ⟨s0, s1, s2, s3, s4, s5, s6, s7, s8, s9, s10, s11, s12⟩ := HK2.out.bx
              go_wp2_with (first | (go_at_call 21; ((with_reducible refine (HUt.out _ _ HK2.out.cop (HD0.out.below HK2.out.bel)).mono ?_); rintro z w9 ⟨rfl, hb9⟩)))
              go_roundw
              case rel => exact ⟨⟨k + 1, by omega, by go_num, HK2.out.kept hb9⟩⟩
              case measure => simp [intOf]; omega
    · go_wp2_with (first | (go_at_call 22; ((with_reducible refine (p_awake _).mono ?_); rintro z w9 ⟨rfl, hb9⟩)))
      go_ret
      exact ⟨rfl, stepB HK.out.bel hb9⟩
end Go.Proofs.Ytmaldhjcdkidmaa

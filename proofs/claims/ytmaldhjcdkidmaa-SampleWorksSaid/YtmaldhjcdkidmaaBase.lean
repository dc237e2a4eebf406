/-
  Words and small lemmas for package sample: a sample as a value and as a block, cursors as results, what stays behind a call that changes nothing of what was there; and which samples, loops and cursors are valid. No walk.
-/
import Derived.Test.YtmaldhjcdkidmaaChecked
import Derived.Test.YtmaldhjcdkidmaaSmp
import Derived.Test.YtmaldhjcdkidmaaCur
import Derived.LoopTactic
import Derived.Lib.Hide
import Derived.Deep.QuietTactic
import Derived.BigQuiet
import Derived.Deep.Draws
namespace Go.Proofs.Ytmaldhjcdkidmaa
open Go.RowKit

theorem ret_bool {a b : Bool} (h : a = b) : Ending.returned (.bool a) = .returned (.bool b) := by rw [h]

theorem lpd_zero {s e n : Int} : Sm.lpd 0 s e n = decide (s = 0 ∧ e = 0) := by simp [Sm.lpd]
theorem lpd_one {k s e n : Int} (h : k = 1 ∨ k = 2) : Sm.lpd k s e n = decide (0 ≤ s ∧ s < e ∧ e ≤ n) := by
  unfold Sm.lpd; congr 1; apply propext; omega
theorem lpd_else {k s e n : Int} (h0 : k ≠ 0) (h1 : k ≠ 1) (h2 : k ≠ 2) : Sm.lpd k s e n = false := by
  unfold Sm.lpd; simp; omega
theorem nmd_long {s : ByteArray} (h : 22 < (s.size : Int)) : Sm.nmd s = false := by
  unfold Sm.nmd; rw [decide_eq_false (by omega)]; rfl
theorem nmd_bad {s : ByteArray} (i : Nat) (hi : i < s.size) (h : (s[i].toNat : Int) < 32 ∨ 126 < (s[i].toNat : Int)) : Sm.nmd s = false := by
  rw [Bool.eq_false_iff]
  intro hn
  have := (Sm.nmd_yes hn).2 i hi
  omega
theorem ret_int {k : IntKind} {a b : Int} (h : a = b) : Ending.returned (.int k a) = .returned (.int k b) := by rw [h]
/-- A call has returned this cursor: its four fields, written out. -/
def RetCur (c : Sm.Cur) (e : Ending) : Prop := ∃ p fr bk dn, e = .returned (.agg #[.int .i64 p, .int .i64 fr, .bool bk, .bool dn]) ∧ Hid (c = ⟨p, fr, bk, dn⟩)
theorem retCur (c : Sm.Cur) : RetCur c (.returned (.agg #[.int .i64 c.pos, .int .i64 c.frac, .bool c.back, .bool c.done])) := ⟨_, _, _, _, rfl, rfl⟩
/-- The four cells of a block that was made ahead of a call that changed nothing of what was there. -/
theorem kept4 {w w' : World} {a b c d : Value} {t : TypeId} (hb : Below (w.alloc (.cells #[a, b, c, d] t)).heap.size (w.alloc (.cells #[a, b, c, d] t)) w') :
    (w'.cell? ⟨w.heap.size, 0, none⟩ = some a ∧ w'.cell? ⟨w.heap.size, 1, none⟩ = some b ∧ w'.cell? ⟨w.heap.size, 2, none⟩ = some c ∧ w'.cell? ⟨w.heap.size, 3, none⟩ = some d) ∧
    ∀ j, w'.frozen? ⟨w.heap.size, j, none⟩ = false := by
  have hl : w.heap.size < (w.alloc (.cells #[a, b, c, d] t)).heap.size := by simp
  refine ⟨⟨?_, ?_, ?_, ?_⟩, fun j => ?_⟩
  · rw [hb.cell hl]; simp [World.cell?_alloc_new]
  · rw [hb.cell hl]; simp [World.cell?_alloc_new]
  · rw [hb.cell hl]; simp [World.cell?_alloc_new]
  · rw [hb.cell hl]; simp [World.cell?_alloc_new]
  · rw [hb.frozen hl]; exact World.frozen?_alloc_at _ _ _ _ rfl

theorem end4 {w w' : World} {o : Obj} (a b c d : Value) (hb : Below (w.alloc o).heap.size (w.alloc o) w') :
    Below w.heap.size w ((((w'.setCell ⟨w.heap.size, 0, none⟩ a).setCell ⟨w.heap.size, 1, none⟩ b).setCell ⟨w.heap.size, 2, none⟩ c).setCell ⟨w.heap.size, 3, none⟩ d) :=
  ((((((Below.refl _ _).alloc (Nat.le_refl _) _).trans (hb.mono (by simp))).setCell (Nat.le_refl _) _).setCell (Nat.le_refl _) _).setCell (Nat.le_refl _) _).setCell (Nat.le_refl _) _
/-- A sample as a value: its frames lie at p, with a capacity. -/
def SV (s : Sm.Smp) (p : Option Addr) (cap : Nat) : Value := .agg #[.string s.name, .slice p s.dat.length cap, .int .i64 s.bits, .int .i64 s.rate, .int .i64 s.vol, .int .i64 s.pan, .int .i64 s.fine, .int .i64 s.loop, .int .i64 s.start, .int .i64 s.fin, .int .i64 s.sus, .int .i64 s.sstart, .int .i64 s.sfin]
/-- The numbers that lie at p, in a block that is there. -/
def DatAt (w : World) (p : Option Addr) (zs : List Int) : Prop := zs = [] ∨ ∃ b off, p = some ⟨b, off, none⟩ ∧ b < w.heap.size ∧ ∀ i, i < zs.length → w.cell? ⟨b, off + i, none⟩ = some (.int .i64 (zs.getD i 0))
theorem DatAt.below {w w' : World} {p : Option Addr} {zs : List Int} (h : DatAt w p zs) (hb : Below w.heap.size w w') : DatAt w' p zs := by
  rcases h with h | ⟨b, off, hp, hl, hc⟩
  · exact .inl h
  · exact .inr ⟨b, off, hp, Nat.lt_of_lt_of_le hl hb.size, fun i hi => by rw [hb.cell hl]; exact hc i hi⟩
theorem DatAt.at {w : World} {p : Option Addr} {zs : List Int} (h : DatAt w p zs) {k : Nat} (hk : k < zs.length) : ∃ b off, p = some ⟨b, off, none⟩ ∧ w.cell? ⟨b, off + k, none⟩ = some (.int .i64 (zs.getD k 0)) := by
  rcases h with rfl | ⟨b, off, hp, _, hc⟩
  · exact absurd hk (by simp)
  · exact ⟨b, off, hp, hc k hk⟩
theorem below_box (w : World) (o : Obj) : Below w.heap.size w (w.alloc o) := (Below.refl _ _).alloc (Nat.le_refl _) _

/-- A sample's block: its thirteen cells. -/
def Boxed (w : World) (b : Nat) (s : Sm.Smp) (p : Option Addr) (cap : Nat) : Prop := w.cell? ⟨b, 0, none⟩ = some (.string s.name) ∧ w.cell? ⟨b, 1, none⟩ = some (.slice p s.dat.length cap) ∧ w.cell? ⟨b, 2, none⟩ = some (.int .i64 s.bits) ∧ w.cell? ⟨b, 3, none⟩ = some (.int .i64 s.rate) ∧ w.cell? ⟨b, 4, none⟩ = some (.int .i64 s.vol) ∧ w.cell? ⟨b, 5, none⟩ = some (.int .i64 s.pan) ∧ w.cell? ⟨b, 6, none⟩ = some (.int .i64 s.fine) ∧ w.cell? ⟨b, 7, none⟩ = some (.int .i64 s.loop) ∧ w.cell? ⟨b, 8, none⟩ = some (.int .i64 s.start) ∧ w.cell? ⟨b, 9, none⟩ = some (.int .i64 s.fin) ∧ w.cell? ⟨b, 10, none⟩ = some (.int .i64 s.sus) ∧ w.cell? ⟨b, 11, none⟩ = some (.int .i64 s.sstart) ∧ w.cell? ⟨b, 12, none⟩ = some (.int .i64 s.sfin)
theorem boxed_new (w : World) (s : Sm.Smp) (p : Option Addr) (cap : Nat) (t : TypeId) : Boxed (w.alloc (.cells #[.string s.name, .slice p s.dat.length cap, .int .i64 s.bits, .int .i64 s.rate, .int .i64 s.vol, .int .i64 s.pan, .int .i64 s.fine, .int .i64 s.loop, .int .i64 s.start, .int .i64 s.fin, .int .i64 s.sus, .int .i64 s.sstart, .int .i64 s.sfin] t)) w.heap.size s p cap := by
  refine ⟨?_, ?_, ?_, ?_, ?_, ?_, ?_, ?_, ?_, ?_, ?_, ?_, ?_⟩ <;> simp [World.cell?_alloc_new]
theorem Boxed.below {w w' : World} {b B : Nat} {s : Sm.Smp} {p : Option Addr} {cap : Nat} (h : Boxed w b s p cap) (hb : Below B w w') (hl : b < B) : Boxed w' b s p cap := by
  unfold Boxed at h ⊢
  have e : ∀ j, w'.cell? ⟨b, j, none⟩ = w.cell? ⟨b, j, none⟩ := fun j => hb.cell hl
  simp only [e]
  exact h

theorem headOk_named {s : Sm.Smp} (h : Sm.nmd s.name = false) : Sm.vld s = false := by simp [Sm.vld, Sm.headOk, h]
theorem headOk_num {s : Sm.Smp} (h : ¬ ((s.bits = 8 ∨ s.bits = 16) ∧ (s.dat.length : Int) ≤ 4096 ∧ (1 ≤ s.rate ∧ s.rate ≤ 65535) ∧ (0 ≤ s.vol ∧ s.vol ≤ 64) ∧ (-1 ≤ s.pan ∧ s.pan ≤ 256) ∧ (-64 ≤ s.fine ∧ s.fine ≤ 63))) : Sm.vld s = false := by
  simp only [Sm.vld, Sm.headOk, decide_eq_false h, Bool.and_false, Bool.false_and]
theorem below_drewN' {B : Nat} {a w : World} (h : Below B a w) (n : Nat) : Below B a (w.drewN n) := ⟨h.os, h.tape, h.output, h.size, h.block⟩
theorem vld_frame {s : Sm.Smp} (k : Nat) (hk : k < s.dat.length) (h : Sm.fts (s.dat.getD k 0) s.bits = false) : Sm.vld s = false := by
  have : (s.dat.all fun x => Sm.fts x s.bits) = false := by
    rw [List.all_eq_false]
    exact ⟨s.dat[k], List.getElem_mem hk, by simpa [List.getD_eq_getElem?_getD, List.getElem?_eq_getElem hk] using h⟩
  simp [Sm.vld, this]
theorem vld_loops {s : Sm.Smp} (hn : Sm.nmd s.name = true) (h2 : s.bits = 8 ∨ s.bits = 16) (h3 : (s.dat.length : Int) ≤ 4096) (h4 : 1 ≤ s.rate) (h5 : s.rate ≤ 65535) (h6 : 0 ≤ s.vol) (h7 : s.vol ≤ 64) (h8 : -1 ≤ s.pan) (h9 : s.pan ≤ 256) (h10 : -64 ≤ s.fine) (h11 : s.fine ≤ 63) (hf : ∀ i, i < s.dat.length → Sm.fts (s.dat.getD i 0) s.bits = true) :
    Sm.vld s = (Sm.lpd s.loop s.start s.fin s.dat.length && Sm.lpd s.sus s.sstart s.sfin s.dat.length) := by
  have e1 : Sm.headOk s = true := by
    simp only [Sm.headOk, hn, Bool.true_and]
    exact decide_eq_true ⟨h2, h3, ⟨h4, h5⟩, ⟨h6, h7⟩, ⟨h8, h9⟩, h10, h11⟩
  have e2 : (s.dat.all fun x => Sm.fts x s.bits) = true := by
    rw [List.all_eq_true]
    intro x hx
    obtain ⟨i, hi, rfl⟩ := List.mem_iff_getElem.1 hx
    have := hf i hi
    simpa [List.getD_eq_getElem?_getD, List.getElem?_eq_getElem hi] using this
  simp only [Sm.vld, e1, e2, Bool.true_and]

namespace Sm
/-- The loop that applies: its kind and its places. -/
def rk (s : Smp) (h : Bool) : Int := if h = true ∧ s.sus ≠ 0 then s.sus else s.loop
def rs (s : Smp) (h : Bool) : Int := if h = true ∧ s.sus ≠ 0 then s.sstart else s.start
def re (s : Smp) (h : Bool) : Int := if h = true ∧ s.sus ≠ 0 then s.sfin else s.fin
end Sm

theorem ret_three {a b c a' b' c' : Int} (h1 : a = a') (h2 : b = b') (h3 : c = c') : Ending.returned (.tuple #[.int .i64 a, .int .i64 b, .int .i64 c]) = .returned (.tuple #[.int .i64 a', .int .i64 b', .int .i64 c']) := by rw [h1, h2, h3]
/-- A cell that is there stays behind a call that changes nothing of what was there. -/
theorem cell_lt {w : World} {a : Addr} {v : Value} (h : w.cell? a = some v) : a.block < w.heap.size := World.block_lt_of_cell? w a h
theorem kept_cell {w w' : World} {a : Addr} {v : Value} (hb : Below w.heap.size w w') (h : w.cell? a = some v) : w'.cell? a = some v := by rw [hb.cell (cell_lt h)]; exact h
/-- What gone keeps of its own three blocks: the frames' slice, the cursor, the result's cells. -/
def Own3 (w : World) (b n cap : Nat) (p : Option Addr) (po fr : Int) (bk dn : Bool) : Prop :=
  w.cell? ⟨b, 1, none⟩ = some (.slice p n cap) ∧
  (w.cell? ⟨b + 1, 0, none⟩ = some (.int .i64 po) ∧ w.cell? ⟨b + 1, 1, none⟩ = some (.int .i64 fr) ∧ w.cell? ⟨b + 1, 2, none⟩ = some (.bool bk) ∧ w.cell? ⟨b + 1, 3, none⟩ = some (.bool dn)) ∧
  (w.cell? ⟨b + 2, 0, none⟩ = some (.int .i64 0) ∧ w.cell? ⟨b + 2, 1, none⟩ = some (.int .i64 0) ∧ w.cell? ⟨b + 2, 2, none⟩ = some (.bool false) ∧ w.cell? ⟨b + 2, 3, none⟩ = some (.bool false)) ∧
  (w.frozen? ⟨b + 2, 0, none⟩ = false ∧ w.frozen? ⟨b + 2, 1, none⟩ = false ∧ w.frozen? ⟨b + 2, 2, none⟩ = false ∧ w.frozen? ⟨b + 2, 3, none⟩ = false)
theorem Own3.kept {w w' : World} {b n cap : Nat} {p : Option Addr} {po fr : Int} {bk dn : Bool} (h : Own3 w b n cap p po fr bk dn) (hb : Below w.heap.size w w') : Own3 w' b n cap p po fr bk dn := by
  obtain ⟨h1, ⟨c0, c1, c2, c3⟩, ⟨r0, r1, r2, r3⟩, ⟨f0, f1, f2, f3⟩⟩ := h
  refine ⟨kept_cell hb h1, ⟨kept_cell hb c0, kept_cell hb c1, kept_cell hb c2, kept_cell hb c3⟩, ⟨kept_cell hb r0, kept_cell hb r1, kept_cell hb r2, kept_cell hb r3⟩, ?_, ?_, ?_, ?_⟩
  · rw [hb.frozen (cell_lt r0)]; exact f0
  · rw [hb.frozen (cell_lt r1)]; exact f1
  · rw [hb.frozen (cell_lt r2)]; exact f2
  · rw [hb.frozen (cell_lt r3)]; exact f3
theorem own3_new (w : World) (s : Sm.Smp) (p : Option Addr) (cap : Nat) (po fr : Int) (bk dn : Bool) : Own3 (((w.alloc (.cells #[.string s.name, .slice p s.dat.length cap, .int .i64 s.bits, .int .i64 s.rate, .int .i64 s.vol, .int .i64 s.pan, .int .i64 s.fine, .int .i64 s.loop, .int .i64 s.start, .int .i64 s.fin, .int .i64 s.sus, .int .i64 s.sstart, .int .i64 s.sfin] 24)).alloc (.cells #[.int .i64 po, .int .i64 fr, .bool bk, .bool dn] 26)).alloc (.cells #[.int .i64 0, .int .i64 0, .bool false, .bool false] 26)) w.heap.size s.dat.length cap p po fr bk dn := by
  refine ⟨?_, ⟨?_, ?_, ?_, ?_⟩, ⟨?_, ?_, ?_, ?_⟩, ⟨?_, ?_, ?_, ?_⟩⟩ <;> go_simp
theorem below3 (w : World) (s : Sm.Smp) (p : Option Addr) (cap : Nat) (po fr : Int) (bk dn : Bool) : Below w.heap.size w (((w.alloc (.cells #[.string s.name, .slice p s.dat.length cap, .int .i64 s.bits, .int .i64 s.rate, .int .i64 s.vol, .int .i64 s.pan, .int .i64 s.fine, .int .i64 s.loop, .int .i64 s.start, .int .i64 s.fin, .int .i64 s.sus, .int .i64 s.sstart, .int .i64 s.sfin] 24)).alloc (.cells #[.int .i64 po, .int .i64 fr, .bool bk, .bool dn] 26)).alloc (.cells #[.int .i64 0, .int .i64 0, .bool false, .bool false] 26)) :=
  (((Below.refl _ _).alloc (Nat.le_refl _) _).alloc (by simp) _).alloc (by simp; omega) _
/-- The end of gone: the four cells of the result, stored behind all that went before. -/
theorem end3 {w w' : World} (a b c d : Value) (hb : Below w.heap.size w w') :
    Below w.heap.size w ((((w'.setCell ⟨w.heap.size + 2, 0, none⟩ a).setCell ⟨w.heap.size + 2, 1, none⟩ b).setCell ⟨w.heap.size + 2, 2, none⟩ c).setCell ⟨w.heap.size + 2, 3, none⟩ d) :=
  (((hb.setCell (by simp) _).setCell (by simp) _).setCell (by simp) _).setCell (by simp) _
/-- What is known of a valid cursor, a step and a loop. -/
def Bounds (s : Sm.Smp) (po fr st s0 e0 : Int) : Prop := 0 ≤ po ∧ po < s.dat.length ∧ 0 ≤ fr ∧ fr ≤ 65535 ∧ (s.dat.length : Int) ≤ 4096 ∧ 0 ≤ st ∧ st ≤ 536870912 ∧ 0 ≤ s0 ∧ s0 ≤ e0 ∧ e0 ≤ s.dat.length
/-- A cursor that is valid for a sample of n frames. -/
def std (n po fr : Int) (bk dn : Bool) : Bool := if dn = true then decide (po = 0 ∧ fr = 0 ∧ bk = false) else decide (0 ≤ po ∧ po < n ∧ 0 ≤ fr ∧ fr ≤ 65535)
theorem boxed3 (w : World) (s : Sm.Smp) (p : Option Addr) (cap : Nat) (po fr : Int) (bk dn : Bool) : Boxed (((w.alloc (.cells #[.string s.name, .slice p s.dat.length cap, .int .i64 s.bits, .int .i64 s.rate, .int .i64 s.vol, .int .i64 s.pan, .int .i64 s.fine, .int .i64 s.loop, .int .i64 s.start, .int .i64 s.fin, .int .i64 s.sus, .int .i64 s.sstart, .int .i64 s.sfin] 24)).alloc (.cells #[.int .i64 po, .int .i64 fr, .bool bk, .bool dn] 26)).alloc (.cells #[.int .i64 0, .int .i64 0, .bool false, .bool false] 26)) w.heap.size s p cap := by
  refine ⟨?_, ?_, ?_, ?_, ?_, ?_, ?_, ?_, ?_, ?_, ?_, ?_, ?_⟩ <;> go_simp
/-- A call has returned this cursor and this error. -/
def RetCurE (c : Sm.Cur) (n : Int) (e : Ending) : Prop := ∃ p fr bk dn, e = .returned (.tuple #[.agg #[.int .i64 p, .int .i64 fr, .bool bk, .bool dn], .int .i64 n]) ∧ Hid (c = ⟨p, fr, bk, dn⟩)
theorem ring_ok {s : Sm.Smp} (hv : Sm.vld s = true) (h : Bool) : (Sm.rk s h = 0 ∨ Sm.rk s h = 1 ∨ Sm.rk s h = 2) ∧ (Sm.rk s h = 0 ∨ Sm.rs s h < Sm.re s h) ∧ 0 ≤ Sm.rs s h ∧ Sm.rs s h ≤ Sm.re s h ∧ Sm.re s h ≤ s.dat.length ∧ (s.dat.length : Int) ≤ 4096 := by
  simp only [Sm.vld, Bool.and_eq_true] at hv
  obtain ⟨⟨⟨h1, _⟩, l1⟩, l2⟩ := hv
  simp only [Sm.headOk, Bool.and_eq_true, decide_eq_true_eq] at h1
  have hn := h1.2.2.1
  simp only [Sm.lpd, decide_eq_true_eq] at l1 l2
  unfold Sm.rk Sm.rs Sm.re
  split
  · refine ⟨by omega, by omega, by omega, by omega, by omega, hn⟩
  · refine ⟨by omega, by omega, by omega, by omega, by omega, hn⟩
theorem stand_ok {s : Sm.Smp} {po fr st s0 e0 : Int} {bk dn : Bool} (hs : std s.dat.length po fr bk dn = true) (h1 : 0 ≤ st) (h2 : st ≤ 536870912) (h3 : 0 ≤ s0) (h4 : s0 ≤ e0) (h5 : e0 ≤ s.dat.length) (h6 : (s.dat.length : Int) ≤ 4096) : dn = true ∨ Bounds s po fr st s0 e0 := by
  cases dn
  · right
    unfold std at hs
    rw [if_neg (by simp)] at hs
    have := of_decide_eq_true hs
    exact ⟨this.1, this.2.1, this.2.2.1, this.2.2.2, h6, h1, h2, h3, h4, h5⟩
  · exact .inl rfl
theorem hk_refl (s : Sm.Smp) (h : Bool) : Hid (Sm.rk s h = Sm.rk s h ∧ Sm.rs s h = Sm.rs s h ∧ Sm.re s h = Sm.re s h) := ⟨rfl, rfl, rfl⟩
theorem below2 (w : World) (s : Sm.Smp) (p : Option Addr) (cap : Nat) : Below w.heap.size w ((w.alloc (.cells #[.string s.name, .slice p s.dat.length cap, .int .i64 s.bits, .int .i64 s.rate, .int .i64 s.vol, .int .i64 s.pan, .int .i64 s.fine, .int .i64 s.loop, .int .i64 s.start, .int .i64 s.fin, .int .i64 s.sus, .int .i64 s.sstart, .int .i64 s.sfin] 24)).alloc (.cells #[.int .i64 0, .int .i64 0, .bool false, .bool false] 26)) :=
  ((Below.refl _ _).alloc (Nat.le_refl _) _).alloc (by simp) _
/-- A result's four cells, still zero. -/
def Res (w : World) (b : Nat) : Prop :=
  (w.cell? ⟨b, 0, none⟩ = some (.int .i64 0) ∧ w.cell? ⟨b, 1, none⟩ = some (.int .i64 0) ∧ w.cell? ⟨b, 2, none⟩ = some (.bool false) ∧ w.cell? ⟨b, 3, none⟩ = some (.bool false)) ∧
  (w.frozen? ⟨b, 0, none⟩ = false ∧ w.frozen? ⟨b, 1, none⟩ = false ∧ w.frozen? ⟨b, 2, none⟩ = false ∧ w.frozen? ⟨b, 3, none⟩ = false)
theorem Res.kept {w w' : World} {b : Nat} (h : Res w b) (hb : Below w.heap.size w w') : Res w' b := by
  obtain ⟨⟨r0, r1, r2, r3⟩, ⟨f0, f1, f2, f3⟩⟩ := h
  refine ⟨⟨kept_cell hb r0, kept_cell hb r1, kept_cell hb r2, kept_cell hb r3⟩, ?_, ?_, ?_, ?_⟩
  · rw [hb.frozen (cell_lt r0)]; exact f0
  · rw [hb.frozen (cell_lt r1)]; exact f1
  · rw [hb.frozen (cell_lt r2)]; exact f2
  · rw [hb.frozen (cell_lt r3)]; exact f3
theorem res_new (w : World) (s : Sm.Smp) (p : Option Addr) (cap : Nat) : Res ((w.alloc (.cells #[.string s.name, .slice p s.dat.length cap, .int .i64 s.bits, .int .i64 s.rate, .int .i64 s.vol, .int .i64 s.pan, .int .i64 s.fine, .int .i64 s.loop, .int .i64 s.start, .int .i64 s.fin, .int .i64 s.sus, .int .i64 s.sstart, .int .i64 s.sfin] 24)).alloc (.cells #[.int .i64 0, .int .i64 0, .bool false, .bool false] 26)) (w.heap.size + 1) := by
  refine ⟨⟨?_, ?_, ?_, ?_⟩, ⟨?_, ?_, ?_, ?_⟩⟩ <;> go_simp
theorem end2 {w w' : World} (a b c d : Value) (hb : Below w.heap.size w w') :
    Below w.heap.size w ((((w'.setCell ⟨w.heap.size + 1, 0, none⟩ a).setCell ⟨w.heap.size + 1, 1, none⟩ b).setCell ⟨w.heap.size + 1, 2, none⟩ c).setCell ⟨w.heap.size + 1, 3, none⟩ d) :=
  (((hb.setCell (by simp) _).setCell (by simp) _).setCell (by simp) _).setCell (by simp) _
/-- The cursor at a frame, or at the last one minus so many, going back. -/
def bgn (s : Sm.Smp) (o : Int) (b : Bool) : Sm.Cur := if Sm.vld s = true ∧ 0 ≤ o ∧ o < s.dat.length then (if b = true then Sm.curAt ((s.dat.length - 1 - o) * 65536) true else Sm.curAt (o * 65536) false) else Sm.over
theorem vld_len {s : Sm.Smp} (hv : Sm.vld s = true) : (s.dat.length : Int) ≤ 4096 := (ring_ok hv false).2.2.2.2.2
/-- A frame as a number of 16 bits; 0 if there is none. -/
def hrd (s : Sm.Smp) (i : Int) : Int := if 0 ≤ i ∧ i < s.dat.length then (if s.bits = 8 then 256 * s.dat.getD i.toNat 0 else s.dat.getD i.toNat 0) else 0
/-- The frames of a valid sample lie within 16 bits. -/
def Small (s : Sm.Smp) : Prop := ∀ i : Nat, i < s.dat.length → -32768 ≤ s.dat.getD i 0 ∧ s.dat.getD i 0 ≤ 32767
theorem vld_small {s : Sm.Smp} (hv : Sm.vld s = true) : Small s := by
  simp only [Sm.vld, Bool.and_eq_true] at hv
  obtain ⟨⟨⟨h1, h2⟩, _⟩, _⟩ := hv
  simp only [Sm.headOk, Bool.and_eq_true, decide_eq_true_eq] at h1
  have hb := h1.2.1
  intro i hi
  have h3 := List.all_eq_true.1 h2 s.dat[i] (List.getElem_mem hi)
  have e : s.dat.getD i 0 = s.dat[i] := by simp [List.getD_eq_getElem?_getD, List.getElem?_eq_getElem hi]
  rw [e]
  simp only [Sm.fts, decide_eq_true_eq] at h3
  rcases hb with hb | hb
  · rw [hb] at h3; simp at h3; omega
  · rw [hb] at h3; simp at h3; omega
/-- The value of the frame so many frames further along a valid cursor's way. -/
def tpd (s : Sm.Smp) (h : Bool) (c : Sm.Cur) (k : Int) : Int :=
  if c.done = true then 0 else
  if 0 < k then (if (Sm.gone (Sm.rk s h) (Sm.rs s h * 65536) (Sm.re s h * 65536) (s.dat.length * 65536) ⟨c.pos, 0, c.back, false⟩ (65536 * k)).done = true then 0 else hrd s (Sm.gone (Sm.rk s h) (Sm.rs s h * 65536) (Sm.re s h * 65536) (s.dat.length * 65536) ⟨c.pos, 0, c.back, false⟩ (65536 * k)).pos) else
  if c.back = true then hrd s (c.pos - k) else hrd s (c.pos + k)
theorem boxedc (w : World) (s : Sm.Smp) (p : Option Addr) (cap : Nat) (po : Int) (bk : Bool) : Boxed ((w.alloc (.cells #[.string s.name, .slice p s.dat.length cap, .int .i64 s.bits, .int .i64 s.rate, .int .i64 s.vol, .int .i64 s.pan, .int .i64 s.fine, .int .i64 s.loop, .int .i64 s.start, .int .i64 s.fin, .int .i64 s.sus, .int .i64 s.sstart, .int .i64 s.sfin] 24)).alloc (.cells #[.int .i64 po, .int .i64 0, .bool bk, .bool false] 26)) w.heap.size s p cap := by
  refine ⟨?_, ?_, ?_, ?_, ?_, ?_, ?_, ?_, ?_, ?_, ?_, ?_, ?_⟩ <;> go_simp
/-- What Tap returns. -/
def tap (s : Sm.Smp) (h : Bool) (c : Sm.Cur) (k : Int) : Int := if Sm.vld s = true ∧ std s.dat.length c.pos c.frac c.back c.done = true ∧ -8 ≤ k ∧ k ≤ 8 then tpd s h c k else 0
/-- What Tap keeps of its own two blocks. -/
def Own2 (w : World) (b : Nat) (s : Sm.Smp) (p : Option Addr) (cap : Nat) (po fr : Int) (bk dn : Bool) : Prop :=
  Boxed w b s p cap ∧ w.cell? ⟨b + 1, 0, none⟩ = some (.int .i64 po) ∧ w.cell? ⟨b + 1, 1, none⟩ = some (.int .i64 fr) ∧ w.cell? ⟨b + 1, 2, none⟩ = some (.bool bk) ∧ w.cell? ⟨b + 1, 3, none⟩ = some (.bool dn)
theorem Own2.kept {w w' : World} {b : Nat} {s : Sm.Smp} {p : Option Addr} {cap : Nat} {po fr : Int} {bk dn : Bool} (h : Own2 w b s p cap po fr bk dn) (hb : Below w.heap.size w w') : Own2 w' b s p cap po fr bk dn :=
  ⟨h.1.below hb (cell_lt h.1.1), kept_cell hb h.2.1, kept_cell hb h.2.2.1, kept_cell hb h.2.2.2.1, kept_cell hb h.2.2.2.2⟩
theorem own2_new (w : World) (s : Sm.Smp) (p : Option Addr) (cap : Nat) (po fr : Int) (bk dn : Bool) : Own2 ((w.alloc (.cells #[.string s.name, .slice p s.dat.length cap, .int .i64 s.bits, .int .i64 s.rate, .int .i64 s.vol, .int .i64 s.pan, .int .i64 s.fine, .int .i64 s.loop, .int .i64 s.start, .int .i64 s.fin, .int .i64 s.sus, .int .i64 s.sstart, .int .i64 s.sfin] 24)).alloc (.cells #[.int .i64 po, .int .i64 fr, .bool bk, .bool dn] 26)) w.heap.size s p cap po fr bk dn := by
  refine ⟨⟨?_, ?_, ?_, ?_, ?_, ?_, ?_, ?_, ?_, ?_, ?_, ?_, ?_⟩, ?_, ?_, ?_, ?_⟩ <;> go_simp
end Go.Proofs.Ytmaldhjcdkidmaa

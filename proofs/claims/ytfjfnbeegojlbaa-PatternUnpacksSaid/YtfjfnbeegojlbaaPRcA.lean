/-
  What package pattern's reader.cell keeps; how a part's reading ends.
-/
import Derived.Test.YtfjfnbeegojlbaaPVm
namespace Go.Proofs.Ytfjfnbeegojlbaa
open Go.RowKit

namespace Pt
def ufin : Except Int Uc → Except Int Uc | .error e => .error e | .ok s => uend s
theorem uks_err {m : Nat} {s0 s : Uc} {e : Int} {k : Nat} (h : uks m k s0 = .ok s) (h2 : uk m k s = .error e) : ∀ d, uks m (k + 1 + d) s0 = .error e
  | 0 => by rw [Nat.add_zero, uks, h]; exact h2
  | d + 1 => by rw [← Nat.add_assoc, uks, uks_err h h2 d]
theorem uks_err4 {m : Nat} {s0 s : Uc} {e : Int} {k : Nat} (hk : k < 4) (h : uks m k s0 = .ok s) (h2 : uk m k s = .error e) : uks m 4 s0 = .error e := by
  have := uks_err h h2 (3 - k)
  rwa [show k + 1 + (3 - k) = 4 by omega] at this
theorem uks_succ {m : Nat} {s0 s s' : Uc} {k : Nat} (h : uks m k s0 = .ok s) (h2 : uk m k s = .ok s') : uks m (k + 1) s0 = .ok s' := by rw [uks, h]; exact h2
theorem uk_new {m k : Nat} {s : Uc} {v : Int × Int} {t : List Int} (h : m.testBit k = true) (e : vl k s.b = .ok (v, t)) : uk m k s = .ok ⟨pw k s.c v, pw k s.la v, t⟩ := by unfold uk; rw [if_pos h, e]
theorem uk_bad {m k : Nat} {s : Uc} {z : Int} (h : m.testBit k = true) (e : vl k s.b = .error z) : uk m k s = .error z := by unfold uk; rw [if_pos h, e]
theorem uk_rep {m k : Nat} {s : Uc} (h : m.testBit k = false) (h2 : m.testBit (k + 4) = true) : uk m k s = .ok ⟨pw k s.c (pv k s.la), s.la, s.b⟩ := by unfold uk; rw [if_neg (by rw [h]; decide), if_pos h2]
theorem uk_none {m k : Nat} {s : Uc} (h : m.testBit k = false) (h2 : m.testBit (k + 4) = false) : uk m k s = .ok s := by unfold uk; rw [if_neg (by rw [h]; decide), if_neg (by rw [h2]; decide)]
end Pt
/-- Where cell stands: the reader, the last parts at o, the cell. -/
structure Cw (w : World) (bR o b4 b6 : Nat) (xs : List Int) (p : Option Addr) (cap i : Nat) (c la : Pt.Cl) (w' : World) : Prop where
  rn : Rn w' bR xs p cap i
  gr : w.grownBy w' (some bR)
  out : ∀ o', o' ≠ 1 → (o' < o ∨ o + 6 ≤ o') → w'.cell? ⟨bR, o', none⟩ = w.cell? ⟨bR, o', none⟩ ∧ w'.frozen? ⟨bR, o', none⟩ = w.frozen? ⟨bR, o', none⟩
  las : w'.rangeAt bR o (CL la)
  tl : w'.there bR o 6
  cel : w'.rangeAt b6 0 (CL c)
  tc : w'.there b6 0 6
  t4 : w'.there b4 0 6
theorem there_lt {w : World} {b o n : Nat} (h : w.there b o (n + 1)) : b < w.heap.size := by
  obtain ⟨u, hu⟩ := Option.isSome_iff_exists.1 (h 0 (by omega)).1
  exact cell_lt hu
theorem Cw.below {w : World} {bR o b4 b6 : Nat} {xs : List Int} {p : Option Addr} {cap i : Nat} {c la : Pt.Cl} {w1 w2 : World} (h : Cw w bR o b4 b6 xs p cap i c la w1) (hb : Below w1.heap.size w1 w2) : Cw w bR o b4 b6 xs p cap i c la w2 := by
  have hl := h.rn.lt
  exact ⟨h.rn.below hb, grownBy_trans h.gr (grownBy_of hb), fun o' h1 h2 => by rw [hb.cell (p := ⟨bR, o', none⟩) hl, hb.frozen (p := ⟨bR, o', none⟩) hl]; exact h.out o' h1 h2, range_below h.las hb hl, there_below h.tl hb hl, range_below h.cel hb (there_lt h.tc), there_below h.tc hb (there_lt h.tc), there_below h.t4 hb (there_lt h.t4)⟩
theorem Cw.read {w : World} {bR o b4 b6 : Nat} {xs : List Int} {p : Option Addr} {cap i j : Nat} {c la : Pt.Cl} {w1 w2 : World} (h : Cw w bR o b4 b6 xs p cap i c la w1) (hs : S1 w1 bR 1 (.int .i64 (j : Nat)) w2) (hj : j ≤ xs.length) (ho : 2 ≤ o) (h4 : b4 ≠ bR) (h6 : b6 ≠ bR) : Cw w bR o b4 b6 xs p cap j c la w2 :=
  ⟨h.rn.step hs hj, grownBy_trans h.gr hs.gr, fun o' h1 h2 => by rw [(hs.out o' h1).1, (hs.out o' h1).2]; exact h.out o' h1 h2, fun j v hv => by rw [(hs.out (o + j) (by omega)).1]; exact h.las j v hv, fun j hj => by rw [(hs.out (o + j) (by omega)).1, (hs.out (o + j) (by omega)).2]; exact h.tl j hj, range_grown h.cel hs.gr h6 (there_lt h.tc), there_grown h.tc hs.gr h6 (there_lt h.tc), there_grown h.t4 hs.gr h4 (there_lt h.t4)⟩
theorem Cw.putC {w : World} {bR o b4 b6 : Nat} {xs : List Int} {p : Option Addr} {cap i : Nat} {c c' la : Pt.Cl} {w1 w2 : World} (h : Cw w bR o b4 b6 xs p cap i c la w1) (hs : Put w1 b6 0 c' w2) (hR : bR < w.heap.size) (h4 : b4 ≠ b6) (h6 : w.heap.size ≤ b6) (hp : ∀ b off, p = some ⟨b, off, none⟩ → b < w.heap.size) : Cw w bR o b4 b6 xs p cap i c' la w2 := by
  have hl := h.rn.lt
  have e : w2.heap[bR]? = w1.heap[bR]? := hs.gr.block bR hl (fun e => by simp at e; omega)
  refine ⟨h.rn.fresh hs.gr (by omega) (fun b off e => by have := hp b off e; omega), ⟨hs.gr.os.trans h.gr.os, hs.gr.tape.trans h.gr.tape, hs.gr.output.trans h.gr.output, Nat.le_trans h.gr.size hs.gr.size, fun k hk hne => (hs.gr.block k (Nat.lt_of_lt_of_le hk h.gr.size) (fun e => by simp at e; omega)).trans (h.gr.block k hk hne)⟩, fun o' h1 h2 => ?_, range_grown h.las hs.gr (by omega) hl, there_grown h.tl hs.gr (by omega) hl, hs.rg, hs.th, there_grown h.t4 hs.gr h4 (there_lt h.t4)⟩
  rw [World.cell?_of_block (a := ⟨bR, o', none⟩) e, World.frozen?_of_block (a := ⟨bR, o', none⟩) e]
  exact h.out o' h1 h2
theorem Cw.putL {w : World} {bR o b4 b6 : Nat} {xs : List Int} {p : Option Addr} {cap i : Nat} {c la la' : Pt.Cl} {w1 w2 : World} (h : Cw w bR o b4 b6 xs p cap i c la w1) (hs : Put w1 bR o la' w2) (ho : 2 ≤ o) (h4 : b4 ≠ bR) (h6 : b6 ≠ bR) : Cw w bR o b4 b6 xs p cap i c la' w2 := by
  have c0 := hs.out 0 (by omega)
  have c1 := hs.out 1 (by omega)
  exact ⟨⟨by rw [c0.1]; exact h.rn.sl, by rw [c1.1]; exact h.rn.ps, by rw [c1.2]; exact h.rn.fz, h.rn.inp.grown hs.gr h.rn.ne, h.rn.hi, h.rn.hm, h.rn.hy, h.rn.ne⟩, grownBy_trans h.gr hs.gr, fun o' h1 h2 => by rw [(hs.out o' h2).1, (hs.out o' h2).2]; exact h.out o' h1 h2, hs.rg, hs.th, range_grown h.cel hs.gr h6 (there_lt h.tc), there_grown h.tc hs.gr h6 (there_lt h.tc), there_grown h.t4 hs.gr h4 (there_lt h.t4)⟩
theorem p_value_ok {k : Nat} {w : World} {bR : Nat} {xs : List Int} {p : Option Addr} {cap i : Nat} (h : Rn w bR xs p cap i) (hp : ∀ b off, p = some ⟨b, off, none⟩ → b < w.heap.size) {v : Int × Int} {t : List Int} (e : Pt.vl k (xs.drop i) = .ok (v, t)) :
    Calls Try.prog 84 #[.pointer (some ⟨bR, 0, none⟩), .int .i64 (Pt.num k : Nat)] w fun x w' => ∃ j, x = .returned (VV v) ∧ t = xs.drop j ∧ j ≤ xs.length ∧ S1 w bR 1 (.int .i64 (j : Nat)) w' := by
  have := p_value (k := k) h hp
  rw [e] at this
  exact this
theorem p_value_err {k : Nat} {w : World} {bR : Nat} {xs : List Int} {p : Option Addr} {cap i : Nat} (h : Rn w bR xs p cap i) (hp : ∀ b off, p = some ⟨b, off, none⟩ → b < w.heap.size) {z : Int} (e : Pt.vl k (xs.drop i) = .error z) :
    Calls Try.prog 84 #[.pointer (some ⟨bR, 0, none⟩), .int .i64 (Pt.num k : Nat)] w fun x w' => x = Pn z ∧ w.grownBy w' (some bR) := by
  have := p_value (k := k) h hp
  rw [e] at this
  exact this
/-- What cell does. -/
def RetC (w : World) (bR o : Nat) (xs : List Int) (p : Option Addr) (cap : Nat) (T : Except Int Pt.Uc) (x : Ending) (w' : World) : Prop :=
  match T with
  | .error e => x = Pn e ∧ w.grownBy w' (some bR)
  | .ok s => ∃ j b4 b6, x = .returned (.agg (CL s.c).toArray) ∧ s.b = xs.drop j ∧ Cw w bR o b4 b6 xs p cap j s.c s.la w'
theorem grownBy_size {w : World} {bR o b4 b6 : Nat} {xs : List Int} {p : Option Addr} {cap i : Nat} {c la : Pt.Cl} {w' : World} (h : Cw w bR o b4 b6 xs p cap i c la w') : w.heap.size ≤ w'.heap.size := h.gr.size
theorem Cw.out4 {w : World} {bR o b4 b6 : Nat} {xs : List Int} {p : Option Addr} {cap i : Nat} {c c' la : Pt.Cl} {w1 : World} (h : Cw w bR o b4 b6 xs p cap i c la w1) (hR : bR < w.heap.size) (h46 : b4 ≠ b6) (h4 : w.heap.size ≤ b4) (hp : ∀ b off, p = some ⟨b, off, none⟩ → b < w.heap.size) : Cw w bR o b4 b6 xs p cap i c la (w1.setCells b4 0 (CL c')) := by
  have hl := h.rn.lt
  have hg := grown_setCells b4 (CL c') 0 w1
  have e : (w1.setCells b4 0 (CL c')).heap[bR]? = w1.heap[bR]? := hg.block bR hl (fun e => by simp at e; omega)
  refine ⟨h.rn.fresh hg (by omega) (fun b off e => by have := hp b off e; omega), ⟨hg.os.trans h.gr.os, hg.tape.trans h.gr.tape, hg.output.trans h.gr.output, Nat.le_trans h.gr.size hg.size, fun k hk hne => (hg.block k (Nat.lt_of_lt_of_le hk h.gr.size) (fun e => by simp at e; omega)).trans (h.gr.block k hk hne)⟩, fun o' h1 h2 => ?_, range_grown h.las hg (by omega) hl, there_grown h.tl hg (by omega) hl, range_grown h.cel hg (fun e => h46 e.symm) (there_lt h.tc), there_grown h.tc hg (fun e => h46 e.symm) (there_lt h.tc), World.there_setCells h.t4 b4 0 _⟩
  rw [World.cell?_of_block (a := ⟨bR, o', none⟩) e, World.frozen?_of_block (a := ⟨bR, o', none⟩) e]
  exact h.out o' h1 h2
end Go.Proofs.Ytfjfnbeegojlbaa

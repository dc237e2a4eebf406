/-
  Words: cells in memory, patterns as values, memory of one's own that may be written. No walk.
-/
import Derived.Test.YtfjfnbeegojlbaaDoorChecked
import Derived.Test.YtfjfnbeegojlbaaDoorMath
import Derived.WalkKit
import Derived.LoopTactic
import Derived.Lib.Hide
import Derived.Deep.QuietTactic
import Derived.BigQuiet
import Derived.Deep.Draws
import Derived.OneCell
import Derived.OwnWalk
import Derived.Outline
import Derived.Laws.AppendOwn
import Derived.Laws.CopyOwn
import Derived.Deep.MidRow
namespace Go.Proofs.YtfjfnbeegojlbaaDoor
open Go.RowKit

theorem ret_bool {a b : Bool} (h : a = b) : Ending.returned (.bool a) = .returned (.bool b) := by rw [h]
theorem ret_int {k : IntKind} {a b : Int} (h : a = b) : Ending.returned (.int k a) = .returned (.int k b) := by rw [h]
theorem below_box (w : World) (o : Obj) : Below w.heap.size w (w.alloc o) := (Below.refl _ _).alloc (Nat.le_refl _) _
theorem cell_lt {w : World} {a : Addr} {v : Value} (h : w.cell? a = some v) : a.block < w.heap.size := World.block_lt_of_cell? w a h
theorem kept_cell {w w' : World} {a : Addr} {v : Value} (hb : Below w.heap.size w w') (h : w.cell? a = some v) : w'.cell? a = some v := by rw [hb.cell (cell_lt h)]; exact h
theorem below_drewN' {B : Nat} {a w : World} (h : Below B a w) (n : Nat) : Below B a (w.drewN n) := ⟨h.os, h.tape, h.output, h.size, h.block⟩
/-- From W on nothing that was there has changed: the next call. -/
theorem stepB {W w w' : World} (h : Below W.heap.size W w) (hb : Below w.heap.size w w') : Below W.heap.size W w' := h.trans (hb.mono h.size)
theorem stepN {B : Nat} {W w w' : World} (h : Below B W w) (hs : B ≤ w.heap.size) (hb : Below w.heap.size w w') : Below B W w' := h.trans (hb.mono hs)
theorem grown_below {w w' : World} (h : w.grownBy w' none) : Below w.heap.size w w' := ⟨h.os, h.tape, h.output, h.size, fun k hk => h.block k hk (by simp)⟩
/-- Only block g, which is not below B, has been written. -/
theorem grown_at {B g : Nat} {W w w' : World} (h : Below B W w) (hg : B ≤ g) (hs : B ≤ w.heap.size) (hw : w.grownBy w' (some g)) : Below B W w' :=
  h.grown hw hs (fun k hk => by simp at hk; omega)
/-- A cell's six numbers, in order. -/
def CL (c : Pt.Cl) : List Value := [.int .i64 c.nt, .int .i64 c.it, .int .i64 c.vc, .int .i64 c.va, .int .i64 c.ef, .int .i64 c.pa]
theorem cl_len (c : Pt.Cl) : (CL c).length = 6 := rfl
theorem cl_one (c : Pt.Cl) : (CL c).toArray.all (·.oneCell') = true := by simp [CL, Value.oneCell']
theorem cl_arr (c : Pt.Cl) : (CL c).toArray = #[.int .i64 c.nt, .int .i64 c.it, .int .i64 c.vc, .int .i64 c.va, .int .i64 c.ef, .int .i64 c.pa] := rfl
theorem cl_zc : (CL Pt.zc).toArray = #[.int .i64 0, .int .i64 0, .int .i64 0, .int .i64 0, .int .i64 0, .int .i64 0] := rfl
theorem Tryd.infoCell : (Tryd.prog.info? 23).map (fun i => (i.zero, i.size, i.bytes)) = some (some (.agg #[.int .i64 0, .int .i64 0, .int .i64 0, .int .i64 0, .int .i64 0, .int .i64 0]), 6, 48) := by kernel_rfl
theorem Tryd.infoCellSize : (Tryd.prog.info? 23).map (·.size) = some 6 := by kernel_rfl
theorem info_cl (c : Pt.Cl) : (Tryd.prog.info? 23).map (·.size) = some (CL c).length := Tryd.infoCellSize
/-- Cells as words. -/
def cc (l : List Pt.Cl) : List Value := l.flatMap CL
theorem cc_nil : cc [] = [] := rfl
theorem cc_cons (x : Pt.Cl) (l : List Pt.Cl) : cc (x :: l) = CL x ++ cc l := rfl
theorem cc_app (a b : List Pt.Cl) : cc (a ++ b) = cc a ++ cc b := by simp [cc]
theorem cc_len : ∀ l : List Pt.Cl, (cc l).length = l.length * 6
  | [] => rfl
  | x :: l => by rw [cc_cons, List.length_append, cl_len, cc_len l, List.length_cons]; omega
theorem cc_get : ∀ (l : List Pt.Cl) (i : Nat), i < l.length → ∀ j, j < 6 → (cc l)[i * 6 + j]? = (CL (Pt.at' l i))[j]?
  | [], _, h, _, _ => absurd h (by simp)
  | x :: l, 0, _, j, hj => by rw [cc_cons, Nat.zero_mul, Nat.zero_add, List.getElem?_append_left (by rw [cl_len]; exact hj)]; rfl
  | x :: l, i + 1, h, j, hj => by
    rw [cc_cons, List.getElem?_append_right (by rw [cl_len]; omega), cl_len, show (i + 1) * 6 + j - 6 = i * 6 + j by omega, cc_get l i (by simpa using h) j hj]
    rfl
theorem cc_one (l : List Pt.Cl) : ∀ u ∈ cc l, u.oneCell' = true := by
  intro u hu
  obtain ⟨x, _, hx⟩ := List.mem_flatMap.1 hu
  simp only [CL, List.mem_cons, List.not_mem_nil, or_false] at hx
  rcases hx with rfl | rfl | rfl | rfl | rfl | rfl <;> rfl
theorem cc_take (l : List Pt.Cl) (n : Nat) (h : n ≤ l.length) : (cc l).take (n * 6) = cc (l.take n) := by
  conv => lhs; rw [← List.take_append_drop n l, cc_app]
  rw [List.take_append_of_le_length (by rw [cc_len, List.length_take]; omega), List.take_of_length_le (by rw [cc_len, List.length_take]; omega)]
theorem cc_drop (l : List Pt.Cl) (n : Nat) (h : n ≤ l.length) : (cc l).drop (n * 6) = cc (l.drop n) := by
  conv => lhs; rw [← List.take_append_drop n l, cc_app]
  rw [List.drop_append_of_le_length (by rw [cc_len, List.length_take]; omega), List.drop_of_length_le (by rw [cc_len, List.length_take]; omega), List.nil_append]
theorem rng_of {w : World} {b off : Nat} {l : List Pt.Cl} (h : w.rangeAt b off (cc l)) {i : Nat} (hi : i < l.length) : w.rangeAt b (off + i * 6) (CL (Pt.at' l i)) := by
  intro j v hv
  have hj : j < 6 := by
    have := (List.getElem?_eq_some_iff.1 hv).1
    rwa [cl_len] at this
  rw [Nat.add_assoc]
  exact h (i * 6 + j) v (by rw [cc_get l i hi j hj]; exact hv)
theorem rng_mk {w : World} {b off : Nat} {l : List Pt.Cl} (h : ∀ i, i < l.length → w.rangeAt b (off + i * 6) (CL (Pt.at' l i))) : w.rangeAt b off (cc l) := by
  intro j v hv
  have hj : j < (cc l).length := (List.getElem?_eq_some_iff.1 hv).1
  rw [cc_len] at hj
  have hi : j / 6 < l.length := by omega
  have e : j = j / 6 * 6 + j % 6 := by omega
  have := h (j / 6) hi (j % 6) v (by rw [← cc_get l _ hi _ (Nat.mod_lt _ (by decide)), ← e]; exact hv)
  rwa [Nat.add_assoc, ← e] at this
theorem rng_sub {w : World} {b off : Nat} {l : List Pt.Cl} (h : w.rangeAt b off (cc l)) (n m : Nat) (hn : n + m ≤ l.length) : w.rangeAt b (off + n * 6) (cc ((l.drop n).take m)) := by
  refine rng_mk fun i hi => ?_
  simp only [List.length_take, List.length_drop] at hi
  rw [Nat.add_assoc, ← Nat.add_mul, Pt.at_take _ _ _ (by omega), Pt.at_drop]
  exact rng_of h (by omega)
theorem rng_cells {w : World} {b o : Nat} {c : Pt.Cl} (h : w.rangeAt b o (CL c)) : w.cell? ⟨b, o, none⟩ = some (.int .i64 c.nt) ∧ w.cell? ⟨b, o + 1, none⟩ = some (.int .i64 c.it) ∧ w.cell? ⟨b, o + 2, none⟩ = some (.int .i64 c.vc) ∧ w.cell? ⟨b, o + 3, none⟩ = some (.int .i64 c.va) ∧ w.cell? ⟨b, o + 4, none⟩ = some (.int .i64 c.ef) ∧ w.cell? ⟨b, o + 5, none⟩ = some (.int .i64 c.pa) :=
  ⟨h 0 _ rfl, h 1 _ rfl, h 2 _ rfl, h 3 _ rfl, h 4 _ rfl, h 5 _ rfl⟩
theorem rng_mk6 {w : World} {b o : Nat} {c : Pt.Cl} (h0 : w.cell? ⟨b, o, none⟩ = some (.int .i64 c.nt)) (h1 : w.cell? ⟨b, o + 1, none⟩ = some (.int .i64 c.it)) (h2 : w.cell? ⟨b, o + 2, none⟩ = some (.int .i64 c.vc)) (h3 : w.cell? ⟨b, o + 3, none⟩ = some (.int .i64 c.va)) (h4 : w.cell? ⟨b, o + 4, none⟩ = some (.int .i64 c.ef)) (h5 : w.cell? ⟨b, o + 5, none⟩ = some (.int .i64 c.pa)) : w.rangeAt b o (CL c)
  | 0, v, h => by simp [CL] at h; rw [← h]; exact h0
  | 1, v, h => by simp [CL] at h; rw [← h]; exact h1
  | 2, v, h => by simp [CL] at h; rw [← h]; exact h2
  | 3, v, h => by simp [CL] at h; rw [← h]; exact h3
  | 4, v, h => by simp [CL] at h; rw [← h]; exact h4
  | 5, v, h => by simp [CL] at h; rw [← h]; exact h5
  | j + 6, v, h => by simp [CL] at h
theorem range_below {w w' : World} {b B o : Nat} {cs : List Value} (h : w.rangeAt b o cs) (hb : Below B w w') (hl : b < B) : w'.rangeAt b o cs := by
  intro j v hv
  rw [hb.cell (p := ⟨b, o + j, none⟩) hl]
  exact h j v hv
theorem there_below {w w' : World} {b n B o : Nat} (h : w.there b o n) (hb : Below B w w') (hl : b < B) : w'.there b o n := by
  intro j hj
  rw [hb.cell (p := ⟨b, o + j, none⟩) hl, hb.frozen (p := ⟨b, o + j, none⟩) hl]
  exact h j hj
theorem range_box (w : World) (cs : List Value) (t : TypeId) : (w.alloc (.cells cs.toArray t)).rangeAt w.heap.size 0 cs := by
  intro j v hv
  rw [Nat.zero_add]
  simp [World.cell?_alloc_new, hv]
theorem there_box (w : World) (cs : List Value) (t : TypeId) : (w.alloc (.cells cs.toArray t)).there w.heap.size 0 cs.length := by
  intro j hj
  rw [Nat.zero_add]
  refine ⟨?_, World.frozen?_alloc_at _ _ _ _ rfl⟩
  simp [World.cell?_alloc_new, hj]
theorem grown_setCells (g : Nat) : ∀ (vs : List Value) (o : Nat) (w : World), w.grownBy (w.setCells g o vs) (some g)
  | [], _, _ => ⟨rfl, rfl, rfl, Nat.le_refl _, fun _ _ _ => rfl⟩
  | v :: r, o, w => by
    rw [World.setCells]
    have h := grown_setCells g r (o + 1) (w.setCell ⟨g, o, none⟩ v)
    have hs : (w.setCell ⟨g, o, none⟩ v).heap.size = w.heap.size := by simp [World.setCell]
    exact ⟨h.os, h.tape, h.output, Nat.le_trans (Nat.le_of_eq hs.symm) h.size, fun k hk hne => (h.block k (by rw [hs]; exact hk) hne).trans (heap_setCell_other w ⟨g, o, none⟩ k v (fun e => hne (by simp [e])))⟩
theorem grown_set (w : World) (g o : Nat) (v : Value) : w.grownBy (w.setCell ⟨g, o, none⟩ v) (some g) := grown_setCells g [v] o w
/-- Cells that lie at p. -/
def CellsAt (w : World) (p : Option Addr) (l : List Pt.Cl) : Prop := l = [] ∨ ∃ b off, p = some ⟨b, off, none⟩ ∧ b < w.heap.size ∧ w.rangeAt b off (cc l)
theorem CellsAt.below {w w' : World} {p : Option Addr} {l : List Pt.Cl} (h : CellsAt w p l) (hb : Below w.heap.size w w') : CellsAt w' p l := by
  rcases h with h | ⟨b, off, hp, hl, hc⟩
  · exact .inl h
  · exact .inr ⟨b, off, hp, Nat.lt_of_lt_of_le hl hb.size, range_below hc hb hl⟩
theorem CellsAt.low {w w' : World} {B : Nat} {p : Option Addr} {l : List Pt.Cl} (h : CellsAt w p l) (hs : w.heap.size ≤ B) (hb : Below B w w') : CellsAt w' p l := h.below (hb.mono hs)
theorem CellsAt.at {w : World} {p : Option Addr} {l : List Pt.Cl} (h : CellsAt w p l) {i : Nat} (hi : i < l.length) : ∃ b off, p = some ⟨b, off, none⟩ ∧ b < w.heap.size ∧ w.rangeAt b (off + i * 6) (CL (Pt.at' l i)) := by
  rcases h with rfl | ⟨b, off, hp, hl, hc⟩
  · exact absurd hi (by simp)
  · exact ⟨b, off, hp, hl, rng_of hc hi⟩
/-- A pattern as a value. -/
def PV (r : Int) (p : Option Addr) (n cap : Nat) : Value := .agg #[.int .i64 r, .slice p n cap]
/-- Cells in a block of one's own, which may be written. -/
def Kr (w : World) (g : Nat) (l : List Pt.Cl) : Prop := g < w.heap.size ∧ w.rangeAt g 0 (cc l) ∧ w.there g 0 (l.length * 6)
theorem Kr.low {w w' : World} {g B : Nat} {l : List Pt.Cl} (h : Kr w g l) (hb : Below B w w') (hg : g < B) (hs : w.heap.size ≤ w'.heap.size) : Kr w' g l :=
  ⟨Nat.lt_of_lt_of_le h.1 hs, range_below h.2.1 hb hg, there_below h.2.2 hb hg⟩
theorem Kr.kept {w w' : World} {g : Nat} {l : List Pt.Cl} (h : Kr w g l) (hb : Below w.heap.size w w') : Kr w' g l := h.low hb h.1 hb.size
theorem Kr.at {w : World} {g : Nat} {l : List Pt.Cl} (h : Kr w g l) : CellsAt w (some ⟨g, 0, none⟩) l := .inr ⟨g, 0, rfl, h.1, h.2.1⟩
theorem Kr.one {w : World} {g : Nat} {l : List Pt.Cl} (h : Kr w g l) {i : Nat} (hi : i < l.length) : w.rangeAt g (i * 6) (CL (Pt.at' l i)) := by
  have := rng_of h.2.1 hi
  rwa [Nat.zero_add] at this
theorem Kr.th {w : World} {g : Nat} {l : List Pt.Cl} (h : Kr w g l) {i : Nat} (hi : i < l.length) : w.there g (i * 6) 6 := by
  intro j hj
  have := h.2.2 (i * 6 + j) (by omega)
  rwa [Nat.zero_add] at this
/-- Only block g has been written, and there the cells are so. -/
theorem Kr.mk' {w w' : World} {g : Nat} {l l' : List Pt.Cl} (h : Kr w g l) (hl : l'.length = l.length) (hw : w.grownBy w' (some g)) (hc : ∀ i, i < l.length → w'.rangeAt g (i * 6) (CL (Pt.at' l' i))) (ht : w'.there g 0 (l.length * 6)) : Kr w' g l' :=
  ⟨Nat.lt_of_lt_of_le h.1 hw.size, rng_mk fun i hi => by rw [Nat.zero_add]; exact hc i (by omega), by rw [hl]; exact ht⟩
theorem there_set {w : World} {b o n p : Nat} {v : Value} (h : w.there b o n) : (w.setCell ⟨b, p, none⟩ v).there b o n := by
  intro j hj
  obtain ⟨h1, h2⟩ := h j hj
  refine ⟨?_, by simpa using h2⟩
  obtain ⟨u, hu⟩ := Option.isSome_iff_exists.1 h1
  by_cases e : (⟨b, o + j, none⟩ : Addr) = ⟨b, p, none⟩
  · rw [← e, World.cell?_setCell_same _ _ _ hu]; rfl
  · rw [World.cell?_setCell_other _ _ _ _ (fun h => e h.symm)]; exact h1
theorem range_set_out {w : World} {b o p : Nat} {v : Value} {cs : List Value} (h : w.rangeAt b o cs) (hp : p < o ∨ o + cs.length ≤ p) : (w.setCell ⟨b, p, none⟩ v).rangeAt b o cs := by
  intro j u hu
  have hj : j < cs.length := (List.getElem?_eq_some_iff.1 hu).1
  rw [World.cell?_setCell_other _ _ _ _ (fun e => by have := congrArg Addr.off e; simp at this; omega)]
  exact h j u hu
theorem range_set_in {w : World} {b o p : Nat} {v : Value} {cs : List Value} (h : w.rangeAt b o cs) (hp : p < cs.length) : (w.setCell ⟨b, o + p, none⟩ v).rangeAt b o (cs.set p v) := by
  intro j u hu
  by_cases e : j = p
  · subst e
    rw [List.getElem?_set_self hp] at hu
    obtain ⟨y, hy⟩ : ∃ y, cs[j]? = some y := ⟨_, List.getElem?_eq_getElem hp⟩
    rw [World.cell?_setCell_same _ _ _ (h j y hy), hu]
  · rw [List.getElem?_set_ne (fun h => e h.symm)] at hu
    rw [World.cell?_setCell_other _ _ _ _ (fun h => by have := congrArg Addr.off h; simp at this; omega)]
    exact h j u hu
/-- One number of a cell is set. -/
theorem Kr.setField {w : World} {g i j : Nat} {l : List Pt.Cl} {c : Pt.Cl} {v : Value} (h : Kr w g l) (hi : i < l.length) (hj : j < 6) (hc : CL c = (CL (Pt.at' l i)).set j v) : Kr (w.setCell ⟨g, i * 6 + j, none⟩ v) g (l.set i c) := by
  refine h.mk' (by simp) (grown_set w g _ v) (fun k hk => ?_) (there_set h.2.2)
  rw [Pt.at_set l i c hi]
  by_cases e : k = i
  · subst e
    rw [if_pos rfl, hc]
    exact range_set_in (h.one hk) (by rw [cl_len]; exact hj)
  · rw [if_neg e]
    exact range_set_out (h.one hk) (by rw [cl_len]; omega)
/-- A whole cell is set. -/
theorem Kr.setCl {w : World} {g i : Nat} {l : List Pt.Cl} (h : Kr w g l) (hi : i < l.length) (c : Pt.Cl) : Kr (w.setCells g (i * 6) (CL c)) g (l.set i c) := by
  refine h.mk' (by simp) (grown_setCells g _ _ w) (fun k hk => ?_) (World.there_setCells h.2.2 g _ _)
  rw [Pt.at_set l i c hi]
  by_cases e : k = i
  · subst e
    rw [if_pos rfl]
    exact World.rangeAt_setCells_same w g _ (CL c) (by rw [cl_len]; exact h.th hi)
  · rw [if_neg e]
    exact World.rangeAt_setCells_apart (h.one hk) g _ (CL c) (.inr (by simp only [cl_len]; omega))
/-- What a call hands back: these cells, in memory of their own, which is no older than B. -/
def Own (w : World) (B : Nat) (p : Option Addr) (l : List Pt.Cl) : Prop := l = [] ∨ ∃ g, p = some ⟨g, 0, none⟩ ∧ B ≤ g ∧ Kr w g l
theorem Own.at {w : World} {B : Nat} {p : Option Addr} {l : List Pt.Cl} (h : Own w B p l) : CellsAt w p l := by
  rcases h with h | ⟨g, rfl, _, h⟩
  · exact .inl h
  · exact h.at
theorem Own.kept {w w' : World} {B : Nat} {p : Option Addr} {l : List Pt.Cl} (h : Own w B p l) (hb : Below w.heap.size w w') : Own w' B p l := by
  rcases h with h | ⟨g, hp, hg, h⟩
  · exact .inl h
  · exact .inr ⟨g, hp, hg, h.kept hb⟩
theorem Own.mono {w : World} {B B' : Nat} {p : Option Addr} {l : List Pt.Cl} (h : Own w B p l) (hb : B' ≤ B) : Own w B' p l := by
  rcases h with h | ⟨g, hp, hg, h⟩
  · exact .inl h
  · exact .inr ⟨g, hp, Nat.le_trans hb hg, h⟩
/-- A pattern and an error as results. -/
def RetPE (r : Int) (l : List Pt.Cl) (e : Int) (B : Nat) (x : Ending) (w' : World) : Prop := ∃ p cap, x = .returned (.tuple #[PV r p l.length cap, .int .i64 e]) ∧ l.length ≤ cap ∧ Own w' B p l
section
variable {ops : Array Oper} {rest : List Oper} {op : Oper} {a : Act} {w : World} {Q : Exit → Act → World → Prop}
/-- A cell is read whole. -/
theorem ld_cell (hw : Region.wanted op (yielded ops a.tmps) = true) (x : Operand) (ho : op.op = .load 23 x) {b o : Nat} (hx : a.eval x = .pointer (some ⟨b, o, none⟩)) {c : Pt.Cl} (hr : w.rangeAt b o (CL c))
    (h : wpList Tryd.prog ops Q rest (a.put op.dst (.agg (CL c).toArray)) w) : wpList Tryd.prog ops Q (op :: rest) a w := by
  simp only [wpList, hw, if_true]
  exact .inl <| wp_load_mid 23 x ho b o hx (CL c) _ hr Tryd.underlying23 rfl (info_cl c) h
/-- A cell is stored whole. -/
theorem st_cell (hw : Region.wanted op (yielded ops a.tmps) = true) (x y : Operand) (ho : op.op = .store 23 x y) {b o : Nat} (hx : a.eval x = .pointer (some ⟨b, o, none⟩)) {c : Pt.Cl} (hy : a.eval y = .agg (CL c).toArray) (ht : w.there b o 6)
    (h : ∀ w', w' = w.setCells b o (CL c) → wpList Tryd.prog ops Q rest (a.put op.dst undef) w') : wpList Tryd.prog ops Q (op :: rest) a w := by
  simp only [wpList, hw, if_true]
  exact .inl <| wp_store_mid 23 x y ho b o (CL c).toArray hx hy ht ((info_cl c).trans (by simp)) (cl_one c) (h _ rfl)
end
end Go.Proofs.YtfjfnbeegojlbaaDoor

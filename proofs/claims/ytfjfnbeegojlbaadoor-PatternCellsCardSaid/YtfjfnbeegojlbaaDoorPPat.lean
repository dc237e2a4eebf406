/-
  Patterns' blocks: read, stored and returned whole; package pattern's clone, blank and Area.line.
-/
import Derived.Test.YtfjfnbeegojlbaaDoorPMem
namespace Go.Proofs.YtfjfnbeegojlbaaDoor
open Go.RowKit

/-- A pattern's block, which may be written. -/
def Pb (w : World) (b : Nat) (r : Int) (v : Value) : Prop := w.rangeAt b 0 [.int .i64 r, v] ∧ w.there b 0 2
theorem pb_box (w : World) (r : Int) (v : Value) (t : TypeId) : Pb (w.alloc (.cells #[.int .i64 r, v] t)) w.heap.size r v := ⟨range_box w [.int .i64 r, v] t, there_box w [.int .i64 r, v] t⟩
theorem Pb.lt {w : World} {b : Nat} {r : Int} {v : Value} (h : Pb w b r v) : b < w.heap.size := cell_lt (h.1 0 _ rfl)
theorem Pb.low {w w' : World} {b B : Nat} {r : Int} {v : Value} (h : Pb w b r v) (hb : Below B w w') (hl : b < B) : Pb w' b r v := ⟨range_below h.1 hb hl, there_below h.2 hb hl⟩
theorem Pb.kept {w w' : World} {b : Nat} {r : Int} {v : Value} (h : Pb w b r v) (hb : Below w.heap.size w w') : Pb w' b r v := h.low hb h.lt
theorem Pb.cells {w : World} {b : Nat} {r : Int} {v : Value} (h : Pb w b r v) : w.cell? ⟨b, 0, none⟩ = some (.int .i64 r) ∧ w.cell? ⟨b, 1, none⟩ = some v ∧ w.frozen? ⟨b, 0, none⟩ = false ∧ w.frozen? ⟨b, 1, none⟩ = false := ⟨h.1 0 _ rfl, h.1 1 _ rfl, (h.2 0 (by decide)).2, (h.2 1 (by decide)).2⟩
theorem Pb.set1 {w : World} {b : Nat} {r : Int} {v : Value} (h : Pb w b r v) (u : Value) : Pb (w.setCell ⟨b, 1, none⟩ u) b r u := ⟨by have := range_set_in (p := 1) (v := u) h.1 (by simp); simpa using this, there_set h.2⟩
theorem range_grown {w w' : World} {b c o : Nat} {cs : List Value} (h : w.rangeAt b o cs) (hg : w.grownBy w' (some c)) (hne : b ≠ c) (hl : b < w.heap.size) : w'.rangeAt b o cs := by
  intro j v hv
  rw [World.cell?_of_block (a := ⟨b, o + j, none⟩) (hg.block b hl (by simpa using hne))]
  exact h j v hv
theorem there_grown {w w' : World} {b c o n : Nat} (h : w.there b o n) (hg : w.grownBy w' (some c)) (hne : b ≠ c) (hl : b < w.heap.size) : w'.there b o n := by
  have hb := hg.block b hl (by simpa using hne)
  intro j hj
  rw [World.cell?_of_block (a := ⟨b, o + j, none⟩) hb, World.frozen?_of_block (a := ⟨b, o + j, none⟩) hb]
  exact h j hj
theorem Pb.grown {w w' : World} {b c : Nat} {r : Int} {v : Value} (h : Pb w b r v) (hg : w.grownBy w' (some c)) (hne : b ≠ c) : Pb w' b r v := ⟨range_grown h.1 hg hne h.lt, there_grown h.2 hg hne h.lt⟩
theorem Kr.grown {w w' : World} {g c : Nat} {l : List Pt.Cl} (h : Kr w g l) (hg : w.grownBy w' (some c)) (hne : g ≠ c) : Kr w' g l := ⟨Nat.lt_of_lt_of_le h.1 hg.size, range_grown h.2.1 hg hne h.1, there_grown h.2.2 hg hne h.1⟩
theorem Own.grown {w w' : World} {B c : Nat} {p : Option Addr} {l : List Pt.Cl} (h : Own w B p l) (hg : w.grownBy w' (some c)) (hc : c < B) : Own w' B p l := by
  rcases h with h | ⟨g, hp, hb, h⟩
  · exact .inl h
  · exact .inr ⟨g, hp, hb, h.grown hg (by omega)⟩
theorem pat_one (r : Int) (p : Option Addr) (n cap : Nat) : (#[.int .i64 r, .slice p n cap] : Array Value).all (·.oneCell') = true := by simp [Value.oneCell']
theorem Tryd.infoPat : (Tryd.prog.info? 59).map (·.size) = some 2 := by kernel_rfl
section
variable {ops : Array Oper} {rest : List Oper} {op : Oper} {a : Act} {w : World} {Q : Exit → Act → World → Prop}
/-- A pattern is read whole. -/
theorem ld_pat (hw : Region.wanted op (yielded ops a.tmps) = true) (x : Operand) (ho : op.op = .load 59 x) {b : Nat} (hx : a.eval x = .pointer (some ⟨b, 0, none⟩)) {r : Int} {v : Value} (hr : w.rangeAt b 0 [.int .i64 r, v])
    (h : wpList Tryd.prog ops Q rest (a.put op.dst (.agg #[.int .i64 r, v])) w) : wpList Tryd.prog ops Q (op :: rest) a w := by
  simp only [wpList, hw, if_true]
  exact .inl <| wp_load_mid 59 x ho b 0 hx [.int .i64 r, v] _ hr Tryd.underlying59 rfl Tryd.infoPat h
/-- A pattern is stored whole. -/
theorem st_pat (hw : Region.wanted op (yielded ops a.tmps) = true) (x y : Operand) (ho : op.op = .store 59 x y) {b : Nat} (hx : a.eval x = .pointer (some ⟨b, 0, none⟩)) {r : Int} {p : Option Addr} {n cap : Nat} (hy : a.eval y = .agg #[.int .i64 r, .slice p n cap]) (ht : w.there b 0 2)
    (h : ∀ w', Pb w' b r (.slice p n cap) → w.grownBy w' (some b) → wpList Tryd.prog ops Q rest (a.put op.dst undef) w') : wpList Tryd.prog ops Q (op :: rest) a w := by
  simp only [wpList, hw, if_true]
  refine .inl <| wp_store_mid 59 x y ho b 0 #[.int .i64 r, .slice p n cap] hx hy ht Tryd.infoPat (pat_one r p n cap) ?_
  exact h _ ⟨World.rangeAt_setCells_same w b 0 _ ht, World.there_setCells ht b 0 _⟩ (grown_setCells b _ 0 w)
end
theorem res_p {fn : Func} {q : Tmp} (hf : fn.results = #[.cell q 59]) {tmps : Array Value} {w : World} {b : Nat} (hp : tmps.getD q undef = .pointer (some ⟨b, 0, none⟩)) {r : Int} {v : Value} (h : w.rangeAt b 0 [.int .i64 r, v]) :
    (results fn tmps).run Tryd.prog w = .ok (.agg #[.int .i64 r, v]) w := by
  simp only [results, hf]
  have hp' : tmps[q]?.getD undef = .pointer (some ⟨b, 0, none⟩) := by simpa using hp
  simp [hp', asAddr, run_loadVar_mid w b 0 59 [.int .i64 r, v] _ h Tryd.underlying59 rfl Tryd.infoPat]
theorem res_pe {fn : Func} {q u : Tmp} (hf : fn.results = #[.cell q 59, .tmp u]) {tmps : Array Value} {w : World} {b : Nat} (hp : tmps.getD q undef = .pointer (some ⟨b, 0, none⟩)) {r : Int} {v x : Value} (h : w.rangeAt b 0 [.int .i64 r, v]) (hv : tmps.getD u undef = x) :
    (results fn tmps).run Tryd.prog w = .ok (.tuple #[.agg #[.int .i64 r, v], x]) w := by
  rw [results_cell_tmp hf, hp, hv]
  simp [Result.andThen, asAddr, run_loadVar_mid w b 0 59 [.int .i64 r, v] _ h Tryd.underlying59 rfl Tryd.infoPat]
end Go.Proofs.YtfjfnbeegojlbaaDoor

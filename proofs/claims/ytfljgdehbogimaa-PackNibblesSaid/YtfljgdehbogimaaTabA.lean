/-
  Arrays of 256 cells in memory: laid, read and stored as a whole. Laws for the walk.
-/
import Derived.Test.YtfljgdehbogimaaRow
import Derived.Laws.Rows
namespace Go.Proofs.Ytfljgdehbogimaa
open Go.RowKit

/-- A row as an array: n cells of type t in block g. -/
def Arr (w : World) (B : Nat) (t : TypeId) (g n : Nat) (xs : List Value) : Prop := w.ownsRow B t 1 (.slice (some ⟨g, 0, none⟩) n n) n xs
theorem Arr.len {w : World} {B g n : Nat} {t : TypeId} {xs : List Value} (h : Arr w B t g n xs) : xs.length = n := by simpa using h.1
theorem Arr.lt {w : World} {B g n : Nat} {t : TypeId} {xs : List Value} (h : Arr w B t g n xs) : g < w.heap.size := (World.ownsRow.lt h g rfl).2
theorem Arr.block {w : World} {B g n : Nat} {t : TypeId} {xs : List Value} (h : Arr w B t g n xs) : w.heap[g]? = some (.cells xs.toArray t (0, 0)) := by
  rcases h.2 with ⟨h', _⟩ | ⟨g', cap', cur, h', _, hg, _, _, hcs, htake⟩
  · cases h'
  · simp only [Value.slice.injEq, Option.some.injEq, Addr.mk.injEq] at h'
    obtain ⟨⟨rfl, _⟩, _, rfl⟩ := h'
    rw [hg]
    have : cur = xs.toArray := by
      rw [← htake, List.take_of_length_le (by simp; omega)]
    rw [this]
theorem Arr.of_block {w : World} {B g n : Nat} {t : TypeId} {xs : List Value} (hB : B ≤ g) (hn : n ≤ maxLen) (hl : xs.length = n) (h : w.heap[g]? = some (.cells xs.toArray t (0, 0))) : Arr w B t g n xs :=
  ⟨by omega, .inr ⟨g, n, xs.toArray, rfl, hB, h, Nat.le_refl _, hn, by simp; omega, by simp [← hl]⟩⟩
theorem Arr.kept {w w' : World} {B g n : Nat} {t : TypeId} {xs : List Value} (h : Arr w B t g n xs) (hb : w'.heap[g]? = w.heap[g]?) : Arr w' B t g n xs := row_of h hb
theorem Arr.below {w w' : World} {B C g n : Nat} {t : TypeId} {xs : List Value} (h : Arr w B t g n xs) (hb : Below C w w') (hg : g < C) : Arr w' B t g n xs := row_of h (hb.block g hg)
theorem Arr.at {w : World} {B g n : Nat} {t : TypeId} {l : List Int} {k : IntKind} (h : Arr w B t g n (l.map (Value.int k))) {i : Nat} (hi : i < n) : w.cell? ⟨g, i, none⟩ = some (.int k (l.getD i 0)) := by
  have hl : l.length = n := by simpa using h.len
  rw [World.ownsRow.cellAt h i (by omega)]
  simp [List.getD_eq_getElem?_getD, hl, hi]
theorem Arr.free {w : World} {B g n : Nat} {t : TypeId} {xs : List Value} (h : Arr w B t g n xs) (i : Nat) : w.frozen? ⟨g, i, none⟩ = false := World.ownsRow.frozenAt h i
theorem Arr.set {w : World} {B g n : Nat} {t : TypeId} {l : List Int} {k : IntKind} (h : Arr w B t g n (l.map (Value.int k))) (i : Nat) (x : Int) : Arr (w.setCell ⟨g, i, none⟩ (.int k x)) B t g n ((l.set i x).map (Value.int k)) := by
  have := (World.ownsRow.stored h i (.int k x)).1
  unfold Arr
  rw [List.map_set]
  exact this
theorem Arr.atB {w : World} {B g n : Nat} {t : TypeId} {l : List Bool} (h : Arr w B t g n (l.map Value.bool)) {i : Nat} (hi : i < n) : w.cell? ⟨g, i, none⟩ = some (.bool (l.getD i false)) := by
  have hl : l.length = n := by simpa using h.len
  rw [World.ownsRow.cellAt h i (by omega)]
  simp [List.getD_eq_getElem?_getD, hl, hi]
theorem Arr.setB {w : World} {B g n : Nat} {t : TypeId} {l : List Bool} (h : Arr w B t g n (l.map Value.bool)) (i : Nat) (x : Bool) : Arr (w.setCell ⟨g, i, none⟩ (.bool x)) B t g n ((l.set i x).map Value.bool) := by
  have := (World.ownsRow.stored h i (.bool x)).1
  unfold Arr
  rw [List.map_set]
  exact this
theorem Arr.other {w : World} {B g n : Nat} {t : TypeId} {xs : List Value} (h : Arr w B t g n xs) {a : Addr} (hne : g ≠ a.block) (v : Value) : Arr (w.setCell a v) B t g n xs := h.kept (Below.heap_setCell w a v g hne)
theorem Arr.laid (w : World) (t : TypeId) {n : Nat} (hn : n ≤ maxLen) (v : Value) : Arr (w.alloc (.cells (Array.replicate n v) t)) w.heap.size t w.heap.size n (List.replicate n v) :=
  Arr.of_block (Nat.le_refl _) hn List.length_replicate (by rw [List.toArray_replicate]; exact heap_alloc_new w _)
theorem Arr.row {w : World} {B g n : Nat} {t : TypeId} {xs ys : List Value} (h : Arr w B t g n xs) (hy : ys.length = n) : Arr (w.setRow g ys.toArray) B t g n ys := by
  have hB : B ≤ g := (World.ownsRow.lt h g rfl).1
  have hn : n ≤ maxLen := by
    rcases h.2 with ⟨h', _⟩ | ⟨g', cap', cur, h', _, _, h1, h2, _⟩
    · cases h'
    · omega
  exact Arr.of_block hB hn hy (setRow_heap w g xs.toArray ys.toArray t (0, 0) h.block)
theorem Arr.lower {w : World} {A B g n : Nat} {t : TypeId} {xs : List Value} (h : Arr w B t g n xs) (hA : A ≤ B) : Arr w A t g n xs := row_lower h hA
theorem ints_one (k : IntKind) (l : List Int) : ((l.map (Value.int k)).toArray).all (·.oneCell') = true := by
  rw [Array.all_eq_true_iff_forall_mem]
  intro v hv
  simp only [List.mem_toArray, List.mem_map] at hv
  obtain ⟨x, _, rfl⟩ := hv
  rfl
/-- A block is laid with the zero value of its type. -/
theorem wpList_alloc_arr {P : Program} {w : World} {ops : Array Oper} {rest : List Oper} {o : Oper} {a : Act} {Q : Exit → Act → World → Prop} (hgd : o.guard = none) (t : TypeId) (ho : o.op = .alloc t) (n : Nat) (v : Value)
    (hi : (P.info? t).map (fun i => (i.zero, i.size)) = some (some (.agg (Array.replicate n v)), n))
    (h : wpList P ops Q rest (a.put o.dst (.pointer (some ⟨w.heap.size, 0, none⟩))) (w.alloc (.cells (Array.replicate n v) t))) : wpList P ops Q (o :: rest) a w := by
  obtain ⟨i, h1, h2⟩ := Option.map_eq_some_iff.1 hi
  simp only [Prod.mk.injEq] at h2
  refine wpList_plain hgd fun K hK => ?_
  unfold Oper.wp
  simp [execOp, ho, Instr.alloc, zeroValue, typeInfo, h1, h2.1, newVar, newRow, Value.cells]
  exact hK _ _ h
/-- The same, the new world under a name. -/
theorem wpList_new_arr {P : Program} {w : World} {ops : Array Oper} {rest : List Oper} {o : Oper} {a : Act} {Q : Exit → Act → World → Prop} (hgd : o.guard = none) (t : TypeId) (ho : o.op = .alloc t) (n : Nat) (v : Value)
    (hi : (P.info? t).map (fun i => (i.zero, i.size)) = some (some (.agg (Array.replicate n v)), n)) (hn : n ≤ maxLen)
    (h : ∀ w', Arr w' w.heap.size t w.heap.size n (List.replicate n v) → Below w.heap.size w w' → w'.heap.size = w.heap.size + 1 → wpList P ops Q rest (a.put o.dst (.pointer (some ⟨w.heap.size, 0, none⟩))) w') : wpList P ops Q (o :: rest) a w :=
  wpList_alloc_arr hgd t ho n v hi (h _ (Arr.laid w t hn v) (below_box w _) (by simp))
/-- An array is read as a whole. -/
theorem wpList_load_arr {P : Program} {w : World} {ops : Array Oper} {rest : List Oper} {o : Oper} {a : Act} {Q : Exit → Act → World → Prop} (hgd : o.guard = none) (t : TypeId) (x : Operand) (ho : o.op = .load t x)
    (g B : Nat) (hx : a.eval x = .pointer (some ⟨g, 0, none⟩)) (n : Nat) (e : TypeId) (hu : P.underlying t = some (.array n e)) (hi : (P.info? t).map (·.size) = some n) (xs : List Value) (hA : Arr w B t g n xs)
    (h : wpList P ops Q rest (a.put o.dst (.agg xs.toArray)) w) : wpList P ops Q (o :: rest) a w :=
  wpList_load_row hgd t x ho g hx t xs.toArray (0, 0) (.array n e) hA.block hu rfl (by rw [hi]; simp [hA.len]) h
/-- An array is stored as a whole. -/
theorem wpList_store_arr {P : Program} {w : World} {ops : Array Oper} {rest : List Oper} {o : Oper} {a : Act} {Q : Exit → Act → World → Prop} (hgd : o.guard = none) (t : TypeId) (x y : Operand) (ho : o.op = .store t x y)
    (g B : Nat) (hx : a.eval x = .pointer (some ⟨g, 0, none⟩)) (n : Nat) (k : IntKind) (l : List Int) (hy : a.eval y = .agg (l.map (Value.int k)).toArray) (hl : l.length = n) (hi : (P.info? t).map (·.size) = some n) (xs : List Value) (hA : Arr w B t g n xs)
    (h : ∀ w', Arr w' B t g n (l.map (Value.int k)) → Below g w w' → (∀ j, j ≠ g → w'.heap[j]? = w.heap[j]?) → w'.heap.size = w.heap.size → wpList P ops Q rest (a.put o.dst undef) w') : wpList P ops Q (o :: rest) a w :=
  wpList_store_row hgd t x y ho g (l.map (Value.int k)).toArray hx hy t xs.toArray hA.block (by rw [hi]; simp [hl]) (by simp [hA.len, hl]) (ints_one k l)
    (h _ (hA.row (by simp [hl])) ⟨rfl, rfl, rfl, by simp, fun j hj => setRow_other w g j _ (by omega)⟩ (fun j hj => setRow_other w g j _ hj) (by simp))
/-- A result that is an array. -/
theorem results_arr {P : Program} {fn : Func} {p : Tmp} {t : TypeId} (hf : fn.results = #[.cell p t]) (tmps : Array Value) (w : World) (g B n : Nat) (e : TypeId) (xs : List Value)
    (hp : tmps.getD p undef = .pointer (some ⟨g, 0, none⟩)) (hA : Arr w B t g n xs) (hu : P.underlying t = some (.array n e)) (hi : (P.info? t).map (·.size) = some n) :
    (results fn tmps).run P w = .ok (.agg xs.toArray) w :=
  results_cell_row hf tmps w g t xs.toArray (0, 0) (.array n e) hp hA.block hu rfl (by rw [hi]; simp [hA.len])
theorem Try.infoArr : (Try.prog.info? 63).map (fun i => (i.zero, i.size)) = some (some (.agg (Array.replicate 256 (.int .i64 0))), 256) := by kernel_rfl
theorem Try.infoArrB : (Try.prog.info? 68).map (fun i => (i.zero, i.size)) = some (some (.agg (Array.replicate 256 (.bool false))), 256) := by kernel_rfl
theorem Try.sizeArr : (Try.prog.info? 63).map (·.size) = some 256 := by kernel_rfl
end Go.Proofs.Ytfljgdehbogimaa

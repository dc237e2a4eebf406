/-
  Words for package pack's closures: what changes in a stretch of blocks alone, blocks of one cell, and a function value that turns numbers one by one and keeps what it needs. No walk.
-/
import Derived.Test.YtfljgdehbogimaaPMap
namespace Go.Proofs.Ytfljgdehbogimaa
open Go.RowKit

/-- From w to w' no block but those from lo on and below hi has changed. -/
structure Mid (lo hi : Nat) (w w' : World) : Prop where
  os : w'.os = w.os
  tape : w'.tape = w.tape
  output : w'.output = w.output
  size : w.heap.size ≤ w'.heap.size
  block : ∀ k, k < w.heap.size → k < lo ∨ hi ≤ k → w'.heap[k]? = w.heap[k]?
theorem Mid.refl (lo hi : Nat) (w : World) : Mid lo hi w w := ⟨rfl, rfl, rfl, Nat.le_refl _, fun _ _ _ => rfl⟩
theorem Mid.trans {lo hi : Nat} {a b c : World} (h : Mid lo hi a b) (k : Mid lo hi b c) : Mid lo hi a c :=
  ⟨k.os.trans h.os, k.tape.trans h.tape, k.output.trans h.output, Nat.le_trans h.size k.size, fun i hi ho => (k.block i (Nat.lt_of_lt_of_le hi h.size) ho).trans (h.block i hi ho)⟩
theorem Mid.mono {lo hi lo' hi' : Nat} {w w' : World} (h : Mid lo hi w w') (h1 : lo' ≤ lo) (h2 : hi ≤ hi') : Mid lo' hi' w w' :=
  ⟨h.os, h.tape, h.output, h.size, fun k hk ho => h.block k hk (by omega)⟩
theorem Mid.of {w w' : World} (h : Below w.heap.size w w') (lo hi : Nat) : Mid lo hi w w' := ⟨h.os, h.tape, h.output, h.size, fun k hk _ => h.block k hk⟩
theorem Mid.below {lo hi : Nat} {w w' : World} (h : Mid lo hi w w') (hl : lo ≤ w.heap.size) : Below lo w w' := ⟨h.os, h.tape, h.output, h.size, fun k hk => h.block k (Nat.lt_of_lt_of_le hk hl) (.inl hk)⟩
theorem Mid.belowB {lo hi B : Nat} {w w' : World} (h : Mid lo hi w w') (hl : B ≤ w.heap.size) (hB : B ≤ lo) : Below B w w' := ⟨h.os, h.tape, h.output, h.size, fun k hk => h.block k (by omega) (.inl (by omega))⟩
theorem mid_set (w : World) {a : Addr} (v : Value) {lo hi : Nat} (h1 : lo ≤ a.block) (h2 : a.block < hi) : Mid lo hi w (w.setCell a v) :=
  ⟨rfl, rfl, rfl, by simp [World.setCell], fun k _ ho => Below.heap_setCell w a v k (by omega)⟩
/-- From w to w' no block from lo on and below hi has changed. -/
structure Out (lo hi : Nat) (w w' : World) : Prop where
  size : w.heap.size ≤ w'.heap.size
  block : ∀ k, lo ≤ k → k < hi → w'.heap[k]? = w.heap[k]?
theorem Out.of {lo hi : Nat} {w w' : World} (h : Below w.heap.size w w') (hh : hi ≤ w.heap.size) : Out lo hi w w' := ⟨h.size, fun k _ hk => h.block k (by omega)⟩
theorem out_set (w : World) {a : Addr} (v : Value) {lo hi : Nat} (h : a.block < lo ∨ hi ≤ a.block) : Out lo hi w (w.setCell a v) :=
  ⟨by simp [World.setCell], fun k h1 h2 => Below.heap_setCell w a v k (by omega)⟩
theorem Out.trans {lo hi : Nat} {a b c : World} (h : Out lo hi a b) (k : Out lo hi b c) : Out lo hi a c :=
  ⟨Nat.le_trans h.size k.size, fun i h1 h2 => (k.block i h1 h2).trans (h.block i h1 h2)⟩
theorem Mid.out {lo hi a b : Nat} {w w' : World} (h : Mid lo hi w w') (hb : b ≤ w.heap.size) (ho : b ≤ lo ∨ hi ≤ a) : Out a b w w' := ⟨h.size, fun k h1 h2 => h.block k (by omega) (by omega)⟩
/-- A block of one int. -/
def One (w : World) (c : Nat) (v : Value) (t : TypeId) : Prop := w.heap[c]? = some (.cells #[v] t (0, 0))
theorem One.cell {w : World} {c : Nat} {v : Value} {t : TypeId} (h : One w c v t) : w.cell? ⟨c, 0, none⟩ = some v := cell_of_one h
theorem One.free {w : World} {c : Nat} {v : Value} {t : TypeId} (h : One w c v t) : w.frozen? ⟨c, 0, none⟩ = false := free_of_one h
theorem One.lt {w : World} {c : Nat} {v : Value} {t : TypeId} (h : One w c v t) : c < w.heap.size := lt_of_block h
theorem One.set {w : World} {c : Nat} {v : Value} {t : TypeId} (h : One w c v t) (u : Value) : One (w.setCell ⟨c, 0, none⟩ u) c u t := one_setCell h
theorem One.other {w : World} {c : Nat} {v : Value} {t : TypeId} (h : One w c v t) {a : Addr} (ha : c ≠ a.block) (u : Value) : One (w.setCell a u) c v t := (Below.heap_setCell w a u c ha).trans h
theorem One.out {lo hi c : Nat} {w w' : World} {v : Value} {t : TypeId} (h : One w c v t) (ho : Out lo hi w w') (h1 : lo ≤ c) (h2 : c < hi) : One w' c v t := (ho.block c h1 h2).trans h
theorem One.mid {lo hi c : Nat} {w w' : World} {v : Value} {t : TypeId} (h : One w c v t) (ho : Mid lo hi w w') (h1 : c < lo ∨ hi ≤ c) : One w' c v t := (ho.block c h.lt h1).trans h
theorem One.kept {c : Nat} {w w' : World} {v : Value} {t : TypeId} (h : One w c v t) (hb : Below w.heap.size w w') : One w' c v t := (hb.block c h.lt).trans h
theorem one_alloc (w : World) (v : Value) (t : TypeId) : One (w.alloc (.cells #[v] t)) w.heap.size v t := heap_alloc_new _ _
/-- The last number, or 0. -/
def lst (l : List Int) : Int := l.getLastD 0
/-- A function value F, with what it captured, that turns numbers one by one as T turns lists; S is what it keeps, in the blocks from lo on and below hi. -/
structure Trans (F : Nat) (cb : Array Value) (lo hi : Nat) (T : List Int → List Int) (S : List Int → World → Prop) : Prop where
  enters : ∀ args w, (callFunc F args).run Try.prog w = .ok (.enter F args) w
  calls : ∀ a x w, -1048576 ≤ x → x ≤ 1048576 → S a w → Calls Try.prog F (#[.int .i64 x] ++ cb) w fun e w' => e = .returned (.int .i64 ((T (a ++ [x])).getD a.length 0)) ∧ S (a ++ [x]) w' ∧ Mid lo hi w w'
  stays : ∀ a w w', S a w → Out lo hi w w' → S a w'
  len : ∀ a, (T a).length = a.length
  snoc : ∀ a x, T (a ++ [x]) = T a ++ [(T (a ++ [x])).getD a.length 0]
  bound : ∀ a x, -65536 ≤ (T (a ++ [x])).getD a.length 0 ∧ (T (a ++ [x])).getD a.length 0 ≤ 65536
theorem difs_snoc (h : Int) : ∀ (p : Int) (a : List Int) (x : Int), Pk.difs h p (a ++ [x]) = Pk.difs h p a ++ [Pk.wrp h (x - a.getLastD p)]
  | _, [], _ => rfl
  | p, y :: a, x => by
    have e : (y :: a).getLastD p = a.getLastD y := by cases a <;> simp [List.getLastD]
    simp only [List.cons_append, Pk.difs, difs_snoc h y a x, e]
theorem sums_snoc (h : Int) : ∀ (p : Int) (a : List Int) (x : Int), Pk.sums h p (a ++ [x]) = Pk.sums h p a ++ [Pk.wrp h ((Pk.sums h p a).getLastD p + x)]
  | _, [], _ => rfl
  | p, y :: a, x => by
    have e : ∀ (q : Int) (l : List Int), (q :: l).getLastD p = l.getLastD q := fun q l => by cases l <;> simp [List.getLastD]
    simp only [List.cons_append, Pk.sums, sums_snoc h _ a x, e]
theorem lst_snoc (a : List Int) (x : Int) : lst (a ++ [x]) = x := by simp [lst]
theorem getD_snoc {a l : List Int} {x : Int} (h : l.length = a.length) : (l ++ [x]).getD a.length 0 = x := by
  rw [List.getD_eq_getElem?_getD, ← h]
  simp
end Go.Proofs.Ytfljgdehbogimaa

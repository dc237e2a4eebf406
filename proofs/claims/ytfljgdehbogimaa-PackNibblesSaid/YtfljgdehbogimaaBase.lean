/-
  Words and small lemmas for package pack: lists of numbers and of bytes in memory, rows of one's own, what stays behind a call that changes nothing of what was there. No walk.
-/
import Derived.Test.YtfljgdehbogimaaChecked
import Derived.LoopTactic
import Derived.Lib.Hide
import Derived.Deep.QuietTactic
import Derived.BigQuiet
import Derived.Deep.Draws
import Derived.OneCell
import Derived.OwnWalk
import Derived.Outline
import Derived.Laws.AppendOwn
import Derived.Laws.AppendOwnNone
import Derived.Laws.CopyOwn
namespace Go.Proofs.Ytfljgdehbogimaa
open Go.RowKit

theorem ret_bool {a b : Bool} (h : a = b) : Ending.returned (.bool a) = .returned (.bool b) := by rw [h]

theorem ret_int {k : IntKind} {a b : Int} (h : a = b) : Ending.returned (.int k a) = .returned (.int k b) := by rw [h]
theorem below_box (w : World) (o : Obj) : Below w.heap.size w (w.alloc o) := (Below.refl _ _).alloc (Nat.le_refl _) _

/-- A cell that is there stays behind a call that changes nothing of what was there. -/
theorem cell_lt {w : World} {a : Addr} {v : Value} (h : w.cell? a = some v) : a.block < w.heap.size := World.block_lt_of_cell? w a h
theorem kept_cell {w w' : World} {a : Addr} {v : Value} (hb : Below w.heap.size w w') (h : w.cell? a = some v) : w'.cell? a = some v := by rw [hb.cell (cell_lt h)]; exact h
theorem below_drewN' {B : Nat} {a w : World} (h : Below B a w) (n : Nat) : Below B a (w.drewN n) := ⟨h.os, h.tape, h.output, h.size, h.block⟩
/-- From W on nothing that was there has changed: the next call. -/
theorem stepB {W w w' : World} (h : Below W.heap.size W w) (hb : Below w.heap.size w w') : Below W.heap.size W w' := h.trans (hb.mono h.size)
/-- Numbers of a kind that lie at p, in a block that is there. -/
def KAt (k : IntKind) (w : World) (p : Option Addr) (zs : List Int) : Prop := zs = [] ∨ ∃ b off, p = some ⟨b, off, none⟩ ∧ b < w.heap.size ∧ ∀ i, i < zs.length → w.cell? ⟨b, off + i, none⟩ = some (.int k (zs.getD i 0))
/-- Numbers that lie at p. -/
def DatAt (w : World) (p : Option Addr) (zs : List Int) : Prop := KAt .i64 w p zs
/-- Bytes that lie at p. -/
def BytAt (w : World) (p : Option Addr) (zs : List Int) : Prop := KAt .u8 w p zs
theorem KAt.below {k : IntKind} {w w' : World} {p : Option Addr} {zs : List Int} (h : KAt k w p zs) (hb : Below w.heap.size w w') : KAt k w' p zs := by
  rcases h with h | ⟨b, off, hp, hl, hc⟩
  · exact .inl h
  · exact .inr ⟨b, off, hp, Nat.lt_of_lt_of_le hl hb.size, fun i hi => by rw [hb.cell hl]; exact hc i hi⟩
theorem KAt.at {k : IntKind} {w : World} {p : Option Addr} {zs : List Int} (h : KAt k w p zs) {i : Nat} (hi : i < zs.length) : ∃ b off, p = some ⟨b, off, none⟩ ∧ w.cell? ⟨b, off + i, none⟩ = some (.int k (zs.getD i 0)) := by
  rcases h with rfl | ⟨b, off, hp, _, hc⟩
  · exact absurd hi (by simp)
  · exact ⟨b, off, hp, hc i hi⟩
theorem DatAt.below {w w' : World} {p : Option Addr} {zs : List Int} (h : DatAt w p zs) (hb : Below w.heap.size w w') : DatAt w' p zs := KAt.below h hb
theorem DatAt.at {w : World} {p : Option Addr} {zs : List Int} (h : DatAt w p zs) {i : Nat} (hi : i < zs.length) : ∃ b off, p = some ⟨b, off, none⟩ ∧ w.cell? ⟨b, off + i, none⟩ = some (.int .i64 (zs.getD i 0)) := KAt.at h hi
theorem BytAt.below {w w' : World} {p : Option Addr} {zs : List Int} (h : BytAt w p zs) (hb : Below w.heap.size w w') : BytAt w' p zs := KAt.below h hb
theorem BytAt.at {w : World} {p : Option Addr} {zs : List Int} (h : BytAt w p zs) {i : Nat} (hi : i < zs.length) : ∃ b off, p = some ⟨b, off, none⟩ ∧ w.cell? ⟨b, off + i, none⟩ = some (.int .u8 (zs.getD i 0)) := KAt.at h hi
theorem Try.infoInt : (Try.prog.info? 3).map (fun i => (i.zero, i.size, i.bytes)) = some (some (.int .i64 0), 1, 8) := by kernel_rfl
theorem Try.infoByte : (Try.prog.info? 5).map (fun i => (i.zero, i.size, i.bytes)) = some (some (.int .u8 0), 1, 1) := by kernel_rfl
theorem cell_set {w : World} {x y : Nat} (h : x ≠ y) (i j : Nat) (v : Value) : (w.setCell ⟨y, j, none⟩ v).cell? ⟨x, i, none⟩ = w.cell? ⟨x, i, none⟩ :=
  World.cell?_setCell_other _ _ _ _ (fun e => h (congrArg Addr.block e).symm)
theorem grown_below {w w' : World} (h : w.grownBy w' none) : Below w.heap.size w w' := ⟨h.os, h.tape, h.output, h.size, fun k hk => h.block k hk (by simp)⟩
/-- The row's cells after k rounds, from the front. -/
def frow (f : Nat → Int) (n k : Nat) : List Value := (List.range n).map fun j => .int .i64 (if j < k then f j else 0)
theorem frow_zero (f : Nat → Int) (n : Nat) : frow f n 0 = List.replicate n (.int .i64 0) := by
  apply List.ext_getElem?
  intro i
  by_cases hi : i < n <;> simp [frow, hi]
theorem frow_set (f : Nat → Int) {n k : Nat} (hk : k < n) {v : Int} (hv : v = f k) : (frow f n k).set k (.int .i64 v) = frow f n (k + 1) := by
  apply List.ext_getElem?
  intro i
  rw [List.getElem?_set]
  by_cases e : k = i
  · subst e
    simp [frow, hk, hv]
  · rw [if_neg e]
    simp only [frow, List.getElem?_map]
    by_cases hi : i < n
    · simp only [List.getElem?_range hi, Option.map_some]
      congr 3
      exact propext ⟨fun _ => by omega, fun _ => by omega⟩
    · simp [hi]
theorem frow_at (f : Nat → Int) {n k : Nat} (hk : k < n) : (frow f n k)[k]? = some (.int .i64 0) := by simp [frow, hk]
theorem frow_full (f : Nat → Int) {n : Nat} {l : List Int} (hl : l.length = n) (h : ∀ i, i < n → l.getD i 0 = f i) : frow f n n = l.map (Value.int .i64) := by
  apply List.ext_getElem
  · simp [frow, hl]
  · intro i h1 h2
    have hi : i < n := by simpa [frow] using h1
    have := h i hi
    rw [List.getD_eq_getElem?_getD, List.getElem?_eq_getElem (by omega)] at this
    simp at this
    simp [frow, hi, this]
theorem grown_base {w w' : World} {B : Nat} {v : Value} (h : w.grownBy w' v.ownBlock) (hv : ∀ k, v.ownBlock = some k → B ≤ k) (hB : B ≤ w.heap.size) : Below B w w' :=
  ⟨h.os, h.tape, h.output, h.size, fun k hk => h.block k (Nat.lt_of_lt_of_le hk hB) (fun e => by have := hv k e.symm; omega)⟩
/-- Numbers of a kind (its type e) in memory of one's own with a capacity, made since the block B. -/
def OwnK (k : IntKind) (e : TypeId) (w : World) (B g : Nat) (l : List Int) (c : Nat) : Prop := w.ownsRow B e 1 (.slice (some ⟨g, 0, none⟩) l.length c) l.length (l.map (Value.int k))
theorem OwnK.lt {k : IntKind} {e : TypeId} {w : World} {B g c : Nat} {l : List Int} (h : OwnK k e w B g l c) : g < w.heap.size := (World.ownsRow.lt h g rfl).2
theorem OwnK.ge {k : IntKind} {e : TypeId} {w : World} {B g c : Nat} {l : List Int} (h : OwnK k e w B g l c) : B ≤ g := (World.ownsRow.lt h g rfl).1
theorem OwnK.kept {k : IntKind} {e : TypeId} {w w' : World} {B g c : Nat} {l : List Int} (h : OwnK k e w B g l c) (hb : Below w.heap.size w w') : OwnK k e w' B g l c :=
  World.ownsRow.kept (row := none) h ⟨hb.os, hb.tape, hb.output, hb.size, fun k hk _ => hb.block k hk⟩ (.inr (by simp [Value.ownBlock]))
theorem OwnK.dat {k : IntKind} {e : TypeId} {w : World} {B g c : Nat} {l : List Int} (h : OwnK k e w B g l c) : KAt k w (some ⟨g, 0, none⟩) l := by
  refine .inr ⟨g, 0, rfl, h.lt, fun i hi => ?_⟩
  rw [Nat.zero_add, World.ownsRow.cellAt h i (by omega)]
  simp [hi, List.getD_eq_getElem?_getD]
theorem own_dat {k : IntKind} {e : TypeId} {w : World} {B n : Nat} {v : Value} {l : List Int} (h : w.ownsRow B e 1 v n (l.map (Value.int k))) (hn : l.length = n) : ∃ p cap, v = .slice p l.length cap ∧ KAt k w p l := by
  rcases h.2 with ⟨rfl, rfl⟩ | ⟨g, cap, cur, rfl, _⟩
  · exact ⟨none, 0, by rw [hn], .inl (List.eq_nil_of_length_eq_zero hn)⟩
  · refine ⟨some ⟨g, 0, none⟩, cap, by rw [hn], .inr ⟨g, 0, rfl, (World.ownsRow.lt h g rfl).2, fun i hi => ?_⟩⟩
    rw [Nat.zero_add, World.ownsRow.cellAt h i (by omega)]
    simp [hi, List.getD_eq_getElem?_getD]
theorem own_some {e : TypeId} {w : World} {B n : Nat} {v : Value} {xs : List Value} (h : w.ownsRow B e 1 v n xs) (hn : v ≠ .slice none 0 0) : ∃ g c, v = .slice (some ⟨g, 0, none⟩) n c := by
  rcases h.2 with ⟨rfl, _⟩ | ⟨g, cap, cur, rfl, _⟩
  · exact absurd rfl hn
  · exact ⟨g, cap, rfl⟩
theorem own_empty (e : TypeId) (w : World) : (w.alloc (.cells #[] e)).ownsRow w.heap.size e 1 (.slice (some ⟨w.heap.size, 0, none⟩) 0 0) 0 [] :=
  ⟨rfl, .inr ⟨w.heap.size, 0, #[], rfl, Nat.le_refl _, heap_alloc_new _ _, Nat.le_refl _, by unfold maxLen; omega, rfl, rfl⟩⟩
theorem row_stays {e : TypeId} {w w' : World} {B n : Nat} {v : Value} {xs : List Value} (h : w.ownsRow B e 1 v n xs) (hb : Below w.heap.size w w') : w'.ownsRow B e 1 v n xs := by
  refine World.ownsRow.kept (row := none) h ⟨hb.os, hb.tape, hb.output, hb.size, fun k hk _ => hb.block k hk⟩ ?_
  rcases h.2 with ⟨rfl, _⟩ | ⟨g, cap, cur, rfl, _⟩
  · exact .inl rfl
  · exact .inr (by simp [Value.ownBlock])
theorem one_new (k : IntKind) (e : TypeId) (w : World) (y : Int) : ∀ j u, ([.int k y] : List Value)[j]? = some u → (w.alloc (.cells #[.int k y] e)).cell? ((⟨w.heap.size, 0, none⟩ : Addr).add j) = some u := by
  intro j u hu
  match j with
  | 0 =>
    have e : Value.int k y = u := by simpa using hu
    subst e
    simp [Addr.add, World.cell?_alloc_new]
  | j + 1 => simp at hu
theorem one_one (k : IntKind) (y : Int) : ∀ u ∈ ([.int k y] : List Value), u.oneCell' = true := by
  intro u hu
  have e : u = Value.int k y := by simpa using hu
  subst e
  rfl
end Go.Proofs.Ytfljgdehbogimaa

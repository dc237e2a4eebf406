/-
  Words for keys that are set. No walk.
-/
import Derived.Test.YtcchfahdgmcpbaaPOwn
namespace Go.Proofs.Ytcchfahdgmcpbaa
open Go.RowKit

namespace In
/-- What SetKeys answers. -/
def skE (i : Ins) (f t s m : Int) : Int := if ivld i = true then (if skok f t s m = true then 0 else 5) else 1
def skI (i : Ins) (f t s m : Int) : Ins := if (ivld i && skok f t s m) = true then withK i (sk i.keys f t s m) else zer
/-- The keys f to n - 1 are set. -/
def stp (ks : List (Int × Int)) (f n : Nat) (s m : Int) : List (Int × Int) := mkl fun j => if f ≤ j ∧ j < n then (min (max ((j : Int) + s) 0) 119, m) else (plA ks j, plB ks j 0)
theorem stp_len (ks : List (Int × Int)) (f n : Nat) (s m : Int) : (stp ks f n s m).length = 120 := mkl_len _
theorem stp_none (ks : List (Int × Int)) (f : Nat) (s m : Int) : stp ks f f s m = bas ks := mkl_ext fun k _ => by rw [if_neg (by omega)]
theorem stp_all (ks : List (Int × Int)) (f t : Nat) (s m : Int) : stp ks f (t + 1) s m = sk ks f t s m := by
  unfold stp sk mkl
  refine List.map_congr_left fun k _ => ?_
  unfold skT skV
  by_cases h : f ≤ k ∧ k < t + 1
  · rw [if_pos h, if_pos (by omega), if_pos (by omega)]
  · rw [if_neg h, if_neg (by omega), if_neg (by omega)]
theorem stp_succ (ks : List (Int × Int)) {f n : Nat} (s m : Int) (hf : f ≤ n) {j : Nat} (hj : (j : Int) < 120) : tk (stp ks f (n + 1) s m) j = (if j = n then min (max ((n : Int) + s) 0) 119 else tk (stp ks f n s m) j) ∧ vl (stp ks f (n + 1) s m) j = (if j = n then m else vl (stp ks f n s m) j) := by
  unfold stp
  rw [mkl_tk _ hj, mkl_tk _ hj, mkl_vl _ hj, mkl_vl _ hj]
  by_cases e : j = n
  · subst e
    rw [if_pos ⟨hf, by omega⟩, if_pos rfl, if_pos rfl]
    exact ⟨rfl, rfl⟩
  · rw [if_neg e, if_neg e]
    by_cases h : f ≤ j ∧ j < n
    · rw [if_pos ⟨h.1, by omega⟩, if_pos h]; exact ⟨rfl, rfl⟩
    · rw [if_neg (by omega), if_neg h]; exact ⟨rfl, rfl⟩
theorem bas_len (ks : List (Int × Int)) : (bas ks).length = 120 := mkl_len _
end In
/-- What SetKeys hands back: an instrument and a number; the keys, if there are any, in memory that may be written. -/
def RetS (J : In.Ins) (E : Int) (B : Nat) (e : Ending) (w' : World) : Prop := ∃ a, e = .returned (.tuple #[.agg (IL J a).toArray, .int .i64 E]) ∧ IPts w' J a ∧ (J.keys ≠ [] → ∃ g, a.k = some ⟨g, 0, none⟩ ∧ B ≤ g ∧ Kr w' g J.keys)
theorem zer_pts (w : World) : IPts w In.zer In.zel := ⟨.inl rfl, .inl rfl, .inl rfl, .inl rfl⟩
theorem il_withK (i : In.Ins) (a : In.Loc) {L L' : List (Int × Int)} (h : L.length = L'.length) : IL (In.withK i L) a = IL (In.withK i L') a := by
  show _ :: Value.slice a.k L.length a.ck :: _ = _ :: Value.slice a.k L'.length a.ck :: _
  rw [h]
  rfl
theorem il_keys (i : In.Ins) (a : In.Loc) {L : List (Int × Int)} (h : L.length = i.keys.length) : IL (In.withK i L) a = IL i a := by
  show _ :: Value.slice a.k L.length a.ck :: _ = _ :: Value.slice a.k i.keys.length a.ck :: _
  rw [h]
  rfl
/-- Lies apart from two blocks. -/
def Oe (g r : Nat) (p : Option Addr) (l : List (Int × Int)) : Prop := l = [] ∨ ∀ x off, p = some ⟨x, off, none⟩ → x ≠ g ∧ x ≠ r
theorem PtsAt.oe {g r x : Nat} {w w' : World} {p : Option Addr} {l : List (Int × Int)} (h : PtsAt w p l) (ho : Oe g r p l) (hx : x = g ∨ x = r) (hs : w.heap.size ≤ w'.heap.size) (hb : ∀ k, k < w.heap.size → k ≠ x → w'.heap[k]? = w.heap[k]?) : PtsAt w' p l := by
  refine h.ap (b := x) (r := x) ?_ ⟨hs, fun k hk ho => hb k hk (by omega)⟩
  rcases ho with ho | ho
  · exact .inl ho
  · refine .inr fun y off hp => ?_
    have := ho y off hp
    omega
/-- The keys are being set: the instrument in block c, its keys in block g; block r waits. -/
structure Sk (w0 : World) (b r c g : Nat) (i : In.Ins) (L : List (Int × Int)) (a : In.Loc) (w : World) : Prop where
  len : L.length = 120
  rng : w.rangeAt c 0 (IL (In.withK i L) a)
  res : w.there r 0 33
  key : a.k = some ⟨g, 0, none⟩
  kr : Kr w g L
  pv : PtsAt w a.v i.vol.pts ∧ Oe g r a.v i.vol.pts
  pp : PtsAt w a.p i.pan.pts ∧ Oe g r a.p i.pan.pts
  pt : PtsAt w a.t i.pit.pts ∧ Oe g r a.t i.pit.pts
  blw : Below b w0 w
  ne : g ≠ c ∧ g ≠ r ∧ b ≤ g ∧ b ≤ r
theorem set_range_other {w : World} {c g j : Nat} {cs : List Value} {v : Value} (h : w.rangeAt c 0 cs) (hne : g ≠ c) : (w.setCell ⟨g, j, none⟩ v).rangeAt c 0 cs := by
  intro k u hu
  rw [World.cell?_setCell_other _ _ _ _ (fun x => hne (congrArg Addr.block x))]
  exact h k u hu
theorem Sk.step {w0 w : World} {b r c g : Nat} {i : In.Ins} {L L' : List (Int × Int)} {a : In.Loc} (h : Sk w0 b r c g i L a w) (n : Nat) (x y : Int) (hl : L'.length = 120) (hk : ∀ j : Nat, (j : Int) < 120 → In.tk L' j = (if j = n then x else In.tk L j) ∧ In.vl L' j = (if j = n then y else In.vl L j)) :
    Sk w0 b r c g i L' a ((w.setCell ⟨g, n * 2, none⟩ (.int .i64 x)).setCell ⟨g, n * 2 + 1, none⟩ (.int .i64 y)) := by
  have hb : ∀ k, k < w.heap.size → k ≠ g → ((w.setCell ⟨g, n * 2, none⟩ (.int .i64 x)).setCell ⟨g, n * 2 + 1, none⟩ (.int .i64 y)).heap[k]? = w.heap[k]? := fun k _ hg => by
    rw [Below.heap_setCell _ _ _ k hg, Below.heap_setCell _ _ _ k hg]
  have hs : w.heap.size ≤ ((w.setCell ⟨g, n * 2, none⟩ (.int .i64 x)).setCell ⟨g, n * 2 + 1, none⟩ (.int .i64 y)).heap.size := by simp
  refine ⟨hl, ?_, set_there (set_there h.res), h.key, h.kr.set (by rw [hl, h.len]) (fun j hj => hk j (by rw [h.len] at hj; omega)), ⟨h.pv.1.oe h.pv.2 (.inl rfl) hs hb, h.pv.2⟩, ⟨h.pp.1.oe h.pp.2 (.inl rfl) hs hb, h.pp.2⟩, ⟨h.pt.1.oe h.pt.2 (.inl rfl) hs hb, h.pt.2⟩, (h.blw.setCell (p := ⟨g, n * 2, none⟩) h.ne.2.2.1 _).setCell (p := ⟨g, n * 2 + 1, none⟩) h.ne.2.2.1 _, h.ne⟩
  rw [il_withK i a (show L'.length = L.length by rw [hl, h.len])]
  exact set_range_other (set_range_other h.rng h.ne.1) h.ne.1
theorem Sk.cell {w0 w : World} {b r c g : Nat} {i : In.Ins} {L : List (Int × Int)} {a : In.Loc} (h : Sk w0 b r c g i L a w) : w.cell? ⟨c, 1, none⟩ = some (.slice (some ⟨g, 0, none⟩) 120 a.ck) := by
  have := h.rng 1 _ rfl
  rw [h.key] at this
  rw [this]
  show some (Value.slice _ L.length _) = _
  rw [h.len]
/-- The result is stored. -/
theorem Sk.out {w0 w w' : World} {b r c g : Nat} {i : In.Ins} {L : List (Int × Int)} {a : In.Loc} (h : Sk w0 b r c g i L a w) (hw : b = w0.heap.size) (hg : w.grownBy w' (some r)) : RetS (In.withK i L) 0 w0.heap.size (.returned (.tuple #[.agg (IL (In.withK i L) a).toArray, .int .i64 0])) w' ∧ Below w0.heap.size w0 w' := by
  have hb : ∀ k, k < w.heap.size → k ≠ r → w'.heap[k]? = w.heap[k]? := fun k hk hne => hg.block k hk (by simp; omega)
  have hk : Kr w' g L := h.kr.ap (b := r) (r := r) (by have := h.ne.2.1; omega) ⟨hg.size, fun k hk ho => hb k hk (by omega)⟩
  refine ⟨⟨a, rfl, ⟨by rw [h.key]; exact hk.pts, h.pv.1.oe h.pv.2 (.inr rfl) hg.size hb, h.pp.1.oe h.pp.2 (.inr rfl) hg.size hb, h.pt.1.oe h.pt.2 (.inr rfl) hg.size hb⟩, fun _ => ⟨g, h.key, by rw [← hw]; exact h.ne.2.2.1, hk⟩⟩, ?_⟩
  rw [← hw]
  exact h.blw.grown hg (by have := h.blw.size; rw [hw]; exact this) (fun k hk => by have := h.ne.2.2.2; simp at hk; omega)
end Go.Proofs.Ytcchfahdgmcpbaa

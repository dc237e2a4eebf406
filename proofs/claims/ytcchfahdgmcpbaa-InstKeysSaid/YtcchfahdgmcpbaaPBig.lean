/-
  Words for an instrument as one struct of thirty-three cells that is not opened: its block, read and stored whole.
-/
import Derived.Test.YtcchfahdgmcpbaaMathK
import Derived.Deep.MidRow
import Derived.Laws.ResultCell
namespace Go.Proofs.Ytcchfahdgmcpbaa
open Go.RowKit

/-- An instrument's cells, in order. -/
def IL (i : In.Ins) (a : In.Loc) : List Value := [.string i.name, .slice a.k i.keys.length a.ck, .bool i.vol.on, .slice a.v i.vol.pts.length a.cv, .bool i.vol.sus, .int .i64 i.vol.ss, .int .i64 i.vol.se, .bool i.vol.lp, .int .i64 i.vol.ls, .int .i64 i.vol.le, .bool i.pan.on, .slice a.p i.pan.pts.length a.cp, .bool i.pan.sus, .int .i64 i.pan.ss, .int .i64 i.pan.se, .bool i.pan.lp, .int .i64 i.pan.ls, .int .i64 i.pan.le, .bool i.pit.on, .slice a.t i.pit.pts.length a.ct, .bool i.pit.sus, .int .i64 i.pit.ss, .int .i64 i.pit.se, .bool i.pit.lp, .int .i64 i.pit.ls, .int .i64 i.pit.le, .int .i64 i.fade, .int .i64 i.nn, .int .i64 i.dup, .int .i64 i.dd, .int .i64 i.glo, .int .i64 i.cut, .int .i64 i.res]
theorem il_len (i : In.Ins) (a : In.Loc) : (IL i a).length = 33 := rfl
theorem il_one (i : In.Ins) (a : In.Loc) : (IL i a).toArray.all (·.oneCell') = true := by simp [IL, Value.oneCell']
theorem iv_il (i : In.Ins) (a : In.Loc) : IV i a = .agg (IL i a).toArray := rfl
theorem Try.infoInst : (Try.prog.info? 40).map (·.size) = some 33 := by kernel_rfl
theorem info_il (i : In.Ins) (a : In.Loc) : (Try.prog.info? 40).map (·.size) = some (IL i a).length := Try.infoInst
theorem range_box (w : World) (cs : List Value) (t : TypeId) : (w.alloc (.cells cs.toArray t)).rangeAt w.heap.size 0 cs := by
  intro j v hv
  rw [Nat.zero_add]
  simp [World.cell?_alloc_new, hv]
theorem range_lt {w : World} {b : Nat} {i : In.Ins} {a : In.Loc} (h : w.rangeAt b 0 (IL i a)) : b < w.heap.size := cell_lt (h 0 _ rfl)
theorem range_below {w w' : World} {b B : Nat} {cs : List Value} (h : w.rangeAt b 0 cs) (hb : Below B w w') (hl : b < B) : w'.rangeAt b 0 cs := by
  intro j v hv
  rw [hb.cell (p := ⟨b, 0 + j, none⟩) hl]
  exact h j v hv
theorem range_kept {w w' : World} {b : Nat} {i : In.Ins} {a : In.Loc} (h : w.rangeAt b 0 (IL i a)) (hb : Below w.heap.size w w') : w'.rangeAt b 0 (IL i a) := range_below h hb (range_lt h)
theorem range_ib {w : World} {b : Nat} {i : In.Ins} {a : In.Loc} (h : w.rangeAt b 0 (IL i a)) : IB w b i a := ⟨h 0 _ rfl, h 1 _ rfl, h 2 _ rfl, h 3 _ rfl, h 4 _ rfl, h 5 _ rfl, h 6 _ rfl, h 7 _ rfl, h 8 _ rfl, h 9 _ rfl, h 10 _ rfl, h 11 _ rfl, h 12 _ rfl, h 13 _ rfl, h 14 _ rfl, h 15 _ rfl, h 16 _ rfl, h 17 _ rfl, h 18 _ rfl, h 19 _ rfl, h 20 _ rfl, h 21 _ rfl, h 22 _ rfl, h 23 _ rfl, h 24 _ rfl, h 25 _ rfl, h 26 _ rfl, h 27 _ rfl, h 28 _ rfl, h 29 _ rfl, h 30 _ rfl, h 31 _ rfl, h 32 _ rfl⟩
theorem there_box (w : World) (cs : List Value) (t : TypeId) : (w.alloc (.cells cs.toArray t)).there w.heap.size 0 cs.length := by
  intro j hj
  rw [Nat.zero_add]
  refine ⟨?_, World.frozen?_alloc_at _ _ _ _ rfl⟩
  simp [World.cell?_alloc_new, hj]
theorem there_lt {w : World} {b n : Nat} (h : w.there b 0 (n + 1)) : b < w.heap.size := by
  obtain ⟨h1, _⟩ := h 0 (by omega)
  obtain ⟨u, hu⟩ := Option.isSome_iff_exists.1 h1
  exact cell_lt hu
theorem there_below {w w' : World} {b B n : Nat} (h : w.there b 0 n) (hb : Below B w w') (hl : b < B) : w'.there b 0 n := by
  intro j hj
  rw [hb.cell (p := ⟨b, 0 + j, none⟩) hl, hb.frozen (p := ⟨b, 0 + j, none⟩) hl]
  exact h j hj
theorem grown_setCells (g : Nat) : ∀ (vs : List Value) (o : Nat) (w : World), w.grownBy (w.setCells g o vs) (some g)
  | [], _, _ => ⟨rfl, rfl, rfl, Nat.le_refl _, fun _ _ _ => rfl⟩
  | v :: r, o, w => by
    rw [World.setCells]
    have h := grown_setCells g r (o + 1) (w.setCell ⟨g, o, none⟩ v)
    have hs : (w.setCell ⟨g, o, none⟩ v).heap.size = w.heap.size := by simp [World.setCell]
    exact ⟨h.os, h.tape, h.output, Nat.le_trans (Nat.le_of_eq hs.symm) h.size, fun k hk hne => (h.block k (by rw [hs]; exact hk) hne).trans (heap_setCell_other w ⟨g, o, none⟩ k v (fun e => hne (by simp [e])))⟩
/-- What a function knows of its instrument's block in later worlds. -/
structure Bx (W : World) (b : Nat) (i : In.Ins) (a : In.Loc) : Prop where
  rng : W.rangeAt b 0 (IL i a)
  pts : IPts W i a
theorem Bx.kept {W w' : World} {b : Nat} {i : In.Ins} {a : In.Loc} (h : Bx W b i a) (hb : Below W.heap.size W w') : Bx w' b i a := ⟨range_kept h.rng hb, h.pts.below hb⟩
theorem bx_new (w : World) (i : In.Ins) (a : In.Loc) (hd : IPts w i a) : Bx (w.alloc (.cells (IL i a).toArray 40)) w.heap.size i a := ⟨range_box _ _ _, hd.below (below_box _ _)⟩
section
variable {ops : Array Oper} {rest : List Oper} {op : Oper} {a : Act} {w : World} {Q : Exit → Act → World → Prop}
/-- An instrument is read whole. -/
theorem ld_inst (hw : Region.wanted op (yielded ops a.tmps) = true) (x : Operand) (ho : op.op = .load 40 x) {b : Nat} (hx : a.eval x = .pointer (some ⟨b, 0, none⟩)) {i : In.Ins} {l : In.Loc} (hr : w.rangeAt b 0 (IL i l))
    (h : wpList Try.prog ops Q rest (a.put op.dst (.agg (IL i l).toArray)) w) : wpList Try.prog ops Q (op :: rest) a w := by
  simp only [wpList, hw, if_true]
  exact .inl <| wp_load_mid 40 x ho b 0 hx (IL i l) _ hr Try.underlying40 rfl (info_il i l) h
/-- An instrument is stored whole. -/
theorem st_inst (hw : Region.wanted op (yielded ops a.tmps) = true) (x y : Operand) (ho : op.op = .store 40 x y) {b : Nat} (hx : a.eval x = .pointer (some ⟨b, 0, none⟩)) {i : In.Ins} {l : In.Loc} (hy : a.eval y = .agg (IL i l).toArray) (ht : w.there b 0 33)
    (h : ∀ w', w'.rangeAt b 0 (IL i l) → w'.there b 0 33 → w.grownBy w' (some b) → wpList Try.prog ops Q rest (a.put op.dst undef) w') : wpList Try.prog ops Q (op :: rest) a w := by
  simp only [wpList, hw, if_true]
  refine .inl <| wp_store_mid 40 x y ho b 0 (IL i l).toArray hx hy ht ((info_il i l).trans (by simp)) (il_one i l) ?_
  exact h _ (World.rangeAt_setCells_same w b 0 (IL i l) ht) (World.there_setCells ht b 0 (IL i l)) (grown_setCells b (IL i l) 0 w)
/-- A block for an instrument. -/
theorem al_inst (hw : Region.wanted op (yielded ops a.tmps) = true) (ho : op.op = .alloc 40)
    (h : wpList Try.prog ops Q rest (a.put op.dst (.pointer (some ⟨w.heap.size, 0, none⟩))) (w.alloc (.cells (IL In.zer In.zel).toArray 40))) : wpList Try.prog ops Q (op :: rest) a w := by
  simp only [wpList, hw, if_true]
  refine .inl ?_
  unfold Oper.wp execOp
  simp only [ho]
  simp [go_sem]
  exact h
end
end Go.Proofs.Ytcchfahdgmcpbaa

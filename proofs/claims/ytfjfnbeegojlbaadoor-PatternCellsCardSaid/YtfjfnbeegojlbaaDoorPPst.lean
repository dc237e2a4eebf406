/-
  Package pattern's Paste.
-/
import Derived.Test.YtfjfnbeegojlbaaDoorPMix
import Derived.Test.YtfjfnbeegojlbaaDoorPTran
import Derived.Lib.MinMax
import Derived.Deep.RegionLaw
namespace Go.Proofs.YtfjfnbeegojlbaaDoor
open Go.RowKit

section
variable {ops : Array Oper} {o : Oper} {a : Act} {w : World} {Q : Exit → Act → World → Prop} {K : Act → World → Prop} {E : Prop}
/-- A cell is read whole, as one step of a region. -/
theorem step_ld_cell (hgd : o.guard = none) (x : Operand) (ho : o.op = .load 23 x) {b f : Nat} (hx : a.eval x = .pointer (some ⟨b, f, none⟩)) {c : Pt.Cl} (hr : w.rangeAt b f (CL c)) (h : K (a.put o.dst (.agg (CL c).toArray)) w) :
    if Region.wanted o (yielded ops a.tmps) = true then Oper.wp Tryd.prog o a w K Q else E := by
  have hw : Region.wanted o (yielded ops a.tmps) = true := by simp [Region.wanted, hgd]
  rw [if_pos hw]
  exact wp_load_mid 23 x ho b f hx (CL c) _ hr Tryd.underlying23 rfl (info_cl c) h
/-- A cell is stored whole, as one step of a region. -/
theorem step_st_cell (hgd : o.guard = none) (x y : Operand) (ho : o.op = .store 23 x y) {b f : Nat} (hx : a.eval x = .pointer (some ⟨b, f, none⟩)) {c : Pt.Cl} (hy : a.eval y = .agg (CL c).toArray) (ht : w.there b f 6) (h : ∀ w', w' = w.setCells b f (CL c) → K (a.put o.dst undef) w') :
    if Region.wanted o (yielded ops a.tmps) = true then Oper.wp Tryd.prog o a w K Q else E := by
  have hw : Region.wanted o (yielded ops a.tmps) = true := by simp [Region.wanted, hgd]
  rw [if_pos hw]
  exact wp_store_mid 23 x y ho b f (CL c).toArray hx hy ht ((info_cl c).trans (by simp)) (cl_one c) (h _ rfl)
end
theorem below_of_drew {w w' : World} (h : Below w.drew.heap.size w.drew w') : Below w.heap.size w w' := ⟨h.os, h.tape, h.output, h.size, h.block⟩
/-- A function's first blocks: two patterns, its result. -/
theorem pats_new (w : World) (r : Int) (v : Value) (r' : Int) (v' : Value) : ∃ W, W = ((w.alloc (.cells #[.int .i64 r, v] 59)).alloc (.cells #[.int .i64 r', v'] 59)).alloc (.cells #[.int .i64 0, .slice none 0 0] 59) ∧
    Below w.heap.size w W ∧ W.heap.size = w.heap.size + 3 ∧ Pb W w.heap.size r v ∧ Pb W (w.heap.size + 1) r' v' ∧ Pb W (w.heap.size + 2) 0 (.slice none 0 0) := by
  refine ⟨_, rfl, stepB (stepB (below_box _ _) (below_box _ _)) (below_box _ _), by simp, ((pb_box w r v _).kept (below_box _ _)).kept (below_box _ _), ?_, ?_⟩
  · have := (pb_box (w.alloc (.cells #[.int .i64 r, v] 59)) r' v' 59).kept (below_box _ (.cells #[.int .i64 0, .slice none 0 0] 59))
    simpa using this
  · have := pb_box ((w.alloc (.cells #[.int .i64 r, v] 59)).alloc (.cells #[.int .i64 r', v'] 59)) 0 (.slice none 0 0) 59
    simpa using this
theorem four {W : World} {b : Nat} {r : Int} {v : Value} {r' : Int} {v' : Value} (hp : Pb W b r v) (hq : Pb W (b + 1) r' v') {w' : World} (hb : Below W.heap.size W w') :
    w'.cell? ⟨b, 0, none⟩ = some (.int .i64 r) ∧ w'.cell? ⟨b, 1, none⟩ = some v ∧ w'.cell? ⟨b + 1, 0, none⟩ = some (.int .i64 r') ∧ w'.cell? ⟨b + 1, 1, none⟩ = some v' :=
  ⟨kept_cell hb (hp.1 0 _ rfl), kept_cell hb (hp.1 1 _ rfl), kept_cell hb (hq.1 0 _ rfl), kept_cell hb (hq.1 1 _ rfl)⟩
/-- What a cell of the area becomes. -/
def pstF (l : List Pt.Cl) (C : Nat) (bl : List Pt.Cl) (BW y0 x0 : Nat) (m : Bool) (j : Nat) : Pt.Cl := Pt.mixIf m (Pt.at' l j) (Pt.at' bl ((j / C - y0) * BW + (j % C - x0)))
theorem pst_done {l : List Pt.Cl} {C : Nat} {bl : List Pt.Cl} {R BR BW y0 x0 ah aw : Nat} {m : Bool} {L : List Pt.Cl} (h1 : 1 ≤ C) (hl : l.length = R * C) (ha : ah = min BR (R - y0)) (hw : aw = min BW (C - x0)) (h : Up l C y0 x0 aw (pstF l C bl BW y0 x0 m) ah 0 L) : L = Pt.pasteL l C bl BR BW y0 x0 m := by
  rw [up_done h h1 hl]
  refine Pt.eq_mk (Pt.mk_len _ _) fun k hk => ?_
  rw [Pt.mk_at _ _ hk]
  have a1 : k % C < C := Nat.mod_lt _ h1
  have a2 : k / C < R := Nat.div_lt_of_lt_mul (by rw [Nat.mul_comm, ← hl]; exact hk)
  by_cases c : y0 ≤ k / C ∧ k / C < y0 + ah ∧ x0 ≤ k % C ∧ k % C < x0 + aw
  · rw [if_pos c, if_pos (by omega)]
    rfl
  · rw [if_neg c, if_neg (by omega)]
theorem pst_at {l : List Pt.Cl} {C : Nat} {bl : List Pt.Cl} {BW y0 x0 k x : Nat} {m : Bool} (hx : x0 + x < C) {I : Nat} (hI : (y0 + k) * C + (x0 + x) = I) : pstF l C bl BW y0 x0 m I = Pt.mixIf m (Pt.at' l I) (Pt.at' bl (k * BW + x)) := by
  unfold pstF
  rw [← hI, Pt.rc_div hx, Pt.rc_mod hx, show y0 + k - y0 = k by omega, show x0 + x - x0 = x by omega]
theorem place_nat {r : Int} {l : List Pt.Cl} {ch row c : Int} (h : Pt.ePlace r l ch row c = 0) : ∃ R C y x : Nat, r = R ∧ ch = C ∧ row = y ∧ c = x ∧ 1 ≤ R ∧ R ≤ 64 ∧ 1 ≤ C ∧ C ≤ 16 ∧ l.length = R * C ∧ y < R ∧ x < C ∧ Pt.all l = true := by
  unfold Pt.ePlace at h
  cases h1 : Pt.vpat r l ch with
  | false => rw [h1] at h; simp at h
  | true =>
    rw [h1, if_pos rfl] at h
    cases h2 : Pt.plc row r && Pt.plc c ch with
    | false => rw [h2] at h; simp at h
    | true =>
      obtain ⟨R, C, rfl, rfl, g1, g2, g3, g4, g5, g6⟩ := Pt.vpat_nat h1
      simp only [Pt.plc, Bool.and_eq_true, decide_eq_true_eq] at h2
      obtain ⟨⟨b1, b2⟩, b3, b4⟩ := h2
      exact ⟨R, C, row.toNat, c.toNat, rfl, rfl, by omega, by omega, g1, g2, g3, g4, g5, by omega, by omega, g6⟩
end Go.Proofs.YtfjfnbeegojlbaaDoor

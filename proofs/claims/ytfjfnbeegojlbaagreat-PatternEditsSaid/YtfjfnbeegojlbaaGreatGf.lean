/-
  Mathematics of packing: a cell's mask, its bytes, the last parts of its channel. No program. A cell's parts: package pattern's value.set, the literals of parts that read and write a part of a cell, and parts itself. Package pattern's mixed.
-/
import Derived.Test.YtfjfnbeegojlbaaGreatBase
import Derived.Test.YtfjfnbeegojlbaaGreatGa
import Derived.Deep.RegionHeld3
import Derived.Test.YtfjfnbeegojlbaaGreatPCopy
import Derived.Shelf.Abstract
namespace Go.Proofs.YtfjfnbeegojlbaaGreat
open Go.RowKit

namespace Pt
/-- The numbers of a cell's part. -/
def pv (k : Nat) (c : Cl) : Int × Int := match k with | 0 => (c.nt, 0) | 1 => (c.it, 0) | 2 => (c.vc, c.va) | _ => (c.ef, c.pa)
/-- A cell with another part. -/
def pw (k : Nat) (c : Cl) (v : Int × Int) : Cl := match k with | 0 => { c with nt := v.1 } | 1 => { c with it := v.1 } | 2 => { c with vc := v.1, va := v.2 } | _ => { c with ef := v.1, pa := v.2 }
def isSet (v : Int × Int) : Bool := v.1 != 0
/-- How many numbers a part has; how many characters its text has. -/
def num (k : Nat) : Nat := match k with | 0 => 1 | 1 => 1 | _ => 2
def wid (k : Nat) : Nat := match k with | 1 => 2 | _ => 3
theorem num_le (k : Nat) : 1 ≤ num k ∧ num k ≤ 2 := by unfold num; split <;> decide
/-- Packed so far: the mask, the bytes behind it, the last parts. -/
structure Ps where
  m : Nat
  bs : List Int
  la : Cl
def numsOf (k : Nat) (v : Int × Int) : List Int := [v.1, v.2].take (num k)
def pst (c la : Cl) : Nat → Ps
  | 0 => ⟨0, [], la⟩
  | k + 1 => if isSet (pv k c) then (if pv k c = pv k (pst c la k).la then ⟨(pst c la k).m ||| 16 <<< k, (pst c la k).bs, (pst c la k).la⟩ else ⟨(pst c la k).m ||| 1 <<< k, (pst c la k).bs ++ numsOf k (pv k c), pw k (pst c la k).la (pv k c)⟩) else pst c la k
theorem pst_unset {c la : Cl} {k : Nat} (h : isSet (pv k c) = false) : pst c la (k + 1) = pst c la k := by show (if _ then _ else _) = _; rw [h]; rfl
theorem pst_same {c la : Cl} {k : Nat} (h : isSet (pv k c) = true) (h2 : pv k c = pv k (pst c la k).la) : pst c la (k + 1) = ⟨(pst c la k).m ||| 16 <<< k, (pst c la k).bs, (pst c la k).la⟩ := by show (if _ then _ else _) = _; rw [if_pos h, if_pos h2]
theorem pst_new {c la : Cl} {k : Nat} (h : isSet (pv k c) = true) (h2 : pv k c ≠ pv k (pst c la k).la) : pst c la (k + 1) = ⟨(pst c la k).m ||| 1 <<< k, (pst c la k).bs ++ numsOf k (pv k c), pw k (pst c la k).la (pv k c)⟩ := by show (if _ then _ else _) = _; rw [if_pos h, if_neg h2]
theorem pst_m (c la : Cl) : ∀ k, k ≤ 4 → (pst c la k).m < 256
  | 0, _ => show (0 : Nat) < 256 by decide
  | k + 1, hk => by
    have ih := pst_m c la k (by omega)
    have h1 : 16 <<< k < 2 ^ 8 := by
      match k, hk with
      | 0, _ => decide
      | 1, _ => decide
      | 2, _ => decide
      | 3, _ => decide
    have h2 : 1 <<< k < 2 ^ 8 := by
      match k, hk with
      | 0, _ => decide
      | 1, _ => decide
      | 2, _ => decide
      | 3, _ => decide
    show (if _ then _ else _ : Ps).m < 256
    by_cases e1 : isSet (pv k c) = true
    · rw [if_pos e1]
      by_cases e2 : pv k c = pv k (pst c la k).la
      · rw [if_pos e2]; exact Nat.or_lt_two_pow ih h1
      · rw [if_neg e2]; exact Nat.or_lt_two_pow ih h2
    · rw [if_neg e1]; exact ih
theorem pst_len (c la : Cl) : ∀ k, (pst c la k).bs.length ≤ 2 * k
  | 0 => Nat.le_refl _
  | k + 1 => by
    have ih := pst_len c la k
    show (if _ then _ else _ : Ps).bs.length ≤ _
    by_cases e1 : isSet (pv k c) = true
    · rw [if_pos e1]
      by_cases e2 : pv k c = pv k (pst c la k).la
      · rw [if_pos e2]; show (pst c la k).bs.length ≤ _; omega
      · rw [if_neg e2]
        show ((pst c la k).bs ++ numsOf k (pv k c)).length ≤ _
        have := (num_le k).2
        simp [numsOf]
        omega
    · rw [if_neg e1]; omega
/-- Numbers of valid cells are bytes. -/
theorem vcl_bytes {c : Cl} (h : vcl c = true) (k : Nat) : (0 ≤ (pv k c).1 ∧ (pv k c).1 ≤ 255) ∧ 0 ≤ (pv k c).2 ∧ (pv k c).2 ≤ 255 := by
  simp only [vcl, Bool.and_eq_true, wth_iff] at h
  obtain ⟨h1, h2, h3, h4, -, h5, h6, -⟩ := h
  simp only [vnt, decide_eq_true_eq] at h1
  unfold pv
  split <;> simp only <;> omega
end Pt

def gF (k : Nat) : FuncId := match k with | 0 => 69 | 1 => 73 | 2 => 77 | _ => 81
def uF (k : Nat) : FuncId := match k with | 0 => 70 | 1 => 74 | 2 => 78 | _ => 82
def wF (k : Nat) : FuncId := match k with | 0 => 71 | 1 => 75 | 2 => 79 | _ => 83
def rF (k : Nat) : FuncId := match k with | 0 => 72 | 1 => 76 | 2 => 80 | _ => 84
/-- A part, as words. -/
def PK (k : Nat) : List Value := [.int .i64 (Pt.num k : Nat), .int .i64 (Pt.wid k : Nat), .func (.func (gF k)) #[] #[], .func (.func (uF k)) #[] #[], .func (.func (wF k)) #[] #[], .func (.func (rF k)) #[] #[]]
def PL : List Value := PK 0 ++ (PK 1 ++ (PK 2 ++ PK 3))
def VL (v : Int × Int) : List Value := [.int .i64 v.1, .int .i64 v.2]
def VV (v : Int × Int) : Value := .agg (VL v).toArray
theorem Tryz.infoPart : (Tryz.prog.info? 80).map (·.size) = some 6 := by kernel_rfl
theorem Tryz.infoParts : (Tryz.prog.info? 81).map (·.size) = some 24 := by kernel_rfl
theorem Tryz.infoVal : (Tryz.prog.info? 84).map (·.size) = some 2 := by kernel_rfl
theorem pk_one (k : Nat) : (PK k).toArray.all (·.oneCell') = true := by simp [PK, Value.oneCell']
theorem pl_one : PL.toArray.all (·.oneCell') = true := by simp [PL, PK, Value.oneCell']
theorem vl_one (v : Int × Int) : (VL v).toArray.all (·.oneCell') = true := by simp [VL, Value.oneCell']
section
variable {ops : Array Oper} {rest : List Oper} {op : Oper} {a : Act} {w : World} {Q : Exit → Act → World → Prop}
theorem ld_row {ty : TypeId} {cs : List Value} {d : TypeDesc} (hu : Tryz.prog.underlying ty = some d) (hd : d.isRow = true) (hi : (Tryz.prog.info? ty).map (·.size) = some cs.length) (hw : Region.wanted op (yielded ops a.tmps) = true) (x : Operand) (ho : op.op = .load ty x) {b o : Nat} (hx : a.eval x = .pointer (some ⟨b, o, none⟩)) (hr : w.rangeAt b o cs)
    (h : wpList Tryz.prog ops Q rest (a.put op.dst (.agg cs.toArray)) w) : wpList Tryz.prog ops Q (op :: rest) a w := by
  simp only [wpList, hw, if_true]
  exact .inl <| wp_load_mid ty x ho b o hx cs d hr hu hd hi h
theorem st_row {ty : TypeId} {cs : List Value} (hi : (Tryz.prog.info? ty).map (·.size) = some cs.length) (h1 : cs.toArray.all (·.oneCell') = true) (hw : Region.wanted op (yielded ops a.tmps) = true) (x y : Operand) (ho : op.op = .store ty x y) {b o : Nat} (hx : a.eval x = .pointer (some ⟨b, o, none⟩)) (hy : a.eval y = .agg cs.toArray) (ht : w.there b o cs.length)
    (h : ∀ w', w' = w.setCells b o cs → wpList Tryz.prog ops Q rest (a.put op.dst undef) w') : wpList Tryz.prog ops Q (op :: rest) a w := by
  simp only [wpList, hw, if_true]
  refine .inl <| wp_store_mid ty x y ho b o cs.toArray hx hy (by simpa using ht) (hi.trans (by simp)) h1 ?_
  exact h _ rfl
/-- Room for all parts. -/
theorem al_parts (hw : Region.wanted op (yielded ops a.tmps) = true) (ho : op.op = .alloc 81)
    (h : ∀ w', Below w.heap.size w w' → w'.heap.size = w.heap.size + 1 → w'.there w.heap.size 0 24 → wpList Tryz.prog ops Q rest (a.put op.dst (.pointer (some ⟨w.heap.size, 0, none⟩))) w') : wpList Tryz.prog ops Q (op :: rest) a w := by
  simp only [wpList, hw, if_true]
  refine .inl ?_
  unfold Oper.wp execOp
  simp only [ho]
  simp [go_sem]
  refine h _ (below_box _ _) (by simp) ?_
  exact there_box w [_, _, _, _, _, _, _, _, _, _, _, _, _, _, _, _, _, _, _, _, _, _, _, _] _
end
theorem res_row {ty : TypeId} {cs : List Value} {d : TypeDesc} (hu : Tryz.prog.underlying ty = some d) (hd : d.isRow = true) (hi : (Tryz.prog.info? ty).map (·.size) = some cs.length) {fn : Func} {q : Tmp} (hf : fn.results = #[.cell q ty]) {tmps : Array Value} {w : World} {b : Nat} (hp : tmps.getD q undef = .pointer (some ⟨b, 0, none⟩)) (h : w.rangeAt b 0 cs) :
    (results fn tmps).run Tryz.prog w = .ok (.agg cs.toArray) w := by
  simp only [results, hf]
  have hp' : tmps[q]?.getD undef = .pointer (some ⟨b, 0, none⟩) := by simpa using hp
  simp [hp', asAddr, run_loadVar_mid w b 0 ty cs d h hu hd hi]
theorem range_box2 (w : World) (cs' : Array Value) (cs : List Value) (t t' : TypeId) : ((w.alloc (.cells cs' t)).alloc (.cells cs.toArray t')).rangeAt (w.heap.size + 1) 0 cs := by
  have := range_box (w.alloc (.cells cs' t)) cs t'
  simpa using this
theorem p_set (v : Int × Int) (w : World) :
    Calls Tryz.prog 60 #[VV v] w fun x w' => x = .returned (.bool (Pt.isSet v)) ∧ Below w.heap.size w w' := by
  unfold VV Pt.isSet VL
  go_enter Tryz.func60, Tryz.ntmps60
  go_wp2
  go_ret
  exact ⟨rfl, below_box _ _⟩
theorem p_get0 (c : Pt.Cl) (w : World) :
    Calls Tryz.prog 69 #[.agg (CL c).toArray] w fun x w' => x = .returned (VV (Pt.pv 0 c)) ∧ Below w.heap.size w w' := by
  rw [cl_arr]
  go_enter Tryz.func69, Tryz.ntmps69
  go_wp2
  refine bodyPost_ret (res_row (cs := VL (Pt.pv 0 c)) Tryz.underlying84 rfl Tryz.infoVal rfl rfl ?_) rfl ⟨rfl, stepB (below_box _ _) (below_box _ _)⟩
  exact range_box2 w _ (VL (Pt.pv 0 c)) _ _
theorem p_get1 (c : Pt.Cl) (w : World) :
    Calls Tryz.prog 73 #[.agg (CL c).toArray] w fun x w' => x = .returned (VV (Pt.pv 1 c)) ∧ Below w.heap.size w w' := by
  rw [cl_arr]
  go_enter Tryz.func73, Tryz.ntmps73
  go_wp2
  refine bodyPost_ret (res_row (cs := VL (Pt.pv 1 c)) Tryz.underlying84 rfl Tryz.infoVal rfl rfl ?_) rfl ⟨rfl, stepB (below_box _ _) (below_box _ _)⟩
  exact range_box2 w _ (VL (Pt.pv 1 c)) _ _
theorem p_get2 (c : Pt.Cl) (w : World) :
    Calls Tryz.prog 77 #[.agg (CL c).toArray] w fun x w' => x = .returned (VV (Pt.pv 2 c)) ∧ Below w.heap.size w w' := by
  rw [cl_arr]
  go_enter Tryz.func77, Tryz.ntmps77
  go_wp2
  refine bodyPost_ret (res_row (cs := VL (Pt.pv 2 c)) Tryz.underlying84 rfl Tryz.infoVal rfl rfl ?_) rfl ⟨rfl, stepB (below_box _ _) (below_box _ _)⟩
  exact range_box2 w _ (VL (Pt.pv 2 c)) _ _
theorem p_get3 (c : Pt.Cl) (w : World) :
    Calls Tryz.prog 81 #[.agg (CL c).toArray] w fun x w' => x = .returned (VV (Pt.pv 3 c)) ∧ Below w.heap.size w w' := by
  rw [cl_arr]
  go_enter Tryz.func81, Tryz.ntmps81
  go_wp2
  refine bodyPost_ret (res_row (cs := VL (Pt.pv 3 c)) Tryz.underlying84 rfl Tryz.infoVal rfl rfl ?_) rfl ⟨rfl, stepB (below_box _ _) (below_box _ _)⟩
  exact range_box2 w _ (VL (Pt.pv 3 c)) _ _
theorem g_get {k : Nat} (hk : k < 4) (c : Pt.Cl) (w : World) :
    Calls Tryz.prog (gF k) #[.agg (CL c).toArray] w fun x w' => x = .returned (VV (Pt.pv k c)) ∧ Below w.heap.size w w' := by
  match k, hk with
  | 0, _ => exact p_get0 c w
  | 1, _ => exact p_get1 c w
  | 2, _ => exact p_get2 c w
  | 3, _ => exact p_get3 c w
/-- A cell in the middle of block b has been written, and nothing else that was there. -/
structure Put (w : World) (b o : Nat) (c : Pt.Cl) (w' : World) : Prop where
  gr : w.grownBy w' (some b)
  rg : w'.rangeAt b o (CL c)
  th : w'.there b o 6
  out : ∀ o', (o' < o ∨ o + 6 ≤ o') → w'.cell? ⟨b, o', none⟩ = w.cell? ⟨b, o', none⟩ ∧ w'.frozen? ⟨b, o', none⟩ = w.frozen? ⟨b, o', none⟩
theorem Put.start {w w' : World} {b o : Nat} {c : Pt.Cl} (hb : Below w.heap.size w w') (hr : w.rangeAt b o (CL c)) (ht : w.there b o 6) : Put w b o c w' := by
  have hl : b < w.heap.size := cell_lt (hr 0 _ rfl)
  exact ⟨grownBy_of hb, range_below hr hb hl, there_below ht hb hl, fun o' _ => ⟨hb.cell (p := ⟨b, o', none⟩) hl, hb.frozen (p := ⟨b, o', none⟩) hl⟩⟩
theorem Put.set {w w' : World} {b o f : Nat} {c c' : Pt.Cl} {x : Value} (h : Put w b o c w') (hf : f < 6) (hc : CL c' = (CL c).set f x) : Put w b o c' (w'.setCell ⟨b, o + f, none⟩ x) := by
  refine ⟨grownBy_trans h.gr (grown_set _ _ _ _), ?_, there_set h.th, fun o' ho => ?_⟩
  · rw [hc]
    exact range_set_in h.rg (by rw [cl_len]; exact hf)
  · obtain ⟨h1, h2⟩ := h.out o' ho
    rw [World.cell?_setCell_other _ _ _ _ (fun e => by have := congrArg Addr.off e; simp at this; omega)]
    exact ⟨h1, by simpa using h2⟩
theorem Put.drew {w w' : World} {b o : Nat} {c : Pt.Cl} (h : Put w b o c w') : Put w b o c w'.drew := ⟨⟨h.gr.os, h.gr.tape, h.gr.output, h.gr.size, h.gr.block⟩, h.rg, h.th, h.out⟩
theorem p_put0 (c : Pt.Cl) (v : Int × Int) (b o : Nat) (w : World) (hr : w.rangeAt b o (CL c)) (ht : w.there b o 6) :
    Calls Tryz.prog 70 #[.pointer (some ⟨b, o, none⟩), VV v] w fun x w' => x = .returned (.tuple #[]) ∧ Put w b o (Pt.pw 0 c v) w' := by
  obtain ⟨W, hW⟩ : ∃ W, W = w.alloc (.cells (VL v).toArray 84) := ⟨_, rfl⟩
  have HP := Lib.hid (show Put w b o c W by rw [hW]; exact Put.start (below_box _ _) hr ht)
  have hv := range_box w (VL v) 84
  rw [← hW] at hv
  have v0 : W.cell? ⟨w.heap.size, 0, none⟩ = some (.int .i64 v.1) := hv 0 _ rfl
  have v1 : W.cell? ⟨w.heap.size, 1, none⟩ = some (.int .i64 v.2) := hv 1 _ rfl
  have hl : b < w.heap.size := cell_lt (hr 0 _ rfl)
  have hne : b ≠ w.heap.size := by omega
  obtain ⟨g, hg⟩ : ∃ g, g = w.heap.size := ⟨_, rfl⟩
  rw [← hg] at v0 v1 hne
  obtain ⟨x0, c0⟩ := Option.isSome_iff_exists.1 (HP.out.th 0 (by decide)).1
  have f0 := (HP.out.th 0 (by decide)).2
  rw [Nat.add_zero] at c0 f0
  have HE := Lib.hid (show ∀ u, Put w b o (Pt.pw 0 c v) u → Put w b o (Pt.pw 0 c v) u.drew from fun _ h => h.drew)
  unfold VV at *
  have e : (VL v).toArray = #[.int .i64 v.1, .int .i64 v.2] := rfl
  rw [e] at hW ⊢
  clear hr ht hv hl e
  go_enter Tryz.func70, Tryz.ntmps70
  go_upto_region 1 with fail
  rw [← hW, ← hg]
  clear hW hg
  go_wp2
  refine bodyPost_end (results_none rfl _ _ _) rfl ?_
  exact ⟨rfl, (HP.out.set (f := 0) (x := .int .i64 v.1) (by decide) rfl)⟩
theorem p_put1 (c : Pt.Cl) (v : Int × Int) (b o : Nat) (w : World) (hr : w.rangeAt b o (CL c)) (ht : w.there b o 6) :
    Calls Tryz.prog 74 #[.pointer (some ⟨b, o, none⟩), VV v] w fun x w' => x = .returned (.tuple #[]) ∧ Put w b o (Pt.pw 1 c v) w' := by
  obtain ⟨W, hW⟩ : ∃ W, W = w.alloc (.cells (VL v).toArray 84) := ⟨_, rfl⟩
  have HP := Lib.hid (show Put w b o c W by rw [hW]; exact Put.start (below_box _ _) hr ht)
  have hv := range_box w (VL v) 84
  rw [← hW] at hv
  have v0 : W.cell? ⟨w.heap.size, 0, none⟩ = some (.int .i64 v.1) := hv 0 _ rfl
  have v1 : W.cell? ⟨w.heap.size, 1, none⟩ = some (.int .i64 v.2) := hv 1 _ rfl
  have hl : b < w.heap.size := cell_lt (hr 0 _ rfl)
  have hne : b ≠ w.heap.size := by omega
  obtain ⟨g, hg⟩ : ∃ g, g = w.heap.size := ⟨_, rfl⟩
  rw [← hg] at v0 v1 hne
  obtain ⟨x1, c1⟩ := Option.isSome_iff_exists.1 (HP.out.th 1 (by decide)).1
  have f1 := (HP.out.th 1 (by decide)).2
  have HE := Lib.hid (show ∀ u, Put w b o (Pt.pw 1 c v) u → Put w b o (Pt.pw 1 c v) u.drew from fun _ h => h.drew)
  unfold VV at *
  have e : (VL v).toArray = #[.int .i64 v.1, .int .i64 v.2] := rfl
  rw [e] at hW ⊢
  clear hr ht hv hl e
  go_enter Tryz.func74, Tryz.ntmps74
  go_upto_region 1 with fail
  rw [← hW, ← hg]
  clear hW hg
  go_wp2
  refine bodyPost_end (results_none rfl _ _ _) rfl ?_
  exact ⟨rfl, (HP.out.set (f := 1) (x := .int .i64 v.1) (by decide) rfl)⟩
theorem p_put2 (c : Pt.Cl) (v : Int × Int) (b o : Nat) (w : World) (hr : w.rangeAt b o (CL c)) (ht : w.there b o 6) :
    Calls Tryz.prog 78 #[.pointer (some ⟨b, o, none⟩), VV v] w fun x w' => x = .returned (.tuple #[]) ∧ Put w b o (Pt.pw 2 c v) w' := by
  obtain ⟨W, hW⟩ : ∃ W, W = w.alloc (.cells (VL v).toArray 84) := ⟨_, rfl⟩
  have HP := Lib.hid (show Put w b o c W by rw [hW]; exact Put.start (below_box _ _) hr ht)
  have hv := range_box w (VL v) 84
  rw [← hW] at hv
  have v0 : W.cell? ⟨w.heap.size, 0, none⟩ = some (.int .i64 v.1) := hv 0 _ rfl
  have v1 : W.cell? ⟨w.heap.size, 1, none⟩ = some (.int .i64 v.2) := hv 1 _ rfl
  have hl : b < w.heap.size := cell_lt (hr 0 _ rfl)
  have hne : b ≠ w.heap.size := by omega
  obtain ⟨g, hg⟩ : ∃ g, g = w.heap.size := ⟨_, rfl⟩
  rw [← hg] at v0 v1 hne
  obtain ⟨x2, c2⟩ := Option.isSome_iff_exists.1 (HP.out.th 2 (by decide)).1
  have f2 := (HP.out.th 2 (by decide)).2
  obtain ⟨x3, c3⟩ := Option.isSome_iff_exists.1 (HP.out.th 3 (by decide)).1
  have f3 := (HP.out.th 3 (by decide)).2
  have d1 : (W.setCell ⟨b, o + 2, none⟩ (.int .i64 v.1)).cell? ⟨b, o + 3, none⟩ = some x3 := by rw [World.cell?_setCell_other _ _ _ _ (fun e => by have := congrArg Addr.off e; simp at this)]; exact c3
  have HE := Lib.hid (show ∀ u, Put w b o (Pt.pw 2 c v) u → Put w b o (Pt.pw 2 c v) u.drew from fun _ h => h.drew)
  unfold VV at *
  have e : (VL v).toArray = #[.int .i64 v.1, .int .i64 v.2] := rfl
  rw [e] at hW ⊢
  clear hr ht hv hl e
  go_enter Tryz.func78, Tryz.ntmps78
  go_upto_region 1 with fail
  rw [← hW, ← hg]
  clear hW hg
  go_region
  refine bodyPost_end (results_none rfl _ _ _) rfl ?_
  exact ⟨rfl, ((HP.out.set (f := 2) (x := .int .i64 v.1) (c' := { c with vc := v.1 }) (by decide) rfl).set (f := 3) (x := .int .i64 v.2) (by decide) rfl).drew⟩
theorem p_put3 (c : Pt.Cl) (v : Int × Int) (b o : Nat) (w : World) (hr : w.rangeAt b o (CL c)) (ht : w.there b o 6) :
    Calls Tryz.prog 82 #[.pointer (some ⟨b, o, none⟩), VV v] w fun x w' => x = .returned (.tuple #[]) ∧ Put w b o (Pt.pw 3 c v) w' := by
  obtain ⟨W, hW⟩ : ∃ W, W = w.alloc (.cells (VL v).toArray 84) := ⟨_, rfl⟩
  have HP := Lib.hid (show Put w b o c W by rw [hW]; exact Put.start (below_box _ _) hr ht)
  have hv := range_box w (VL v) 84
  rw [← hW] at hv
  have v0 : W.cell? ⟨w.heap.size, 0, none⟩ = some (.int .i64 v.1) := hv 0 _ rfl
  have v1 : W.cell? ⟨w.heap.size, 1, none⟩ = some (.int .i64 v.2) := hv 1 _ rfl
  have hl : b < w.heap.size := cell_lt (hr 0 _ rfl)
  have hne : b ≠ w.heap.size := by omega
  obtain ⟨g, hg⟩ : ∃ g, g = w.heap.size := ⟨_, rfl⟩
  rw [← hg] at v0 v1 hne
  obtain ⟨x4, c4⟩ := Option.isSome_iff_exists.1 (HP.out.th 4 (by decide)).1
  have f4 := (HP.out.th 4 (by decide)).2
  obtain ⟨x5, c5⟩ := Option.isSome_iff_exists.1 (HP.out.th 5 (by decide)).1
  have f5 := (HP.out.th 5 (by decide)).2
  have d1 : (W.setCell ⟨b, o + 4, none⟩ (.int .i64 v.1)).cell? ⟨b, o + 5, none⟩ = some x5 := by rw [World.cell?_setCell_other _ _ _ _ (fun e => by have := congrArg Addr.off e; simp at this)]; exact c5
  have HE := Lib.hid (show ∀ u, Put w b o (Pt.pw 3 c v) u → Put w b o (Pt.pw 3 c v) u.drew from fun _ h => h.drew)
  unfold VV at *
  have e : (VL v).toArray = #[.int .i64 v.1, .int .i64 v.2] := rfl
  rw [e] at hW ⊢
  clear hr ht hv hl e
  go_enter Tryz.func82, Tryz.ntmps82
  go_upto_region 1 with fail
  rw [← hW, ← hg]
  clear hW hg
  go_region
  refine bodyPost_end (results_none rfl _ _ _) rfl ?_
  exact ⟨rfl, ((HP.out.set (f := 4) (x := .int .i64 v.1) (c' := { c with ef := v.1 }) (by decide) rfl).set (f := 5) (x := .int .i64 v.2) (by decide) rfl).drew⟩
theorem g_put {k : Nat} (hk : k < 4) (c : Pt.Cl) (v : Int × Int) (b o : Nat) (w : World) (hr : w.rangeAt b o (CL c)) (ht : w.there b o 6) :
    Calls Tryz.prog (uF k) #[.pointer (some ⟨b, o, none⟩), VV v] w fun x w' => x = .returned (.tuple #[]) ∧ Put w b o (Pt.pw k c v) w' := by
  match k, hk with
  | 0, _ => exact p_put0 c v b o w hr ht
  | 1, _ => exact p_put1 c v b o w hr ht
  | 2, _ => exact p_put2 c v b o w hr ht
  | 3, _ => exact p_put3 c v b o w hr ht
theorem p_parts (w : World) :
    Calls Tryz.prog 59 #[] w fun x w' => x = .returned (.agg PL.toArray) ∧ Below w.heap.size w w' := by
  go_enter Tryz.func59, Tryz.ntmps59
  go_wp2_with (first | ((refine al_parts (by rfl) rfl ?_); intro w1 hb1 hs1 ht1; have HB1 := Lib.hid hb1; have HT1 := Lib.hid ht1; have HS1 := Lib.hid hs1; clear hb1 ht1 hs1) | ((refine st_row (cs := PL) Tryz.infoParts pl_one (by rfl) _ _ rfl rfl rfl HT1.out ?_); rintro w2 e2; have HE2 := Lib.hid e2; clear e2))
  have hr := World.rangeAt_setCells_same w1 w.heap.size 0 PL HT1.out
  rw [← HE2.out] at hr
  refine bodyPost_ret (res_row (cs := PL) Tryz.underlying81 rfl Tryz.infoParts rfl rfl hr) rfl ⟨rfl, ?_⟩
  rw [HE2.out]
  exact grown_at HB1.out (Nat.le_refl _) (by rw [HS1.out]; omega) (grown_setCells _ _ _ _)

namespace Pt
/-- The first k parts are mixed. -/
def mixTo : Nat → Cl → Cl → Cl
  | 0, o, _ => o
  | k + 1, o, c => if isSet (pv k (mixTo k o c)) then mixTo k o c else pw k (mixTo k o c) (pv k c)
theorem mixTo_all (o c : Cl) : mixTo 4 o c = mixed o c := by
  obtain ⟨a1, a2, a3, a4, a5, a6⟩ := o
  obtain ⟨c1, c2, c3, c4, c5, c6⟩ := c
  by_cases h1 : a1 = 0 <;> by_cases h2 : a2 = 0 <;> by_cases h3 : a3 = 0 <;> by_cases h5 : a5 = 0 <;> simp [mixTo, mixed, isSet, pv, pw, h1, h2, h3, h5]
end Pt
theorem eg {k : Nat} (hk : k < 4) : ∀ args w, (callFunc (gF k) args).run Tryz.prog w = .ok (.enter (gF k) args) w := by
  match k, hk with
  | 0, _ => exact enters_of Tryz.func69 (by kernel_rfl) rfl
  | 1, _ => exact enters_of Tryz.func73 (by kernel_rfl) rfl
  | 2, _ => exact enters_of Tryz.func77 (by kernel_rfl) rfl
  | 3, _ => exact enters_of Tryz.func81 (by kernel_rfl) rfl
theorem eu {k : Nat} (hk : k < 4) : ∀ args w, (callFunc (uF k) args).run Tryz.prog w = .ok (.enter (uF k) args) w := by
  match k, hk with
  | 0, _ => exact enters_of Tryz.func70 (by kernel_rfl) rfl
  | 1, _ => exact enters_of Tryz.func74 (by kernel_rfl) rfl
  | 2, _ => exact enters_of Tryz.func78 (by kernel_rfl) rfl
  | 3, _ => exact enters_of Tryz.func82 (by kernel_rfl) rfl
section
variable {ops : Array Oper} {rest : List Oper} {op : Oper} {a : Act} {w : World} {Q : Exit → Act → World → Prop}
set_option maxRecDepth 100000 in
/-- The part of a number, out of all parts. -/
theorem ix_part {k : Nat} (hk : k < 4) (hw : Region.wanted op (yielded ops a.tmps) = true) (x y : Operand) (ho : op.op = .index 81 x y) (hx : a.eval x = .agg PL.toArray) (hy : a.eval y = .int .i64 (k : Int))
    (h : wpList Tryz.prog ops Q rest (a.put op.dst (.agg (PK k).toArray)) w) : wpList Tryz.prog ops Q (op :: rest) a w := by
  simp only [wpList, hw, if_true]
  refine .inl ?_
  unfold Oper.wp execOp
  simp only [ho, hx, hy]
  match k, hk with
  | 0, _ => simp [go_sem, PL, PK]; exact h
  | 1, _ => simp [go_sem, PL, PK]; exact h
  | 2, _ => simp [go_sem, PL, PK]; exact h
  | 3, _ => simp [go_sem, PL, PK]; exact h
/-- Room for a part. -/
theorem al_part (hw : Region.wanted op (yielded ops a.tmps) = true) (ho : op.op = .alloc 80)
    (h : ∀ w', Below w.heap.size w w' → w'.heap.size = w.heap.size + 1 → w'.there w.heap.size 0 6 → wpList Tryz.prog ops Q rest (a.put op.dst (.pointer (some ⟨w.heap.size, 0, none⟩))) w') : wpList Tryz.prog ops Q (op :: rest) a w := by
  simp only [wpList, hw, if_true]
  refine .inl ?_
  unfold Oper.wp execOp
  simp only [ho]
  simp [go_sem]
  refine h _ (below_box _ _) (by simp) ?_
  exact there_box w [_, _, _, _, _, _] _
end
theorem grown_put {W u w' : World} {b o : Nat} {c : Pt.Cl} (hP : Put u b o c w') (hb : Below W.heap.size W u) : W.grownBy w' (some b) := grownBy_trans (grownBy_of hb) hP.gr
theorem keepMix {W : World} {b q : Nat} {c : Pt.Cl} {k : Nat} (hc : W.rangeAt (b + 1) 0 (CL c)) (hp : W.rangeAt q 0 (PK k)) (n : q ≠ b) {w' : World} (hb : W.grownBy w' (some b)) :
    W.grownBy w' (some b) ∧ w'.cell? ⟨q, 2, none⟩ = some (.func (.func (gF k)) #[] #[]) ∧ w'.cell? ⟨q, 3, none⟩ = some (.func (.func (uF k)) #[] #[]) ∧ w'.cell? ⟨b + 1, 0, none⟩ = some (.int .i64 c.nt) ∧ w'.cell? ⟨b + 1, 1, none⟩ = some (.int .i64 c.it) ∧ w'.cell? ⟨b + 1, 2, none⟩ = some (.int .i64 c.vc) ∧ w'.cell? ⟨b + 1, 3, none⟩ = some (.int .i64 c.va) ∧ w'.cell? ⟨b + 1, 4, none⟩ = some (.int .i64 c.ef) ∧ w'.cell? ⟨b + 1, 5, none⟩ = some (.int .i64 c.pa) :=
  have m : b + 1 ≠ b := by omega
  ⟨hb, cell_grown hb (hp 2 _ rfl) n, cell_grown hb (hp 3 _ rfl) n, cell_grown hb (hc 0 _ rfl) m, cell_grown hb (hc 1 _ rfl) m, cell_grown hb (hc 2 _ rfl) m, cell_grown hb (hc 3 _ rfl) m, cell_grown hb (hc 4 _ rfl) m, cell_grown hb (hc 5 _ rfl) m⟩
set_option maxRecDepth 100000 in
set_option maxHeartbeats 3200000 in
theorem p_mixed (o c : Pt.Cl) (w : World) :
    Calls Tryz.prog 51 #[.agg (CL o).toArray, .agg (CL c).toArray] w fun x w' => x = .returned (.agg (CL (Pt.mixed o c)).toArray) ∧ Below w.heap.size w w' := by
  obtain ⟨W, hW⟩ : ∃ W, W = ((w.alloc (.cells (CL o).toArray 28)).alloc (.cells (CL c).toArray 28)).alloc (.cells (CL Pt.zc).toArray 28) := ⟨_, rfl⟩
  have hB : Below w.heap.size w W := by rw [hW]; exact stepB (stepB (below_box _ _) (below_box _ _)) (below_box _ _)
  have hs : W.heap.size = w.heap.size + 3 := by rw [hW]; simp
  obtain ⟨b, hb⟩ : ∃ b, b = w.heap.size := ⟨_, rfl⟩
  have e1 : (w.alloc (.cells (CL o).toArray 28)).heap.size = b + 1 := by rw [hb]; simp
  have e2 : ((w.alloc (.cells (CL o).toArray 28)).alloc (.cells (CL c).toArray 28)).heap.size = b + 2 := by rw [hb]; simp
  have h0 : W.rangeAt b 0 (CL o) ∧ W.there b 0 6 := by
    rw [hW]
    constructor
    · exact range_below (range_below (by rw [hb]; exact range_box _ _ _) (below_box _ _) (by omega)) (below_box _ _) (by omega)
    · exact there_below (there_below (by rw [hb]; exact there_box w (CL o) _) (below_box _ _) (by omega)) (below_box _ _) (by omega)
  have h1 : W.rangeAt (b + 1) 0 (CL c) := by
    rw [hW]
    exact range_below (by rw [← e1]; exact range_box _ _ _) (below_box _ _) (by omega)
  have h2 : W.there (b + 2) 0 6 := by
    rw [hW, ← e2]
    exact there_box _ (CL Pt.zc) _
  have HB := Lib.hid hB
  rw [← hb] at hs
  have HS := Lib.hid hs
  have H0 := Lib.hid h0
  have H1 := Lib.hid h1
  have H2 := Lib.hid h2
  have HBE := Lib.hid hb
  have HM := Lib.hid (Pt.mixTo_all o c)
  rw [cl_arr o, cl_arr c, cl_zc] at hW
  clear hB hs e1 e2 h0 h1 h2
  rw [cl_arr o, cl_arr c]
  go_enter Tryz.func51, Tryz.ntmps51
  go_upto_region 1 with fail
  rw [← hW, ← hb]
  clear hW hb
  go_wp2_with (first | (go_at_call 59; ((with_reducible refine (p_parts _).mono ?_); rintro x' w1 ⟨rfl, hb1⟩; have HB1 := Lib.hid hb1; clear hb1)))
  go_loopw [8] (fun i wr => ∃ k : Nat, k ≤ 4 ∧ i = .int .i64 k ∧ Hid (w1.grownBy wr (some b)) ∧ Hid (wr.rangeAt b 0 (CL (Pt.mixTo k o c)) ∧ wr.there b 0 6)) (fun i _ => 4 - (intOf i).toNat)
  case atStart => exact ⟨0, by omega, rfl, grownBy_refl _ _, range_below H0.out.1 HB1.out (by have := HS.out; omega), there_below H0.out.2 HB1.out (by have := HS.out; omega)⟩
  case round =>
    obtain ⟨k, hk, rfl, HG, HR⟩ := hrel
    by_cases hlt : k < 4
    · obtain ⟨m, hm⟩ : ∃ m, Pt.mixTo k o c = m := ⟨_, rfl⟩
      rw [hm] at HR
      have HMK := Lib.hid hm
      have E1 := eg hlt
      have E2 := eu hlt
      have HLT := Lib.hid hlt
      have hlt' : (k : Int) < 4 := by omega
      have HC1 := Lib.hid (range_grown (range_below H1.out HB1.out (by have := HS.out; omega)) HG.out (by omega) (by have := HS.out; have := HB1.out.size; omega))
      have HSZ := Lib.hid (show b + 3 ≤ wr.heap.size by have := HS.out; have := HB1.out.size; have := HG.out.size; omega)
      obtain ⟨v, hv⟩ : ∃ v, Pt.pv k m = v := ⟨_, rfl⟩
      have G1 := Lib.hid (fun u => g_get hlt m u)
      rw [hv] at G1
      have S1 := Lib.hid (fun u => p_set v u)
      clear hm hlt
      cases hvs : Pt.isSet v with
      | true =>
        rw [hvs] at S1
        have HV := Lib.hid hvs
        have HVV := Lib.hid hv
        clear hvs hv
        go_wp2_with (first | (refine ix_part HLT.out (by rfl) _ _ rfl rfl rfl ?_) | ((refine al_part (by rfl) rfl ?_); intro w2 hb2 hs2 ht2; have HB2 := Lib.hid hb2; have HT2 := Lib.hid ht2; have HS2 := Lib.hid hs2; clear hb2 ht2 hs2) | ((refine st_row (cs := PK k) Tryz.infoPart (pk_one k) (by rfl) _ _ rfl rfl rfl HT2.out ?_); rintro w3 e3; have h3 := World.rangeAt_setCells_same w2 wr.heap.size 0 (PK k) HT2.out; rw [← e3] at h3; have HB3 := Lib.hid (show Below wr.heap.size wr w3 by rw [e3]; exact grown_at HB2.out (Nat.le_refl _) (by rw [HS2.out]; omega) (grown_setCells _ _ _ _)); have p2 := h3 2 _ rfl; have p3 := h3 3 _ rfl; clear e3) | (refine ld_cell (by rfl) _ rfl rfl (range_below HR.out.1 HB3.out (by have := HSZ.out; omega)) ?_) | (go_at_fn (gF k); (with_reducible refine (G1.out _).mono ?_); rintro x' w4 ⟨rfl, hb4⟩; have HB4 := Lib.hid hb4; clear hb4) | (go_at_call 60; ((with_reducible refine (S1.out _).mono ?_); rintro x' w5 ⟨rfl, hb5⟩; have HB5 := Lib.hid hb5; clear hb5)))
        go_roundw
        case rel =>
          have hb5 := stepB (stepB HB3.out HB4.out) HB5.out
          have e : Pt.mixTo (k + 1) o c = m := by
            show (if Pt.isSet (Pt.pv k (Pt.mixTo k o c)) then Pt.mixTo k o c else _) = m
            rw [HMK.out, HVV.out, HV.out]
            rfl
          refine ⟨k + 1, by omega, by go_num, grownBy_trans HG.out (grownBy_of hb5), ?_, ?_⟩
          · rw [e]; exact range_below HR.out.1 hb5 (by have := HSZ.out; omega)
          · exact there_below HR.out.2 hb5 (by have := HSZ.out; omega)
        case measure => simp [intOf]; omega
      | false =>
        rw [hvs] at S1
        have HV := Lib.hid hvs
        have HVV := Lib.hid hv
        have G2 := Lib.hid (fun u => g_get HLT.out c u)
        rw [cl_arr c] at G2
        have U1 := Lib.hid (fun u hr ht => g_put HLT.out m (Pt.pv k c) b 0 u hr ht)
        obtain ⟨z, hz⟩ : ∃ z, Pt.pv k c = z := ⟨_, rfl⟩
        rw [hz] at G2 U1
        have HZ := Lib.hid hz
        clear hvs hv hz
        go_upto_region 5 with (first | (refine ix_part HLT.out (by rfl) _ _ rfl rfl rfl ?_) | ((refine al_part (by rfl) rfl ?_); intro w2 hb2 hs2 ht2; have HB2 := Lib.hid hb2; have HT2 := Lib.hid ht2; have HS2 := Lib.hid hs2; clear hb2 ht2 hs2) | ((refine st_row (cs := PK k) Tryz.infoPart (pk_one k) (by rfl) _ _ rfl rfl rfl HT2.out ?_); rintro w3 e3; have h3 := World.rangeAt_setCells_same w2 wr.heap.size 0 (PK k) HT2.out; rw [← e3] at h3; have H3 := Lib.hid h3; have HB3 := Lib.hid (show Below wr.heap.size wr w3 by rw [e3]; exact grown_at HB2.out (Nat.le_refl _) (by rw [HS2.out]; omega) (grown_setCells _ _ _ _)); have p2 := H3.out 2 _ rfl; have p3 := H3.out 3 _ rfl; clear h3; clear e3) | (refine ld_cell (by rfl) _ rfl rfl (range_below HR.out.1 HB3.out (by have := HSZ.out; omega)) ?_) | (go_at_fn (gF k); (with_reducible refine (G1.out _).mono ?_); rintro x' w4 ⟨rfl, hb4⟩; have HB4 := Lib.hid hb4; clear hb4) | (go_at_call 60; ((with_reducible refine (S1.out _).mono ?_); rintro x' w5 ⟨rfl, hb5⟩; have HB5 := Lib.hid hb5; clear hb5)))
        obtain ⟨q, hq⟩ : ∃ q, q = wr.heap.size := ⟨_, rfl⟩
        have hb45 := stepB HB4.out HB5.out
        have HRW := Lib.hid (range_below (range_below HR.out.1 HB3.out (by have := HSZ.out; omega)) hb45 (by have := HSZ.out; have := HB3.out.size; omega))
        have HTW := Lib.hid (there_below (there_below HR.out.2 HB3.out (by have := HSZ.out; omega)) hb45 (by have := HSZ.out; have := HB3.out.size; omega))
        have HCW := Lib.hid (range_below (range_below HC1.out HB3.out (by have := HSZ.out; omega)) hb45 (by have := HSZ.out; have := HB3.out.size; omega))
        have HPW := Lib.hid (range_below H3.out hb45 (by have := HS2.out; have := cell_lt p2; exact this))
        have HNE := Lib.hid (show q ≠ b by have := HSZ.out; omega)
        have HB45 := Lib.hid (stepB HB3.out hb45)
        rw [← hq] at HPW
        have hlb : b < w5.heap.size := by have := HSZ.out; have := HB45.out.size; omega
        rw [← hq]
        clear hq hb45 p2 p3
        have HRX := Lib.hid (fun u (hu : Below w5.heap.size w5 u) => range_below HRW.out hu hlb)
        have HTX := Lib.hid (fun u (hu : Below w5.heap.size w5 u) => there_below HTW.out hu hlb)
        have G3 := Lib.hid (fun u (hu : Below w5.heap.size w5 u) => onB hu (G2.out u))
        have hg0 := (Below.refl w5.heap.size w5).drew
        have hg := keepMix HCW.out HPW.out HNE.out (grownBy_of hg0)
        clear hlb
        go_region_held3 (fun w' => w5.grownBy w' (some b) ∧ w'.cell? ⟨q, 2, none⟩ = some (.func (.func (gF k)) #[] #[]) ∧ w'.cell? ⟨q, 3, none⟩ = some (.func (.func (uF k)) #[] #[]) ∧ w'.cell? ⟨b + 1, 0, none⟩ = some (.int .i64 c.nt) ∧ w'.cell? ⟨b + 1, 1, none⟩ = some (.int .i64 c.it) ∧ w'.cell? ⟨b + 1, 2, none⟩ = some (.int .i64 c.vc) ∧ w'.cell? ⟨b + 1, 3, none⟩ = some (.int .i64 c.va) ∧ w'.cell? ⟨b + 1, 4, none⟩ = some (.int .i64 c.ef) ∧ w'.cell? ⟨b + 1, 5, none⟩ = some (.int .i64 c.pa))
          (first | with_reducible exact hg | (with_reducible refine keepMix HCW.out HPW.out HNE.out (grownBy_of ?_); with_reducible assumption) | exact keepMix HCW.out HPW.out HNE.out (grown_put hB7 hB6))
          (first | (go_at_fn (gF k); with_reducible refine (G3.out _ ?_).mono ?_; with_reducible assumption; rintro x' w6 ⟨rfl, hB6⟩; have r6 := HRX.out _ hB6; have t6 := HTX.out _ hB6) | (go_at_fn (uF k); with_reducible refine (U1.out _ ?_ ?_).mono ?_; with_reducible assumption; with_reducible assumption; rintro x' w7 ⟨rfl, hB7⟩))
        go_wp2
        go_roundw
        case rel =>
          have e : Pt.mixTo (k + 1) o c = Pt.pw k m z := by
            show (if Pt.isSet (Pt.pv k (Pt.mixTo k o c)) then Pt.mixTo k o c else Pt.pw k (Pt.mixTo k o c) (Pt.pv k c)) = _
            rw [HMK.out, HVV.out, HV.out, HZ.out]
            rfl
          refine ⟨k + 1, by have := HLT.out; omega, by go_num, grownBy_trans HG.out (grownBy_trans (grownBy_of HB45.out) (grown_put hB7 hB6)), ?_, hB7.th⟩
          rw [e]
          exact hB7.rg
        case measure => simp [intOf]; omega
    · obtain rfl : k = 4 := by omega
      rw [HM.out] at HR
      have HRW := Lib.hid HR.out.1
      have HT2 := Lib.hid (there_grown (there_below H2.out HB1.out (by have := HS.out; omega)) HG.out (by omega) (by have := HS.out; have := HB1.out.size; omega))
      go_wp2_with (first | (refine ld_cell (by rfl) _ rfl rfl HRW.out ?_) | ((refine st_cell (by rfl) _ _ rfl rfl rfl HT2.out ?_); intro w5 e5; have E5 := Lib.hid e5; clear e5))
      have hr := World.rangeAt_setCells_same wr (b + 2) 0 (CL (Pt.mixed o c)) HT2.out
      have e1 := HBE.out
      have e2 := HS.out
      have e3 := HB1.out.size
      have e4 := HG.out.size
      rw [← E5.out] at hr
      refine bodyPost_ret (res_row (cs := CL (Pt.mixed o c)) Tryz.underlying28 rfl (info_cl _) rfl rfl hr) rfl ⟨rfl, ?_⟩
      rw [E5.out]
      exact grown_at (grown_at (stepB HB.out HB1.out) (by omega) (by omega) HG.out) (g := b + 2) (by omega) (by omega) (grown_setCells _ _ _ _)
end Go.Proofs.YtfjfnbeegojlbaaGreat

/-
  A cell's parts: package pattern's value.set, the literals of parts that read and write a part of a cell, and parts itself.
-/
import Derived.Test.YtfjfnbeegojlbaaDoorPCpy
import Derived.Test.YtfjfnbeegojlbaaDoorPkM
import Derived.Deep.RegionHeld3
namespace Go.Proofs.YtfjfnbeegojlbaaDoor
open Go.RowKit

def gF (k : Nat) : FuncId := match k with | 0 => 24 | 1 => 28 | 2 => 32 | _ => 36
def uF (k : Nat) : FuncId := match k with | 0 => 25 | 1 => 29 | 2 => 33 | _ => 37
def wF (k : Nat) : FuncId := match k with | 0 => 26 | 1 => 30 | 2 => 34 | _ => 38
def rF (k : Nat) : FuncId := match k with | 0 => 27 | 1 => 31 | 2 => 35 | _ => 39
/-- A part, as words. -/
def PK (k : Nat) : List Value := [.int .i64 (Pt.num k : Nat), .int .i64 (Pt.wid k : Nat), .func (.func (gF k)) #[] #[], .func (.func (uF k)) #[] #[], .func (.func (wF k)) #[] #[], .func (.func (rF k)) #[] #[]]
def PL : List Value := PK 0 ++ (PK 1 ++ (PK 2 ++ PK 3))
def VL (v : Int × Int) : List Value := [.int .i64 v.1, .int .i64 v.2]
def VV (v : Int × Int) : Value := .agg (VL v).toArray
theorem Tryd.infoPart : (Tryd.prog.info? 38).map (·.size) = some 6 := by kernel_rfl
theorem Tryd.infoParts : (Tryd.prog.info? 39).map (·.size) = some 24 := by kernel_rfl
theorem Tryd.infoVal : (Tryd.prog.info? 42).map (·.size) = some 2 := by kernel_rfl
theorem pk_one (k : Nat) : (PK k).toArray.all (·.oneCell') = true := by simp [PK, Value.oneCell']
theorem pl_one : PL.toArray.all (·.oneCell') = true := by simp [PL, PK, Value.oneCell']
theorem vl_one (v : Int × Int) : (VL v).toArray.all (·.oneCell') = true := by simp [VL, Value.oneCell']
section
variable {ops : Array Oper} {rest : List Oper} {op : Oper} {a : Act} {w : World} {Q : Exit → Act → World → Prop}
theorem ld_row {ty : TypeId} {cs : List Value} {d : TypeDesc} (hu : Tryd.prog.underlying ty = some d) (hd : d.isRow = true) (hi : (Tryd.prog.info? ty).map (·.size) = some cs.length) (hw : Region.wanted op (yielded ops a.tmps) = true) (x : Operand) (ho : op.op = .load ty x) {b o : Nat} (hx : a.eval x = .pointer (some ⟨b, o, none⟩)) (hr : w.rangeAt b o cs)
    (h : wpList Tryd.prog ops Q rest (a.put op.dst (.agg cs.toArray)) w) : wpList Tryd.prog ops Q (op :: rest) a w := by
  simp only [wpList, hw, if_true]
  exact .inl <| wp_load_mid ty x ho b o hx cs d hr hu hd hi h
theorem st_row {ty : TypeId} {cs : List Value} (hi : (Tryd.prog.info? ty).map (·.size) = some cs.length) (h1 : cs.toArray.all (·.oneCell') = true) (hw : Region.wanted op (yielded ops a.tmps) = true) (x y : Operand) (ho : op.op = .store ty x y) {b o : Nat} (hx : a.eval x = .pointer (some ⟨b, o, none⟩)) (hy : a.eval y = .agg cs.toArray) (ht : w.there b o cs.length)
    (h : ∀ w', w' = w.setCells b o cs → wpList Tryd.prog ops Q rest (a.put op.dst undef) w') : wpList Tryd.prog ops Q (op :: rest) a w := by
  simp only [wpList, hw, if_true]
  refine .inl <| wp_store_mid ty x y ho b o cs.toArray hx hy (by simpa using ht) (hi.trans (by simp)) h1 ?_
  exact h _ rfl
/-- Room for all parts. -/
theorem al_parts (hw : Region.wanted op (yielded ops a.tmps) = true) (ho : op.op = .alloc 39)
    (h : ∀ w', Below w.heap.size w w' → w'.heap.size = w.heap.size + 1 → w'.there w.heap.size 0 24 → wpList Tryd.prog ops Q rest (a.put op.dst (.pointer (some ⟨w.heap.size, 0, none⟩))) w') : wpList Tryd.prog ops Q (op :: rest) a w := by
  simp only [wpList, hw, if_true]
  refine .inl ?_
  unfold Oper.wp execOp
  simp only [ho]
  simp [go_sem]
  refine h _ (below_box _ _) (by simp) ?_
  exact there_box w [_, _, _, _, _, _, _, _, _, _, _, _, _, _, _, _, _, _, _, _, _, _, _, _] _
end
theorem res_row {ty : TypeId} {cs : List Value} {d : TypeDesc} (hu : Tryd.prog.underlying ty = some d) (hd : d.isRow = true) (hi : (Tryd.prog.info? ty).map (·.size) = some cs.length) {fn : Func} {q : Tmp} (hf : fn.results = #[.cell q ty]) {tmps : Array Value} {w : World} {b : Nat} (hp : tmps.getD q undef = .pointer (some ⟨b, 0, none⟩)) (h : w.rangeAt b 0 cs) :
    (results fn tmps).run Tryd.prog w = .ok (.agg cs.toArray) w := by
  simp only [results, hf]
  have hp' : tmps[q]?.getD undef = .pointer (some ⟨b, 0, none⟩) := by simpa using hp
  simp [hp', asAddr, run_loadVar_mid w b 0 ty cs d h hu hd hi]
theorem range_box2 (w : World) (cs' : Array Value) (cs : List Value) (t t' : TypeId) : ((w.alloc (.cells cs' t)).alloc (.cells cs.toArray t')).rangeAt (w.heap.size + 1) 0 cs := by
  have := range_box (w.alloc (.cells cs' t)) cs t'
  simpa using this
theorem p_set (v : Int × Int) (w : World) :
    Calls Tryd.prog 12 #[VV v] w fun x w' => x = .returned (.bool (Pt.isSet v)) ∧ Below w.heap.size w w' := by
  unfold VV Pt.isSet VL
  go_enter Tryd.func12, Tryd.ntmps12
  go_wp2
  go_ret
  exact ⟨rfl, below_box _ _⟩
theorem p_get0 (c : Pt.Cl) (w : World) :
    Calls Tryd.prog 24 #[.agg (CL c).toArray] w fun x w' => x = .returned (VV (Pt.pv 0 c)) ∧ Below w.heap.size w w' := by
  rw [cl_arr]
  go_enter Tryd.func24, Tryd.ntmps24
  go_wp2
  refine bodyPost_ret (res_row (cs := VL (Pt.pv 0 c)) Tryd.underlying42 rfl Tryd.infoVal rfl rfl ?_) rfl ⟨rfl, stepB (below_box _ _) (below_box _ _)⟩
  exact range_box2 w _ (VL (Pt.pv 0 c)) _ _
theorem p_get1 (c : Pt.Cl) (w : World) :
    Calls Tryd.prog 28 #[.agg (CL c).toArray] w fun x w' => x = .returned (VV (Pt.pv 1 c)) ∧ Below w.heap.size w w' := by
  rw [cl_arr]
  go_enter Tryd.func28, Tryd.ntmps28
  go_wp2
  refine bodyPost_ret (res_row (cs := VL (Pt.pv 1 c)) Tryd.underlying42 rfl Tryd.infoVal rfl rfl ?_) rfl ⟨rfl, stepB (below_box _ _) (below_box _ _)⟩
  exact range_box2 w _ (VL (Pt.pv 1 c)) _ _
theorem p_get2 (c : Pt.Cl) (w : World) :
    Calls Tryd.prog 32 #[.agg (CL c).toArray] w fun x w' => x = .returned (VV (Pt.pv 2 c)) ∧ Below w.heap.size w w' := by
  rw [cl_arr]
  go_enter Tryd.func32, Tryd.ntmps32
  go_wp2
  refine bodyPost_ret (res_row (cs := VL (Pt.pv 2 c)) Tryd.underlying42 rfl Tryd.infoVal rfl rfl ?_) rfl ⟨rfl, stepB (below_box _ _) (below_box _ _)⟩
  exact range_box2 w _ (VL (Pt.pv 2 c)) _ _
theorem p_get3 (c : Pt.Cl) (w : World) :
    Calls Tryd.prog 36 #[.agg (CL c).toArray] w fun x w' => x = .returned (VV (Pt.pv 3 c)) ∧ Below w.heap.size w w' := by
  rw [cl_arr]
  go_enter Tryd.func36, Tryd.ntmps36
  go_wp2
  refine bodyPost_ret (res_row (cs := VL (Pt.pv 3 c)) Tryd.underlying42 rfl Tryd.infoVal rfl rfl ?_) rfl ⟨rfl, stepB (below_box _ _) (below_box _ _)⟩
  exact range_box2 w _ (VL (Pt.pv 3 c)) _ _
theorem g_get {k : Nat} (hk : k < 4) (c : Pt.Cl) (w : World) :
    Calls Tryd.prog (gF k) #[.agg (CL c).toArray] w fun x w' => x = .returned (VV (Pt.pv k c)) ∧ Below w.heap.size w w' := by
  match k, hk with
  | 0, _ => exact p_get0 c w
  | 1, _ => exact p_get1 c w
  | 2, _ => exact p_get2 c w
  | 3, _ => exact p_get3 c w
/-- A cell in the middle of block b has been written, and nothing else that was there. -/
structure Put (w : World) (b o : Nat) (c : Pt.Cl) (w' : World) : Prop where
  gr : w.grownBy w' (some b)
  rg : w'.rangeAt b o (CL c)
  th : w'.there b o 6
  out : ∀ o', (o' < o ∨ o + 6 ≤ o') → w'.cell? ⟨b, o', none⟩ = w.cell? ⟨b, o', none⟩ ∧ w'.frozen? ⟨b, o', none⟩ = w.frozen? ⟨b, o', none⟩
theorem Put.start {w w' : World} {b o : Nat} {c : Pt.Cl} (hb : Below w.heap.size w w') (hr : w.rangeAt b o (CL c)) (ht : w.there b o 6) : Put w b o c w' := by
  have hl : b < w.heap.size := cell_lt (hr 0 _ rfl)
  exact ⟨grownBy_of hb, range_below hr hb hl, there_below ht hb hl, fun o' _ => ⟨hb.cell (p := ⟨b, o', none⟩) hl, hb.frozen (p := ⟨b, o', none⟩) hl⟩⟩
theorem Put.set {w w' : World} {b o f : Nat} {c c' : Pt.Cl} {x : Value} (h : Put w b o c w') (hf : f < 6) (hc : CL c' = (CL c).set f x) : Put w b o c' (w'.setCell ⟨b, o + f, none⟩ x) := by
  refine ⟨grownBy_trans h.gr (grown_set _ _ _ _), ?_, there_set h.th, fun o' ho => ?_⟩
  · rw [hc]
    exact range_set_in h.rg (by rw [cl_len]; exact hf)
  · obtain ⟨h1, h2⟩ := h.out o' ho
    rw [World.cell?_setCell_other _ _ _ _ (fun e => by have := congrArg Addr.off e; simp at this; omega)]
    exact ⟨h1, by simpa using h2⟩
theorem Put.drew {w w' : World} {b o : Nat} {c : Pt.Cl} (h : Put w b o c w') : Put w b o c w'.drew := ⟨⟨h.gr.os, h.gr.tape, h.gr.output, h.gr.size, h.gr.block⟩, h.rg, h.th, h.out⟩
theorem p_put0 (c : Pt.Cl) (v : Int × Int) (b o : Nat) (w : World) (hr : w.rangeAt b o (CL c)) (ht : w.there b o 6) :
    Calls Tryd.prog 25 #[.pointer (some ⟨b, o, none⟩), VV v] w fun x w' => x = .returned (.tuple #[]) ∧ Put w b o (Pt.pw 0 c v) w' := by
  obtain ⟨W, hW⟩ : ∃ W, W = w.alloc (.cells (VL v).toArray 42) := ⟨_, rfl⟩
  have HP := Lib.hid (show Put w b o c W by rw [hW]; exact Put.start (below_box _ _) hr ht)
  have hv := range_box w (VL v) 42
  rw [← hW] at hv
  have v0 : W.cell? ⟨w.heap.size, 0, none⟩ = some (.int .i64 v.1) := hv 0 _ rfl
  have v1 : W.cell? ⟨w.heap.size, 1, none⟩ = some (.int .i64 v.2) := hv 1 _ rfl
  have hl : b < w.heap.size := cell_lt (hr 0 _ rfl)
  have hne : b ≠ w.heap.size := by omega
  obtain ⟨g, hg⟩ : ∃ g, g = w.heap.size := ⟨_, rfl⟩
  rw [← hg] at v0 v1 hne
  obtain ⟨x0, c0⟩ := Option.isSome_iff_exists.1 (HP.out.th 0 (by decide)).1
  have f0 := (HP.out.th 0 (by decide)).2
  rw [Nat.add_zero] at c0 f0
  have HE := Lib.hid (show ∀ u, Put w b o (Pt.pw 0 c v) u → Put w b o (Pt.pw 0 c v) u.drew from fun _ h => h.drew)
  unfold VV at *
  have e : (VL v).toArray = #[.int .i64 v.1, .int .i64 v.2] := rfl
  rw [e] at hW ⊢
  clear hr ht hv hl e
  go_enter Tryd.func25, Tryd.ntmps25
  go_upto_region 1 with fail
  rw [← hW, ← hg]
  clear hW hg
  go_wp2
  refine bodyPost_end (results_none rfl _ _ _) rfl ?_
  exact ⟨rfl, (HP.out.set (f := 0) (x := .int .i64 v.1) (by decide) rfl)⟩
theorem p_put1 (c : Pt.Cl) (v : Int × Int) (b o : Nat) (w : World) (hr : w.rangeAt b o (CL c)) (ht : w.there b o 6) :
    Calls Tryd.prog 29 #[.pointer (some ⟨b, o, none⟩), VV v] w fun x w' => x = .returned (.tuple #[]) ∧ Put w b o (Pt.pw 1 c v) w' := by
  obtain ⟨W, hW⟩ : ∃ W, W = w.alloc (.cells (VL v).toArray 42) := ⟨_, rfl⟩
  have HP := Lib.hid (show Put w b o c W by rw [hW]; exact Put.start (below_box _ _) hr ht)
  have hv := range_box w (VL v) 42
  rw [← hW] at hv
  have v0 : W.cell? ⟨w.heap.size, 0, none⟩ = some (.int .i64 v.1) := hv 0 _ rfl
  have v1 : W.cell? ⟨w.heap.size, 1, none⟩ = some (.int .i64 v.2) := hv 1 _ rfl
  have hl : b < w.heap.size := cell_lt (hr 0 _ rfl)
  have hne : b ≠ w.heap.size := by omega
  obtain ⟨g, hg⟩ : ∃ g, g = w.heap.size := ⟨_, rfl⟩
  rw [← hg] at v0 v1 hne
  obtain ⟨x1, c1⟩ := Option.isSome_iff_exists.1 (HP.out.th 1 (by decide)).1
  have f1 := (HP.out.th 1 (by decide)).2
  have HE := Lib.hid (show ∀ u, Put w b o (Pt.pw 1 c v) u → Put w b o (Pt.pw 1 c v) u.drew from fun _ h => h.drew)
  unfold VV at *
  have e : (VL v).toArray = #[.int .i64 v.1, .int .i64 v.2] := rfl
  rw [e] at hW ⊢
  clear hr ht hv hl e
  go_enter Tryd.func29, Tryd.ntmps29
  go_upto_region 1 with fail
  rw [← hW, ← hg]
  clear hW hg
  go_wp2
  refine bodyPost_end (results_none rfl _ _ _) rfl ?_
  exact ⟨rfl, (HP.out.set (f := 1) (x := .int .i64 v.1) (by decide) rfl)⟩
theorem p_put2 (c : Pt.Cl) (v : Int × Int) (b o : Nat) (w : World) (hr : w.rangeAt b o (CL c)) (ht : w.there b o 6) :
    Calls Tryd.prog 33 #[.pointer (some ⟨b, o, none⟩), VV v] w fun x w' => x = .returned (.tuple #[]) ∧ Put w b o (Pt.pw 2 c v) w' := by
  obtain ⟨W, hW⟩ : ∃ W, W = w.alloc (.cells (VL v).toArray 42) := ⟨_, rfl⟩
  have HP := Lib.hid (show Put w b o c W by rw [hW]; exact Put.start (below_box _ _) hr ht)
  have hv := range_box w (VL v) 42
  rw [← hW] at hv
  have v0 : W.cell? ⟨w.heap.size, 0, none⟩ = some (.int .i64 v.1) := hv 0 _ rfl
  have v1 : W.cell? ⟨w.heap.size, 1, none⟩ = some (.int .i64 v.2) := hv 1 _ rfl
  have hl : b < w.heap.size := cell_lt (hr 0 _ rfl)
  have hne : b ≠ w.heap.size := by omega
  obtain ⟨g, hg⟩ : ∃ g, g = w.heap.size := ⟨_, rfl⟩
  rw [← hg] at v0 v1 hne
  obtain ⟨x2, c2⟩ := Option.isSome_iff_exists.1 (HP.out.th 2 (by decide)).1
  have f2 := (HP.out.th 2 (by decide)).2
  obtain ⟨x3, c3⟩ := Option.isSome_iff_exists.1 (HP.out.th 3 (by decide)).1
  have f3 := (HP.out.th 3 (by decide)).2
  have d1 : (W.setCell ⟨b, o + 2, none⟩ (.int .i64 v.1)).cell? ⟨b, o + 3, none⟩ = some x3 := by rw [World.cell?_setCell_other _ _ _ _ (fun e => by have := congrArg Addr.off e; simp at this)]; exact c3
  have HE := Lib.hid (show ∀ u, Put w b o (Pt.pw 2 c v) u → Put w b o (Pt.pw 2 c v) u.drew from fun _ h => h.drew)
  unfold VV at *
  have e : (VL v).toArray = #[.int .i64 v.1, .int .i64 v.2] := rfl
  rw [e] at hW ⊢
  clear hr ht hv hl e
  go_enter Tryd.func33, Tryd.ntmps33
  go_upto_region 1 with fail
  rw [← hW, ← hg]
  clear hW hg
  go_region
  refine bodyPost_end (results_none rfl _ _ _) rfl ?_
  exact ⟨rfl, ((HP.out.set (f := 2) (x := .int .i64 v.1) (c' := { c with vc := v.1 }) (by decide) rfl).set (f := 3) (x := .int .i64 v.2) (by decide) rfl).drew⟩
theorem p_put3 (c : Pt.Cl) (v : Int × Int) (b o : Nat) (w : World) (hr : w.rangeAt b o (CL c)) (ht : w.there b o 6) :
    Calls Tryd.prog 37 #[.pointer (some ⟨b, o, none⟩), VV v] w fun x w' => x = .returned (.tuple #[]) ∧ Put w b o (Pt.pw 3 c v) w' := by
  obtain ⟨W, hW⟩ : ∃ W, W = w.alloc (.cells (VL v).toArray 42) := ⟨_, rfl⟩
  have HP := Lib.hid (show Put w b o c W by rw [hW]; exact Put.start (below_box _ _) hr ht)
  have hv := range_box w (VL v) 42
  rw [← hW] at hv
  have v0 : W.cell? ⟨w.heap.size, 0, none⟩ = some (.int .i64 v.1) := hv 0 _ rfl
  have v1 : W.cell? ⟨w.heap.size, 1, none⟩ = some (.int .i64 v.2) := hv 1 _ rfl
  have hl : b < w.heap.size := cell_lt (hr 0 _ rfl)
  have hne : b ≠ w.heap.size := by omega
  obtain ⟨g, hg⟩ : ∃ g, g = w.heap.size := ⟨_, rfl⟩
  rw [← hg] at v0 v1 hne
  obtain ⟨x4, c4⟩ := Option.isSome_iff_exists.1 (HP.out.th 4 (by decide)).1
  have f4 := (HP.out.th 4 (by decide)).2
  obtain ⟨x5, c5⟩ := Option.isSome_iff_exists.1 (HP.out.th 5 (by decide)).1
  have f5 := (HP.out.th 5 (by decide)).2
  have d1 : (W.setCell ⟨b, o + 4, none⟩ (.int .i64 v.1)).cell? ⟨b, o + 5, none⟩ = some x5 := by rw [World.cell?_setCell_other _ _ _ _ (fun e => by have := congrArg Addr.off e; simp at this)]; exact c5
  have HE := Lib.hid (show ∀ u, Put w b o (Pt.pw 3 c v) u → Put w b o (Pt.pw 3 c v) u.drew from fun _ h => h.drew)
  unfold VV at *
  have e : (VL v).toArray = #[.int .i64 v.1, .int .i64 v.2] := rfl
  rw [e] at hW ⊢
  clear hr ht hv hl e
  go_enter Tryd.func37, Tryd.ntmps37
  go_upto_region 1 with fail
  rw [← hW, ← hg]
  clear hW hg
  go_region
  refine bodyPost_end (results_none rfl _ _ _) rfl ?_
  exact ⟨rfl, ((HP.out.set (f := 4) (x := .int .i64 v.1) (c' := { c with ef := v.1 }) (by decide) rfl).set (f := 5) (x := .int .i64 v.2) (by decide) rfl).drew⟩
theorem g_put {k : Nat} (hk : k < 4) (c : Pt.Cl) (v : Int × Int) (b o : Nat) (w : World) (hr : w.rangeAt b o (CL c)) (ht : w.there b o 6) :
    Calls Tryd.prog (uF k) #[.pointer (some ⟨b, o, none⟩), VV v] w fun x w' => x = .returned (.tuple #[]) ∧ Put w b o (Pt.pw k c v) w' := by
  match k, hk with
  | 0, _ => exact p_put0 c v b o w hr ht
  | 1, _ => exact p_put1 c v b o w hr ht
  | 2, _ => exact p_put2 c v b o w hr ht
  | 3, _ => exact p_put3 c v b o w hr ht
theorem p_parts (w : World) :
    Calls Tryd.prog 11 #[] w fun x w' => x = .returned (.agg PL.toArray) ∧ Below w.heap.size w w' := by
  go_enter Tryd.func11, Tryd.ntmps11
  go_wp2_with (first | ((refine al_parts (by rfl) rfl ?_); intro w1 hb1 hs1 ht1; have HB1 := Lib.hid hb1; have HT1 := Lib.hid ht1; have HS1 := Lib.hid hs1; clear hb1 ht1 hs1) | ((refine st_row (cs := PL) Tryd.infoParts pl_one (by rfl) _ _ rfl rfl rfl HT1.out ?_); rintro w2 e2; have HE2 := Lib.hid e2; clear e2))
  have hr := World.rangeAt_setCells_same w1 w.heap.size 0 PL HT1.out
  rw [← HE2.out] at hr
  refine bodyPost_ret (res_row (cs := PL) Tryd.underlying39 rfl Tryd.infoParts rfl rfl hr) rfl ⟨rfl, ?_⟩
  rw [HE2.out]
  exact grown_at HB1.out (Nat.le_refl _) (by rw [HS1.out]; omega) (grown_setCells _ _ _ _)
end Go.Proofs.YtfjfnbeegojlbaaDoor

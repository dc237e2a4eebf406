/-
  The contract of package sample's Unroll: the values along the way of a cursor, in memory of its own; nothing that was there is changed.
-/
import Derived.Test.YtmaldhjcdkidmaaPMoveB
import Derived.Test.YtmaldhjcdkidmaaPTap
import Derived.Test.YtmaldhjcdkidmaaUnr
import Derived.OneCell
import Derived.OwnWalk
import Derived.Outline
namespace Go.Proofs.Ytmaldhjcdkidmaa
open Go.RowKit

theorem Try.infoInt : (Try.prog.info? 3).map (fun i => (i.zero, i.size, i.bytes)) = some (some (.int .i64 0), 1, 8) := by kernel_rfl
/-- What Unroll keeps of its own blocks: the sample, the route, the cursor, the row of values. -/
def UB (w : World) (b r c g n : Nat) (s : Sm.Smp) (p : Option Addr) (cap : Nat) (N F T : Int) (Fv Gv : Value) (po fr : Int) (bk dn : Bool) (B : Nat) (xs : List Value) : Prop :=
  Boxed w b s p cap ∧ (w.cell? ⟨r, 0, none⟩ = some (.int .i64 N) ∧ w.cell? ⟨r, 1, none⟩ = some (.int .i64 F) ∧ w.cell? ⟨r, 2, none⟩ = some (.int .i64 T) ∧ w.cell? ⟨r, 3, none⟩ = some Fv ∧ w.cell? ⟨r, 4, none⟩ = some Gv) ∧
  (w.cell? ⟨c, 0, none⟩ = some (.int .i64 po) ∧ w.cell? ⟨c, 1, none⟩ = some (.int .i64 fr) ∧ w.cell? ⟨c, 2, none⟩ = some (.bool bk) ∧ w.cell? ⟨c, 3, none⟩ = some (.bool dn)) ∧
  (w.frozen? ⟨c, 0, none⟩ = false ∧ w.frozen? ⟨c, 1, none⟩ = false ∧ w.frozen? ⟨c, 2, none⟩ = false ∧ w.frozen? ⟨c, 3, none⟩ = false) ∧
  w.ownsRow B 3 1 (.slice (some ⟨g, 0, none⟩) n n) n xs
theorem row_lt {w : World} {B g n : Nat} {xs : List Value} (h : w.ownsRow B 3 1 (.slice (some ⟨g, 0, none⟩) n n) n xs) : g < w.heap.size := (h.lt g rfl).2
theorem row_kept {w w' : World} {B g n : Nat} {xs : List Value} (h : w.ownsRow B 3 1 (.slice (some ⟨g, 0, none⟩) n n) n xs) (hb : Below w.heap.size w w') : w'.ownsRow B 3 1 (.slice (some ⟨g, 0, none⟩) n n) n xs :=
  h.kept (row := none) ⟨hb.os, hb.tape, hb.output, hb.size, fun k hk _ => hb.block k hk⟩ (.inr (by simp [Value.ownBlock]))
theorem UB.kept {w : World} {b r c g n : Nat} {s : Sm.Smp} {p : Option Addr} {cap : Nat} {N F T : Int} {Fv Gv : Value} {po fr : Int} {bk dn : Bool} {B : Nat} {xs : List Value} {w' : World} (h : UB w b r c g n s p cap N F T Fv Gv po fr bk dn B xs) (hb : Below w.heap.size w w') : UB w' b r c g n s p cap N F T Fv Gv po fr bk dn B xs := by
  obtain ⟨h1, ⟨r0, r1, r2, r3, r4⟩, ⟨c0, c1, c2, c3⟩, ⟨f0, f1, f2, f3⟩, ho⟩ := h
  refine ⟨h1.below hb (cell_lt h1.1), ⟨kept_cell hb r0, kept_cell hb r1, kept_cell hb r2, kept_cell hb r3, kept_cell hb r4⟩, ⟨kept_cell hb c0, kept_cell hb c1, kept_cell hb c2, kept_cell hb c3⟩, ⟨?_, ?_, ?_, ?_⟩, row_kept ho hb⟩
  · rw [hb.frozen (cell_lt c0)]; exact f0
  · rw [hb.frozen (cell_lt c1)]; exact f1
  · rw [hb.frozen (cell_lt c2)]; exact f2
  · rw [hb.frozen (cell_lt c3)]; exact f3
theorem cell_set {w : World} {x y : Nat} (h : x ≠ y) (i j : Nat) (v : Value) : (w.setCell ⟨y, j, none⟩ v).cell? ⟨x, i, none⟩ = w.cell? ⟨x, i, none⟩ :=
  World.cell?_setCell_other _ _ _ _ (fun e => h (congrArg Addr.block e).symm)
theorem UB.put {w : World} {b r c g n : Nat} {s : Sm.Smp} {p : Option Addr} {cap : Nat} {N F T : Int} {Fv Gv : Value} {po fr : Int} {bk dn : Bool} {B : Nat} {xs : List Value} (h : UB w b r c g n s p cap N F T Fv Gv po fr bk dn B xs) (h1 : b ≠ g) (h2 : r ≠ g) (h3 : c ≠ g) (j : Nat) (v : Value) : UB (w.setCell ⟨g, j, none⟩ v) b r c g n s p cap N F T Fv Gv po fr bk dn B (xs.set j v) := by
  obtain ⟨hx, hr, hc, hf, ho⟩ := h
  refine ⟨?_, ?_, ?_, ?_, (ho.stored j v).1⟩
  · unfold Boxed at *
    simp only [cell_set h1]
    exact hx
  · simp only [cell_set h2]
    exact hr
  · simp only [cell_set h3]
    exact hc
  · simp only [World.frozen?_setCell]
    exact hf
theorem UB.go {w : World} {b r c g n : Nat} {s : Sm.Smp} {p : Option Addr} {cap : Nat} {N F T : Int} {Fv Gv : Value} {po fr : Int} {bk dn : Bool} {B : Nat} {xs : List Value} (h : UB w b r c g n s p cap N F T Fv Gv po fr bk dn B xs) (h1 : b ≠ c) (h2 : r ≠ c) (h3 : g ≠ c) (po' fr' : Int) (bk' dn' : Bool) :
    UB ((((w.setCell ⟨c, 0, none⟩ (.int .i64 po')).setCell ⟨c, 1, none⟩ (.int .i64 fr')).setCell ⟨c, 2, none⟩ (.bool bk')).setCell ⟨c, 3, none⟩ (.bool dn')) b r c g n s p cap N F T Fv Gv po' fr' bk' dn' B xs := by
  obtain ⟨hx, hr, ⟨c0, c1, c2, c3⟩, hf, ho⟩ := h
  have ne : ∀ (x y : Nat), x ≠ y → (⟨c, x, none⟩ : Addr) ≠ ⟨c, y, none⟩ := fun x y hxy e => hxy (congrArg Addr.off e)
  refine ⟨?_, ?_, ⟨?_, ?_, ?_, ?_⟩, ?_, ?_⟩
  · unfold Boxed at *
    simp only [cell_set h1]
    exact hx
  · simp only [cell_set h2]
    exact hr
  · rw [World.cell?_setCell_other _ _ _ _ (ne 3 0 (by omega)), World.cell?_setCell_other _ _ _ _ (ne 2 0 (by omega)), World.cell?_setCell_other _ _ _ _ (ne 1 0 (by omega))]
    exact World.cell?_setCell_same _ _ _ c0
  · rw [World.cell?_setCell_other _ _ _ _ (ne 3 1 (by omega)), World.cell?_setCell_other _ _ _ _ (ne 2 1 (by omega))]
    exact World.cell?_setCell_same _ _ _ (u := .int .i64 fr) (by rw [World.cell?_setCell_other _ _ _ _ (ne 0 1 (by omega))]; exact c1)
  · rw [World.cell?_setCell_other _ _ _ _ (ne 3 2 (by omega))]
    exact World.cell?_setCell_same _ _ _ (u := .bool bk) (by rw [World.cell?_setCell_other _ _ _ _ (ne 1 2 (by omega)), World.cell?_setCell_other _ _ _ _ (ne 0 2 (by omega))]; exact c2)
  · exact World.cell?_setCell_same _ _ _ (u := .bool dn) (by rw [World.cell?_setCell_other _ _ _ _ (ne 2 3 (by omega)), World.cell?_setCell_other _ _ _ _ (ne 1 3 (by omega)), World.cell?_setCell_other _ _ _ _ (ne 0 3 (by omega))]; exact c3)
  · simp only [World.frozen?_setCell]
    exact hf
  · have ha : ∀ j, Value.ownBlock (.slice (some ⟨g, 0, none⟩) n n) ≠ some (⟨c, j, none⟩ : Addr).block := fun j => by simp [Value.ownBlock, h3]
    exact ownsRow_setCell_other (ownsRow_setCell_other (ownsRow_setCell_other (ownsRow_setCell_other ho (ha 0) _) (ha 1) _) (ha 2) _) (ha 3) _
theorem UBbelow {w wr w1 w2 : World} {c g : Nat} {v v0 v1 v2 v3 : Value} {k : Nat} (hw : Below w.heap.size w wr) (hg : w.heap.size ≤ g) (hc : w.heap.size ≤ c) (hb1 : Below wr.heap.size wr w1) (hb2 : Below (w1.setCell ⟨g, k, none⟩ v).heap.size (w1.setCell ⟨g, k, none⟩ v) w2) :
    Below w.heap.size w ((((w2.setCell ⟨c, 0, none⟩ v0).setCell ⟨c, 1, none⟩ v1).setCell ⟨c, 2, none⟩ v2).setCell ⟨c, 3, none⟩ v3) :=
  ((((((hw.trans (hb1.mono hw.size)).setCell hg v).trans (hb2.mono (by have := hw.size; have := hb1.size; simp; omega))).setCell hc _).setCell hc _).setCell hc _).setCell hc _
/-- A call has returned these values, in memory of its own. -/
def RetUnr (l : List Int) (e : Ending) (w' : World) : Prop := ∃ g, e = .returned (.tuple #[.slice (some ⟨g, 0, none⟩) l.length l.length, .int .i64 0]) ∧ DatAt w' (some ⟨g, 0, none⟩) l
theorem grown_below {w w' : World} (h : w.grownBy w' none) : Below w.heap.size w w' := ⟨h.os, h.tape, h.output, h.size, fun k hk => h.block k hk (by simp)⟩
theorem DatAt.belowB {w w' : World} {p : Option Addr} {zs : List Int} {B : Nat} (h : DatAt w p zs) (hb : Below B w w') (hB : B = w.heap.size) : DatAt w' p zs := h.below (hB ▸ hb)
theorem p_unroll_bad (s : Sm.Smp) (p : Option Addr) (cap : Nat) (n : Int) (h : Bool) (w : World) (hm : s.name.size ≤ maxLen) (hd : DatAt w p s.dat) (hv : Sm.vld s = false) :
    Calls Try.prog 23 #[SV s p cap, .int .i64 n, .bool h] w fun x w' => x = .returned (.tuple #[.slice none 0 0, .int .i64 1]) ∧ Below w.heap.size w w' := by
  unfold SV
  go_enter Try.func23, Try.ntmps23
  go_wp2_with (first | (go_at_call 13; refine (p_valid_v s p cap _ hm (hd.below (below_box _ _)) hv).mono ?_; rintro x w1 ⟨rfl, hb1⟩; have HB1 := Lib.hid ((boxed_new w s p cap 24).below hb1 (by simp)); obtain ⟨y0, y1, y2, y3, y4, y5, y6, y7, y8, y9, y10, y11, y12⟩ := HB1.out))
  go_ret2
  exact ⟨rfl, (below_box _ _).trans (hb1.mono (by simp))⟩
theorem p_unroll_range (s : Sm.Smp) (p : Option Addr) (cap : Nat) (n : Int) (h : Bool) (w : World) (hm : s.name.size ≤ maxLen) (hd : DatAt w p s.dat) (hv : Sm.vld s = true) (hr : n < 0 ∨ 200000 < n) :
    Calls Try.prog 23 #[SV s p cap, .int .i64 n, .bool h] w fun x w' => x = .returned (.tuple #[.slice none 0 0, .int .i64 5]) ∧ Below w.heap.size w w' := by
  have HI := Lib.hid hr
  clear hr
  unfold SV
  go_enter Try.func23, Try.ntmps23
  go_wp2_with (first | (go_at_call 13; refine (p_valid_v s p cap _ hm (hd.below (below_box _ _)) hv).mono ?_; rintro x w1 ⟨rfl, hb1⟩; have HB1 := Lib.hid ((boxed_new w s p cap 24).below hb1 (by simp)); obtain ⟨y0, y1, y2, y3, y4, y5, y6, y7, y8, y9, y10, y11, y12⟩ := HB1.out) | (go_at_call 39; ((with_reducible refine (p_within_no _ _ _ _ HI.out).mono ?_); rintro x w' ⟨rfl, rfl⟩)))
  go_ret2
  exact ⟨rfl, (below_box _ _).trans (hb1.mono (by simp))⟩
set_option maxHeartbeats 1600000 in
theorem p_unroll_0 (s : Sm.Smp) (p : Option Addr) (cap : Nat) (n : Nat) (h : Bool) (w : World) (hm : s.name.size ≤ maxLen) (hd : DatAt w p s.dat) (hv : Sm.vld s = true) (n0 : (0 : Int) ≤ (n : Int)) (n1 : (n : Int) ≤ 200000) {s0 e0 : Int} (HK : Hid (Sm.rk s h = 0 ∧ Sm.rs s h = s0 ∧ Sm.re s h = e0)) :
    Calls Try.prog 23 #[SV s p cap, .int .i64 n, .bool h] w fun x w' => RetUnr (unr s h n) x w' ∧ Below w.heap.size w w' := by
  have hl : (s.dat.length : Int) ≤ 4096 := vld_len hv
  have hsm : Small s := vld_small hv
  have hq := ring_ok hv h
  rw [HK.out.1, HK.out.2.1, HK.out.2.2] at hq
  obtain ⟨_, hk, q1, q2, q3, q4⟩ := hq
  have hrr : Sm.Ring 0 (65536 * s0) (65536 * e0) (65536 * s.dat.length) := ⟨by omega, by omega, by omega⟩
  have HRt := Lib.hid (fun w => p_route_0 s p cap h w HK hl q1 (by omega) (by omega) (by omega))
  have HMv := Lib.hid (fun (w : World) po fr bk dn hc => p_mv0 (65536 * s.dat.length) (65536 * s0) (65536 * e0) po fr 65536 bk dn w hrr (by omega) hc (by omega) (by omega))
  have HBg := Lib.hid (fun w hd => p_begin s p cap 0 false w hm hd (by omega))
  have HVl := Lib.hid (fun w hd po fr bk dn hc => p_value s p cap po fr bk dn w hd hsm hc)
  have HMS := Lib.hid (show ∀ c, mvS s h c 65536 = Sm.gone 0 (65536 * s0) (65536 * e0) (65536 * s.dat.length) c 65536 from fun c => by
    unfold mvS; rw [HK.out.1, HK.out.2.1, HK.out.2.2, Int.mul_comm s0, Int.mul_comm e0, Int.mul_comm (s.dat.length : Int)])
  have HSM := Lib.hid hsm
  have HV := Lib.hid hv
  obtain ⟨i0, hi, hz0, hz1, hz2⟩ := info_parts Try.infoInt
  clear hk hrr hsm
  unfold SV at HRt HBg HVl
  unfold SV
  go_enter Try.func23, Try.ntmps23
  go_wp2_with (first | (go_at_call 13; refine (p_valid_v s p cap _ hm (hd.below (below_box _ _)) hv).mono ?_; rintro x w1 ⟨rfl, hb1⟩; have HB1 := Lib.hid ((boxed_new w s p cap 24).below hb1 (by simp)); obtain ⟨y0, y1, y2, y3, y4, y5, y6, y7, y8, y9, y10, y11, y12⟩ := HB1.out) | (go_at_call 39; ((with_reducible refine (p_within_yes _ _ _ _ n0 n1).mono ?_); rintro x w' ⟨rfl, rfl⟩)) | (go_at_call 50; ((with_reducible refine (HRt.out _).mono ?_); rintro x w2 ⟨rfl, hb2⟩)) | (at_make; refine wpList_make_full _ rfl _ _ 22 rfl w.heap.size 3 i0 (.int .i64 0) 1 Try.underlying22 hi hz0 hz1 .i64 .i64 _ _ n rfl rfl rfl rfl (by rw [hz2]; omega) (by unfold maxLen; omega) (by have := hb1.size; have := hb2.size; simp at *; omega) ?_; intro w3 hown3 hgrow3; have HOWN := Lib.hid hown3; have hb3 := grown_below hgrow3; clear hown3 hgrow3; have HB3 := Lib.hid (((HB1.out.below hb2 (cell_lt HB1.out.1)).below (below_box _ _) (by have := cell_lt HB1.out.1; have := hb2.size; simp at *; omega)).below hb3 (by have := cell_lt HB1.out.1; have := hb2.size; simp at *; omega)); obtain ⟨x0, x1, x2, x3, x4, x5, x6, x7, x8, x9, x10, x11, x12⟩ := HB3.out) | (go_at_call 15; ((with_reducible refine (HBg.out _ (((((hd.below (below_box _ _)).below hb1).below hb2).below (below_box _ _)).below hb3)).mono ?_); rintro x w5 ⟨⟨po0, fr0, bk0, dn0, rfl, HC0⟩, hb5⟩)))
  have z1 : w.heap.size + 1 ≤ w1.heap.size := by have := hb1.size; simp at this; omega
  have z2 := hb2.size
  have z3 : w2.heap.size + 1 ≤ w3.heap.size := by have := hb3.size; simp at this; omega
  have z5 := hb5.size
  have HOW : w3.ownsRow w.heap.size 3 1 (.slice (some ⟨w2.heap.size + 1, 0, none⟩) n n) n (urow s h n 0) := by
    have e : (madeCells (Value.int .i64 0).cells (n * 1)).toList = urow s h n 0 := by rw [urow_zero, Nat.mul_one]; exact toList_madeCells_one _ n
    have := HOWN.out
    rw [e] at this
    simpa using this
  have zg := row_lt HOW
  have HST := Lib.hid (show UB (w5.alloc (.cells #[.int .i64 po0, .int .i64 fr0, .bool bk0, .bool dn0] 26)) w.heap.size w2.heap.size w5.heap.size (w2.heap.size + 1) n s p cap (65536 * s.dat.length) (65536 * s0) (65536 * e0) (.func (.func 74) #[] #[]) (.func (.func 75) #[] #[]) po0 fr0 bk0 dn0 w.heap.size (urow s h n 0) from
    ⟨(HB3.out.below hb5 (by omega)).below (below_box _ _) (by omega),
      ⟨kept_cell (below_box _ _) (kept_cell hb5 (kept_cell hb3 (by simp [World.cell?_alloc_new]))), kept_cell (below_box _ _) (kept_cell hb5 (kept_cell hb3 (by simp [World.cell?_alloc_new]))), kept_cell (below_box _ _) (kept_cell hb5 (kept_cell hb3 (by simp [World.cell?_alloc_new]))), kept_cell (below_box _ _) (kept_cell hb5 (kept_cell hb3 (by simp [World.cell?_alloc_new]))), kept_cell (below_box _ _) (kept_cell hb5 (kept_cell hb3 (by simp [World.cell?_alloc_new])))⟩,
      ⟨by simp [World.cell?_alloc_new], by simp [World.cell?_alloc_new], by simp [World.cell?_alloc_new], by simp [World.cell?_alloc_new]⟩,
      ⟨World.frozen?_alloc_at _ _ _ _ rfl, World.frozen?_alloc_at _ _ _ _ rfl, World.frozen?_alloc_at _ _ _ _ rfl, World.frozen?_alloc_at _ _ _ _ rfl⟩, row_kept (row_kept HOW hb5) (below_box _ _)⟩)
  have HWB := Lib.hid (show Below w.heap.size w (w5.alloc (.cells #[.int .i64 po0, .int .i64 fr0, .bool bk0, .bool dn0] 26)) from
    ((below_box w (.cells #[.string s.name, .slice p s.dat.length cap, .int .i64 s.bits, .int .i64 s.rate, .int .i64 s.vol, .int .i64 s.pan, .int .i64 s.fine, .int .i64 s.loop, .int .i64 s.start, .int .i64 s.fin, .int .i64 s.sus, .int .i64 s.sstart, .int .i64 s.sfin] 24)).trans ((hb1.mono (by simp)).trans ((hb2.mono (by omega)).trans (((below_box w2 (.cells #[.int .i64 (65536 * s.dat.length), .int .i64 (65536 * s0), .int .i64 (65536 * e0), .func (.func 74) #[] #[], .func (.func 75) #[] #[]] 70)).mono (by omega)).trans ((hb3.mono (by simp; omega)).trans ((hb5.mono (by omega)).trans ((below_box _ _).mono (by omega)))))))))
  obtain ⟨W, hW⟩ : ∃ W, W = w5.alloc (.cells #[.int .i64 po0, .int .i64 fr0, .bool bk0, .bool dn0] 26) := ⟨_, rfl⟩
  obtain ⟨c, hce⟩ : ∃ c, c = w5.heap.size := ⟨_, rfl⟩
  obtain ⟨g, hge⟩ : ∃ g, g = w2.heap.size + 1 := ⟨_, rfl⟩
  obtain ⟨r, hre⟩ : ∃ r, r = w2.heap.size := ⟨_, rfl⟩
  obtain ⟨b, hbe⟩ : ∃ b, b = w.heap.size := ⟨_, rfl⟩
  have hlg : w.heap.size ≤ g := by omega
  have hlc : w.heap.size ≤ c := by omega
  have nbg : b ≠ g := by omega
  have nrg : r ≠ g := by omega
  have ncg : c ≠ g := by omega
  have nbc : b ≠ c := by omega
  have nrc : r ≠ c := by omega
  have ngc : g ≠ c := by omega
  rw [← hW, ← hge, ← hre, ← hce, ← hbe] at HST
  rw [← hW] at HWB
  rw [← hW, ← hge, ← hre, ← hce, ← hbe]
  have HC0' := Lib.hid HC0
  clear HC0 HOW HOWN HB1 HB3 hb1 hb2 hb3 hb5 hW hge hce hre hbe z1 z2 z3 z5 zg x0 x1 x2 x3 x4 x5 x6 x7 x8 x9 x10 x11 x12 y0 y1 y2 y3 y4 y5 y6 y7 y8 y9 y10 y11 y12 q1 q2 q3 q4
  go_loopw [27] (fun i wr => ∃ k : Nat, k ≤ n ∧ i = .int .i64 k ∧ Hid (∃ po fr bk dn, ucur s h k = ⟨po, fr, bk, dn⟩ ∧ UB wr b r c g n s p cap (65536 * s.dat.length) (65536 * s0) (65536 * e0) (.func (.func 74) #[] #[]) (.func (.func 75) #[] #[]) po fr bk dn b (urow s h n k)) ∧ Hid (Below w.heap.size w wr)) (fun i _ => n - (intOf i).toNat)
  case atStart => exact ⟨0, by omega, rfl, ⟨_, _, _, _, HC0'.out, HST.out⟩, HWB.out⟩
  case round =>
    clear HST HWB HC0'
    obtain ⟨k, hk, rfl, HU, hbw⟩ := hrel
    obtain ⟨po, fr, bk, dn, hcur, hub⟩ := HU.out
    have hok := okc_ucur HV.out h k
    rw [hcur] at hok
    have HOK := Lib.hid (okc_fields hok)
    have HUV := Lib.hid (show orz dn (hrd s po) = uval s h k by unfold uval; rw [hcur])
    have HNX := Lib.hid (show ucur s h (k + 1) = mvS s h ⟨po, fr, bk, dn⟩ 65536 by rw [← hcur]; rfl)
    have HUB := Lib.hid hub
    have HD := Lib.hid (hd.below hbw.out)
    clear hcur hok hub HU
    by_cases hlt : k < n
    · have HPUT := Lib.hid (fun v (hv : v = uval s h k) w1 hb1 => (congrArg _ (urow_set s h hlt hv)).mp ((HUB.out.kept (w' := w1) hb1).put nbg nrg ncg k (.int .i64 v)))
      obtain ⟨⟨x0, x1, x2, x3, x4, x5, x6, x7, x8, x9, x10, x11, x12⟩, ⟨r0, r1, r2, r3, r4⟩, ⟨c0, c1, c2, c3⟩, ⟨f0, f1, f2, f3⟩, ho⟩ := HUB.out
      clear ho
      go_wp2_with (first | (go_at_call 55; ((with_reducible refine (HVl.out _ HD.out po fr bk dn (HOK.out.imp id fun h => ⟨h.1, h.2.1⟩)).mono ?_); rintro x w1 ⟨rfl, hb1⟩; have HU1 := Lib.hid (HPUT.out _ HUV.out w1 hb1); have a0 := ((HUB.out.kept hb1).2.2.2.2.cellAt k (by omega)).trans (urow_at s h hlt); have a1 := (HUB.out.kept hb1).2.2.2.2.frozenAt k; obtain ⟨⟨x0, x1, x2, x3, x4, x5, x6, x7, x8, x9, x10, x11, x12⟩, ⟨r0, r1, r2, r3, r4⟩, ⟨c0, c1, c2, c3⟩, ⟨f0, f1, f2, f3⟩, ho⟩ := HU1.out; clear ho)) | (go_at_call 51; ((with_reducible refine (HMv.out _ po fr bk dn (HOK.out.imp id fun h => ⟨h.1, by have := h.2.1; omega, h.2.2.1, h.2.2.2, by have := h.2.1; have := h.2.2.2; omega⟩)).mono ?_); rintro x w2' ⟨⟨qp, qf, qb, qd, rfl, HC⟩, hb2⟩; have HU2 := Lib.hid (HU1.out.kept hb2); obtain ⟨⟨x0, x1, x2, x3, x4, x5, x6, x7, x8, x9, x10, x11, x12⟩, ⟨r0, r1, r2, r3, r4⟩, ⟨c0, c1, c2, c3⟩, ⟨f0, f1, f2, f3⟩, ho⟩ := HU2.out; clear ho)))
      go_roundw
      case rel => exact ⟨k + 1, by omega, by go_num, ⟨qp, qf, qb, qd, by rw [HNX.out, HMS.out]; exact HC, HU2.out.go nbc nrc ngc qp qf qb qd⟩, UBbelow hbw.out hlg hlc hb1 hb2⟩
      case measure => simp [intOf]; omega
    · have ho := HUB.out.2.2.2.2
      go_wp2
      go_ret2
      exact ⟨⟨g, by rw [unr_length]; rfl, .inr ⟨g, 0, rfl, row_lt ho, fun i hi => by
        rw [unr_length] at hi
        rw [Nat.zero_add, ho.cellAt i (by omega), urow_full s h (by omega) hi]⟩⟩, hbw.out⟩
set_option maxHeartbeats 1600000 in
theorem p_unroll_1 (s : Sm.Smp) (p : Option Addr) (cap : Nat) (n : Nat) (h : Bool) (w : World) (hm : s.name.size ≤ maxLen) (hd : DatAt w p s.dat) (hv : Sm.vld s = true) (n0 : (0 : Int) ≤ (n : Int)) (n1 : (n : Int) ≤ 200000) {s0 e0 : Int} (HK : Hid (Sm.rk s h = 1 ∧ Sm.rs s h = s0 ∧ Sm.re s h = e0)) :
    Calls Try.prog 23 #[SV s p cap, .int .i64 n, .bool h] w fun x w' => RetUnr (unr s h n) x w' ∧ Below w.heap.size w w' := by
  have hl : (s.dat.length : Int) ≤ 4096 := vld_len hv
  have hsm : Small s := vld_small hv
  have hq := ring_ok hv h
  rw [HK.out.1, HK.out.2.1, HK.out.2.2] at hq
  obtain ⟨_, hk, q1, q2, q3, q4⟩ := hq
  have hrr : Sm.Ring 1 (65536 * s0) (65536 * e0) (65536 * s.dat.length) := ⟨by omega, by omega, by omega⟩
  have HRt := Lib.hid (fun w => p_route_1 s p cap h w HK hl q1 (by omega) (by omega) (by omega))
  have HMv := Lib.hid (fun (w : World) po fr bk dn hc => p_mv1 (65536 * s.dat.length) (65536 * s0) (65536 * e0) po fr 65536 bk dn w hrr (by omega) hc (by omega) (by omega))
  have HBg := Lib.hid (fun w hd => p_begin s p cap 0 false w hm hd (by omega))
  have HVl := Lib.hid (fun w hd po fr bk dn hc => p_value s p cap po fr bk dn w hd hsm hc)
  have HMS := Lib.hid (show ∀ c, mvS s h c 65536 = Sm.gone 1 (65536 * s0) (65536 * e0) (65536 * s.dat.length) c 65536 from fun c => by
    unfold mvS; rw [HK.out.1, HK.out.2.1, HK.out.2.2, Int.mul_comm s0, Int.mul_comm e0, Int.mul_comm (s.dat.length : Int)])
  have HSM := Lib.hid hsm
  have HV := Lib.hid hv
  obtain ⟨i0, hi, hz0, hz1, hz2⟩ := info_parts Try.infoInt
  clear hk hrr hsm
  unfold SV at HRt HBg HVl
  unfold SV
  go_enter Try.func23, Try.ntmps23
  go_wp2_with (first | (go_at_call 13; refine (p_valid_v s p cap _ hm (hd.below (below_box _ _)) hv).mono ?_; rintro x w1 ⟨rfl, hb1⟩; have HB1 := Lib.hid ((boxed_new w s p cap 24).below hb1 (by simp)); obtain ⟨y0, y1, y2, y3, y4, y5, y6, y7, y8, y9, y10, y11, y12⟩ := HB1.out) | (go_at_call 39; ((with_reducible refine (p_within_yes _ _ _ _ n0 n1).mono ?_); rintro x w' ⟨rfl, rfl⟩)) | (go_at_call 50; ((with_reducible refine (HRt.out _).mono ?_); rintro x w2 ⟨rfl, hb2⟩)) | (at_make; refine wpList_make_full _ rfl _ _ 22 rfl w.heap.size 3 i0 (.int .i64 0) 1 Try.underlying22 hi hz0 hz1 .i64 .i64 _ _ n rfl rfl rfl rfl (by rw [hz2]; omega) (by unfold maxLen; omega) (by have := hb1.size; have := hb2.size; simp at *; omega) ?_; intro w3 hown3 hgrow3; have HOWN := Lib.hid hown3; have hb3 := grown_below hgrow3; clear hown3 hgrow3; have HB3 := Lib.hid (((HB1.out.below hb2 (cell_lt HB1.out.1)).below (below_box _ _) (by have := cell_lt HB1.out.1; have := hb2.size; simp at *; omega)).below hb3 (by have := cell_lt HB1.out.1; have := hb2.size; simp at *; omega)); obtain ⟨x0, x1, x2, x3, x4, x5, x6, x7, x8, x9, x10, x11, x12⟩ := HB3.out) | (go_at_call 15; ((with_reducible refine (HBg.out _ (((((hd.below (below_box _ _)).below hb1).below hb2).below (below_box _ _)).below hb3)).mono ?_); rintro x w5 ⟨⟨po0, fr0, bk0, dn0, rfl, HC0⟩, hb5⟩)))
  have z1 : w.heap.size + 1 ≤ w1.heap.size := by have := hb1.size; simp at this; omega
  have z2 := hb2.size
  have z3 : w2.heap.size + 1 ≤ w3.heap.size := by have := hb3.size; simp at this; omega
  have z5 := hb5.size
  have HOW : w3.ownsRow w.heap.size 3 1 (.slice (some ⟨w2.heap.size + 1, 0, none⟩) n n) n (urow s h n 0) := by
    have e : (madeCells (Value.int .i64 0).cells (n * 1)).toList = urow s h n 0 := by rw [urow_zero, Nat.mul_one]; exact toList_madeCells_one _ n
    have := HOWN.out
    rw [e] at this
    simpa using this
  have zg := row_lt HOW
  have HST := Lib.hid (show UB (w5.alloc (.cells #[.int .i64 po0, .int .i64 fr0, .bool bk0, .bool dn0] 26)) w.heap.size w2.heap.size w5.heap.size (w2.heap.size + 1) n s p cap (65536 * s.dat.length) (65536 * s0) (65536 * e0) (.func (.func 76) #[] #[]) (.func (.func 77) #[] #[]) po0 fr0 bk0 dn0 w.heap.size (urow s h n 0) from
    ⟨(HB3.out.below hb5 (by omega)).below (below_box _ _) (by omega),
      ⟨kept_cell (below_box _ _) (kept_cell hb5 (kept_cell hb3 (by simp [World.cell?_alloc_new]))), kept_cell (below_box _ _) (kept_cell hb5 (kept_cell hb3 (by simp [World.cell?_alloc_new]))), kept_cell (below_box _ _) (kept_cell hb5 (kept_cell hb3 (by simp [World.cell?_alloc_new]))), kept_cell (below_box _ _) (kept_cell hb5 (kept_cell hb3 (by simp [World.cell?_alloc_new]))), kept_cell (below_box _ _) (kept_cell hb5 (kept_cell hb3 (by simp [World.cell?_alloc_new])))⟩,
      ⟨by simp [World.cell?_alloc_new], by simp [World.cell?_alloc_new], by simp [World.cell?_alloc_new], by simp [World.cell?_alloc_new]⟩,
      ⟨World.frozen?_alloc_at _ _ _ _ rfl, World.frozen?_alloc_at _ _ _ _ rfl, World.frozen?_alloc_at _ _ _ _ rfl, World.frozen?_alloc_at _ _ _ _ rfl⟩, row_kept (row_kept HOW hb5) (below_box _ _)⟩)
  have HWB := Lib.hid (show Below w.heap.size w (w5.alloc (.cells #[.int .i64 po0, .int .i64 fr0, .bool bk0, .bool dn0] 26)) from
    ((below_box w (.cells #[.string s.name, .slice p s.dat.length cap, .int .i64 s.bits, .int .i64 s.rate, .int .i64 s.vol, .int .i64 s.pan, .int .i64 s.fine, .int .i64 s.loop, .int .i64 s.start, .int .i64 s.fin, .int .i64 s.sus, .int .i64 s.sstart, .int .i64 s.sfin] 24)).trans ((hb1.mono (by simp)).trans ((hb2.mono (by omega)).trans (((below_box w2 (.cells #[.int .i64 (65536 * s.dat.length), .int .i64 (65536 * s0), .int .i64 (65536 * e0), .func (.func 76) #[] #[], .func (.func 77) #[] #[]] 70)).mono (by omega)).trans ((hb3.mono (by simp; omega)).trans ((hb5.mono (by omega)).trans ((below_box _ _).mono (by omega)))))))))
  obtain ⟨W, hW⟩ : ∃ W, W = w5.alloc (.cells #[.int .i64 po0, .int .i64 fr0, .bool bk0, .bool dn0] 26) := ⟨_, rfl⟩
  obtain ⟨c, hce⟩ : ∃ c, c = w5.heap.size := ⟨_, rfl⟩
  obtain ⟨g, hge⟩ : ∃ g, g = w2.heap.size + 1 := ⟨_, rfl⟩
  obtain ⟨r, hre⟩ : ∃ r, r = w2.heap.size := ⟨_, rfl⟩
  obtain ⟨b, hbe⟩ : ∃ b, b = w.heap.size := ⟨_, rfl⟩
  have hlg : w.heap.size ≤ g := by omega
  have hlc : w.heap.size ≤ c := by omega
  have nbg : b ≠ g := by omega
  have nrg : r ≠ g := by omega
  have ncg : c ≠ g := by omega
  have nbc : b ≠ c := by omega
  have nrc : r ≠ c := by omega
  have ngc : g ≠ c := by omega
  rw [← hW, ← hge, ← hre, ← hce, ← hbe] at HST
  rw [← hW] at HWB
  rw [← hW, ← hge, ← hre, ← hce, ← hbe]
  have HC0' := Lib.hid HC0
  clear HC0 HOW HOWN HB1 HB3 hb1 hb2 hb3 hb5 hW hge hce hre hbe z1 z2 z3 z5 zg x0 x1 x2 x3 x4 x5 x6 x7 x8 x9 x10 x11 x12 y0 y1 y2 y3 y4 y5 y6 y7 y8 y9 y10 y11 y12 q1 q2 q3 q4
  go_loopw [27] (fun i wr => ∃ k : Nat, k ≤ n ∧ i = .int .i64 k ∧ Hid (∃ po fr bk dn, ucur s h k = ⟨po, fr, bk, dn⟩ ∧ UB wr b r c g n s p cap (65536 * s.dat.length) (65536 * s0) (65536 * e0) (.func (.func 76) #[] #[]) (.func (.func 77) #[] #[]) po fr bk dn b (urow s h n k)) ∧ Hid (Below w.heap.size w wr)) (fun i _ => n - (intOf i).toNat)
  case atStart => exact ⟨0, by omega, rfl, ⟨_, _, _, _, HC0'.out, HST.out⟩, HWB.out⟩
  case round =>
    clear HST HWB HC0'
    obtain ⟨k, hk, rfl, HU, hbw⟩ := hrel
    obtain ⟨po, fr, bk, dn, hcur, hub⟩ := HU.out
    have hok := okc_ucur HV.out h k
    rw [hcur] at hok
    have HOK := Lib.hid (okc_fields hok)
    have HUV := Lib.hid (show orz dn (hrd s po) = uval s h k by unfold uval; rw [hcur])
    have HNX := Lib.hid (show ucur s h (k + 1) = mvS s h ⟨po, fr, bk, dn⟩ 65536 by rw [← hcur]; rfl)
    have HUB := Lib.hid hub
    have HD := Lib.hid (hd.below hbw.out)
    clear hcur hok hub HU
    by_cases hlt : k < n
    · have HPUT := Lib.hid (fun v (hv : v = uval s h k) w1 hb1 => (congrArg _ (urow_set s h hlt hv)).mp ((HUB.out.kept (w' := w1) hb1).put nbg nrg ncg k (.int .i64 v)))
      obtain ⟨⟨x0, x1, x2, x3, x4, x5, x6, x7, x8, x9, x10, x11, x12⟩, ⟨r0, r1, r2, r3, r4⟩, ⟨c0, c1, c2, c3⟩, ⟨f0, f1, f2, f3⟩, ho⟩ := HUB.out
      clear ho
      go_wp2_with (first | (go_at_call 55; ((with_reducible refine (HVl.out _ HD.out po fr bk dn (HOK.out.imp id fun h => ⟨h.1, h.2.1⟩)).mono ?_); rintro x w1 ⟨rfl, hb1⟩; have HU1 := Lib.hid (HPUT.out _ HUV.out w1 hb1); have a0 := ((HUB.out.kept hb1).2.2.2.2.cellAt k (by omega)).trans (urow_at s h hlt); have a1 := (HUB.out.kept hb1).2.2.2.2.frozenAt k; obtain ⟨⟨x0, x1, x2, x3, x4, x5, x6, x7, x8, x9, x10, x11, x12⟩, ⟨r0, r1, r2, r3, r4⟩, ⟨c0, c1, c2, c3⟩, ⟨f0, f1, f2, f3⟩, ho⟩ := HU1.out; clear ho)) | (go_at_call 51; ((with_reducible refine (HMv.out _ po fr bk dn (HOK.out.imp id fun h => ⟨h.1, by have := h.2.1; omega, h.2.2.1, h.2.2.2, by have := h.2.1; have := h.2.2.2; omega⟩)).mono ?_); rintro x w2' ⟨⟨qp, qf, qb, qd, rfl, HC⟩, hb2⟩; have HU2 := Lib.hid (HU1.out.kept hb2); obtain ⟨⟨x0, x1, x2, x3, x4, x5, x6, x7, x8, x9, x10, x11, x12⟩, ⟨r0, r1, r2, r3, r4⟩, ⟨c0, c1, c2, c3⟩, ⟨f0, f1, f2, f3⟩, ho⟩ := HU2.out; clear ho)))
      go_roundw
      case rel => exact ⟨k + 1, by omega, by go_num, ⟨qp, qf, qb, qd, by rw [HNX.out, HMS.out]; exact HC, HU2.out.go nbc nrc ngc qp qf qb qd⟩, UBbelow hbw.out hlg hlc hb1 hb2⟩
      case measure => simp [intOf]; omega
    · have ho := HUB.out.2.2.2.2
      go_wp2
      go_ret2
      exact ⟨⟨g, by rw [unr_length]; rfl, .inr ⟨g, 0, rfl, row_lt ho, fun i hi => by
        rw [unr_length] at hi
        rw [Nat.zero_add, ho.cellAt i (by omega), urow_full s h (by omega) hi]⟩⟩, hbw.out⟩
set_option maxHeartbeats 1600000 in
theorem p_unroll_2 (s : Sm.Smp) (p : Option Addr) (cap : Nat) (n : Nat) (h : Bool) (w : World) (hm : s.name.size ≤ maxLen) (hd : DatAt w p s.dat) (hv : Sm.vld s = true) (n0 : (0 : Int) ≤ (n : Int)) (n1 : (n : Int) ≤ 200000) {s0 e0 : Int} (HK : Hid (Sm.rk s h = 2 ∧ Sm.rs s h = s0 ∧ Sm.re s h = e0)) :
    Calls Try.prog 23 #[SV s p cap, .int .i64 n, .bool h] w fun x w' => RetUnr (unr s h n) x w' ∧ Below w.heap.size w w' := by
  have hl : (s.dat.length : Int) ≤ 4096 := vld_len hv
  have hsm : Small s := vld_small hv
  have hq := ring_ok hv h
  rw [HK.out.1, HK.out.2.1, HK.out.2.2] at hq
  obtain ⟨_, hk, q1, q2, q3, q4⟩ := hq
  have hrr : Sm.Ring 2 (65536 * s0) (65536 * e0) (65536 * s.dat.length) := ⟨by omega, by omega, by omega⟩
  have HRt := Lib.hid (fun w => p_route_2 s p cap h w HK hl q1 (by omega) (by omega) (by omega))
  have HMv := Lib.hid (fun (w : World) po fr bk dn hc => p_mv2 (65536 * s.dat.length) (65536 * s0) (65536 * e0) po fr 65536 bk dn w hrr (by omega) hc (by omega) (by omega))
  have HBg := Lib.hid (fun w hd => p_begin s p cap 0 false w hm hd (by omega))
  have HVl := Lib.hid (fun w hd po fr bk dn hc => p_value s p cap po fr bk dn w hd hsm hc)
  have HMS := Lib.hid (show ∀ c, mvS s h c 65536 = Sm.gone 2 (65536 * s0) (65536 * e0) (65536 * s.dat.length) c 65536 from fun c => by
    unfold mvS; rw [HK.out.1, HK.out.2.1, HK.out.2.2, Int.mul_comm s0, Int.mul_comm e0, Int.mul_comm (s.dat.length : Int)])
  have HSM := Lib.hid hsm
  have HV := Lib.hid hv
  obtain ⟨i0, hi, hz0, hz1, hz2⟩ := info_parts Try.infoInt
  clear hk hrr hsm
  unfold SV at HRt HBg HVl
  unfold SV
  go_enter Try.func23, Try.ntmps23
  go_wp2_with (first | (go_at_call 13; refine (p_valid_v s p cap _ hm (hd.below (below_box _ _)) hv).mono ?_; rintro x w1 ⟨rfl, hb1⟩; have HB1 := Lib.hid ((boxed_new w s p cap 24).below hb1 (by simp)); obtain ⟨y0, y1, y2, y3, y4, y5, y6, y7, y8, y9, y10, y11, y12⟩ := HB1.out) | (go_at_call 39; ((with_reducible refine (p_within_yes _ _ _ _ n0 n1).mono ?_); rintro x w' ⟨rfl, rfl⟩)) | (go_at_call 50; ((with_reducible refine (HRt.out _).mono ?_); rintro x w2 ⟨rfl, hb2⟩)) | (at_make; refine wpList_make_full _ rfl _ _ 22 rfl w.heap.size 3 i0 (.int .i64 0) 1 Try.underlying22 hi hz0 hz1 .i64 .i64 _ _ n rfl rfl rfl rfl (by rw [hz2]; omega) (by unfold maxLen; omega) (by have := hb1.size; have := hb2.size; simp at *; omega) ?_; intro w3 hown3 hgrow3; have HOWN := Lib.hid hown3; have hb3 := grown_below hgrow3; clear hown3 hgrow3; have HB3 := Lib.hid (((HB1.out.below hb2 (cell_lt HB1.out.1)).below (below_box _ _) (by have := cell_lt HB1.out.1; have := hb2.size; simp at *; omega)).below hb3 (by have := cell_lt HB1.out.1; have := hb2.size; simp at *; omega)); obtain ⟨x0, x1, x2, x3, x4, x5, x6, x7, x8, x9, x10, x11, x12⟩ := HB3.out) | (go_at_call 15; ((with_reducible refine (HBg.out _ (((((hd.below (below_box _ _)).below hb1).below hb2).below (below_box _ _)).below hb3)).mono ?_); rintro x w5 ⟨⟨po0, fr0, bk0, dn0, rfl, HC0⟩, hb5⟩)))
  have z1 : w.heap.size + 1 ≤ w1.heap.size := by have := hb1.size; simp at this; omega
  have z2 := hb2.size
  have z3 : w2.heap.size + 1 ≤ w3.heap.size := by have := hb3.size; simp at this; omega
  have z5 := hb5.size
  have HOW : w3.ownsRow w.heap.size 3 1 (.slice (some ⟨w2.heap.size + 1, 0, none⟩) n n) n (urow s h n 0) := by
    have e : (madeCells (Value.int .i64 0).cells (n * 1)).toList = urow s h n 0 := by rw [urow_zero, Nat.mul_one]; exact toList_madeCells_one _ n
    have := HOWN.out
    rw [e] at this
    simpa using this
  have zg := row_lt HOW
  have HST := Lib.hid (show UB (w5.alloc (.cells #[.int .i64 po0, .int .i64 fr0, .bool bk0, .bool dn0] 26)) w.heap.size w2.heap.size w5.heap.size (w2.heap.size + 1) n s p cap (65536 * s.dat.length) (65536 * s0) (65536 * e0) (.func (.func 78) #[] #[]) (.func (.func 79) #[] #[]) po0 fr0 bk0 dn0 w.heap.size (urow s h n 0) from
    ⟨(HB3.out.below hb5 (by omega)).below (below_box _ _) (by omega),
      ⟨kept_cell (below_box _ _) (kept_cell hb5 (kept_cell hb3 (by simp [World.cell?_alloc_new]))), kept_cell (below_box _ _) (kept_cell hb5 (kept_cell hb3 (by simp [World.cell?_alloc_new]))), kept_cell (below_box _ _) (kept_cell hb5 (kept_cell hb3 (by simp [World.cell?_alloc_new]))), kept_cell (below_box _ _) (kept_cell hb5 (kept_cell hb3 (by simp [World.cell?_alloc_new]))), kept_cell (below_box _ _) (kept_cell hb5 (kept_cell hb3 (by simp [World.cell?_alloc_new])))⟩,
      ⟨by simp [World.cell?_alloc_new], by simp [World.cell?_alloc_new], by simp [World.cell?_alloc_new], by simp [World.cell?_alloc_new]⟩,
      ⟨World.frozen?_alloc_at _ _ _ _ rfl, World.frozen?_alloc_at _ _ _ _ rfl, World.frozen?_alloc_at _ _ _ _ rfl, World.frozen?_alloc_at _ _ _ _ rfl⟩, row_kept (row_kept HOW hb5) (below_box _ _)⟩)
  have HWB := Lib.hid (show Below w.heap.size w (w5.alloc (.cells #[.int .i64 po0, .int .i64 fr0, .bool bk0, .bool dn0] 26)) from
    ((below_box w (.cells #[.string s.name, .slice p s.dat.length cap, .int .i64 s.bits, .int .i64 s.rate, .int .i64 s.vol, .int .i64 s.pan, .int .i64 s.fine, .int .i64 s.loop, .int .i64 s.start, .int .i64 s.fin, .int .i64 s.sus, .int .i64 s.sstart, .int .i64 s.sfin] 24)).trans ((hb1.mono (by simp)).trans ((hb2.mono (by omega)).trans (((below_box w2 (.cells #[.int .i64 (65536 * s.dat.length), .int .i64 (65536 * s0), .int .i64 (65536 * e0), .func (.func 78) #[] #[], .func (.func 79) #[] #[]] 70)).mono (by omega)).trans ((hb3.mono (by simp; omega)).trans ((hb5.mono (by omega)).trans ((below_box _ _).mono (by omega)))))))))
  obtain ⟨W, hW⟩ : ∃ W, W = w5.alloc (.cells #[.int .i64 po0, .int .i64 fr0, .bool bk0, .bool dn0] 26) := ⟨_, rfl⟩
  obtain ⟨c, hce⟩ : ∃ c, c = w5.heap.size := ⟨_, rfl⟩
  obtain ⟨g, hge⟩ : ∃ g, g = w2.heap.size + 1 := ⟨_, rfl⟩
  obtain ⟨r, hre⟩ : ∃ r, r = w2.heap.size := ⟨_, rfl⟩
  obtain ⟨b, hbe⟩ : ∃ b, b = w.heap.size := ⟨_, rfl⟩
  have hlg : w.heap.size ≤ g := by omega
  have hlc : w.heap.size ≤ c := by omega
  have nbg : b ≠ g := by omega
  have nrg : r ≠ g := by omega
  have ncg : c ≠ g := by omega
  have nbc : b ≠ c := by omega
  have nrc : r ≠ c := by omega
  have ngc : g ≠ c := by omega
  rw [← hW, ← hge, ← hre, ← hce, ← hbe] at HST
  rw [← hW] at HWB
  rw [← hW, ← hge, ← hre, ← hce, ← hbe]
  have HC0' := Lib.hid HC0
  clear HC0 HOW HOWN HB1 HB3 hb1 hb2 hb3 hb5 hW hge hce hre hbe z1 z2 z3 z5 zg x0 x1 x2 x3 x4 x5 x6 x7 x8 x9 x10 x11 x12 y0 y1 y2 y3 y4 y5 y6 y7 y8 y9 y10 y11 y12 q1 q2 q3 q4
  go_loopw [27] (fun i wr => ∃ k : Nat, k ≤ n ∧ i = .int .i64 k ∧ Hid (∃ po fr bk dn, ucur s h k = ⟨po, fr, bk, dn⟩ ∧ UB wr b r c g n s p cap (65536 * s.dat.length) (65536 * s0) (65536 * e0) (.func (.func 78) #[] #[]) (.func (.func 79) #[] #[]) po fr bk dn b (urow s h n k)) ∧ Hid (Below w.heap.size w wr)) (fun i _ => n - (intOf i).toNat)
  case atStart => exact ⟨0, by omega, rfl, ⟨_, _, _, _, HC0'.out, HST.out⟩, HWB.out⟩
  case round =>
    clear HST HWB HC0'
    obtain ⟨k, hk, rfl, HU, hbw⟩ := hrel
    obtain ⟨po, fr, bk, dn, hcur, hub⟩ := HU.out
    have hok := okc_ucur HV.out h k
    rw [hcur] at hok
    have HOK := Lib.hid (okc_fields hok)
    have HUV := Lib.hid (show orz dn (hrd s po) = uval s h k by unfold uval; rw [hcur])
    have HNX := Lib.hid (show ucur s h (k + 1) = mvS s h ⟨po, fr, bk, dn⟩ 65536 by rw [← hcur]; rfl)
    have HUB := Lib.hid hub
    have HD := Lib.hid (hd.below hbw.out)
    clear hcur hok hub HU
    by_cases hlt : k < n
    · have HPUT := Lib.hid (fun v (hv : v = uval s h k) w1 hb1 => (congrArg _ (urow_set s h hlt hv)).mp ((HUB.out.kept (w' := w1) hb1).put nbg nrg ncg k (.int .i64 v)))
      obtain ⟨⟨x0, x1, x2, x3, x4, x5, x6, x7, x8, x9, x10, x11, x12⟩, ⟨r0, r1, r2, r3, r4⟩, ⟨c0, c1, c2, c3⟩, ⟨f0, f1, f2, f3⟩, ho⟩ := HUB.out
      clear ho
      go_wp2_with (first | (go_at_call 55; ((with_reducible refine (HVl.out _ HD.out po fr bk dn (HOK.out.imp id fun h => ⟨h.1, h.2.1⟩)).mono ?_); rintro x w1 ⟨rfl, hb1⟩; have HU1 := Lib.hid (HPUT.out _ HUV.out w1 hb1); have a0 := ((HUB.out.kept hb1).2.2.2.2.cellAt k (by omega)).trans (urow_at s h hlt); have a1 := (HUB.out.kept hb1).2.2.2.2.frozenAt k; obtain ⟨⟨x0, x1, x2, x3, x4, x5, x6, x7, x8, x9, x10, x11, x12⟩, ⟨r0, r1, r2, r3, r4⟩, ⟨c0, c1, c2, c3⟩, ⟨f0, f1, f2, f3⟩, ho⟩ := HU1.out; clear ho)) | (go_at_call 51; ((with_reducible refine (HMv.out _ po fr bk dn (HOK.out.imp id fun h => ⟨h.1, by have := h.2.1; omega, h.2.2.1, h.2.2.2, by have := h.2.1; have := h.2.2.2; omega⟩)).mono ?_); rintro x w2' ⟨⟨qp, qf, qb, qd, rfl, HC⟩, hb2⟩; have HU2 := Lib.hid (HU1.out.kept hb2); obtain ⟨⟨x0, x1, x2, x3, x4, x5, x6, x7, x8, x9, x10, x11, x12⟩, ⟨r0, r1, r2, r3, r4⟩, ⟨c0, c1, c2, c3⟩, ⟨f0, f1, f2, f3⟩, ho⟩ := HU2.out; clear ho)))
      go_roundw
      case rel => exact ⟨k + 1, by omega, by go_num, ⟨qp, qf, qb, qd, by rw [HNX.out, HMS.out]; exact HC, HU2.out.go nbc nrc ngc qp qf qb qd⟩, UBbelow hbw.out hlg hlc hb1 hb2⟩
      case measure => simp [intOf]; omega
    · have ho := HUB.out.2.2.2.2
      go_wp2
      go_ret2
      exact ⟨⟨g, by rw [unr_length]; rfl, .inr ⟨g, 0, rfl, row_lt ho, fun i hi => by
        rw [unr_length] at hi
        rw [Nat.zero_add, ho.cellAt i (by omega), urow_full s h (by omega) hi]⟩⟩, hbw.out⟩
/-- The contract of sample.Unroll of a valid sample. -/
theorem p_unroll (s : Sm.Smp) (p : Option Addr) (cap : Nat) (n : Nat) (h : Bool) (w : World) (hm : s.name.size ≤ maxLen) (hd : DatAt w p s.dat) (hv : Sm.vld s = true) (n1 : (n : Int) ≤ 200000) :
    Calls Try.prog 23 #[SV s p cap, .int .i64 n, .bool h] w fun x w' => RetUnr (unr s h n) x w' ∧ Below w.heap.size w w' := by
  rcases (ring_ok hv h).1 with hk | hk | hk
  · exact p_unroll_0 s p cap n h w hm hd hv (by omega) n1 ⟨hk, rfl, rfl⟩
  · exact p_unroll_1 s p cap n h w hm hd hv (by omega) n1 ⟨hk, rfl, rfl⟩
  · exact p_unroll_2 s p cap n h w hm hd hv (by omega) n1 ⟨hk, rfl, rfl⟩
end Go.Proofs.Ytmaldhjcdkidmaa

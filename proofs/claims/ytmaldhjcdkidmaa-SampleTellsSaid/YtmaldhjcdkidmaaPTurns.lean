/-
  The walk of the law SampleTurns: for any sample and place it returns true; nothing that was there is changed.
-/
import Derived.Test.YtmaldhjcdkidmaaPAsk
import Derived.Test.YtmaldhjcdkidmaaPAwake
import Derived.Test.YtmaldhjcdkidmaaPAppl
import Derived.Test.YtmaldhjcdkidmaaBits
import Derived.RegionTactic
import Derived.BigRegion
import Derived.IntWalk
namespace Go.Proofs.Ytmaldhjcdkidmaa
open Go.RowKit

theorem ne_cell {x y : Nat} (h : x ≠ y) (w : World) (i j : Nat) (v : Value) : (w.setCell ⟨y, j, none⟩ v).cell? ⟨x, i, none⟩ = w.cell? ⟨x, i, none⟩ :=
  World.cell?_setCell_other _ _ _ _ (fun e => h (congrArg Addr.block e).symm)
theorem AB.store {w : World} {b r : Nat} {x : Ak} {p : Option Addr} {cap : Nat} (h : AB w b x p cap) (hr : b ≠ r) (j : Nat) (v : Value) : AB (w.setCell ⟨r, j, none⟩ v) b x p cap := by
  unfold AB Boxed at *
  simp only [ne_cell hr]
  exact h
theorem CA.store {w : World} {b r : Nat} {po fr : Int} {bk dn : Bool} (h : CA w b po fr bk dn) (hr : b ≠ r) (j : Nat) (v : Value) : CA (w.setCell ⟨r, j, none⟩ v) b po fr bk dn := by
  unfold CA at *
  simp only [ne_cell hr]
  exact h
/-- A cursor of the call's own: its cells, and that they may be written. -/
def CF (w : World) (r : Nat) (po fr : Int) (bk dn : Bool) : Prop := CA w r po fr bk dn ∧ w.frozen? ⟨r, 0, none⟩ = false ∧ w.frozen? ⟨r, 1, none⟩ = false ∧ w.frozen? ⟨r, 2, none⟩ = false ∧ w.frozen? ⟨r, 3, none⟩ = false
theorem CF.kept {w w' : World} {b : Nat} {po fr : Int} {bk dn : Bool} (h : CF w b po fr bk dn) (hb : Below w.heap.size w w') : CF w' b po fr bk dn := by
  obtain ⟨hc, f0, f1, f2, f3⟩ := h
  refine ⟨hc.kept hb, ?_, ?_, ?_, ?_⟩
  · rw [hb.frozen (p := ⟨b, 0, none⟩) (cell_lt hc.1)]; exact f0
  · rw [hb.frozen (p := ⟨b, 1, none⟩) (show b < w.heap.size from cell_lt hc.1)]; exact f1
  · rw [hb.frozen (p := ⟨b, 2, none⟩) (show b < w.heap.size from cell_lt hc.1)]; exact f2
  · rw [hb.frozen (p := ⟨b, 3, none⟩) (show b < w.heap.size from cell_lt hc.1)]; exact f3
theorem cf_new (w : World) (po fr : Int) (bk dn : Bool) : CF (w.alloc (.cells #[.int .i64 po, .int .i64 fr, .bool bk, .bool dn] 26)) w.heap.size po fr bk dn :=
  ⟨ca_new w po fr bk dn, World.frozen?_alloc_at _ _ _ _ rfl, World.frozen?_alloc_at _ _ _ _ rfl, World.frozen?_alloc_at _ _ _ _ rfl, World.frozen?_alloc_at _ _ _ _ rfl⟩
theorem CF.go {w : World} {r : Nat} {po fr : Int} {bk dn : Bool} (h : CF w r po fr bk dn) (qp qf : Int) (qb qd : Bool) : CF ((((w.setCell ⟨r, 0, none⟩ (.int .i64 qp)).setCell ⟨r, 1, none⟩ (.int .i64 qf)).setCell ⟨r, 2, none⟩ (.bool qb)).setCell ⟨r, 3, none⟩ (.bool qd)) r qp qf qb qd := by
  obtain ⟨⟨c0, c1, c2, c3⟩, hf⟩ := h
  have ne : ∀ (x y : Nat), x ≠ y → (⟨r, x, none⟩ : Addr) ≠ ⟨r, y, none⟩ := fun x y hxy e => hxy (congrArg Addr.off e)
  refine ⟨⟨?_, ?_, ?_, ?_⟩, ?_⟩
  · rw [World.cell?_setCell_other _ _ _ _ (ne 3 0 (by omega)), World.cell?_setCell_other _ _ _ _ (ne 2 0 (by omega)), World.cell?_setCell_other _ _ _ _ (ne 1 0 (by omega))]
    exact World.cell?_setCell_same _ _ _ c0
  · rw [World.cell?_setCell_other _ _ _ _ (ne 3 1 (by omega)), World.cell?_setCell_other _ _ _ _ (ne 2 1 (by omega))]
    exact World.cell?_setCell_same _ _ _ (u := .int .i64 fr) (by rw [World.cell?_setCell_other _ _ _ _ (ne 0 1 (by omega))]; exact c1)
  · rw [World.cell?_setCell_other _ _ _ _ (ne 3 2 (by omega))]
    exact World.cell?_setCell_same _ _ _ (u := .bool bk) (by rw [World.cell?_setCell_other _ _ _ _ (ne 1 2 (by omega)), World.cell?_setCell_other _ _ _ _ (ne 0 2 (by omega))]; exact c2)
  · exact World.cell?_setCell_same _ _ _ (u := .bool dn) (by rw [World.cell?_setCell_other _ _ _ _ (ne 2 3 (by omega)), World.cell?_setCell_other _ _ _ _ (ne 1 3 (by omega)), World.cell?_setCell_other _ _ _ _ (ne 0 3 (by omega))]; exact c3)
  · simp only [World.frozen?_setCell]
    exact hf
theorem p_Applies_to (s : Sm.Smp) (p : Option Addr) (cap : Nat) (h : Bool) (w : World) (hm : s.name.size ≤ maxLen) (hd : DatAt w p s.dat) (hv : Sm.vld s = true) {k s0 e0 : Int} (HK : Sm.rk s h = k ∧ Sm.rs s h = s0 ∧ Sm.re s h = e0) :
    Calls Try.prog 11 #[SV s p cap, .bool h] w fun x w' => x = .returned (.tuple #[.int .i64 k, .int .i64 s0, .int .i64 e0]) ∧ Below w.heap.size w w' := by
  have := p_applies s p cap h w hm hd hv
  rwa [HK.1, HK.2.1, HK.2.2] at this
theorem tmod_in (a : Int) {b : Int} (hb : 0 < b) : -b < a.tmod b ∧ a.tmod b < b := by
  by_cases h : 0 ≤ a
  · rw [Int.tmod_eq_emod_of_nonneg h]
    have := Int.emod_nonneg a (by omega : b ≠ 0)
    have := Int.emod_lt_of_pos a hb
    omega
  · rw [(floor_below b (by omega)).2]
    have := Int.emod_nonneg (-a) (by omega : b ≠ 0)
    have := Int.emod_lt_of_pos (-a) hb
    omega
theorem tmod_add (a b : Int) : (a.tmod b + b) % b = a % b := by
  by_cases h : 0 ≤ a
  · rw [Int.tmod_eq_emod_of_nonneg h, Int.add_emod_right, Int.emod_emod]
  · rw [(floor_below b (by omega)).2, neg_mod]
set_option maxHeartbeats 1600000 in
theorem turns_bad (x : Ak) (p : Option Addr) (cap : Nat) (a fr : Int) (w : World) (hm : x.s.name.size ≤ maxLen) (hd : DatAt w p x.s.dat) (hl : (x.s.dat.length : Int) ≤ 9223372036854775807) (hv : Sm.vld x.s = false) :
    Calls Try.prog 7 #[AV x p cap, .int .i64 a, .int .i64 fr] w fun z w' => z = .returned (.bool true) ∧ Below w.heap.size w w' := by
  have _u := hl
  clear _u hl
  have HAp := Lib.hid (p_applies_no x.s p cap x.held (w.alloc (.cells #[.string x.s.name, .slice p x.s.dat.length cap, .int .i64 x.s.bits, .int .i64 x.s.rate, .int .i64 x.s.vol, .int .i64 x.s.pan, .int .i64 x.s.fine, .int .i64 x.s.loop, .int .i64 x.s.start, .int .i64 x.s.fin, .int .i64 x.s.sus, .int .i64 x.s.sstart, .int .i64 x.s.sfin, .int .i64 x.po, .int .i64 x.fr, .bool x.bk, .bool x.dn, .int .i64 x.step, .int .i64 x.k, .int .i64 x.n, .int .i64 x.off, .int .i64 x.frm, .int .i64 x.til, .int .i64 x.num, .int .i64 x.den, .int .i64 x.bits, .bool x.held, .bool x.back] 28)) hm (hd.below (below_box _ _)) hv)
  clear hv 
  unfold SV at HAp
  unfold AV
  go_enter Try.func7, Try.ntmps7
  go_wp2_with (first | (go_at_call 11; ((with_reducible refine HAp.out.mono ?_); rintro z w1 ⟨rfl, hb1⟩)) | (go_at_call 22; ((with_reducible refine (p_awake _).mono ?_); rintro z w2 ⟨rfl, hb2⟩)))
  go_ret
  exact ⟨rfl, stepB (stepB (below_box _ _) hb1) hb2⟩
set_option maxHeartbeats 1600000 in
theorem turns_none (x : Ak) (p : Option Addr) (cap : Nat) (a fr : Int) (w : World) (hm : x.s.name.size ≤ maxLen) (hd : DatAt w p x.s.dat) (hl : (x.s.dat.length : Int) ≤ 9223372036854775807) (hv : Sm.vld x.s = true) (hk : Sm.rk x.s x.held = 0) :
    Calls Try.prog 7 #[AV x p cap, .int .i64 a, .int .i64 fr] w fun z w' => z = .returned (.bool true) ∧ Below w.heap.size w w' := by
  have _u := hl
  clear _u hl
  have HAp := Lib.hid (p_Applies_to x.s p cap x.held (w.alloc (.cells #[.string x.s.name, .slice p x.s.dat.length cap, .int .i64 x.s.bits, .int .i64 x.s.rate, .int .i64 x.s.vol, .int .i64 x.s.pan, .int .i64 x.s.fine, .int .i64 x.s.loop, .int .i64 x.s.start, .int .i64 x.s.fin, .int .i64 x.s.sus, .int .i64 x.s.sstart, .int .i64 x.s.sfin, .int .i64 x.po, .int .i64 x.fr, .bool x.bk, .bool x.dn, .int .i64 x.step, .int .i64 x.k, .int .i64 x.n, .int .i64 x.off, .int .i64 x.frm, .int .i64 x.til, .int .i64 x.num, .int .i64 x.den, .int .i64 x.bits, .bool x.held, .bool x.back] 28)) hm (hd.below (below_box _ _)) hv ⟨hk, rfl, rfl⟩)
  clear hv hk
  unfold SV at HAp
  unfold AV
  go_enter Try.func7, Try.ntmps7
  go_wp2_with (first | (go_at_call 11; ((with_reducible refine HAp.out.mono ?_); rintro z w1 ⟨rfl, hb1⟩)) | (go_at_call 22; ((with_reducible refine (p_awake _).mono ?_); rintro z w2 ⟨rfl, hb2⟩)))
  go_ret
  exact ⟨rfl, stepB (stepB (below_box _ _) hb1) hb2⟩
set_option maxHeartbeats 1600000 in
theorem turns_k1 (x : Ak) (p : Option Addr) (cap : Nat) (a fr : Int) (w : World) (hm : x.s.name.size ≤ maxLen) (hd : DatAt w p x.s.dat) (hl : (x.s.dat.length : Int) ≤ 9223372036854775807) (hv : Sm.vld x.s = true) {s0 e0 : Int} (HK : Sm.rk x.s x.held = 1 ∧ Sm.rs x.s x.held = s0 ∧ Sm.re x.s x.held = e0) (D : Nat → Sm.Cur) (hD0 : D 0 = ⟨s0 + a % (e0 - s0), fr % 65536, x.back, false⟩) (hDs : ∀ j, mvS x.s x.held (D j) (65536 * (e0 - s0)) = D (j + 1)) (hok : ∀ j, Okc x.s.dat.length (D j)) (hDk : D 1 = D 0) :
    Calls Try.prog 7 #[AV x p cap, .int .i64 a, .int .i64 fr] w fun z w' => z = .returned (.bool true) ∧ Below w.heap.size w w' := by
  have _u := hl
  clear _u hl
  have hq := ring_ok hv x.held
  rw [HK.1, HK.2.1, HK.2.2] at hq
  obtain ⟨_, hkk, q1, q2, q3, q4⟩ := hq
  have hw : 0 < e0 - s0 := by omega
  have hw0 : ¬(e0 - s0 = 0) := by omega
  have hw1 : ((e0 - s0) == 0) = false := by simpa using hw0
  have HAp := Lib.hid (p_Applies_to x.s p cap x.held (w.alloc (.cells #[.string x.s.name, .slice p x.s.dat.length cap, .int .i64 x.s.bits, .int .i64 x.s.rate, .int .i64 x.s.vol, .int .i64 x.s.pan, .int .i64 x.s.fine, .int .i64 x.s.loop, .int .i64 x.s.start, .int .i64 x.s.fin, .int .i64 x.s.sus, .int .i64 x.s.sstart, .int .i64 x.s.sfin, .int .i64 x.po, .int .i64 x.fr, .bool x.bk, .bool x.dn, .int .i64 x.step, .int .i64 x.k, .int .i64 x.n, .int .i64 x.off, .int .i64 x.frm, .int .i64 x.til, .int .i64 x.num, .int .i64 x.den, .int .i64 x.bits, .bool x.held, .bool x.back] 28)) hm (hd.below (below_box _ _)) hv HK)
  have HMv := Lib.hid (fun j w hd => p_Move_to x.s p cap (D j) (D (j + 1)) (65536 * (e0 - s0)) x.held w hm hd hv (hok j) (by omega) (by omega) (hDs j))
  have HD0 := Lib.hid hD0
  have HDk := Lib.hid hDk
  have t1 := (tmod_in a hw).1
  have t2 := (tmod_in a hw).2
  have t3 := tmod_add a (e0 - s0)
  have m0 := Int.emod_nonneg a hw0
  have m1 := Int.emod_lt_of_pos a hw
  have e1 : (a.tmod (e0 - s0) + (e0 - s0)).tmod (e0 - s0) = a % (e0 - s0) := by rw [Int.tmod_eq_emod_of_nonneg (by omega), t3]
  have e2 : IntKind.i64.wrap (a.tmod (e0 - s0)) = a.tmod (e0 - s0) := IntWalk.i64_in _ (by omega)
  have e3 : IntKind.i64.wrap (a.tmod (e0 - s0) + (e0 - s0)) = a.tmod (e0 - s0) + (e0 - s0) := IntWalk.i64_in _ (by omega)
  have e4 : IntKind.i64.wrap (a % (e0 - s0)) = a % (e0 - s0) := IntWalk.i64_in _ (by omega)
  have e5 : IntKind.i64.wrap (s0 + a % (e0 - s0)) = s0 + a % (e0 - s0) := IntWalk.i64_in _ (by omega)
  have e6 : IntKind.i64.wrap (e0 - s0) = e0 - s0 := IntWalk.i64_in _ (by omega)
  have E1 := Lib.hid e1
  have E2 := Lib.hid e2
  have E3 := Lib.hid e3
  have E4 := Lib.hid e4
  have E5 := Lib.hid e5
  have hand : bits .and .i64 fr 65535 = fr % 65536 := Tm.and65535 fr
  clear hkk hv HK hD0 hDs hok hDk t3 e1 e2 e3 e4 e5
  unfold SV at HAp HMv
  unfold AV
  go_enter Try.func7, Try.ntmps7
  go_wp2_with (first | (go_at_call 11; ((with_reducible refine HAp.out.mono ?_); rintro z w1 ⟨rfl, hb1⟩; have HB1 := Lib.hid (stepB (below_box _ _) hb1); have HA1 := Lib.hid ((ab_new w x p cap).kept hb1); obtain ⟨⟨x0, x1, x2, x3, x4, x5, x6, x7, x8, x9, x10, x11, x12⟩, y13, y14, y15, y16, y17, y18, y19, y20, y21, y22, y23, y24, y25, y26, y27⟩ := HA1.out; obtain ⟨_, _, _, _, _, _, _, _, _, _, _, _, _, _, _, yb⟩ := HA1.out.kept (below_box w1 (.cells #[.int .i64 0, .int .i64 0, .bool false, .bool false] 26)))))
  have e1 := E1.out
  have e2 := E2.out
  have e3 := E3.out
  have e4 := E4.out
  have e5 := E5.out
  go_region
  go_wp2
  have hwu : e0 - s0 ≤ 4096 := by omega
  have z1 : w.heap.size + 1 ≤ w1.heap.size := by have := hb1.size; simp at this; omega
  have HWB := Lib.hid ((stepB (stepB HB1.out (below_box w1 (.cells #[.int .i64 (s0 + a % (e0 - s0)), .int .i64 (fr % 65536), .bool x.back, .bool false] 26))) (below_box _ (.cells #[.int .i64 (s0 + a % (e0 - s0)), .int .i64 (fr % 65536), .bool x.back, .bool false] 26))).drew)
  have HAB := Lib.hid (show AB ((w1.alloc (.cells #[.int .i64 (s0 + a % (e0 - s0)), .int .i64 (fr % 65536), .bool x.back, .bool false] 26)).alloc (.cells #[.int .i64 (s0 + a % (e0 - s0)), .int .i64 (fr % 65536), .bool x.back, .bool false] 26)).drew w.heap.size x p cap from show AB ((w1.alloc (.cells #[.int .i64 (s0 + a % (e0 - s0)), .int .i64 (fr % 65536), .bool x.back, .bool false] 26)).alloc (.cells #[.int .i64 (s0 + a % (e0 - s0)), .int .i64 (fr % 65536), .bool x.back, .bool false] 26)) w.heap.size x p cap from (HA1.out.kept (below_box w1 (.cells #[.int .i64 (s0 + a % (e0 - s0)), .int .i64 (fr % 65536), .bool x.back, .bool false] 26))).kept (below_box _ (.cells #[.int .i64 (s0 + a % (e0 - s0)), .int .i64 (fr % 65536), .bool x.back, .bool false] 26)))
  have HCA := Lib.hid (show CA ((w1.alloc (.cells #[.int .i64 (s0 + a % (e0 - s0)), .int .i64 (fr % 65536), .bool x.back, .bool false] 26)).alloc (.cells #[.int .i64 (s0 + a % (e0 - s0)), .int .i64 (fr % 65536), .bool x.back, .bool false] 26)).drew w1.heap.size (s0 + a % (e0 - s0)) (fr % 65536) x.back false from show CA ((w1.alloc (.cells #[.int .i64 (s0 + a % (e0 - s0)), .int .i64 (fr % 65536), .bool x.back, .bool false] 26)).alloc (.cells #[.int .i64 (s0 + a % (e0 - s0)), .int .i64 (fr % 65536), .bool x.back, .bool false] 26)) w1.heap.size (s0 + a % (e0 - s0)) (fr % 65536) x.back false from (ca_new w1 _ _ _ _).kept (below_box _ (.cells #[.int .i64 (s0 + a % (e0 - s0)), .int .i64 (fr % 65536), .bool x.back, .bool false] 26)))
  have HCF := Lib.hid (show CF ((w1.alloc (.cells #[.int .i64 (s0 + a % (e0 - s0)), .int .i64 (fr % 65536), .bool x.back, .bool false] 26)).alloc (.cells #[.int .i64 (s0 + a % (e0 - s0)), .int .i64 (fr % 65536), .bool x.back, .bool false] 26)).drew (w1.heap.size + 1) (s0 + a % (e0 - s0)) (fr % 65536) x.back false by
    have := cf_new (w1.alloc (.cells #[.int .i64 (s0 + a % (e0 - s0)), .int .i64 (fr % 65536), .bool x.back, .bool false] 26)) (s0 + a % (e0 - s0)) (fr % 65536) x.back false
    have h2 : CF ((w1.alloc (.cells #[.int .i64 (s0 + a % (e0 - s0)), .int .i64 (fr % 65536), .bool x.back, .bool false] 26)).alloc (.cells #[.int .i64 (s0 + a % (e0 - s0)), .int .i64 (fr % 65536), .bool x.back, .bool false] 26)) (w1.heap.size + 1) (s0 + a % (e0 - s0)) (fr % 65536) x.back false := by simpa using this
    exact h2)
  obtain ⟨W, hW⟩ : ∃ W, W = ((w1.alloc (.cells #[.int .i64 (s0 + a % (e0 - s0)), .int .i64 (fr % 65536), .bool x.back, .bool false] 26)).alloc (.cells #[.int .i64 (s0 + a % (e0 - s0)), .int .i64 (fr % 65536), .bool x.back, .bool false] 26)).drew := ⟨_, rfl⟩
  obtain ⟨dd, hde⟩ : ∃ dd, dd = w1.heap.size + 1 := ⟨_, rfl⟩
  obtain ⟨cc, hce⟩ : ∃ cc, cc = w1.heap.size := ⟨_, rfl⟩
  obtain ⟨b, hbe⟩ : ∃ b, b = w.heap.size := ⟨_, rfl⟩
  have nb : b ≠ dd := by omega
  have nc : cc ≠ dd := by omega
  have ld : w.heap.size ≤ dd := by omega
  rw [← hW] at HWB HAB HCA HCF
  rw [← hbe] at HAB
  rw [← hce] at HCA
  rw [← hde] at HCF
  rw [← hW, ← hde, ← hce, ← hbe]
  obtain ⟨P0, hP0⟩ : ∃ P0, s0 + a % (e0 - s0) = P0 := ⟨_, rfl⟩
  obtain ⟨F0, hF0⟩ : ∃ F0, fr % 65536 = F0 := ⟨_, rfl⟩
  rw [hP0, hF0] at HCA HCF HD0
  clear x0 x1 x2 x3 x4 x5 x6 x7 x8 x9 x10 x11 x12 y13 y14 y15 y16 y17 y18 y19 y20 y21 y22 y23 y24 y25 y26 y27 yb e1 e2 e3 e4 e5 e6 E1 E2 E3 E4 E5 hand t1 t2 m0 m1 hW hde hce hbe hP0 hF0 HA1 HB1 hb1 z1 q1 q2 q3 q4 hw0 hw1
  go_loopw [13] (fun i wr => ∃ j : Nat, (j : Int) ≤ 1 ∧ i = .int .i64 j ∧ Hid (∃ po' fr' bk' dn', D j = ⟨po', fr', bk', dn'⟩ ∧ CF wr dd po' fr' bk' dn') ∧ Hid (AB wr b x p cap ∧ CA wr cc P0 F0 x.back false) ∧ Hid (Below w.heap.size w wr)) (fun i _ => 1 - (intOf i).toNat)
  case atStart => exact ⟨0, by omega, rfl, ⟨_, _, _, _, HD0.out, HCF.out⟩, ⟨HAB.out, HCA.out⟩, HWB.out⟩
  case round =>
    clear HWB HAB HCA HCF
    obtain ⟨j, hj, rfl, HF, HH, hbw⟩ := hrel
    obtain ⟨po', fr', bk', dn', hDj, hcf⟩ := HF.out
    have HCF := Lib.hid hcf
    have HDJ := Lib.hid hDj
    have HD := Lib.hid (hd.below hbw.out)
    clear hcf HF
    by_cases hlt : (j : Int) < 1
    · have hM := HMv.out j
      obtain ⟨q, hq⟩ : ∃ q, D (j + 1) = q := ⟨_, rfl⟩
      rw [hDj, hq] at hM
      obtain ⟨qp, qf, qb, qd⟩ := q
      dsimp only at hM
      have HM := Lib.hid hM
      have HQ := Lib.hid hq
      clear hM hDj hq
      obtain ⟨⟨⟨x0, x1, x2, x3, x4, x5, x6, x7, x8, x9, x10, x11, x12⟩, y13, y14, y15, y16, y17, y18, y19, y20, y21, y22, y23, y24, y25, y26, y27⟩, ⟨k0, k1, k2, k3⟩⟩ := HH.out
      obtain ⟨⟨c0, c1, c2, c3⟩, f0, f1, f2, f3⟩ := HCF.out
      go_wp2_with (first | (go_at_call 17; ((with_reducible refine (HM.out _ HD.out).mono ?_); rintro z w2 ⟨rfl, hb2⟩; have HF2 := Lib.hid (HCF.out.kept hb2); obtain ⟨⟨c0, c1, c2, c3⟩, f0, f1, f2, f3⟩ := HF2.out)))
      go_roundw
      case rel => exact ⟨j + 1, by omega, by go_num, ⟨qp, qf, qb, qd, HQ.out, HF2.out.go qp qf qb qd⟩, ⟨((((HH.out.1.kept hb2).store nb _ _).store nb _ _).store nb _ _).store nb _ _, ((((HH.out.2.kept hb2).store nc _ _).store nc _ _).store nc _ _).store nc _ _⟩, ((((stepB hbw.out hb2).setCell ld _).setCell ld _).setCell ld _).setCell ld _⟩
      case measure => simp [intOf]; omega
    · have hjk : j = 1 := by omega
      have hfin := HDJ.out.symm.trans ((congrArg D hjk).trans (HDk.out.trans HD0.out))
      simp only [Sm.Cur.mk.injEq] at hfin
      obtain ⟨rfl, rfl, rfl, rfl⟩ := hfin
      clear hDj hjk
      obtain ⟨⟨⟨x0, x1, x2, x3, x4, x5, x6, x7, x8, x9, x10, x11, x12⟩, y13, y14, y15, y16, y17, y18, y19, y20, y21, y22, y23, y24, y25, y26, y27⟩, ⟨k0, k1, k2, k3⟩⟩ := HH.out
      obtain ⟨⟨c0, c1, c2, c3⟩, f0, f1, f2, f3⟩ := HCF.out
      go_wp2_with (first | (go_at_call 22; ((with_reducible refine (p_awake _).mono ?_); rintro z w3 ⟨rfl, hb3⟩)))
      go_ret
      exact ⟨rfl, stepB hbw.out hb3⟩
set_option maxHeartbeats 1600000 in
theorem turns_k2 (x : Ak) (p : Option Addr) (cap : Nat) (a fr : Int) (w : World) (hm : x.s.name.size ≤ maxLen) (hd : DatAt w p x.s.dat) (hl : (x.s.dat.length : Int) ≤ 9223372036854775807) (hv : Sm.vld x.s = true) {s0 e0 : Int} (HK : Sm.rk x.s x.held = 2 ∧ Sm.rs x.s x.held = s0 ∧ Sm.re x.s x.held = e0) (D : Nat → Sm.Cur) (hD0 : D 0 = ⟨s0 + a % (e0 - s0), fr % 65536, x.back, false⟩) (hDs : ∀ j, mvS x.s x.held (D j) (65536 * (e0 - s0)) = D (j + 1)) (hok : ∀ j, Okc x.s.dat.length (D j)) (hDk : D 2 = D 0) :
    Calls Try.prog 7 #[AV x p cap, .int .i64 a, .int .i64 fr] w fun z w' => z = .returned (.bool true) ∧ Below w.heap.size w w' := by
  have _u := hl
  clear _u hl
  have hq := ring_ok hv x.held
  rw [HK.1, HK.2.1, HK.2.2] at hq
  obtain ⟨_, hkk, q1, q2, q3, q4⟩ := hq
  have hw : 0 < e0 - s0 := by omega
  have hw0 : ¬(e0 - s0 = 0) := by omega
  have hw1 : ((e0 - s0) == 0) = false := by simpa using hw0
  have HAp := Lib.hid (p_Applies_to x.s p cap x.held (w.alloc (.cells #[.string x.s.name, .slice p x.s.dat.length cap, .int .i64 x.s.bits, .int .i64 x.s.rate, .int .i64 x.s.vol, .int .i64 x.s.pan, .int .i64 x.s.fine, .int .i64 x.s.loop, .int .i64 x.s.start, .int .i64 x.s.fin, .int .i64 x.s.sus, .int .i64 x.s.sstart, .int .i64 x.s.sfin, .int .i64 x.po, .int .i64 x.fr, .bool x.bk, .bool x.dn, .int .i64 x.step, .int .i64 x.k, .int .i64 x.n, .int .i64 x.off, .int .i64 x.frm, .int .i64 x.til, .int .i64 x.num, .int .i64 x.den, .int .i64 x.bits, .bool x.held, .bool x.back] 28)) hm (hd.below (below_box _ _)) hv HK)
  have HMv := Lib.hid (fun j w hd => p_Move_to x.s p cap (D j) (D (j + 1)) (65536 * (e0 - s0)) x.held w hm hd hv (hok j) (by omega) (by omega) (hDs j))
  have HD0 := Lib.hid hD0
  have HDk := Lib.hid hDk
  have t1 := (tmod_in a hw).1
  have t2 := (tmod_in a hw).2
  have t3 := tmod_add a (e0 - s0)
  have m0 := Int.emod_nonneg a hw0
  have m1 := Int.emod_lt_of_pos a hw
  have e1 : (a.tmod (e0 - s0) + (e0 - s0)).tmod (e0 - s0) = a % (e0 - s0) := by rw [Int.tmod_eq_emod_of_nonneg (by omega), t3]
  have e2 : IntKind.i64.wrap (a.tmod (e0 - s0)) = a.tmod (e0 - s0) := IntWalk.i64_in _ (by omega)
  have e3 : IntKind.i64.wrap (a.tmod (e0 - s0) + (e0 - s0)) = a.tmod (e0 - s0) + (e0 - s0) := IntWalk.i64_in _ (by omega)
  have e4 : IntKind.i64.wrap (a % (e0 - s0)) = a % (e0 - s0) := IntWalk.i64_in _ (by omega)
  have e5 : IntKind.i64.wrap (s0 + a % (e0 - s0)) = s0 + a % (e0 - s0) := IntWalk.i64_in _ (by omega)
  have e6 : IntKind.i64.wrap (e0 - s0) = e0 - s0 := IntWalk.i64_in _ (by omega)
  have E1 := Lib.hid e1
  have E2 := Lib.hid e2
  have E3 := Lib.hid e3
  have E4 := Lib.hid e4
  have E5 := Lib.hid e5
  have hand : bits .and .i64 fr 65535 = fr % 65536 := Tm.and65535 fr
  clear hkk hv HK hD0 hDs hok hDk t3 e1 e2 e3 e4 e5
  unfold SV at HAp HMv
  unfold AV
  go_enter Try.func7, Try.ntmps7
  go_wp2_with (first | (go_at_call 11; ((with_reducible refine HAp.out.mono ?_); rintro z w1 ⟨rfl, hb1⟩; have HB1 := Lib.hid (stepB (below_box _ _) hb1); have HA1 := Lib.hid ((ab_new w x p cap).kept hb1); obtain ⟨⟨x0, x1, x2, x3, x4, x5, x6, x7, x8, x9, x10, x11, x12⟩, y13, y14, y15, y16, y17, y18, y19, y20, y21, y22, y23, y24, y25, y26, y27⟩ := HA1.out; obtain ⟨_, _, _, _, _, _, _, _, _, _, _, _, _, _, _, yb⟩ := HA1.out.kept (below_box w1 (.cells #[.int .i64 0, .int .i64 0, .bool false, .bool false] 26)))))
  have e1 := E1.out
  have e2 := E2.out
  have e3 := E3.out
  have e4 := E4.out
  have e5 := E5.out
  go_region
  go_wp2
  have hwu : e0 - s0 ≤ 4096 := by omega
  have z1 : w.heap.size + 1 ≤ w1.heap.size := by have := hb1.size; simp at this; omega
  have HWB := Lib.hid ((stepB (stepB HB1.out (below_box w1 (.cells #[.int .i64 (s0 + a % (e0 - s0)), .int .i64 (fr % 65536), .bool x.back, .bool false] 26))) (below_box _ (.cells #[.int .i64 (s0 + a % (e0 - s0)), .int .i64 (fr % 65536), .bool x.back, .bool false] 26))).drew)
  have HAB := Lib.hid (show AB ((w1.alloc (.cells #[.int .i64 (s0 + a % (e0 - s0)), .int .i64 (fr % 65536), .bool x.back, .bool false] 26)).alloc (.cells #[.int .i64 (s0 + a % (e0 - s0)), .int .i64 (fr % 65536), .bool x.back, .bool false] 26)).drew w.heap.size x p cap from show AB ((w1.alloc (.cells #[.int .i64 (s0 + a % (e0 - s0)), .int .i64 (fr % 65536), .bool x.back, .bool false] 26)).alloc (.cells #[.int .i64 (s0 + a % (e0 - s0)), .int .i64 (fr % 65536), .bool x.back, .bool false] 26)) w.heap.size x p cap from (HA1.out.kept (below_box w1 (.cells #[.int .i64 (s0 + a % (e0 - s0)), .int .i64 (fr % 65536), .bool x.back, .bool false] 26))).kept (below_box _ (.cells #[.int .i64 (s0 + a % (e0 - s0)), .int .i64 (fr % 65536), .bool x.back, .bool false] 26)))
  have HCA := Lib.hid (show CA ((w1.alloc (.cells #[.int .i64 (s0 + a % (e0 - s0)), .int .i64 (fr % 65536), .bool x.back, .bool false] 26)).alloc (.cells #[.int .i64 (s0 + a % (e0 - s0)), .int .i64 (fr % 65536), .bool x.back, .bool false] 26)).drew w1.heap.size (s0 + a % (e0 - s0)) (fr % 65536) x.back false from show CA ((w1.alloc (.cells #[.int .i64 (s0 + a % (e0 - s0)), .int .i64 (fr % 65536), .bool x.back, .bool false] 26)).alloc (.cells #[.int .i64 (s0 + a % (e0 - s0)), .int .i64 (fr % 65536), .bool x.back, .bool false] 26)) w1.heap.size (s0 + a % (e0 - s0)) (fr % 65536) x.back false from (ca_new w1 _ _ _ _).kept (below_box _ (.cells #[.int .i64 (s0 + a % (e0 - s0)), .int .i64 (fr % 65536), .bool x.back, .bool false] 26)))
  have HCF := Lib.hid (show CF ((w1.alloc (.cells #[.int .i64 (s0 + a % (e0 - s0)), .int .i64 (fr % 65536), .bool x.back, .bool false] 26)).alloc (.cells #[.int .i64 (s0 + a % (e0 - s0)), .int .i64 (fr % 65536), .bool x.back, .bool false] 26)).drew (w1.heap.size + 1) (s0 + a % (e0 - s0)) (fr % 65536) x.back false by
    have := cf_new (w1.alloc (.cells #[.int .i64 (s0 + a % (e0 - s0)), .int .i64 (fr % 65536), .bool x.back, .bool false] 26)) (s0 + a % (e0 - s0)) (fr % 65536) x.back false
    have h2 : CF ((w1.alloc (.cells #[.int .i64 (s0 + a % (e0 - s0)), .int .i64 (fr % 65536), .bool x.back, .bool false] 26)).alloc (.cells #[.int .i64 (s0 + a % (e0 - s0)), .int .i64 (fr % 65536), .bool x.back, .bool false] 26)) (w1.heap.size + 1) (s0 + a % (e0 - s0)) (fr % 65536) x.back false := by simpa using this
    exact h2)
  obtain ⟨W, hW⟩ : ∃ W, W = ((w1.alloc (.cells #[.int .i64 (s0 + a % (e0 - s0)), .int .i64 (fr % 65536), .bool x.back, .bool false] 26)).alloc (.cells #[.int .i64 (s0 + a % (e0 - s0)), .int .i64 (fr % 65536), .bool x.back, .bool false] 26)).drew := ⟨_, rfl⟩
  obtain ⟨dd, hde⟩ : ∃ dd, dd = w1.heap.size + 1 := ⟨_, rfl⟩
  obtain ⟨cc, hce⟩ : ∃ cc, cc = w1.heap.size := ⟨_, rfl⟩
  obtain ⟨b, hbe⟩ : ∃ b, b = w.heap.size := ⟨_, rfl⟩
  have nb : b ≠ dd := by omega
  have nc : cc ≠ dd := by omega
  have ld : w.heap.size ≤ dd := by omega
  rw [← hW] at HWB HAB HCA HCF
  rw [← hbe] at HAB
  rw [← hce] at HCA
  rw [← hde] at HCF
  rw [← hW, ← hde, ← hce, ← hbe]
  obtain ⟨P0, hP0⟩ : ∃ P0, s0 + a % (e0 - s0) = P0 := ⟨_, rfl⟩
  obtain ⟨F0, hF0⟩ : ∃ F0, fr % 65536 = F0 := ⟨_, rfl⟩
  rw [hP0, hF0] at HCA HCF HD0
  clear x0 x1 x2 x3 x4 x5 x6 x7 x8 x9 x10 x11 x12 y13 y14 y15 y16 y17 y18 y19 y20 y21 y22 y23 y24 y25 y26 y27 yb e1 e2 e3 e4 e5 e6 E1 E2 E3 E4 E5 hand t1 t2 m0 m1 hW hde hce hbe hP0 hF0 HA1 HB1 hb1 z1 q1 q2 q3 q4 hw0 hw1
  go_loopw [13] (fun i wr => ∃ j : Nat, (j : Int) ≤ 2 ∧ i = .int .i64 j ∧ Hid (∃ po' fr' bk' dn', D j = ⟨po', fr', bk', dn'⟩ ∧ CF wr dd po' fr' bk' dn') ∧ Hid (AB wr b x p cap ∧ CA wr cc P0 F0 x.back false) ∧ Hid (Below w.heap.size w wr)) (fun i _ => 2 - (intOf i).toNat)
  case atStart => exact ⟨0, by omega, rfl, ⟨_, _, _, _, HD0.out, HCF.out⟩, ⟨HAB.out, HCA.out⟩, HWB.out⟩
  case round =>
    clear HWB HAB HCA HCF
    obtain ⟨j, hj, rfl, HF, HH, hbw⟩ := hrel
    obtain ⟨po', fr', bk', dn', hDj, hcf⟩ := HF.out
    have HCF := Lib.hid hcf
    have HDJ := Lib.hid hDj
    have HD := Lib.hid (hd.below hbw.out)
    clear hcf HF
    by_cases hlt : (j : Int) < 2
    · have hM := HMv.out j
      obtain ⟨q, hq⟩ : ∃ q, D (j + 1) = q := ⟨_, rfl⟩
      rw [hDj, hq] at hM
      obtain ⟨qp, qf, qb, qd⟩ := q
      dsimp only at hM
      have HM := Lib.hid hM
      have HQ := Lib.hid hq
      clear hM hDj hq
      obtain ⟨⟨⟨x0, x1, x2, x3, x4, x5, x6, x7, x8, x9, x10, x11, x12⟩, y13, y14, y15, y16, y17, y18, y19, y20, y21, y22, y23, y24, y25, y26, y27⟩, ⟨k0, k1, k2, k3⟩⟩ := HH.out
      obtain ⟨⟨c0, c1, c2, c3⟩, f0, f1, f2, f3⟩ := HCF.out
      go_wp2_with (first | (go_at_call 17; ((with_reducible refine (HM.out _ HD.out).mono ?_); rintro z w2 ⟨rfl, hb2⟩; have HF2 := Lib.hid (HCF.out.kept hb2); obtain ⟨⟨c0, c1, c2, c3⟩, f0, f1, f2, f3⟩ := HF2.out)))
      go_roundw
      case rel => exact ⟨j + 1, by omega, by go_num, ⟨qp, qf, qb, qd, HQ.out, HF2.out.go qp qf qb qd⟩, ⟨((((HH.out.1.kept hb2).store nb _ _).store nb _ _).store nb _ _).store nb _ _, ((((HH.out.2.kept hb2).store nc _ _).store nc _ _).store nc _ _).store nc _ _⟩, ((((stepB hbw.out hb2).setCell ld _).setCell ld _).setCell ld _).setCell ld _⟩
      case measure => simp [intOf]; omega
    · have hjk : j = 2 := by omega
      have hfin := HDJ.out.symm.trans ((congrArg D hjk).trans (HDk.out.trans HD0.out))
      simp only [Sm.Cur.mk.injEq] at hfin
      obtain ⟨rfl, rfl, rfl, rfl⟩ := hfin
      clear hDj hjk
      obtain ⟨⟨⟨x0, x1, x2, x3, x4, x5, x6, x7, x8, x9, x10, x11, x12⟩, y13, y14, y15, y16, y17, y18, y19, y20, y21, y22, y23, y24, y25, y26, y27⟩, ⟨k0, k1, k2, k3⟩⟩ := HH.out
      obtain ⟨⟨c0, c1, c2, c3⟩, f0, f1, f2, f3⟩ := HCF.out
      go_wp2_with (first | (go_at_call 22; ((with_reducible refine (p_awake _).mono ?_); rintro z w3 ⟨rfl, hb3⟩)))
      go_ret
      exact ⟨rfl, stepB hbw.out hb3⟩
/-- A cursor after so many moves by one step. -/
def trn (s : Sm.Smp) (h : Bool) (c : Sm.Cur) (st : Int) : Nat → Sm.Cur
  | 0 => c
  | n + 1 => mvS s h (trn s h c st n) st
theorem okc_trn {s : Sm.Smp} (hv : Sm.vld s = true) (h : Bool) {c : Sm.Cur} {st : Int} (hc : Okc s.dat.length c) (h0 : 0 ≤ st) : ∀ n, Okc s.dat.length (trn s h c st n)
  | 0 => hc
  | n + 1 => okc_move hv h (okc_trn hv h hc h0 n) h0
theorem cur_at {po fr : Int} (b : Bool) (h0 : 0 ≤ fr) (h1 : fr < 65536) : (⟨po, fr, b, false⟩ : Sm.Cur) = Sm.curAt (po * 65536 + fr) b := by
  unfold Sm.curAt
  rw [show (po * 65536 + fr) / 65536 = po by omega, show (po * 65536 + fr) % 65536 = fr by omega]
/-- The law SampleTurns' walk. -/
theorem turns_any (x : Ak) (p : Option Addr) (cap : Nat) (a fr : Int) (w : World) (hm : x.s.name.size ≤ maxLen) (hd : DatAt w p x.s.dat) (hl : (x.s.dat.length : Int) ≤ 9223372036854775807) :
    Calls Try.prog 7 #[AV x p cap, .int .i64 a, .int .i64 fr] w fun z w' => z = .returned (.bool true) ∧ Below w.heap.size w w' := by
  cases hv : Sm.vld x.s
  · exact turns_bad x p cap a fr w hm hd hl hv
  · obtain ⟨s0, hs0⟩ : ∃ s0, Sm.rs x.s x.held = s0 := ⟨_, rfl⟩
    obtain ⟨e0, he0⟩ : ∃ e0, Sm.re x.s x.held = e0 := ⟨_, rfl⟩
    have hq := ring_ok hv x.held
    rw [hs0, he0] at hq
    obtain ⟨hk, hkk, q1, q2, q3, q4⟩ := hq
    rcases hk with hk | hk | hk
    · exact turns_none x p cap a fr w hm hd hl hv hk
    all_goals
      rw [hk] at hkk
      have hw : 0 < e0 - s0 := by omega
      have m0 := Int.emod_nonneg a (by omega : e0 - s0 ≠ 0)
      have m1 := Int.emod_lt_of_pos a hw
      have n0 := Int.emod_nonneg fr (by omega : (65536 : Int) ≠ 0)
      have n1 := Int.emod_lt_of_pos fr (by omega : (0 : Int) < 65536)
      have oc : Okc x.s.dat.length ⟨s0 + a % (e0 - s0), fr % 65536, x.back, false⟩ := by
        show std x.s.dat.length (s0 + a % (e0 - s0)) (fr % 65536) x.back false = true
        unfold std
        rw [if_neg (by simp)]
        exact decide_eq_true ⟨by omega, by omega, n0, by omega⟩
      have est : 65536 * (e0 - s0) = e0 * 65536 - s0 * 65536 := by omega
    · refine turns_k1 x p cap a fr w hm hd hl hv ⟨hk, hs0, he0⟩ (trn x.s x.held ⟨s0 + a % (e0 - s0), fr % 65536, x.back, false⟩ (65536 * (e0 - s0))) rfl (fun _ => rfl) (okc_trn hv _ oc (by omega)) ?_
      show mvS _ _ _ _ = _
      unfold mvS trn
      rw [hk, hs0, he0, est, cur_at x.back n0 n1]
      exact Sm.gone_round (by omega) (by omega)
    · refine turns_k2 x p cap a fr w hm hd hl hv ⟨hk, hs0, he0⟩ (trn x.s x.held ⟨s0 + a % (e0 - s0), fr % 65536, x.back, false⟩ (65536 * (e0 - s0))) rfl (fun _ => rfl) (okc_trn hv _ oc (by omega)) ?_
      show mvS _ _ (mvS _ _ _ _) _ = _
      unfold mvS trn
      rw [hk, hs0, he0, est, cur_at x.back n0 n1]
      exact Sm.gone_twice (by omega) (by omega) (by omega)
end Go.Proofs.Ytmaldhjcdkidmaa

/-
  Contracts of package sample's Move: for any sample, cursor, step and key, what the call returns; nothing that was there is changed.
-/
import Derived.Test.YtmaldhjcdkidmaaPBegin
import Derived.Test.YtmaldhjcdkidmaaPRoute
import Derived.Deep.RegionHeld3
namespace Go.Proofs.Ytmaldhjcdkidmaa
open Go.RowKit

theorem Own2.store {w : World} {b : Nat} {s : Sm.Smp} {p : Option Addr} {cap : Nat} {po fr : Int} {bk dn : Bool} (h : Own2 w b s p cap po fr bk dn) {r : Nat} (h1 : b ≠ r) (h2 : b + 1 ≠ r) (j : Nat) (v : Value) : Own2 (w.setCell ⟨r, j, none⟩ v) b s p cap po fr bk dn := by
  have e1 : ∀ i, (w.setCell ⟨r, j, none⟩ v).cell? ⟨b, i, none⟩ = w.cell? ⟨b, i, none⟩ := fun i => World.cell?_setCell_other _ _ _ _ (fun h => h1 (congrArg Addr.block h).symm)
  have e2 : ∀ i, (w.setCell ⟨r, j, none⟩ v).cell? ⟨b + 1, i, none⟩ = w.cell? ⟨b + 1, i, none⟩ := fun i => World.cell?_setCell_other _ _ _ _ (fun h => h2 (congrArg Addr.block h).symm)
  unfold Own2 Boxed at *
  simp only [e1, e2]
  exact h
theorem own2_store {w : World} {b : Nat} {s : Sm.Smp} {p : Option Addr} {cap : Nat} {po fr : Int} {bk dn : Bool} {r : Nat} {v0 v1 v2 v3 : Value} (h : Own2 w b s p cap po fr bk dn) (h1 : b ≠ r) (h2 : b + 1 ≠ r) :
    (((((w.setCell ⟨r, 0, none⟩ v0).setCell ⟨r, 1, none⟩ v1).setCell ⟨r, 2, none⟩ v2).setCell ⟨r, 3, none⟩ v3).cell? ⟨b, 0, none⟩ = some (.string s.name) ∧ ((((w.setCell ⟨r, 0, none⟩ v0).setCell ⟨r, 1, none⟩ v1).setCell ⟨r, 2, none⟩ v2).setCell ⟨r, 3, none⟩ v3).cell? ⟨b, 1, none⟩ = some (.slice p s.dat.length cap) ∧ ((((w.setCell ⟨r, 0, none⟩ v0).setCell ⟨r, 1, none⟩ v1).setCell ⟨r, 2, none⟩ v2).setCell ⟨r, 3, none⟩ v3).cell? ⟨b, 2, none⟩ = some (.int .i64 s.bits) ∧ ((((w.setCell ⟨r, 0, none⟩ v0).setCell ⟨r, 1, none⟩ v1).setCell ⟨r, 2, none⟩ v2).setCell ⟨r, 3, none⟩ v3).cell? ⟨b, 3, none⟩ = some (.int .i64 s.rate) ∧ ((((w.setCell ⟨r, 0, none⟩ v0).setCell ⟨r, 1, none⟩ v1).setCell ⟨r, 2, none⟩ v2).setCell ⟨r, 3, none⟩ v3).cell? ⟨b, 4, none⟩ = some (.int .i64 s.vol) ∧ ((((w.setCell ⟨r, 0, none⟩ v0).setCell ⟨r, 1, none⟩ v1).setCell ⟨r, 2, none⟩ v2).setCell ⟨r, 3, none⟩ v3).cell? ⟨b, 5, none⟩ = some (.int .i64 s.pan) ∧ ((((w.setCell ⟨r, 0, none⟩ v0).setCell ⟨r, 1, none⟩ v1).setCell ⟨r, 2, none⟩ v2).setCell ⟨r, 3, none⟩ v3).cell? ⟨b, 6, none⟩ = some (.int .i64 s.fine) ∧ ((((w.setCell ⟨r, 0, none⟩ v0).setCell ⟨r, 1, none⟩ v1).setCell ⟨r, 2, none⟩ v2).setCell ⟨r, 3, none⟩ v3).cell? ⟨b, 7, none⟩ = some (.int .i64 s.loop) ∧ ((((w.setCell ⟨r, 0, none⟩ v0).setCell ⟨r, 1, none⟩ v1).setCell ⟨r, 2, none⟩ v2).setCell ⟨r, 3, none⟩ v3).cell? ⟨b, 8, none⟩ = some (.int .i64 s.start) ∧ ((((w.setCell ⟨r, 0, none⟩ v0).setCell ⟨r, 1, none⟩ v1).setCell ⟨r, 2, none⟩ v2).setCell ⟨r, 3, none⟩ v3).cell? ⟨b, 9, none⟩ = some (.int .i64 s.fin) ∧ ((((w.setCell ⟨r, 0, none⟩ v0).setCell ⟨r, 1, none⟩ v1).setCell ⟨r, 2, none⟩ v2).setCell ⟨r, 3, none⟩ v3).cell? ⟨b, 10, none⟩ = some (.int .i64 s.sus) ∧ ((((w.setCell ⟨r, 0, none⟩ v0).setCell ⟨r, 1, none⟩ v1).setCell ⟨r, 2, none⟩ v2).setCell ⟨r, 3, none⟩ v3).cell? ⟨b, 11, none⟩ = some (.int .i64 s.sstart) ∧ ((((w.setCell ⟨r, 0, none⟩ v0).setCell ⟨r, 1, none⟩ v1).setCell ⟨r, 2, none⟩ v2).setCell ⟨r, 3, none⟩ v3).cell? ⟨b, 12, none⟩ = some (.int .i64 s.sfin)) ∧ ((((w.setCell ⟨r, 0, none⟩ v0).setCell ⟨r, 1, none⟩ v1).setCell ⟨r, 2, none⟩ v2).setCell ⟨r, 3, none⟩ v3).cell? ⟨b + 1, 0, none⟩ = some (.int .i64 po) ∧ ((((w.setCell ⟨r, 0, none⟩ v0).setCell ⟨r, 1, none⟩ v1).setCell ⟨r, 2, none⟩ v2).setCell ⟨r, 3, none⟩ v3).cell? ⟨b + 1, 1, none⟩ = some (.int .i64 fr) ∧ ((((w.setCell ⟨r, 0, none⟩ v0).setCell ⟨r, 1, none⟩ v1).setCell ⟨r, 2, none⟩ v2).setCell ⟨r, 3, none⟩ v3).cell? ⟨b + 1, 2, none⟩ = some (.bool bk) ∧ ((((w.setCell ⟨r, 0, none⟩ v0).setCell ⟨r, 1, none⟩ v1).setCell ⟨r, 2, none⟩ v2).setCell ⟨r, 3, none⟩ v3).cell? ⟨b + 1, 3, none⟩ = some (.bool dn) :=
  (((h.store h1 h2 _ _).store h1 h2 _ _).store h1 h2 _ _).store h1 h2 _ _
theorem own2_x {w : World} {b : Nat} {s : Sm.Smp} {p : Option Addr} {cap : Nat} {po fr : Int} {bk dn : Bool} (h : Own2 w b s p cap po fr bk dn) : (w.cell? ⟨b, 0, none⟩ = some (.string s.name) ∧ w.cell? ⟨b, 1, none⟩ = some (.slice p s.dat.length cap) ∧ w.cell? ⟨b, 2, none⟩ = some (.int .i64 s.bits) ∧ w.cell? ⟨b, 3, none⟩ = some (.int .i64 s.rate) ∧ w.cell? ⟨b, 4, none⟩ = some (.int .i64 s.vol) ∧ w.cell? ⟨b, 5, none⟩ = some (.int .i64 s.pan) ∧ w.cell? ⟨b, 6, none⟩ = some (.int .i64 s.fine) ∧ w.cell? ⟨b, 7, none⟩ = some (.int .i64 s.loop) ∧ w.cell? ⟨b, 8, none⟩ = some (.int .i64 s.start) ∧ w.cell? ⟨b, 9, none⟩ = some (.int .i64 s.fin) ∧ w.cell? ⟨b, 10, none⟩ = some (.int .i64 s.sus) ∧ w.cell? ⟨b, 11, none⟩ = some (.int .i64 s.sstart) ∧ w.cell? ⟨b, 12, none⟩ = some (.int .i64 s.sfin)) ∧ w.cell? ⟨b + 1, 0, none⟩ = some (.int .i64 po) ∧ w.cell? ⟨b + 1, 1, none⟩ = some (.int .i64 fr) ∧ w.cell? ⟨b + 1, 2, none⟩ = some (.bool bk) ∧ w.cell? ⟨b + 1, 3, none⟩ = some (.bool dn) := h
theorem own2_of3 (w : World) (s : Sm.Smp) (p : Option Addr) (cap : Nat) (po fr : Int) (bk dn : Bool) : Own2 (((w.alloc (.cells #[.string s.name, .slice p s.dat.length cap, .int .i64 s.bits, .int .i64 s.rate, .int .i64 s.vol, .int .i64 s.pan, .int .i64 s.fine, .int .i64 s.loop, .int .i64 s.start, .int .i64 s.fin, .int .i64 s.sus, .int .i64 s.sstart, .int .i64 s.sfin] 24)).alloc (.cells #[.int .i64 po, .int .i64 fr, .bool bk, .bool dn] 26)).alloc (.cells #[.int .i64 0, .int .i64 0, .bool false, .bool false] 26)) w.heap.size s p cap po fr bk dn := by
  refine ⟨⟨?_, ?_, ?_, ?_, ?_, ?_, ?_, ?_, ?_, ?_, ?_, ?_, ?_⟩, ?_, ?_, ?_, ?_⟩ <;> go_simp
theorem res_of3 (w : World) (s : Sm.Smp) (p : Option Addr) (cap : Nat) (po fr : Int) (bk dn : Bool) : Res (((w.alloc (.cells #[.string s.name, .slice p s.dat.length cap, .int .i64 s.bits, .int .i64 s.rate, .int .i64 s.vol, .int .i64 s.pan, .int .i64 s.fine, .int .i64 s.loop, .int .i64 s.start, .int .i64 s.fin, .int .i64 s.sus, .int .i64 s.sstart, .int .i64 s.sfin] 24)).alloc (.cells #[.int .i64 po, .int .i64 fr, .bool bk, .bool dn] 26)).alloc (.cells #[.int .i64 0, .int .i64 0, .bool false, .bool false] 26)) (w.heap.size + 2) := by
  refine ⟨⟨?_, ?_, ?_, ?_⟩, ⟨?_, ?_, ?_, ?_⟩⟩ <;> go_simp
theorem p_vcur_v (n po fr : Int) (bk dn : Bool) (w : World) (n0 : 0 ≤ n) (n1 : n ≤ 4611686018427387904) {v : Bool} (h : std n po fr bk dn = v) :
    Calls Try.prog 49 #[.agg #[.int .i64 po, .int .i64 fr, .bool bk, .bool dn], .int .i64 n] w fun x w' => x = .returned (.bool v) ∧ Below w.heap.size w w' := h ▸ p_vcur n po fr bk dn w n0 n1
theorem p_valid_v (s : Sm.Smp) (p : Option Addr) (cap : Nat) (w : World) (hm : s.name.size ≤ maxLen) (hd : DatAt w p s.dat) {v : Bool} (h : Sm.vld s = v) :
    Calls Try.prog 13 #[SV s p cap] w fun x w' => x = .returned (.bool v) ∧ Below w.heap.size w w' := h ▸ p_valid s p cap w hm hd
set_option maxHeartbeats 400000 in
theorem p_Move_invalid (s : Sm.Smp) (p : Option Addr) (cap : Nat) (po fr st : Int) (bk dn h : Bool) (w : World) (hm : s.name.size ≤ maxLen) (hd : DatAt w p s.dat) (hv : Sm.vld s = false) :
    Calls Try.prog 17 #[SV s p cap, .agg #[.int .i64 po, .int .i64 fr, .bool bk, .bool dn], .int .i64 st, .bool h] w fun x w' => RetCurE ⟨0, 0, false, false⟩ 1 x ∧ Below w.heap.size w w' := by
  unfold SV
  go_enter Try.func17, Try.ntmps17
  go_wp2_with (first | (go_at_call 13; refine (p_valid_v s p cap _ hm (hd.below (below3 w s p cap po fr bk dn)) hv).mono ?_; rintro x w1 ⟨rfl, hb1⟩; have HO1 := Lib.hid ((own2_of3 w s p cap po fr bk dn).kept hb1); have HR1 := Lib.hid ((res_of3 w s p cap po fr bk dn).kept hb1); obtain ⟨⟨x0, x1, x2, x3, x4, x5, x6, x7, x8, x9, x10, x11, x12⟩, c2, c3, c4, c5⟩ := HO1.out; obtain ⟨⟨r0, r1, r2, r3⟩, ⟨f0, f1, f2, f3⟩⟩ := HR1.out))
  exact bodyPost_ret (v := .tuple #[.agg #[.int .i64 0, .int .i64 0, .bool false, .bool false], .int .i64 1]) (by simp [results, Try.results17, go_sem, r0, r1, r2, r3]) rfl ⟨⟨_, _, _, _, rfl, rfl⟩, end3 _ _ _ _ ((below3 w s p cap po fr bk dn).trans (hb1.mono (by simp; omega)))⟩
set_option maxHeartbeats 400000 in
theorem p_Move_stands (s : Sm.Smp) (p : Option Addr) (cap : Nat) (po fr st : Int) (bk dn h : Bool) (w : World) (hm : s.name.size ≤ maxLen) (hd : DatAt w p s.dat) (hv : Sm.vld s = true) (hs : std s.dat.length po fr bk dn = false) :
    Calls Try.prog 17 #[SV s p cap, .agg #[.int .i64 po, .int .i64 fr, .bool bk, .bool dn], .int .i64 st, .bool h] w fun x w' => RetCurE ⟨0, 0, false, false⟩ 1 x ∧ Below w.heap.size w w' := by
  have hl : (s.dat.length : Int) ≤ 4096 := vld_len hv
  unfold SV
  go_enter Try.func17, Try.ntmps17
  go_wp2_with (first | (go_at_call 13; refine (p_valid_v s p cap _ hm (hd.below (below3 w s p cap po fr bk dn)) hv).mono ?_; rintro x w1 ⟨rfl, hb1⟩; have HO1 := Lib.hid ((own2_of3 w s p cap po fr bk dn).kept hb1); have HR1 := Lib.hid ((res_of3 w s p cap po fr bk dn).kept hb1); obtain ⟨⟨x0, x1, x2, x3, x4, x5, x6, x7, x8, x9, x10, x11, x12⟩, c2, c3, c4, c5⟩ := HO1.out; obtain ⟨⟨r0, r1, r2, r3⟩, ⟨f0, f1, f2, f3⟩⟩ := HR1.out) | (go_at_call 49; refine (p_vcur_v _ po fr bk dn _ (by omega) (by omega) hs).mono ?_; rintro x w2 ⟨rfl, hb2⟩; have HO2 := Lib.hid (HO1.out.kept hb2); have HR2 := Lib.hid (HR1.out.kept hb2); obtain ⟨⟨x0, x1, x2, x3, x4, x5, x6, x7, x8, x9, x10, x11, x12⟩, c2, c3, c4, c5⟩ := HO2.out; obtain ⟨⟨r0, r1, r2, r3⟩, ⟨f0, f1, f2, f3⟩⟩ := HR2.out))
  exact bodyPost_ret (v := .tuple #[.agg #[.int .i64 0, .int .i64 0, .bool false, .bool false], .int .i64 1]) (by simp [results, Try.results17, go_sem, r0, r1, r2, r3]) rfl ⟨⟨_, _, _, _, rfl, rfl⟩, end3 _ _ _ _ ((below3 w s p cap po fr bk dn).trans ((hb1.mono (by simp; omega)).trans (hb2.mono (by have := hb1.size; simp at this; omega))))⟩
set_option maxHeartbeats 400000 in
theorem p_Move_range (s : Sm.Smp) (p : Option Addr) (cap : Nat) (po fr st : Int) (bk dn h : Bool) (w : World) (hm : s.name.size ≤ maxLen) (hd : DatAt w p s.dat) (hv : Sm.vld s = true) (hs : std s.dat.length po fr bk dn = true) (hr : st < 0 ∨ 268435456 < st) :
    Calls Try.prog 17 #[SV s p cap, .agg #[.int .i64 po, .int .i64 fr, .bool bk, .bool dn], .int .i64 st, .bool h] w fun x w' => RetCurE ⟨0, 0, false, false⟩ 5 x ∧ Below w.heap.size w w' := by
  have hl : (s.dat.length : Int) ≤ 4096 := vld_len hv
  have HI := Lib.hid hr
  clear hr
  unfold SV
  go_enter Try.func17, Try.ntmps17
  go_wp2_with (first | (go_at_call 13; refine (p_valid_v s p cap _ hm (hd.below (below3 w s p cap po fr bk dn)) hv).mono ?_; rintro x w1 ⟨rfl, hb1⟩; have HO1 := Lib.hid ((own2_of3 w s p cap po fr bk dn).kept hb1); have HR1 := Lib.hid ((res_of3 w s p cap po fr bk dn).kept hb1); obtain ⟨⟨x0, x1, x2, x3, x4, x5, x6, x7, x8, x9, x10, x11, x12⟩, c2, c3, c4, c5⟩ := HO1.out; obtain ⟨⟨r0, r1, r2, r3⟩, ⟨f0, f1, f2, f3⟩⟩ := HR1.out) | (go_at_call 49; refine (p_vcur_v _ po fr bk dn _ (by omega) (by omega) hs).mono ?_; rintro x w2 ⟨rfl, hb2⟩; have HO2 := Lib.hid (HO1.out.kept hb2); have HR2 := Lib.hid (HR1.out.kept hb2); obtain ⟨⟨x0, x1, x2, x3, x4, x5, x6, x7, x8, x9, x10, x11, x12⟩, c2, c3, c4, c5⟩ := HO2.out; obtain ⟨⟨r0, r1, r2, r3⟩, ⟨f0, f1, f2, f3⟩⟩ := HR2.out) | (go_at_call 39; ((with_reducible refine (p_within_no _ _ _ _ HI.out).mono ?_); rintro x w' ⟨rfl, rfl⟩)))
  exact bodyPost_ret (v := .tuple #[.agg #[.int .i64 0, .int .i64 0, .bool false, .bool false], .int .i64 5]) (by simp [results, Try.results17, go_sem, r0, r1, r2, r3]) rfl ⟨⟨_, _, _, _, rfl, rfl⟩, end3 _ _ _ _ ((below3 w s p cap po fr bk dn).trans ((hb1.mono (by simp; omega)).trans (hb2.mono (by have := hb1.size; simp at this; omega))))⟩
set_option maxHeartbeats 800000 in
theorem p_Move_ok0 (s : Sm.Smp) (p : Option Addr) (cap : Nat) (po fr st : Int) (bk dn h : Bool) (w : World) (hm : s.name.size ≤ maxLen) (hd : DatAt w p s.dat) (hv : Sm.vld s = true) (hs : std s.dat.length po fr bk dn = true) (s1 : 0 ≤ st) (s2 : st ≤ 268435456) {s0 e0 : Int} (HK : Hid (Sm.rk s h = 0 ∧ Sm.rs s h = s0 ∧ Sm.re s h = e0)) :
    Calls Try.prog 17 #[SV s p cap, .agg #[.int .i64 po, .int .i64 fr, .bool bk, .bool dn], .int .i64 st, .bool h] w fun x w' => RetCurE (Sm.gone 0 (65536 * s0) (65536 * e0) (65536 * s.dat.length) ⟨po, fr, bk, dn⟩ st) 0 x ∧ Below w.heap.size w w' := by
  have hl : (s.dat.length : Int) ≤ 4096 := vld_len hv
  have hq := ring_ok hv h
  rw [HK.out.1, HK.out.2.1, HK.out.2.2] at hq
  obtain ⟨_, hk, q1, q2, q3, q4⟩ := hq
  have hrr : Sm.Ring 0 (65536 * s0) (65536 * e0) (65536 * s.dat.length) := ⟨by omega, by omega, by omega⟩
  have hcc := stand_ok hs s1 (by omega) q1 q2 q3 q4
  have hcc' : dn = true ∨ (0 ≤ po ∧ po ≤ 4095 ∧ 0 ≤ fr ∧ fr ≤ 65535 ∧ po * 65536 + fr < 65536 * s.dat.length) := hcc.imp id fun h => ⟨h.1, by have := h.2.1; omega, h.2.2.1, h.2.2.2.1, by have := h.2.1; have := h.2.2.2.1; omega⟩
  have HRt := Lib.hid (fun w => p_route_0 s p cap h w HK hl q1 (by omega) (by omega) (by omega))
  have HMv := Lib.hid (fun w => p_mv0 (65536 * s.dat.length) (65536 * s0) (65536 * e0) po fr st bk dn w hrr (by omega) hcc' s1 (by omega))
  clear hk hrr hcc hcc'
  unfold SV at HRt
  unfold SV
  go_enter Try.func17, Try.ntmps17
  go_wp2_with (first | (go_at_call 13; refine (p_valid_v s p cap _ hm (hd.below (below3 w s p cap po fr bk dn)) hv).mono ?_; rintro x w1 ⟨rfl, hb1⟩; have HO1 := Lib.hid ((own2_of3 w s p cap po fr bk dn).kept hb1); have HR1 := Lib.hid ((res_of3 w s p cap po fr bk dn).kept hb1); obtain ⟨⟨x0, x1, x2, x3, x4, x5, x6, x7, x8, x9, x10, x11, x12⟩, c2, c3, c4, c5⟩ := HO1.out; obtain ⟨⟨r0, r1, r2, r3⟩, ⟨f0, f1, f2, f3⟩⟩ := HR1.out) | (go_at_call 49; refine (p_vcur_v _ po fr bk dn _ (by omega) (by omega) hs).mono ?_; rintro x w2 ⟨rfl, hb2⟩; have HO2 := Lib.hid (HO1.out.kept hb2); have HR2 := Lib.hid (HR1.out.kept hb2); obtain ⟨⟨x0, x1, x2, x3, x4, x5, x6, x7, x8, x9, x10, x11, x12⟩, c2, c3, c4, c5⟩ := HO2.out; obtain ⟨⟨r0, r1, r2, r3⟩, ⟨f0, f1, f2, f3⟩⟩ := HR2.out) | (go_at_call 39; ((with_reducible refine (p_within_yes _ _ _ _ s1 s2).mono ?_); rintro x w' ⟨rfl, rfl⟩)))
  have HWb := Lib.hid ((below3 w s p cap po fr bk dn).trans ((hb1.mono (by simp; omega)).trans (hb2.mono (by have := hb1.size; simp at this; omega))))
  clear r0 r1 r2 r3 f0 f1 f2 f3 x0 x1 x2 x3 x4 x5 x6 x7 x8 x9 x10 x11 x12 c2 c3 c4 c5 hb1 hb2
  have hg := own2_x (w := w2.drew) HO2.out
  have hs1 := HWb.out.drew
  have hs2 := HWb.out.size
  have ne1 : w.heap.size ≠ w.heap.size + 2 := by omega
  have ne2 : w.heap.size + 1 ≠ w.heap.size + 2 := by omega
  go_region_held3 (fun w' => (w'.cell? ⟨w.heap.size, 0, none⟩ = some (.string s.name) ∧ w'.cell? ⟨w.heap.size, 1, none⟩ = some (.slice p s.dat.length cap) ∧ w'.cell? ⟨w.heap.size, 2, none⟩ = some (.int .i64 s.bits) ∧ w'.cell? ⟨w.heap.size, 3, none⟩ = some (.int .i64 s.rate) ∧ w'.cell? ⟨w.heap.size, 4, none⟩ = some (.int .i64 s.vol) ∧ w'.cell? ⟨w.heap.size, 5, none⟩ = some (.int .i64 s.pan) ∧ w'.cell? ⟨w.heap.size, 6, none⟩ = some (.int .i64 s.fine) ∧ w'.cell? ⟨w.heap.size, 7, none⟩ = some (.int .i64 s.loop) ∧ w'.cell? ⟨w.heap.size, 8, none⟩ = some (.int .i64 s.start) ∧ w'.cell? ⟨w.heap.size, 9, none⟩ = some (.int .i64 s.fin) ∧ w'.cell? ⟨w.heap.size, 10, none⟩ = some (.int .i64 s.sus) ∧ w'.cell? ⟨w.heap.size, 11, none⟩ = some (.int .i64 s.sstart) ∧ w'.cell? ⟨w.heap.size, 12, none⟩ = some (.int .i64 s.sfin)) ∧ w'.cell? ⟨w.heap.size + 1, 0, none⟩ = some (.int .i64 po) ∧ w'.cell? ⟨w.heap.size + 1, 1, none⟩ = some (.int .i64 fr) ∧ w'.cell? ⟨w.heap.size + 1, 2, none⟩ = some (.bool bk) ∧ w'.cell? ⟨w.heap.size + 1, 3, none⟩ = some (.bool dn))
    (first | with_reducible exact hg | with_reducible exact own2_x hgA | with_reducible exact own2_x hgB | with_reducible exact own2_store hgB ne1 ne2)
    (first | (go_at_call 50; ((with_reducible refine (HRt.out _).mono ?_); rintro x wA ⟨rfl, hbA⟩; have hgA := Own2.kept (w := w2.drew) HO2.out hbA; have HRA := Lib.hid (Res.kept (w := w2.drew) HR2.out hbA))) | (go_at_call 51; ((with_reducible refine (HMv.out _).mono ?_); rintro x wB ⟨⟨qp, qf, qb, qd, rfl, HC⟩, hbB⟩; have hgB := hgA.kept hbB; obtain ⟨⟨r0, r1, r2, r3⟩, ⟨f0, f1, f2, f3⟩⟩ := HRA.out.kept hbB)))
  go_wp2
  exact bodyPost_ret (v := .tuple #[.agg #[.int .i64 qp, .int .i64 qf, .bool qb, .bool qd], .int .i64 0]) (by simp [results, Try.results17, go_sem, r0, r1, r2, r3]) rfl ⟨⟨_, _, _, _, rfl, HC⟩, end3 _ _ _ _ ((hs1.trans (hbA.mono hs2)).trans (hbB.mono (by have := hbA.size; simp at this; omega)))⟩
set_option maxHeartbeats 800000 in
theorem p_Move_ok1 (s : Sm.Smp) (p : Option Addr) (cap : Nat) (po fr st : Int) (bk dn h : Bool) (w : World) (hm : s.name.size ≤ maxLen) (hd : DatAt w p s.dat) (hv : Sm.vld s = true) (hs : std s.dat.length po fr bk dn = true) (s1 : 0 ≤ st) (s2 : st ≤ 268435456) {s0 e0 : Int} (HK : Hid (Sm.rk s h = 1 ∧ Sm.rs s h = s0 ∧ Sm.re s h = e0)) :
    Calls Try.prog 17 #[SV s p cap, .agg #[.int .i64 po, .int .i64 fr, .bool bk, .bool dn], .int .i64 st, .bool h] w fun x w' => RetCurE (Sm.gone 1 (65536 * s0) (65536 * e0) (65536 * s.dat.length) ⟨po, fr, bk, dn⟩ st) 0 x ∧ Below w.heap.size w w' := by
  have hl : (s.dat.length : Int) ≤ 4096 := vld_len hv
  have hq := ring_ok hv h
  rw [HK.out.1, HK.out.2.1, HK.out.2.2] at hq
  obtain ⟨_, hk, q1, q2, q3, q4⟩ := hq
  have hrr : Sm.Ring 1 (65536 * s0) (65536 * e0) (65536 * s.dat.length) := ⟨by omega, by omega, by omega⟩
  have hcc := stand_ok hs s1 (by omega) q1 q2 q3 q4
  have hcc' : dn = true ∨ (0 ≤ po ∧ po ≤ 4095 ∧ 0 ≤ fr ∧ fr ≤ 65535 ∧ po * 65536 + fr < 65536 * s.dat.length) := hcc.imp id fun h => ⟨h.1, by have := h.2.1; omega, h.2.2.1, h.2.2.2.1, by have := h.2.1; have := h.2.2.2.1; omega⟩
  have HRt := Lib.hid (fun w => p_route_1 s p cap h w HK hl q1 (by omega) (by omega) (by omega))
  have HMv := Lib.hid (fun w => p_mv1 (65536 * s.dat.length) (65536 * s0) (65536 * e0) po fr st bk dn w hrr (by omega) hcc' s1 (by omega))
  clear hk hrr hcc hcc'
  unfold SV at HRt
  unfold SV
  go_enter Try.func17, Try.ntmps17
  go_wp2_with (first | (go_at_call 13; refine (p_valid_v s p cap _ hm (hd.below (below3 w s p cap po fr bk dn)) hv).mono ?_; rintro x w1 ⟨rfl, hb1⟩; have HO1 := Lib.hid ((own2_of3 w s p cap po fr bk dn).kept hb1); have HR1 := Lib.hid ((res_of3 w s p cap po fr bk dn).kept hb1); obtain ⟨⟨x0, x1, x2, x3, x4, x5, x6, x7, x8, x9, x10, x11, x12⟩, c2, c3, c4, c5⟩ := HO1.out; obtain ⟨⟨r0, r1, r2, r3⟩, ⟨f0, f1, f2, f3⟩⟩ := HR1.out) | (go_at_call 49; refine (p_vcur_v _ po fr bk dn _ (by omega) (by omega) hs).mono ?_; rintro x w2 ⟨rfl, hb2⟩; have HO2 := Lib.hid (HO1.out.kept hb2); have HR2 := Lib.hid (HR1.out.kept hb2); obtain ⟨⟨x0, x1, x2, x3, x4, x5, x6, x7, x8, x9, x10, x11, x12⟩, c2, c3, c4, c5⟩ := HO2.out; obtain ⟨⟨r0, r1, r2, r3⟩, ⟨f0, f1, f2, f3⟩⟩ := HR2.out) | (go_at_call 39; ((with_reducible refine (p_within_yes _ _ _ _ s1 s2).mono ?_); rintro x w' ⟨rfl, rfl⟩)))
  have HWb := Lib.hid ((below3 w s p cap po fr bk dn).trans ((hb1.mono (by simp; omega)).trans (hb2.mono (by have := hb1.size; simp at this; omega))))
  clear r0 r1 r2 r3 f0 f1 f2 f3 x0 x1 x2 x3 x4 x5 x6 x7 x8 x9 x10 x11 x12 c2 c3 c4 c5 hb1 hb2
  have hg := own2_x (w := w2.drew) HO2.out
  have hs1 := HWb.out.drew
  have hs2 := HWb.out.size
  have ne1 : w.heap.size ≠ w.heap.size + 2 := by omega
  have ne2 : w.heap.size + 1 ≠ w.heap.size + 2 := by omega
  go_region_held3 (fun w' => (w'.cell? ⟨w.heap.size, 0, none⟩ = some (.string s.name) ∧ w'.cell? ⟨w.heap.size, 1, none⟩ = some (.slice p s.dat.length cap) ∧ w'.cell? ⟨w.heap.size, 2, none⟩ = some (.int .i64 s.bits) ∧ w'.cell? ⟨w.heap.size, 3, none⟩ = some (.int .i64 s.rate) ∧ w'.cell? ⟨w.heap.size, 4, none⟩ = some (.int .i64 s.vol) ∧ w'.cell? ⟨w.heap.size, 5, none⟩ = some (.int .i64 s.pan) ∧ w'.cell? ⟨w.heap.size, 6, none⟩ = some (.int .i64 s.fine) ∧ w'.cell? ⟨w.heap.size, 7, none⟩ = some (.int .i64 s.loop) ∧ w'.cell? ⟨w.heap.size, 8, none⟩ = some (.int .i64 s.start) ∧ w'.cell? ⟨w.heap.size, 9, none⟩ = some (.int .i64 s.fin) ∧ w'.cell? ⟨w.heap.size, 10, none⟩ = some (.int .i64 s.sus) ∧ w'.cell? ⟨w.heap.size, 11, none⟩ = some (.int .i64 s.sstart) ∧ w'.cell? ⟨w.heap.size, 12, none⟩ = some (.int .i64 s.sfin)) ∧ w'.cell? ⟨w.heap.size + 1, 0, none⟩ = some (.int .i64 po) ∧ w'.cell? ⟨w.heap.size + 1, 1, none⟩ = some (.int .i64 fr) ∧ w'.cell? ⟨w.heap.size + 1, 2, none⟩ = some (.bool bk) ∧ w'.cell? ⟨w.heap.size + 1, 3, none⟩ = some (.bool dn))
    (first | with_reducible exact hg | with_reducible exact own2_x hgA | with_reducible exact own2_x hgB | with_reducible exact own2_store hgB ne1 ne2)
    (first | (go_at_call 50; ((with_reducible refine (HRt.out _).mono ?_); rintro x wA ⟨rfl, hbA⟩; have hgA := Own2.kept (w := w2.drew) HO2.out hbA; have HRA := Lib.hid (Res.kept (w := w2.drew) HR2.out hbA))) | (go_at_call 51; ((with_reducible refine (HMv.out _).mono ?_); rintro x wB ⟨⟨qp, qf, qb, qd, rfl, HC⟩, hbB⟩; have hgB := hgA.kept hbB; obtain ⟨⟨r0, r1, r2, r3⟩, ⟨f0, f1, f2, f3⟩⟩ := HRA.out.kept hbB)))
  go_wp2
  exact bodyPost_ret (v := .tuple #[.agg #[.int .i64 qp, .int .i64 qf, .bool qb, .bool qd], .int .i64 0]) (by simp [results, Try.results17, go_sem, r0, r1, r2, r3]) rfl ⟨⟨_, _, _, _, rfl, HC⟩, end3 _ _ _ _ ((hs1.trans (hbA.mono hs2)).trans (hbB.mono (by have := hbA.size; simp at this; omega)))⟩
set_option maxHeartbeats 800000 in
theorem p_Move_ok2 (s : Sm.Smp) (p : Option Addr) (cap : Nat) (po fr st : Int) (bk dn h : Bool) (w : World) (hm : s.name.size ≤ maxLen) (hd : DatAt w p s.dat) (hv : Sm.vld s = true) (hs : std s.dat.length po fr bk dn = true) (s1 : 0 ≤ st) (s2 : st ≤ 268435456) {s0 e0 : Int} (HK : Hid (Sm.rk s h = 2 ∧ Sm.rs s h = s0 ∧ Sm.re s h = e0)) :
    Calls Try.prog 17 #[SV s p cap, .agg #[.int .i64 po, .int .i64 fr, .bool bk, .bool dn], .int .i64 st, .bool h] w fun x w' => RetCurE (Sm.gone 2 (65536 * s0) (65536 * e0) (65536 * s.dat.length) ⟨po, fr, bk, dn⟩ st) 0 x ∧ Below w.heap.size w w' := by
  have hl : (s.dat.length : Int) ≤ 4096 := vld_len hv
  have hq := ring_ok hv h
  rw [HK.out.1, HK.out.2.1, HK.out.2.2] at hq
  obtain ⟨_, hk, q1, q2, q3, q4⟩ := hq
  have hrr : Sm.Ring 2 (65536 * s0) (65536 * e0) (65536 * s.dat.length) := ⟨by omega, by omega, by omega⟩
  have hcc := stand_ok hs s1 (by omega) q1 q2 q3 q4
  have hcc' : dn = true ∨ (0 ≤ po ∧ po ≤ 4095 ∧ 0 ≤ fr ∧ fr ≤ 65535 ∧ po * 65536 + fr < 65536 * s.dat.length) := hcc.imp id fun h => ⟨h.1, by have := h.2.1; omega, h.2.2.1, h.2.2.2.1, by have := h.2.1; have := h.2.2.2.1; omega⟩
  have HRt := Lib.hid (fun w => p_route_2 s p cap h w HK hl q1 (by omega) (by omega) (by omega))
  have HMv := Lib.hid (fun w => p_mv2 (65536 * s.dat.length) (65536 * s0) (65536 * e0) po fr st bk dn w hrr (by omega) hcc' s1 (by omega))
  clear hk hrr hcc hcc'
  unfold SV at HRt
  unfold SV
  go_enter Try.func17, Try.ntmps17
  go_wp2_with (first | (go_at_call 13; refine (p_valid_v s p cap _ hm (hd.below (below3 w s p cap po fr bk dn)) hv).mono ?_; rintro x w1 ⟨rfl, hb1⟩; have HO1 := Lib.hid ((own2_of3 w s p cap po fr bk dn).kept hb1); have HR1 := Lib.hid ((res_of3 w s p cap po fr bk dn).kept hb1); obtain ⟨⟨x0, x1, x2, x3, x4, x5, x6, x7, x8, x9, x10, x11, x12⟩, c2, c3, c4, c5⟩ := HO1.out; obtain ⟨⟨r0, r1, r2, r3⟩, ⟨f0, f1, f2, f3⟩⟩ := HR1.out) | (go_at_call 49; refine (p_vcur_v _ po fr bk dn _ (by omega) (by omega) hs).mono ?_; rintro x w2 ⟨rfl, hb2⟩; have HO2 := Lib.hid (HO1.out.kept hb2); have HR2 := Lib.hid (HR1.out.kept hb2); obtain ⟨⟨x0, x1, x2, x3, x4, x5, x6, x7, x8, x9, x10, x11, x12⟩, c2, c3, c4, c5⟩ := HO2.out; obtain ⟨⟨r0, r1, r2, r3⟩, ⟨f0, f1, f2, f3⟩⟩ := HR2.out) | (go_at_call 39; ((with_reducible refine (p_within_yes _ _ _ _ s1 s2).mono ?_); rintro x w' ⟨rfl, rfl⟩)))
  have HWb := Lib.hid ((below3 w s p cap po fr bk dn).trans ((hb1.mono (by simp; omega)).trans (hb2.mono (by have := hb1.size; simp at this; omega))))
  clear r0 r1 r2 r3 f0 f1 f2 f3 x0 x1 x2 x3 x4 x5 x6 x7 x8 x9 x10 x11 x12 c2 c3 c4 c5 hb1 hb2
  have hg := own2_x (w := w2.drew) HO2.out
  have hs1 := HWb.out.drew
  have hs2 := HWb.out.size
  have ne1 : w.heap.size ≠ w.heap.size + 2 := by omega
  have ne2 : w.heap.size + 1 ≠ w.heap.size + 2 := by omega
  go_region_held3 (fun w' => (w'.cell? ⟨w.heap.size, 0, none⟩ = some (.string s.name) ∧ w'.cell? ⟨w.heap.size, 1, none⟩ = some (.slice p s.dat.length cap) ∧ w'.cell? ⟨w.heap.size, 2, none⟩ = some (.int .i64 s.bits) ∧ w'.cell? ⟨w.heap.size, 3, none⟩ = some (.int .i64 s.rate) ∧ w'.cell? ⟨w.heap.size, 4, none⟩ = some (.int .i64 s.vol) ∧ w'.cell? ⟨w.heap.size, 5, none⟩ = some (.int .i64 s.pan) ∧ w'.cell? ⟨w.heap.size, 6, none⟩ = some (.int .i64 s.fine) ∧ w'.cell? ⟨w.heap.size, 7, none⟩ = some (.int .i64 s.loop) ∧ w'.cell? ⟨w.heap.size, 8, none⟩ = some (.int .i64 s.start) ∧ w'.cell? ⟨w.heap.size, 9, none⟩ = some (.int .i64 s.fin) ∧ w'.cell? ⟨w.heap.size, 10, none⟩ = some (.int .i64 s.sus) ∧ w'.cell? ⟨w.heap.size, 11, none⟩ = some (.int .i64 s.sstart) ∧ w'.cell? ⟨w.heap.size, 12, none⟩ = some (.int .i64 s.sfin)) ∧ w'.cell? ⟨w.heap.size + 1, 0, none⟩ = some (.int .i64 po) ∧ w'.cell? ⟨w.heap.size + 1, 1, none⟩ = some (.int .i64 fr) ∧ w'.cell? ⟨w.heap.size + 1, 2, none⟩ = some (.bool bk) ∧ w'.cell? ⟨w.heap.size + 1, 3, none⟩ = some (.bool dn))
    (first | with_reducible exact hg | with_reducible exact own2_x hgA | with_reducible exact own2_x hgB | with_reducible exact own2_store hgB ne1 ne2)
    (first | (go_at_call 50; ((with_reducible refine (HRt.out _).mono ?_); rintro x wA ⟨rfl, hbA⟩; have hgA := Own2.kept (w := w2.drew) HO2.out hbA; have HRA := Lib.hid (Res.kept (w := w2.drew) HR2.out hbA))) | (go_at_call 51; ((with_reducible refine (HMv.out _).mono ?_); rintro x wB ⟨⟨qp, qf, qb, qd, rfl, HC⟩, hbB⟩; have hgB := hgA.kept hbB; obtain ⟨⟨r0, r1, r2, r3⟩, ⟨f0, f1, f2, f3⟩⟩ := HRA.out.kept hbB)))
  go_wp2
  exact bodyPost_ret (v := .tuple #[.agg #[.int .i64 qp, .int .i64 qf, .bool qb, .bool qd], .int .i64 0]) (by simp [results, Try.results17, go_sem, r0, r1, r2, r3]) rfl ⟨⟨_, _, _, _, rfl, HC⟩, end3 _ _ _ _ ((hs1.trans (hbA.mono hs2)).trans (hbB.mono (by have := hbA.size; simp at this; omega)))⟩
end Go.Proofs.Ytmaldhjcdkidmaa

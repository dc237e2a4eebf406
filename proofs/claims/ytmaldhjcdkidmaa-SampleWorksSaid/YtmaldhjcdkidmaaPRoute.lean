/-
  Contracts of package sample's routeOf: the route through a sample, by the loop that applies; nothing that was there is changed.
-/
import Derived.Test.YtmaldhjcdkidmaaPAppl
import Derived.Deep.RegionHeld3
import Derived.Outline
namespace Go.Proofs.Ytmaldhjcdkidmaa
open Go.RowKit

/-- A route's five cells, still zero. -/
def Res5 (w : World) (b : Nat) : Prop :=
  (w.cell? ⟨b, 0, none⟩ = some (.int .i64 0) ∧ w.cell? ⟨b, 1, none⟩ = some (.int .i64 0) ∧ w.cell? ⟨b, 2, none⟩ = some (.int .i64 0) ∧ w.cell? ⟨b, 3, none⟩ = some .nilFunc ∧ w.cell? ⟨b, 4, none⟩ = some .nilFunc) ∧
  (w.frozen? ⟨b, 0, none⟩ = false ∧ w.frozen? ⟨b, 1, none⟩ = false ∧ w.frozen? ⟨b, 2, none⟩ = false ∧ w.frozen? ⟨b, 3, none⟩ = false ∧ w.frozen? ⟨b, 4, none⟩ = false)
theorem Res5.kept {w w' : World} {b : Nat} (h : Res5 w b) (hb : Below w.heap.size w w') : Res5 w' b := by
  obtain ⟨⟨r0, r1, r2, r3, r4⟩, ⟨f0, f1, f2, f3, f4⟩⟩ := h
  refine ⟨⟨kept_cell hb r0, kept_cell hb r1, kept_cell hb r2, kept_cell hb r3, kept_cell hb r4⟩, ?_, ?_, ?_, ?_, ?_⟩
  · rw [hb.frozen (cell_lt r0)]; exact f0
  · rw [hb.frozen (cell_lt r1)]; exact f1
  · rw [hb.frozen (cell_lt r2)]; exact f2
  · rw [hb.frozen (cell_lt r3)]; exact f3
  · rw [hb.frozen (cell_lt r4)]; exact f4
theorem res5_new (w : World) (s : Sm.Smp) (p : Option Addr) (cap : Nat) : Res5 ((w.alloc (.cells #[.string s.name, .slice p s.dat.length cap, .int .i64 s.bits, .int .i64 s.rate, .int .i64 s.vol, .int .i64 s.pan, .int .i64 s.fine, .int .i64 s.loop, .int .i64 s.start, .int .i64 s.fin, .int .i64 s.sus, .int .i64 s.sstart, .int .i64 s.sfin] 24)).alloc (.cells #[.int .i64 0, .int .i64 0, .int .i64 0, .nilFunc, .nilFunc] 70)) (w.heap.size + 1) := by
  refine ⟨⟨?_, ?_, ?_, ?_, ?_⟩, ⟨?_, ?_, ?_, ?_, ?_⟩⟩ <;> go_simp
theorem below2r (w : World) (s : Sm.Smp) (p : Option Addr) (cap : Nat) : Below w.heap.size w ((w.alloc (.cells #[.string s.name, .slice p s.dat.length cap, .int .i64 s.bits, .int .i64 s.rate, .int .i64 s.vol, .int .i64 s.pan, .int .i64 s.fine, .int .i64 s.loop, .int .i64 s.start, .int .i64 s.fin, .int .i64 s.sus, .int .i64 s.sstart, .int .i64 s.sfin] 24)).alloc (.cells #[.int .i64 0, .int .i64 0, .int .i64 0, .nilFunc, .nilFunc] 70)) :=
  ((Below.refl _ _).alloc (Nat.le_refl _) _).alloc (by simp) _
theorem slice_new (w : World) (s : Sm.Smp) (p : Option Addr) (cap : Nat) : ((w.alloc (.cells #[.string s.name, .slice p s.dat.length cap, .int .i64 s.bits, .int .i64 s.rate, .int .i64 s.vol, .int .i64 s.pan, .int .i64 s.fine, .int .i64 s.loop, .int .i64 s.start, .int .i64 s.fin, .int .i64 s.sus, .int .i64 s.sstart, .int .i64 s.sfin] 24)).alloc (.cells #[.int .i64 0, .int .i64 0, .int .i64 0, .nilFunc, .nilFunc] 70)).cell? ⟨w.heap.size, 1, none⟩ = some (.slice p s.dat.length cap) := by go_simp
theorem end2r {w w' : World} (a b c d e : Value) (hb : Below w.heap.size w w') :
    Below w.heap.size w (((((w'.setCell ⟨w.heap.size + 1, 0, none⟩ a).setCell ⟨w.heap.size + 1, 1, none⟩ b).setCell ⟨w.heap.size + 1, 2, none⟩ c).setCell ⟨w.heap.size + 1, 3, none⟩ d).setCell ⟨w.heap.size + 1, 4, none⟩ e) :=
  ((((hb.setCell (by simp) _).setCell (by simp) _).setCell (by simp) _).setCell (by simp) _).setCell (by simp) _
/-- What routeOf's region reads: the frames' slice, the loop. -/
def Rd (w : World) (b b2 n cap : Nat) (p : Option Addr) (k s0 e0 : Int) : Prop :=
  w.cell? ⟨b, 1, none⟩ = some (.slice p n cap) ∧ w.cell? ⟨b2, 0, none⟩ = some (.int .i64 k) ∧ w.cell? ⟨b2, 1, none⟩ = some (.int .i64 s0) ∧ w.cell? ⟨b2, 2, none⟩ = some (.int .i64 e0)
theorem Rd.kept {w w' : World} {b b2 n cap : Nat} {p : Option Addr} {k s0 e0 : Int} (h : Rd w b b2 n cap p k s0 e0) (hb : Below w.heap.size w w') : Rd w' b b2 n cap p k s0 e0 :=
  ⟨kept_cell hb h.1, kept_cell hb h.2.1, kept_cell hb h.2.2.1, kept_cell hb h.2.2.2⟩
theorem Rd.drew {w : World} {b b2 n cap : Nat} {p : Option Addr} {k s0 e0 : Int} (h : Rd w b b2 n cap p k s0 e0) : Rd w.drew b b2 n cap p k s0 e0 := h
theorem Rd.store {w : World} {b b2 n cap : Nat} {p : Option Addr} {k s0 e0 : Int} (h : Rd w b b2 n cap p k s0 e0) {r : Nat} (h1 : b ≠ r) (h2 : b2 ≠ r) (j : Nat) (v : Value) : Rd (w.setCell ⟨r, j, none⟩ v) b b2 n cap p k s0 e0 := by
  have e1 : ∀ i, (w.setCell ⟨r, j, none⟩ v).cell? ⟨b, i, none⟩ = w.cell? ⟨b, i, none⟩ := fun i => World.cell?_setCell_other _ _ _ _ (fun h => h1 (congrArg Addr.block h).symm)
  have e2 : ∀ i, (w.setCell ⟨r, j, none⟩ v).cell? ⟨b2, i, none⟩ = w.cell? ⟨b2, i, none⟩ := fun i => World.cell?_setCell_other _ _ _ _ (fun h => h2 (congrArg Addr.block h).symm)
  unfold Rd
  rw [e1, e2, e2, e2]
  exact h
theorem rd_store {w : World} {b b2 n cap : Nat} {p : Option Addr} {k s0 e0 : Int} {r : Nat} {v0 v1 v2 v3 v4 : Value} (h : Rd w b b2 n cap p k s0 e0) (h1 : b ≠ r) (h2 : b2 ≠ r) :
    (((((w.setCell ⟨r, 0, none⟩ v0).setCell ⟨r, 1, none⟩ v1).setCell ⟨r, 2, none⟩ v2).setCell ⟨r, 3, none⟩ v3).setCell ⟨r, 4, none⟩ v4).cell? ⟨b, 1, none⟩ = some (.slice p n cap) ∧ (((((w.setCell ⟨r, 0, none⟩ v0).setCell ⟨r, 1, none⟩ v1).setCell ⟨r, 2, none⟩ v2).setCell ⟨r, 3, none⟩ v3).setCell ⟨r, 4, none⟩ v4).cell? ⟨b2, 0, none⟩ = some (.int .i64 k) ∧ (((((w.setCell ⟨r, 0, none⟩ v0).setCell ⟨r, 1, none⟩ v1).setCell ⟨r, 2, none⟩ v2).setCell ⟨r, 3, none⟩ v3).setCell ⟨r, 4, none⟩ v4).cell? ⟨b2, 1, none⟩ = some (.int .i64 s0) ∧ (((((w.setCell ⟨r, 0, none⟩ v0).setCell ⟨r, 1, none⟩ v1).setCell ⟨r, 2, none⟩ v2).setCell ⟨r, 3, none⟩ v3).setCell ⟨r, 4, none⟩ v4).cell? ⟨b2, 2, none⟩ = some (.int .i64 e0) :=
  ((((h.store h1 h2 _ _).store h1 h2 _ _).store h1 h2 _ _).store h1 h2 _ _).store h1 h2 _ _
set_option maxHeartbeats 800000 in
theorem p_route_0 (s : Sm.Smp) (p : Option Addr) (cap : Nat) (h : Bool) (w : World) {s0 e0 : Int} (HK : Hid (Sm.rk s h = 0 ∧ Sm.rs s h = s0 ∧ Sm.re s h = e0)) (hn : (s.dat.length : Int) ≤ 4096) (h0 : 0 ≤ s0) (h1 : s0 ≤ 4096) (h2 : 0 ≤ e0) (h3 : e0 ≤ 4096) :
    Calls Try.prog 50 #[SV s p cap, .bool h] w fun x w' => x = .returned (.agg #[.int .i64 (65536 * s.dat.length), .int .i64 (65536 * s0), .int .i64 (65536 * e0), .func (.func 74) #[] #[], .func (.func 75) #[] #[]]) ∧ Below w.heap.size w w' := by
  unfold SV
  go_enter Try.func50, Try.ntmps50
  go_wp2_with (first | (go_at_call 35; refine (p_applying s p cap h _ HK).mono ?_; rintro x w1 ⟨rfl, hb1⟩))
  obtain ⟨W, hW⟩ : ∃ W, W = w1.alloc (.cells #[.int .i64 0, .int .i64 s0, .int .i64 e0] 51) := ⟨_, rfl⟩
  obtain ⟨b2, hb2⟩ : ∃ b2, b2 = w1.heap.size := ⟨_, rfl⟩
  have hlt : w.heap.size + 2 ≤ b2 := by have := hb1.size; simp at this; omega
  have HW := Lib.hid (below2r w s p cap |>.trans (((hb1.mono (by simp; omega)).alloc (by have := hb1.size; simp at *; omega) (.cells #[.int .i64 0, .int .i64 s0, .int .i64 e0] 51))))
  have HR := Lib.hid ((((res5_new w s p cap).kept hb1).kept (below_box w1 (.cells #[.int .i64 0, .int .i64 s0, .int .i64 e0] 51))))
  have HD := Lib.hid (show Rd (w1.alloc (.cells #[.int .i64 0, .int .i64 s0, .int .i64 e0] 51)) w.heap.size w1.heap.size s.dat.length cap p 0 s0 e0 from ⟨kept_cell (below_box w1 _) (kept_cell hb1 (slice_new w s p cap)), by simp [World.cell?_alloc_new], by simp [World.cell?_alloc_new], by simp [World.cell?_alloc_new]⟩)
  rw [← hW] at HW HR HD
  rw [← hb2] at HD
  rw [← hW, ← hb2]
  clear hW hb2 hb1
  have hg := HD.out.drew
  unfold Rd at hg
  have hs1 := HW.out.drew
  have hs2 := HW.out.size
  have ne1 : w.heap.size ≠ w.heap.size + 1 := by omega
  have ne2 : b2 ≠ w.heap.size + 1 := by omega
  have q1 : IntKind.i64.wrap (65536 * (s.dat.length : Int)) = 65536 * (s.dat.length : Int) := IntWalk.i64_in _ (by omega)
  have q2 : IntKind.i64.wrap (65536 * s0) = 65536 * s0 := IntWalk.i64_in _ (by omega)
  have q3 : IntKind.i64.wrap (65536 * e0) = 65536 * e0 := IntWalk.i64_in _ (by omega)
  have hix : ∀ w, (Instr.index 87 (.agg #[.func (.func 74) #[] #[], .func (.func 75) #[] #[], .func (.func 76) #[] #[], .func (.func 77) #[] #[], .func (.func 78) #[] #[], .func (.func 79) #[] #[]]) (.int .i64 0)).run Try.prog w = .ok (.agg #[.func (.func 74) #[] #[], .func (.func 75) #[] #[]]) w := fun _ => by kernel_rfl
  go_region_held3 (fun w' => w'.cell? ⟨w.heap.size, 1, none⟩ = some (.slice p s.dat.length cap) ∧ w'.cell? ⟨b2, 0, none⟩ = some (.int .i64 0) ∧ w'.cell? ⟨b2, 1, none⟩ = some (.int .i64 s0) ∧ w'.cell? ⟨b2, 2, none⟩ = some (.int .i64 e0))
    (first | with_reducible exact hg | with_reducible exact hgx | with_reducible exact rd_store hg' ne1 ne2)
    (first | (go_at_call 70; ((with_reducible refine (p_courses _).mono ?_); rintro x w' ⟨rfl, hb'⟩; have hg' := HD.out.drew.kept hb'; have hgx := id hg'; unfold Rd at hgx; obtain ⟨⟨r0, r1, r2, r3, r4⟩, ⟨f0, f1, f2, f3, f4⟩⟩ := Res5.kept (w := W.drew) HR.out hb')))
  go_wp2
  exact bodyPost_ret (v := .agg #[.int .i64 (65536 * s.dat.length), .int .i64 (65536 * s0), .int .i64 (65536 * e0), .func (.func 74) #[] #[], .func (.func 75) #[] #[]]) (by simp [results, Try.results50, go_sem, r0, r1, r2, r3, r4]) rfl ⟨rfl, end2r _ _ _ _ _ (hs1.trans (hb'.mono hs2))⟩
set_option maxHeartbeats 800000 in
theorem p_route_1 (s : Sm.Smp) (p : Option Addr) (cap : Nat) (h : Bool) (w : World) {s0 e0 : Int} (HK : Hid (Sm.rk s h = 1 ∧ Sm.rs s h = s0 ∧ Sm.re s h = e0)) (hn : (s.dat.length : Int) ≤ 4096) (h0 : 0 ≤ s0) (h1 : s0 ≤ 4096) (h2 : 0 ≤ e0) (h3 : e0 ≤ 4096) :
    Calls Try.prog 50 #[SV s p cap, .bool h] w fun x w' => x = .returned (.agg #[.int .i64 (65536 * s.dat.length), .int .i64 (65536 * s0), .int .i64 (65536 * e0), .func (.func 76) #[] #[], .func (.func 77) #[] #[]]) ∧ Below w.heap.size w w' := by
  unfold SV
  go_enter Try.func50, Try.ntmps50
  go_wp2_with (first | (go_at_call 35; refine (p_applying s p cap h _ HK).mono ?_; rintro x w1 ⟨rfl, hb1⟩))
  obtain ⟨W, hW⟩ : ∃ W, W = w1.alloc (.cells #[.int .i64 1, .int .i64 s0, .int .i64 e0] 51) := ⟨_, rfl⟩
  obtain ⟨b2, hb2⟩ : ∃ b2, b2 = w1.heap.size := ⟨_, rfl⟩
  have hlt : w.heap.size + 2 ≤ b2 := by have := hb1.size; simp at this; omega
  have HW := Lib.hid (below2r w s p cap |>.trans (((hb1.mono (by simp; omega)).alloc (by have := hb1.size; simp at *; omega) (.cells #[.int .i64 1, .int .i64 s0, .int .i64 e0] 51))))
  have HR := Lib.hid ((((res5_new w s p cap).kept hb1).kept (below_box w1 (.cells #[.int .i64 1, .int .i64 s0, .int .i64 e0] 51))))
  have HD := Lib.hid (show Rd (w1.alloc (.cells #[.int .i64 1, .int .i64 s0, .int .i64 e0] 51)) w.heap.size w1.heap.size s.dat.length cap p 1 s0 e0 from ⟨kept_cell (below_box w1 _) (kept_cell hb1 (slice_new w s p cap)), by simp [World.cell?_alloc_new], by simp [World.cell?_alloc_new], by simp [World.cell?_alloc_new]⟩)
  rw [← hW] at HW HR HD
  rw [← hb2] at HD
  rw [← hW, ← hb2]
  clear hW hb2 hb1
  have hg := HD.out.drew
  unfold Rd at hg
  have hs1 := HW.out.drew
  have hs2 := HW.out.size
  have ne1 : w.heap.size ≠ w.heap.size + 1 := by omega
  have ne2 : b2 ≠ w.heap.size + 1 := by omega
  have q1 : IntKind.i64.wrap (65536 * (s.dat.length : Int)) = 65536 * (s.dat.length : Int) := IntWalk.i64_in _ (by omega)
  have q2 : IntKind.i64.wrap (65536 * s0) = 65536 * s0 := IntWalk.i64_in _ (by omega)
  have q3 : IntKind.i64.wrap (65536 * e0) = 65536 * e0 := IntWalk.i64_in _ (by omega)
  have hix : ∀ w, (Instr.index 87 (.agg #[.func (.func 74) #[] #[], .func (.func 75) #[] #[], .func (.func 76) #[] #[], .func (.func 77) #[] #[], .func (.func 78) #[] #[], .func (.func 79) #[] #[]]) (.int .i64 1)).run Try.prog w = .ok (.agg #[.func (.func 76) #[] #[], .func (.func 77) #[] #[]]) w := fun _ => by kernel_rfl
  go_region_held3 (fun w' => w'.cell? ⟨w.heap.size, 1, none⟩ = some (.slice p s.dat.length cap) ∧ w'.cell? ⟨b2, 0, none⟩ = some (.int .i64 1) ∧ w'.cell? ⟨b2, 1, none⟩ = some (.int .i64 s0) ∧ w'.cell? ⟨b2, 2, none⟩ = some (.int .i64 e0))
    (first | with_reducible exact hg | with_reducible exact hgx | with_reducible exact rd_store hg' ne1 ne2)
    (first | (go_at_call 70; ((with_reducible refine (p_courses _).mono ?_); rintro x w' ⟨rfl, hb'⟩; have hg' := HD.out.drew.kept hb'; have hgx := id hg'; unfold Rd at hgx; obtain ⟨⟨r0, r1, r2, r3, r4⟩, ⟨f0, f1, f2, f3, f4⟩⟩ := Res5.kept (w := W.drew) HR.out hb')))
  go_wp2
  exact bodyPost_ret (v := .agg #[.int .i64 (65536 * s.dat.length), .int .i64 (65536 * s0), .int .i64 (65536 * e0), .func (.func 76) #[] #[], .func (.func 77) #[] #[]]) (by simp [results, Try.results50, go_sem, r0, r1, r2, r3, r4]) rfl ⟨rfl, end2r _ _ _ _ _ (hs1.trans (hb'.mono hs2))⟩
set_option maxHeartbeats 800000 in
theorem p_route_2 (s : Sm.Smp) (p : Option Addr) (cap : Nat) (h : Bool) (w : World) {s0 e0 : Int} (HK : Hid (Sm.rk s h = 2 ∧ Sm.rs s h = s0 ∧ Sm.re s h = e0)) (hn : (s.dat.length : Int) ≤ 4096) (h0 : 0 ≤ s0) (h1 : s0 ≤ 4096) (h2 : 0 ≤ e0) (h3 : e0 ≤ 4096) :
    Calls Try.prog 50 #[SV s p cap, .bool h] w fun x w' => x = .returned (.agg #[.int .i64 (65536 * s.dat.length), .int .i64 (65536 * s0), .int .i64 (65536 * e0), .func (.func 78) #[] #[], .func (.func 79) #[] #[]]) ∧ Below w.heap.size w w' := by
  unfold SV
  go_enter Try.func50, Try.ntmps50
  go_wp2_with (first | (go_at_call 35; refine (p_applying s p cap h _ HK).mono ?_; rintro x w1 ⟨rfl, hb1⟩))
  obtain ⟨W, hW⟩ : ∃ W, W = w1.alloc (.cells #[.int .i64 2, .int .i64 s0, .int .i64 e0] 51) := ⟨_, rfl⟩
  obtain ⟨b2, hb2⟩ : ∃ b2, b2 = w1.heap.size := ⟨_, rfl⟩
  have hlt : w.heap.size + 2 ≤ b2 := by have := hb1.size; simp at this; omega
  have HW := Lib.hid (below2r w s p cap |>.trans (((hb1.mono (by simp; omega)).alloc (by have := hb1.size; simp at *; omega) (.cells #[.int .i64 2, .int .i64 s0, .int .i64 e0] 51))))
  have HR := Lib.hid ((((res5_new w s p cap).kept hb1).kept (below_box w1 (.cells #[.int .i64 2, .int .i64 s0, .int .i64 e0] 51))))
  have HD := Lib.hid (show Rd (w1.alloc (.cells #[.int .i64 2, .int .i64 s0, .int .i64 e0] 51)) w.heap.size w1.heap.size s.dat.length cap p 2 s0 e0 from ⟨kept_cell (below_box w1 _) (kept_cell hb1 (slice_new w s p cap)), by simp [World.cell?_alloc_new], by simp [World.cell?_alloc_new], by simp [World.cell?_alloc_new]⟩)
  rw [← hW] at HW HR HD
  rw [← hb2] at HD
  rw [← hW, ← hb2]
  clear hW hb2 hb1
  have hg := HD.out.drew
  unfold Rd at hg
  have hs1 := HW.out.drew
  have hs2 := HW.out.size
  have ne1 : w.heap.size ≠ w.heap.size + 1 := by omega
  have ne2 : b2 ≠ w.heap.size + 1 := by omega
  have q1 : IntKind.i64.wrap (65536 * (s.dat.length : Int)) = 65536 * (s.dat.length : Int) := IntWalk.i64_in _ (by omega)
  have q2 : IntKind.i64.wrap (65536 * s0) = 65536 * s0 := IntWalk.i64_in _ (by omega)
  have q3 : IntKind.i64.wrap (65536 * e0) = 65536 * e0 := IntWalk.i64_in _ (by omega)
  have hix : ∀ w, (Instr.index 87 (.agg #[.func (.func 74) #[] #[], .func (.func 75) #[] #[], .func (.func 76) #[] #[], .func (.func 77) #[] #[], .func (.func 78) #[] #[], .func (.func 79) #[] #[]]) (.int .i64 2)).run Try.prog w = .ok (.agg #[.func (.func 78) #[] #[], .func (.func 79) #[] #[]]) w := fun _ => by kernel_rfl
  go_region_held3 (fun w' => w'.cell? ⟨w.heap.size, 1, none⟩ = some (.slice p s.dat.length cap) ∧ w'.cell? ⟨b2, 0, none⟩ = some (.int .i64 2) ∧ w'.cell? ⟨b2, 1, none⟩ = some (.int .i64 s0) ∧ w'.cell? ⟨b2, 2, none⟩ = some (.int .i64 e0))
    (first | with_reducible exact hg | with_reducible exact hgx | with_reducible exact rd_store hg' ne1 ne2)
    (first | (go_at_call 70; ((with_reducible refine (p_courses _).mono ?_); rintro x w' ⟨rfl, hb'⟩; have hg' := HD.out.drew.kept hb'; have hgx := id hg'; unfold Rd at hgx; obtain ⟨⟨r0, r1, r2, r3, r4⟩, ⟨f0, f1, f2, f3, f4⟩⟩ := Res5.kept (w := W.drew) HR.out hb')))
  go_wp2
  exact bodyPost_ret (v := .agg #[.int .i64 (65536 * s.dat.length), .int .i64 (65536 * s0), .int .i64 (65536 * e0), .func (.func 78) #[] #[], .func (.func 79) #[] #[]]) (by simp [results, Try.results50, go_sem, r0, r1, r2, r3, r4]) rfl ⟨rfl, end2r _ _ _ _ _ (hs1.trans (hb'.mono hs2))⟩
end Go.Proofs.Ytmaldhjcdkidmaa

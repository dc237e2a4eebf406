/-
  Contracts of package sample's applying, Applies and courses: what the call returns; nothing that was there is changed.
-/
import Derived.Test.YtmaldhjcdkidmaaPValid
import Derived.Test.YtmaldhjcdkidmaaPCour
import Derived.Laws.EntriesVeiled
namespace Go.Proofs.Ytmaldhjcdkidmaa
open Go.RowKit

/-- A result's three cells, still zero. -/
def Res3 (w : World) (b : Nat) : Prop :=
  (w.cell? ⟨b, 0, none⟩ = some (.int .i64 0) ∧ w.cell? ⟨b, 1, none⟩ = some (.int .i64 0) ∧ w.cell? ⟨b, 2, none⟩ = some (.int .i64 0)) ∧
  (w.frozen? ⟨b, 0, none⟩ = false ∧ w.frozen? ⟨b, 1, none⟩ = false ∧ w.frozen? ⟨b, 2, none⟩ = false)
theorem Res3.kept {w w' : World} {b : Nat} (h : Res3 w b) (hb : Below w.heap.size w w') : Res3 w' b := by
  obtain ⟨⟨r0, r1, r2⟩, ⟨f0, f1, f2⟩⟩ := h
  refine ⟨⟨kept_cell hb r0, kept_cell hb r1, kept_cell hb r2⟩, ?_, ?_, ?_⟩
  · rw [hb.frozen (cell_lt r0)]; exact f0
  · rw [hb.frozen (cell_lt r1)]; exact f1
  · rw [hb.frozen (cell_lt r2)]; exact f2
theorem res3_new (w : World) (s : Sm.Smp) (p : Option Addr) (cap : Nat) : Res3 ((w.alloc (.cells #[.string s.name, .slice p s.dat.length cap, .int .i64 s.bits, .int .i64 s.rate, .int .i64 s.vol, .int .i64 s.pan, .int .i64 s.fine, .int .i64 s.loop, .int .i64 s.start, .int .i64 s.fin, .int .i64 s.sus, .int .i64 s.sstart, .int .i64 s.sfin] 24)).alloc (.cells #[.int .i64 0, .int .i64 0, .int .i64 0] 51)) (w.heap.size + 1) := by
  refine ⟨⟨?_, ?_, ?_⟩, ⟨?_, ?_, ?_⟩⟩ <;> go_simp
theorem below2l (w : World) (s : Sm.Smp) (p : Option Addr) (cap : Nat) : Below w.heap.size w ((w.alloc (.cells #[.string s.name, .slice p s.dat.length cap, .int .i64 s.bits, .int .i64 s.rate, .int .i64 s.vol, .int .i64 s.pan, .int .i64 s.fine, .int .i64 s.loop, .int .i64 s.start, .int .i64 s.fin, .int .i64 s.sus, .int .i64 s.sstart, .int .i64 s.sfin] 24)).alloc (.cells #[.int .i64 0, .int .i64 0, .int .i64 0] 51)) :=
  ((Below.refl _ _).alloc (Nat.le_refl _) _).alloc (by simp) _
theorem end2l {w w' : World} (a b c : Value) (hb : Below w.heap.size w w') :
    Below w.heap.size w (((w'.setCell ⟨w.heap.size + 1, 0, none⟩ a).setCell ⟨w.heap.size + 1, 1, none⟩ b).setCell ⟨w.heap.size + 1, 2, none⟩ c) :=
  ((hb.setCell (by simp) _).setCell (by simp) _).setCell (by simp) _
theorem ret_loop {a b c a' b' c' : Int} (h1 : a = a') (h2 : b = b') (h3 : c = c') : Ending.returned (.agg #[.int .i64 a, .int .i64 b, .int .i64 c]) = .returned (.agg #[.int .i64 a', .int .i64 b', .int .i64 c']) := by rw [h1, h2, h3]
theorem p_applying_y (s : Sm.Smp) (p : Option Addr) (cap : Nat) (w : World) (hs : s.sus ≠ 0) :
    Calls Try.prog 35 #[SV s p cap, .bool true] w fun x w' => x = .returned (.agg #[.int .i64 s.sus, .int .i64 s.sstart, .int .i64 s.sfin]) ∧ Below w.heap.size w w' := by
  have t : (s.sus != 0) = true := by simp [hs]
  clear hs
  unfold SV
  go_enter Try.func35, Try.ntmps35
  go_wp2_with (first | (go_at_call 42; refine (p_second s p cap _).mono ?_; rintro x w1 ⟨rfl, hb1⟩; obtain ⟨⟨r0, r1, r2⟩, ⟨f0, f1, f2⟩⟩ := (res3_new w s p cap).kept hb1))
  exact bodyPost_ret (v := .agg #[.int .i64 s.sus, .int .i64 s.sstart, .int .i64 s.sfin]) (by simp [results, Try.results35, go_sem, r0, r1, r2]) rfl ⟨rfl, end2l _ _ _ ((below2l w s p cap).trans (hb1.mono (by simp; omega)))⟩
theorem p_applying_z (s : Sm.Smp) (p : Option Addr) (cap : Nat) (w : World) (hs : s.sus = 0) :
    Calls Try.prog 35 #[SV s p cap, .bool true] w fun x w' => x = .returned (.agg #[.int .i64 s.loop, .int .i64 s.start, .int .i64 s.fin]) ∧ Below w.heap.size w w' := by
  have t : (s.sus != 0) = false := by simp [hs]
  clear hs
  unfold SV
  go_enter Try.func35, Try.ntmps35
  go_wp2_with (first | (go_at_call 41; refine (p_first s p cap _).mono ?_; rintro x w1 ⟨rfl, hb1⟩; obtain ⟨⟨r0, r1, r2⟩, ⟨f0, f1, f2⟩⟩ := (res3_new w s p cap).kept hb1))
  exact bodyPost_ret (v := .agg #[.int .i64 s.loop, .int .i64 s.start, .int .i64 s.fin]) (by simp [results, Try.results35, go_sem, r0, r1, r2]) rfl ⟨rfl, end2l _ _ _ ((below2l w s p cap).trans (hb1.mono (by simp; omega)))⟩
theorem p_applying_n (s : Sm.Smp) (p : Option Addr) (cap : Nat) (w : World)  :
    Calls Try.prog 35 #[SV s p cap, .bool false] w fun x w' => x = .returned (.agg #[.int .i64 s.loop, .int .i64 s.start, .int .i64 s.fin]) ∧ Below w.heap.size w w' := by
  unfold SV
  go_enter Try.func35, Try.ntmps35
  go_wp2_with (first | (go_at_call 41; refine (p_first s p cap _).mono ?_; rintro x w1 ⟨rfl, hb1⟩; obtain ⟨⟨r0, r1, r2⟩, ⟨f0, f1, f2⟩⟩ := (res3_new w s p cap).kept hb1))
  exact bodyPost_ret (v := .agg #[.int .i64 s.loop, .int .i64 s.start, .int .i64 s.fin]) (by simp [results, Try.results35, go_sem, r0, r1, r2]) rfl ⟨rfl, end2l _ _ _ ((below2l w s p cap).trans (hb1.mono (by simp; omega)))⟩
theorem p_applying (s : Sm.Smp) (p : Option Addr) (cap : Nat) (h : Bool) (w : World) {k s0 e0 : Int} (HK : Hid (Sm.rk s h = k ∧ Sm.rs s h = s0 ∧ Sm.re s h = e0)) :
    Calls Try.prog 35 #[SV s p cap, .bool h] w fun x w' => x = .returned (.agg #[.int .i64 k, .int .i64 s0, .int .i64 e0]) ∧ Below w.heap.size w w' := by
  obtain ⟨h1, h2, h3⟩ := HK.out
  unfold Sm.rk at h1
  unfold Sm.rs at h2
  unfold Sm.re at h3
  by_cases hh : h = true
  · subst hh
    by_cases hs : s.sus = 0
    · rw [if_neg (by simp [hs])] at h1 h2 h3
      exact (p_applying_z s p cap w hs).mono fun _ _ ⟨he, hb⟩ => ⟨he.trans (ret_loop h1 h2 h3), hb⟩
    · rw [if_pos ⟨rfl, hs⟩] at h1 h2 h3
      exact (p_applying_y s p cap w hs).mono fun _ _ ⟨he, hb⟩ => ⟨he.trans (ret_loop h1 h2 h3), hb⟩
  · obtain rfl : h = false := by simpa using hh
    rw [if_neg (by simp)] at h1 h2 h3
    exact (p_applying_n s p cap w).mono fun _ _ ⟨he, hb⟩ => ⟨he.trans (ret_loop h1 h2 h3), hb⟩
theorem p_applies (s : Sm.Smp) (p : Option Addr) (cap : Nat) (h : Bool) (w : World) (hm : s.name.size ≤ maxLen) (hd : DatAt w p s.dat) (hv : Sm.vld s = true) :
    Calls Try.prog 11 #[SV s p cap, .bool h] w fun x w' => x = .returned (.tuple #[.int .i64 (Sm.rk s h), .int .i64 (Sm.rs s h), .int .i64 (Sm.re s h)]) ∧ Below w.heap.size w w' := by
  unfold SV
  go_enter Try.func11, Try.ntmps11
  go_wp2_with (first | (go_at_call 13; refine (p_valid s p cap _ hm (hd.below (below_box _ _))).mono ?_; rintro x w1 ⟨rfl, hb1⟩; obtain ⟨x0, x1, x2, x3, x4, x5, x6, x7, x8, x9, x10, x11, x12⟩ := ((boxed_new w s p cap 24).below hb1 (by simp))) | (go_at_call 35; refine (p_applying s p cap h _ (hk_refl s h)).mono ?_; rintro x w2 ⟨rfl, hb2⟩))
  go_quiet (fail)
  go_wp2
  go_ret3
  exact ⟨rfl, (below_box _ _).trans ((hb1.mono (by simp)).trans (below_drewN' ((hb2.mono (by have := hb1.size; simp at this; omega)).alloc (by have := hb1.size; have := hb2.size; simp at *; omega) _) _))⟩
theorem p_applies_no (s : Sm.Smp) (p : Option Addr) (cap : Nat) (h : Bool) (w : World) (hm : s.name.size ≤ maxLen) (hd : DatAt w p s.dat) (hv : Sm.vld s = false) :
    Calls Try.prog 11 #[SV s p cap, .bool h] w fun x w' => x = .returned (.tuple #[.int .i64 0, .int .i64 0, .int .i64 0]) ∧ Below w.heap.size w w' := by
  unfold SV
  go_enter Try.func11, Try.ntmps11
  go_wp2_with (first | (go_at_call 13; refine (p_valid s p cap _ hm (hd.below (below_box _ _))).mono ?_; rintro x w1 ⟨rfl, hb1⟩; obtain ⟨x0, x1, x2, x3, x4, x5, x6, x7, x8, x9, x10, x11, x12⟩ := ((boxed_new w s p cap 24).below hb1 (by simp))) | (go_at_call 35; refine (p_applying s p cap h _ (hk_refl s h)).mono ?_; rintro x w2 ⟨rfl, hb2⟩))
  go_ret3
  exact ⟨rfl, (below_box _ _).trans (hb1.mono (by simp))⟩
theorem p_courses (w : World) :
    Calls Try.prog 70 #[] w fun x w' => x = .returned (.agg #[.func (.func 74) #[] #[], .func (.func 75) #[] #[], .func (.func 76) #[] #[], .func (.func 77) #[] #[], .func (.func 78) #[] #[], .func (.func 79) #[] #[]]) ∧ Below w.heap.size w w' := by
  go_enter Try.func70, Try.ntmps70
  go_wp2
  exact bodyPost_ret (v := .agg #[.func (.func 74) #[] #[], .func (.func 75) #[] #[], .func (.func 76) #[] #[], .func (.func 77) #[] #[], .func (.func 78) #[] #[], .func (.func 79) #[] #[]]) (by simp [results, Try.results70, go_sem]) rfl ⟨rfl, (Below.refl _ _).alloc (Nat.le_refl _) _⟩
end Go.Proofs.Ytmaldhjcdkidmaa

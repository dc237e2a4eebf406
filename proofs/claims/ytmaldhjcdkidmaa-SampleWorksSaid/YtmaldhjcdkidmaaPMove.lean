/-
  Contracts of package sample's route.move: where a cursor stands after a step; nothing that was there is changed.
-/
import Derived.Test.YtmaldhjcdkidmaaPCour
import Derived.Test.YtmaldhjcdkidmaaPVal
import Derived.Laws.EntriesVeiled
namespace Go.Proofs.Ytmaldhjcdkidmaa
open Go.RowKit

/-- What move keeps of its own blocks: the end, the result's cells. -/
def OwnM (w : World) (b : Nat) (n : Int) : Prop := w.cell? ⟨b, 0, none⟩ = some (.int .i64 n) ∧ Res w (b + 2)
theorem OwnM.kept {w w' : World} {b : Nat} {n : Int} (h : OwnM w b n) (hb : Below w.heap.size w w') : OwnM w' b n := ⟨kept_cell hb h.1, h.2.kept hb⟩
/-- The pair of a place's quotient and rest. -/
theorem cur_in {p n : Int} (b : Bool) (h : 0 ≤ p ∧ p < n) : Sm.mvd p b n = ⟨p / 65536, p % 65536, b, false⟩ := Sm.mvd_in b h
theorem below3m {w : World} (o1 o2 o3 : Obj) : Below w.heap.size w (((w.alloc o1).alloc o2).alloc o3) :=
  (((Below.refl _ _).alloc (Nat.le_refl _) _).alloc (by simp) _).alloc (by simp; omega) _
theorem p_move_00i (n f t po fr st P : Int) (B : Bool) (w : World) (hr : Sm.Ring 0 f t n) (hn : n ≤ 268435456) (c1 : 0 ≤ po) (c2 : po ≤ 4095) (c3 : 0 ≤ fr) (c4 : fr ≤ 65535) (c5 : po * 65536 + fr < n) (s0 : 0 ≤ st) (s1 : st ≤ 536870912) (HP : Hid (Sm.fP 0 f t (po * 65536 + fr) st = P ∧ Sm.fB 0 f t (po * 65536 + fr) st = B)) (hin : 0 ≤ P ∧ P < n) :
    Calls Try.prog 51 #[.agg #[.int .i64 n, .int .i64 f, .int .i64 t, .func (.func 74) #[] #[], .func (.func 75) #[] #[]], .agg #[.int .i64 po, .int .i64 fr, .bool false, .bool false], .int .i64 st] w fun x w' => RetCur (Sm.mvd P B n) x ∧ Below w.heap.size w w' := by
  have hl := hr.loop
  have hfr := hr.frames
  have HC := Lib.hid (cur_in B hin)
  have hin1 : 0 ≤ P := hin.1
  have hin2 : P ≤ n - 1 := by omega
  clear hin
  have hcall := fun w' => p_f0_a f t (po * 65536 + fr) st w' (by omega) (by omega) s0 s1
  rw [HP.out.1, HP.out.2] at hcall
  have HCALL := Lib.hid hcall
  clear hcall hl HP hr
  go_enter Try.func51, Try.ntmps51
  go_wp2_with (first | (go_at_call 74; ((with_reducible refine (HCALL.out _).mono ?_); rintro x w' ⟨rfl, hb'⟩; obtain ⟨c0, ⟨r0, r1, r2, r3⟩, ⟨f0, f1, f2, f3⟩⟩ := OwnM.kept (w := ((w.alloc (.cells #[.int .i64 n, .int .i64 f, .int .i64 t, .func (.func 74) #[] #[], .func (.func 75) #[] #[]] 70)).alloc (.cells #[.int .i64 po, .int .i64 fr, .bool false, .bool false] 26)).alloc (.cells #[.int .i64 0, .int .i64 0, .bool false, .bool false] 26)) (b := w.heap.size) (n := n) ⟨by go_simp, ⟨by go_simp, by go_simp, by go_simp, by go_simp⟩, by go_simp, by go_simp, by go_simp, by go_simp⟩ hb')) | (go_at_call 39; ((with_reducible refine (p_within_yes _ _ _ _ hin1 hin2).mono ?_); rintro x w' ⟨rfl, rfl⟩)))
  exact bodyPost_ret (v := .agg #[.int .i64 (P / 65536), .int .i64 (P % 65536), .bool B, .bool false]) (by simp [results, Try.results51, go_sem, r0, r1, r2, r3]) rfl ⟨⟨_, _, _, _, rfl, HC.out⟩, end3 _ _ _ _ ((below3m _ _ _).trans (hb'.mono (by simp; omega)))⟩
theorem p_move_00o (n f t po fr st P : Int) (B : Bool) (w : World) (hr : Sm.Ring 0 f t n) (hn : n ≤ 268435456) (c1 : 0 ≤ po) (c2 : po ≤ 4095) (c3 : 0 ≤ fr) (c4 : fr ≤ 65535) (c5 : po * 65536 + fr < n) (s0 : 0 ≤ st) (s1 : st ≤ 536870912) (HP : Hid (Sm.fP 0 f t (po * 65536 + fr) st = P ∧ Sm.fB 0 f t (po * 65536 + fr) st = B)) (hin : P < 0 ∨ n ≤ P) :
    Calls Try.prog 51 #[.agg #[.int .i64 n, .int .i64 f, .int .i64 t, .func (.func 74) #[] #[], .func (.func 75) #[] #[]], .agg #[.int .i64 po, .int .i64 fr, .bool false, .bool false], .int .i64 st] w fun x w' => RetCur (Sm.mvd P B n) x ∧ Below w.heap.size w w' := by
  have hl := hr.loop
  have hfr := hr.frames
  have HC := Lib.hid (Sm.mvd_out B hin)
  have HI := Lib.hid (show P < 0 ∨ n - 1 < P by omega)
  clear hin
  have hcall := fun w' => p_f0_a f t (po * 65536 + fr) st w' (by omega) (by omega) s0 s1
  rw [HP.out.1, HP.out.2] at hcall
  have HCALL := Lib.hid hcall
  clear hcall hl HP hr
  go_enter Try.func51, Try.ntmps51
  go_wp2_with (first | (go_at_call 74; ((with_reducible refine (HCALL.out _).mono ?_); rintro x w' ⟨rfl, hb'⟩; obtain ⟨c0, ⟨r0, r1, r2, r3⟩, ⟨f0, f1, f2, f3⟩⟩ := OwnM.kept (w := ((w.alloc (.cells #[.int .i64 n, .int .i64 f, .int .i64 t, .func (.func 74) #[] #[], .func (.func 75) #[] #[]] 70)).alloc (.cells #[.int .i64 po, .int .i64 fr, .bool false, .bool false] 26)).alloc (.cells #[.int .i64 0, .int .i64 0, .bool false, .bool false] 26)) (b := w.heap.size) (n := n) ⟨by go_simp, ⟨by go_simp, by go_simp, by go_simp, by go_simp⟩, by go_simp, by go_simp, by go_simp, by go_simp⟩ hb')) | (go_at_call 39; ((with_reducible refine (p_within_no _ _ _ _ HI.out).mono ?_); rintro x w' ⟨rfl, rfl⟩)))
  exact bodyPost_ret (v := .agg #[.int .i64 0, .int .i64 0, .bool false, .bool true]) (by simp [results, Try.results51, go_sem, r0, r1, r2, r3]) rfl ⟨⟨_, _, _, _, rfl, HC.out⟩, end3 _ _ _ _ ((below3m _ _ _).trans (hb'.mono (by simp; omega)))⟩
theorem p_move_01i (n f t po fr st P : Int) (B : Bool) (w : World) (hr : Sm.Ring 0 f t n) (hn : n ≤ 268435456) (c1 : 0 ≤ po) (c2 : po ≤ 4095) (c3 : 0 ≤ fr) (c4 : fr ≤ 65535) (c5 : po * 65536 + fr < n) (s0 : 0 ≤ st) (s1 : st ≤ 536870912) (HP : Hid (Sm.aP 0 f t (po * 65536 + fr) st = P ∧ Sm.aB 0 f t (po * 65536 + fr) st = B)) (hin : 0 ≤ P ∧ P < n) :
    Calls Try.prog 51 #[.agg #[.int .i64 n, .int .i64 f, .int .i64 t, .func (.func 74) #[] #[], .func (.func 75) #[] #[]], .agg #[.int .i64 po, .int .i64 fr, .bool true, .bool false], .int .i64 st] w fun x w' => RetCur (Sm.mvd P B n) x ∧ Below w.heap.size w w' := by
  have hl := hr.loop
  have hfr := hr.frames
  have HC := Lib.hid (cur_in B hin)
  have hin1 : 0 ≤ P := hin.1
  have hin2 : P ≤ n - 1 := by omega
  clear hin
  have hcall := fun w' => p_b0_a f t (po * 65536 + fr) st w' (by omega) (by omega) s0 s1
  rw [HP.out.1, HP.out.2] at hcall
  have HCALL := Lib.hid hcall
  clear hcall hl HP hr
  go_enter Try.func51, Try.ntmps51
  go_wp2_with (first | (go_at_call 75; ((with_reducible refine (HCALL.out _).mono ?_); rintro x w' ⟨rfl, hb'⟩; obtain ⟨c0, ⟨r0, r1, r2, r3⟩, ⟨f0, f1, f2, f3⟩⟩ := OwnM.kept (w := ((w.alloc (.cells #[.int .i64 n, .int .i64 f, .int .i64 t, .func (.func 74) #[] #[], .func (.func 75) #[] #[]] 70)).alloc (.cells #[.int .i64 po, .int .i64 fr, .bool true, .bool false] 26)).alloc (.cells #[.int .i64 0, .int .i64 0, .bool false, .bool false] 26)) (b := w.heap.size) (n := n) ⟨by go_simp, ⟨by go_simp, by go_simp, by go_simp, by go_simp⟩, by go_simp, by go_simp, by go_simp, by go_simp⟩ hb')) | (go_at_call 39; ((with_reducible refine (p_within_yes _ _ _ _ hin1 hin2).mono ?_); rintro x w' ⟨rfl, rfl⟩)))
  exact bodyPost_ret (v := .agg #[.int .i64 (P / 65536), .int .i64 (P % 65536), .bool B, .bool false]) (by simp [results, Try.results51, go_sem, r0, r1, r2, r3]) rfl ⟨⟨_, _, _, _, rfl, HC.out⟩, end3 _ _ _ _ ((below3m _ _ _).trans (hb'.mono (by simp; omega)))⟩
theorem p_move_01o (n f t po fr st P : Int) (B : Bool) (w : World) (hr : Sm.Ring 0 f t n) (hn : n ≤ 268435456) (c1 : 0 ≤ po) (c2 : po ≤ 4095) (c3 : 0 ≤ fr) (c4 : fr ≤ 65535) (c5 : po * 65536 + fr < n) (s0 : 0 ≤ st) (s1 : st ≤ 536870912) (HP : Hid (Sm.aP 0 f t (po * 65536 + fr) st = P ∧ Sm.aB 0 f t (po * 65536 + fr) st = B)) (hin : P < 0 ∨ n ≤ P) :
    Calls Try.prog 51 #[.agg #[.int .i64 n, .int .i64 f, .int .i64 t, .func (.func 74) #[] #[], .func (.func 75) #[] #[]], .agg #[.int .i64 po, .int .i64 fr, .bool true, .bool false], .int .i64 st] w fun x w' => RetCur (Sm.mvd P B n) x ∧ Below w.heap.size w w' := by
  have hl := hr.loop
  have hfr := hr.frames
  have HC := Lib.hid (Sm.mvd_out B hin)
  have HI := Lib.hid (show P < 0 ∨ n - 1 < P by omega)
  clear hin
  have hcall := fun w' => p_b0_a f t (po * 65536 + fr) st w' (by omega) (by omega) s0 s1
  rw [HP.out.1, HP.out.2] at hcall
  have HCALL := Lib.hid hcall
  clear hcall hl HP hr
  go_enter Try.func51, Try.ntmps51
  go_wp2_with (first | (go_at_call 75; ((with_reducible refine (HCALL.out _).mono ?_); rintro x w' ⟨rfl, hb'⟩; obtain ⟨c0, ⟨r0, r1, r2, r3⟩, ⟨f0, f1, f2, f3⟩⟩ := OwnM.kept (w := ((w.alloc (.cells #[.int .i64 n, .int .i64 f, .int .i64 t, .func (.func 74) #[] #[], .func (.func 75) #[] #[]] 70)).alloc (.cells #[.int .i64 po, .int .i64 fr, .bool true, .bool false] 26)).alloc (.cells #[.int .i64 0, .int .i64 0, .bool false, .bool false] 26)) (b := w.heap.size) (n := n) ⟨by go_simp, ⟨by go_simp, by go_simp, by go_simp, by go_simp⟩, by go_simp, by go_simp, by go_simp, by go_simp⟩ hb')) | (go_at_call 39; ((with_reducible refine (p_within_no _ _ _ _ HI.out).mono ?_); rintro x w' ⟨rfl, rfl⟩)))
  exact bodyPost_ret (v := .agg #[.int .i64 0, .int .i64 0, .bool false, .bool true]) (by simp [results, Try.results51, go_sem, r0, r1, r2, r3]) rfl ⟨⟨_, _, _, _, rfl, HC.out⟩, end3 _ _ _ _ ((below3m _ _ _).trans (hb'.mono (by simp; omega)))⟩
theorem p_move_10i (n f t po fr st P : Int) (B : Bool) (w : World) (hr : Sm.Ring 1 f t n) (hn : n ≤ 268435456) (c1 : 0 ≤ po) (c2 : po ≤ 4095) (c3 : 0 ≤ fr) (c4 : fr ≤ 65535) (c5 : po * 65536 + fr < n) (s0 : 0 ≤ st) (s1 : st ≤ 536870912) (HP : Hid (Sm.fP 1 f t (po * 65536 + fr) st = P ∧ Sm.fB 1 f t (po * 65536 + fr) st = B)) (hin : 0 ≤ P ∧ P < n) :
    Calls Try.prog 51 #[.agg #[.int .i64 n, .int .i64 f, .int .i64 t, .func (.func 76) #[] #[], .func (.func 77) #[] #[]], .agg #[.int .i64 po, .int .i64 fr, .bool false, .bool false], .int .i64 st] w fun x w' => RetCur (Sm.mvd P B n) x ∧ Below w.heap.size w w' := by
  have hl := hr.loop
  have hfr := hr.frames
  have HC := Lib.hid (cur_in B hin)
  have hin1 : 0 ≤ P := hin.1
  have hin2 : P ≤ n - 1 := by omega
  clear hin
  have hcall := fun w' => p_f1 f t (po * 65536 + fr) st w' (by omega) (by omega) (by omega) (by omega) (by omega) s0 s1
  rw [HP.out.1, HP.out.2] at hcall
  have HCALL := Lib.hid hcall
  clear hcall hl HP hr
  go_enter Try.func51, Try.ntmps51
  go_wp2_with (first | (go_at_call 76; ((with_reducible refine (HCALL.out _).mono ?_); rintro x w' ⟨rfl, hb'⟩; obtain ⟨c0, ⟨r0, r1, r2, r3⟩, ⟨f0, f1, f2, f3⟩⟩ := OwnM.kept (w := ((w.alloc (.cells #[.int .i64 n, .int .i64 f, .int .i64 t, .func (.func 76) #[] #[], .func (.func 77) #[] #[]] 70)).alloc (.cells #[.int .i64 po, .int .i64 fr, .bool false, .bool false] 26)).alloc (.cells #[.int .i64 0, .int .i64 0, .bool false, .bool false] 26)) (b := w.heap.size) (n := n) ⟨by go_simp, ⟨by go_simp, by go_simp, by go_simp, by go_simp⟩, by go_simp, by go_simp, by go_simp, by go_simp⟩ hb')) | (go_at_call 39; ((with_reducible refine (p_within_yes _ _ _ _ hin1 hin2).mono ?_); rintro x w' ⟨rfl, rfl⟩)))
  exact bodyPost_ret (v := .agg #[.int .i64 (P / 65536), .int .i64 (P % 65536), .bool B, .bool false]) (by simp [results, Try.results51, go_sem, r0, r1, r2, r3]) rfl ⟨⟨_, _, _, _, rfl, HC.out⟩, end3 _ _ _ _ ((below3m _ _ _).trans (hb'.mono (by simp; omega)))⟩
theorem p_move_10o (n f t po fr st P : Int) (B : Bool) (w : World) (hr : Sm.Ring 1 f t n) (hn : n ≤ 268435456) (c1 : 0 ≤ po) (c2 : po ≤ 4095) (c3 : 0 ≤ fr) (c4 : fr ≤ 65535) (c5 : po * 65536 + fr < n) (s0 : 0 ≤ st) (s1 : st ≤ 536870912) (HP : Hid (Sm.fP 1 f t (po * 65536 + fr) st = P ∧ Sm.fB 1 f t (po * 65536 + fr) st = B)) (hin : P < 0 ∨ n ≤ P) :
    Calls Try.prog 51 #[.agg #[.int .i64 n, .int .i64 f, .int .i64 t, .func (.func 76) #[] #[], .func (.func 77) #[] #[]], .agg #[.int .i64 po, .int .i64 fr, .bool false, .bool false], .int .i64 st] w fun x w' => RetCur (Sm.mvd P B n) x ∧ Below w.heap.size w w' := by
  have hl := hr.loop
  have hfr := hr.frames
  have HC := Lib.hid (Sm.mvd_out B hin)
  have HI := Lib.hid (show P < 0 ∨ n - 1 < P by omega)
  clear hin
  have hcall := fun w' => p_f1 f t (po * 65536 + fr) st w' (by omega) (by omega) (by omega) (by omega) (by omega) s0 s1
  rw [HP.out.1, HP.out.2] at hcall
  have HCALL := Lib.hid hcall
  clear hcall hl HP hr
  go_enter Try.func51, Try.ntmps51
  go_wp2_with (first | (go_at_call 76; ((with_reducible refine (HCALL.out _).mono ?_); rintro x w' ⟨rfl, hb'⟩; obtain ⟨c0, ⟨r0, r1, r2, r3⟩, ⟨f0, f1, f2, f3⟩⟩ := OwnM.kept (w := ((w.alloc (.cells #[.int .i64 n, .int .i64 f, .int .i64 t, .func (.func 76) #[] #[], .func (.func 77) #[] #[]] 70)).alloc (.cells #[.int .i64 po, .int .i64 fr, .bool false, .bool false] 26)).alloc (.cells #[.int .i64 0, .int .i64 0, .bool false, .bool false] 26)) (b := w.heap.size) (n := n) ⟨by go_simp, ⟨by go_simp, by go_simp, by go_simp, by go_simp⟩, by go_simp, by go_simp, by go_simp, by go_simp⟩ hb')) | (go_at_call 39; ((with_reducible refine (p_within_no _ _ _ _ HI.out).mono ?_); rintro x w' ⟨rfl, rfl⟩)))
  exact bodyPost_ret (v := .agg #[.int .i64 0, .int .i64 0, .bool false, .bool true]) (by simp [results, Try.results51, go_sem, r0, r1, r2, r3]) rfl ⟨⟨_, _, _, _, rfl, HC.out⟩, end3 _ _ _ _ ((below3m _ _ _).trans (hb'.mono (by simp; omega)))⟩
theorem p_move_11i (n f t po fr st P : Int) (B : Bool) (w : World) (hr : Sm.Ring 1 f t n) (hn : n ≤ 268435456) (c1 : 0 ≤ po) (c2 : po ≤ 4095) (c3 : 0 ≤ fr) (c4 : fr ≤ 65535) (c5 : po * 65536 + fr < n) (s0 : 0 ≤ st) (s1 : st ≤ 536870912) (HP : Hid (Sm.aP 1 f t (po * 65536 + fr) st = P ∧ Sm.aB 1 f t (po * 65536 + fr) st = B)) (hin : 0 ≤ P ∧ P < n) :
    Calls Try.prog 51 #[.agg #[.int .i64 n, .int .i64 f, .int .i64 t, .func (.func 76) #[] #[], .func (.func 77) #[] #[]], .agg #[.int .i64 po, .int .i64 fr, .bool true, .bool false], .int .i64 st] w fun x w' => RetCur (Sm.mvd P B n) x ∧ Below w.heap.size w w' := by
  have hl := hr.loop
  have hfr := hr.frames
  have HC := Lib.hid (cur_in B hin)
  have hin1 : 0 ≤ P := hin.1
  have hin2 : P ≤ n - 1 := by omega
  clear hin
  have hcall := fun w' => p_b1 f t (po * 65536 + fr) st w' (by omega) (by omega) (by omega) (by omega) (by omega) s0 s1
  rw [HP.out.1, HP.out.2] at hcall
  have HCALL := Lib.hid hcall
  clear hcall hl HP hr
  go_enter Try.func51, Try.ntmps51
  go_wp2_with (first | (go_at_call 77; ((with_reducible refine (HCALL.out _).mono ?_); rintro x w' ⟨rfl, hb'⟩; obtain ⟨c0, ⟨r0, r1, r2, r3⟩, ⟨f0, f1, f2, f3⟩⟩ := OwnM.kept (w := ((w.alloc (.cells #[.int .i64 n, .int .i64 f, .int .i64 t, .func (.func 76) #[] #[], .func (.func 77) #[] #[]] 70)).alloc (.cells #[.int .i64 po, .int .i64 fr, .bool true, .bool false] 26)).alloc (.cells #[.int .i64 0, .int .i64 0, .bool false, .bool false] 26)) (b := w.heap.size) (n := n) ⟨by go_simp, ⟨by go_simp, by go_simp, by go_simp, by go_simp⟩, by go_simp, by go_simp, by go_simp, by go_simp⟩ hb')) | (go_at_call 39; ((with_reducible refine (p_within_yes _ _ _ _ hin1 hin2).mono ?_); rintro x w' ⟨rfl, rfl⟩)))
  exact bodyPost_ret (v := .agg #[.int .i64 (P / 65536), .int .i64 (P % 65536), .bool B, .bool false]) (by simp [results, Try.results51, go_sem, r0, r1, r2, r3]) rfl ⟨⟨_, _, _, _, rfl, HC.out⟩, end3 _ _ _ _ ((below3m _ _ _).trans (hb'.mono (by simp; omega)))⟩
theorem p_move_11o (n f t po fr st P : Int) (B : Bool) (w : World) (hr : Sm.Ring 1 f t n) (hn : n ≤ 268435456) (c1 : 0 ≤ po) (c2 : po ≤ 4095) (c3 : 0 ≤ fr) (c4 : fr ≤ 65535) (c5 : po * 65536 + fr < n) (s0 : 0 ≤ st) (s1 : st ≤ 536870912) (HP : Hid (Sm.aP 1 f t (po * 65536 + fr) st = P ∧ Sm.aB 1 f t (po * 65536 + fr) st = B)) (hin : P < 0 ∨ n ≤ P) :
    Calls Try.prog 51 #[.agg #[.int .i64 n, .int .i64 f, .int .i64 t, .func (.func 76) #[] #[], .func (.func 77) #[] #[]], .agg #[.int .i64 po, .int .i64 fr, .bool true, .bool false], .int .i64 st] w fun x w' => RetCur (Sm.mvd P B n) x ∧ Below w.heap.size w w' := by
  have hl := hr.loop
  have hfr := hr.frames
  have HC := Lib.hid (Sm.mvd_out B hin)
  have HI := Lib.hid (show P < 0 ∨ n - 1 < P by omega)
  clear hin
  have hcall := fun w' => p_b1 f t (po * 65536 + fr) st w' (by omega) (by omega) (by omega) (by omega) (by omega) s0 s1
  rw [HP.out.1, HP.out.2] at hcall
  have HCALL := Lib.hid hcall
  clear hcall hl HP hr
  go_enter Try.func51, Try.ntmps51
  go_wp2_with (first | (go_at_call 77; ((with_reducible refine (HCALL.out _).mono ?_); rintro x w' ⟨rfl, hb'⟩; obtain ⟨c0, ⟨r0, r1, r2, r3⟩, ⟨f0, f1, f2, f3⟩⟩ := OwnM.kept (w := ((w.alloc (.cells #[.int .i64 n, .int .i64 f, .int .i64 t, .func (.func 76) #[] #[], .func (.func 77) #[] #[]] 70)).alloc (.cells #[.int .i64 po, .int .i64 fr, .bool true, .bool false] 26)).alloc (.cells #[.int .i64 0, .int .i64 0, .bool false, .bool false] 26)) (b := w.heap.size) (n := n) ⟨by go_simp, ⟨by go_simp, by go_simp, by go_simp, by go_simp⟩, by go_simp, by go_simp, by go_simp, by go_simp⟩ hb')) | (go_at_call 39; ((with_reducible refine (p_within_no _ _ _ _ HI.out).mono ?_); rintro x w' ⟨rfl, rfl⟩)))
  exact bodyPost_ret (v := .agg #[.int .i64 0, .int .i64 0, .bool false, .bool true]) (by simp [results, Try.results51, go_sem, r0, r1, r2, r3]) rfl ⟨⟨_, _, _, _, rfl, HC.out⟩, end3 _ _ _ _ ((below3m _ _ _).trans (hb'.mono (by simp; omega)))⟩
theorem p_move_20i (n f t po fr st P : Int) (B : Bool) (w : World) (hr : Sm.Ring 2 f t n) (hn : n ≤ 268435456) (c1 : 0 ≤ po) (c2 : po ≤ 4095) (c3 : 0 ≤ fr) (c4 : fr ≤ 65535) (c5 : po * 65536 + fr < n) (s0 : 0 ≤ st) (s1 : st ≤ 536870912) (HP : Hid (Sm.fP 2 f t (po * 65536 + fr) st = P ∧ Sm.fB 2 f t (po * 65536 + fr) st = B)) (hin : 0 ≤ P ∧ P < n) :
    Calls Try.prog 51 #[.agg #[.int .i64 n, .int .i64 f, .int .i64 t, .func (.func 78) #[] #[], .func (.func 79) #[] #[]], .agg #[.int .i64 po, .int .i64 fr, .bool false, .bool false], .int .i64 st] w fun x w' => RetCur (Sm.mvd P B n) x ∧ Below w.heap.size w w' := by
  have hl := hr.loop
  have hfr := hr.frames
  have HC := Lib.hid (cur_in B hin)
  have hin1 : 0 ≤ P := hin.1
  have hin2 : P ≤ n - 1 := by omega
  clear hin
  have hcall := fun w' => p_f2 f t (po * 65536 + fr) st w' (by omega) (by omega) (by omega) (by omega) (by omega) s0 s1
  rw [HP.out.1, HP.out.2] at hcall
  have HCALL := Lib.hid hcall
  clear hcall hl HP hr
  go_enter Try.func51, Try.ntmps51
  go_wp2_with (first | (go_at_call 78; ((with_reducible refine (HCALL.out _).mono ?_); rintro x w' ⟨rfl, hb'⟩; obtain ⟨c0, ⟨r0, r1, r2, r3⟩, ⟨f0, f1, f2, f3⟩⟩ := OwnM.kept (w := ((w.alloc (.cells #[.int .i64 n, .int .i64 f, .int .i64 t, .func (.func 78) #[] #[], .func (.func 79) #[] #[]] 70)).alloc (.cells #[.int .i64 po, .int .i64 fr, .bool false, .bool false] 26)).alloc (.cells #[.int .i64 0, .int .i64 0, .bool false, .bool false] 26)) (b := w.heap.size) (n := n) ⟨by go_simp, ⟨by go_simp, by go_simp, by go_simp, by go_simp⟩, by go_simp, by go_simp, by go_simp, by go_simp⟩ hb')) | (go_at_call 39; ((with_reducible refine (p_within_yes _ _ _ _ hin1 hin2).mono ?_); rintro x w' ⟨rfl, rfl⟩)))
  exact bodyPost_ret (v := .agg #[.int .i64 (P / 65536), .int .i64 (P % 65536), .bool B, .bool false]) (by simp [results, Try.results51, go_sem, r0, r1, r2, r3]) rfl ⟨⟨_, _, _, _, rfl, HC.out⟩, end3 _ _ _ _ ((below3m _ _ _).trans (hb'.mono (by simp; omega)))⟩
theorem p_move_20o (n f t po fr st P : Int) (B : Bool) (w : World) (hr : Sm.Ring 2 f t n) (hn : n ≤ 268435456) (c1 : 0 ≤ po) (c2 : po ≤ 4095) (c3 : 0 ≤ fr) (c4 : fr ≤ 65535) (c5 : po * 65536 + fr < n) (s0 : 0 ≤ st) (s1 : st ≤ 536870912) (HP : Hid (Sm.fP 2 f t (po * 65536 + fr) st = P ∧ Sm.fB 2 f t (po * 65536 + fr) st = B)) (hin : P < 0 ∨ n ≤ P) :
    Calls Try.prog 51 #[.agg #[.int .i64 n, .int .i64 f, .int .i64 t, .func (.func 78) #[] #[], .func (.func 79) #[] #[]], .agg #[.int .i64 po, .int .i64 fr, .bool false, .bool false], .int .i64 st] w fun x w' => RetCur (Sm.mvd P B n) x ∧ Below w.heap.size w w' := by
  have hl := hr.loop
  have hfr := hr.frames
  have HC := Lib.hid (Sm.mvd_out B hin)
  have HI := Lib.hid (show P < 0 ∨ n - 1 < P by omega)
  clear hin
  have hcall := fun w' => p_f2 f t (po * 65536 + fr) st w' (by omega) (by omega) (by omega) (by omega) (by omega) s0 s1
  rw [HP.out.1, HP.out.2] at hcall
  have HCALL := Lib.hid hcall
  clear hcall hl HP hr
  go_enter Try.func51, Try.ntmps51
  go_wp2_with (first | (go_at_call 78; ((with_reducible refine (HCALL.out _).mono ?_); rintro x w' ⟨rfl, hb'⟩; obtain ⟨c0, ⟨r0, r1, r2, r3⟩, ⟨f0, f1, f2, f3⟩⟩ := OwnM.kept (w := ((w.alloc (.cells #[.int .i64 n, .int .i64 f, .int .i64 t, .func (.func 78) #[] #[], .func (.func 79) #[] #[]] 70)).alloc (.cells #[.int .i64 po, .int .i64 fr, .bool false, .bool false] 26)).alloc (.cells #[.int .i64 0, .int .i64 0, .bool false, .bool false] 26)) (b := w.heap.size) (n := n) ⟨by go_simp, ⟨by go_simp, by go_simp, by go_simp, by go_simp⟩, by go_simp, by go_simp, by go_simp, by go_simp⟩ hb')) | (go_at_call 39; ((with_reducible refine (p_within_no _ _ _ _ HI.out).mono ?_); rintro x w' ⟨rfl, rfl⟩)))
  exact bodyPost_ret (v := .agg #[.int .i64 0, .int .i64 0, .bool false, .bool true]) (by simp [results, Try.results51, go_sem, r0, r1, r2, r3]) rfl ⟨⟨_, _, _, _, rfl, HC.out⟩, end3 _ _ _ _ ((below3m _ _ _).trans (hb'.mono (by simp; omega)))⟩
theorem p_move_21i (n f t po fr st P : Int) (B : Bool) (w : World) (hr : Sm.Ring 2 f t n) (hn : n ≤ 268435456) (c1 : 0 ≤ po) (c2 : po ≤ 4095) (c3 : 0 ≤ fr) (c4 : fr ≤ 65535) (c5 : po * 65536 + fr < n) (s0 : 0 ≤ st) (s1 : st ≤ 536870912) (HP : Hid (Sm.aP 2 f t (po * 65536 + fr) st = P ∧ Sm.aB 2 f t (po * 65536 + fr) st = B)) (hin : 0 ≤ P ∧ P < n) :
    Calls Try.prog 51 #[.agg #[.int .i64 n, .int .i64 f, .int .i64 t, .func (.func 78) #[] #[], .func (.func 79) #[] #[]], .agg #[.int .i64 po, .int .i64 fr, .bool true, .bool false], .int .i64 st] w fun x w' => RetCur (Sm.mvd P B n) x ∧ Below w.heap.size w w' := by
  have hl := hr.loop
  have hfr := hr.frames
  have HC := Lib.hid (cur_in B hin)
  have hin1 : 0 ≤ P := hin.1
  have hin2 : P ≤ n - 1 := by omega
  clear hin
  have hcall := fun w' => p_b2 f t (po * 65536 + fr) st w' (by omega) (by omega) (by omega) (by omega) (by omega) s0 s1
  rw [HP.out.1, HP.out.2] at hcall
  have HCALL := Lib.hid hcall
  clear hcall hl HP hr
  go_enter Try.func51, Try.ntmps51
  go_wp2_with (first | (go_at_call 79; ((with_reducible refine (HCALL.out _).mono ?_); rintro x w' ⟨rfl, hb'⟩; obtain ⟨c0, ⟨r0, r1, r2, r3⟩, ⟨f0, f1, f2, f3⟩⟩ := OwnM.kept (w := ((w.alloc (.cells #[.int .i64 n, .int .i64 f, .int .i64 t, .func (.func 78) #[] #[], .func (.func 79) #[] #[]] 70)).alloc (.cells #[.int .i64 po, .int .i64 fr, .bool true, .bool false] 26)).alloc (.cells #[.int .i64 0, .int .i64 0, .bool false, .bool false] 26)) (b := w.heap.size) (n := n) ⟨by go_simp, ⟨by go_simp, by go_simp, by go_simp, by go_simp⟩, by go_simp, by go_simp, by go_simp, by go_simp⟩ hb')) | (go_at_call 39; ((with_reducible refine (p_within_yes _ _ _ _ hin1 hin2).mono ?_); rintro x w' ⟨rfl, rfl⟩)))
  exact bodyPost_ret (v := .agg #[.int .i64 (P / 65536), .int .i64 (P % 65536), .bool B, .bool false]) (by simp [results, Try.results51, go_sem, r0, r1, r2, r3]) rfl ⟨⟨_, _, _, _, rfl, HC.out⟩, end3 _ _ _ _ ((below3m _ _ _).trans (hb'.mono (by simp; omega)))⟩
theorem p_move_21o (n f t po fr st P : Int) (B : Bool) (w : World) (hr : Sm.Ring 2 f t n) (hn : n ≤ 268435456) (c1 : 0 ≤ po) (c2 : po ≤ 4095) (c3 : 0 ≤ fr) (c4 : fr ≤ 65535) (c5 : po * 65536 + fr < n) (s0 : 0 ≤ st) (s1 : st ≤ 536870912) (HP : Hid (Sm.aP 2 f t (po * 65536 + fr) st = P ∧ Sm.aB 2 f t (po * 65536 + fr) st = B)) (hin : P < 0 ∨ n ≤ P) :
    Calls Try.prog 51 #[.agg #[.int .i64 n, .int .i64 f, .int .i64 t, .func (.func 78) #[] #[], .func (.func 79) #[] #[]], .agg #[.int .i64 po, .int .i64 fr, .bool true, .bool false], .int .i64 st] w fun x w' => RetCur (Sm.mvd P B n) x ∧ Below w.heap.size w w' := by
  have hl := hr.loop
  have hfr := hr.frames
  have HC := Lib.hid (Sm.mvd_out B hin)
  have HI := Lib.hid (show P < 0 ∨ n - 1 < P by omega)
  clear hin
  have hcall := fun w' => p_b2 f t (po * 65536 + fr) st w' (by omega) (by omega) (by omega) (by omega) (by omega) s0 s1
  rw [HP.out.1, HP.out.2] at hcall
  have HCALL := Lib.hid hcall
  clear hcall hl HP hr
  go_enter Try.func51, Try.ntmps51
  go_wp2_with (first | (go_at_call 79; ((with_reducible refine (HCALL.out _).mono ?_); rintro x w' ⟨rfl, hb'⟩; obtain ⟨c0, ⟨r0, r1, r2, r3⟩, ⟨f0, f1, f2, f3⟩⟩ := OwnM.kept (w := ((w.alloc (.cells #[.int .i64 n, .int .i64 f, .int .i64 t, .func (.func 78) #[] #[], .func (.func 79) #[] #[]] 70)).alloc (.cells #[.int .i64 po, .int .i64 fr, .bool true, .bool false] 26)).alloc (.cells #[.int .i64 0, .int .i64 0, .bool false, .bool false] 26)) (b := w.heap.size) (n := n) ⟨by go_simp, ⟨by go_simp, by go_simp, by go_simp, by go_simp⟩, by go_simp, by go_simp, by go_simp, by go_simp⟩ hb')) | (go_at_call 39; ((with_reducible refine (p_within_no _ _ _ _ HI.out).mono ?_); rintro x w' ⟨rfl, rfl⟩)))
  exact bodyPost_ret (v := .agg #[.int .i64 0, .int .i64 0, .bool false, .bool true]) (by simp [results, Try.results51, go_sem, r0, r1, r2, r3]) rfl ⟨⟨_, _, _, _, rfl, HC.out⟩, end3 _ _ _ _ ((below3m _ _ _).trans (hb'.mono (by simp; omega)))⟩
end Go.Proofs.Ytmaldhjcdkidmaa

/-
  The contract of the reference's gone, a theorem a way: where a cursor stands after a step; nothing that was there is changed.
-/
import Derived.Test.YtmaldhjcdkidmaaRefGone
namespace Go.Proofs.Ytmaldhjcdkidmaa
open Go.RowKit

set_option maxHeartbeats 800000 in
theorem gone_f1 (s : Sm.Smp) (p : Option Addr) (cap : Nat) (po fr st : Int) (h : Bool) (w : World) (k s0 e0 : Int) (HK : Hid (Sm.rk s h = k ∧ Sm.rs s h = s0 ∧ Sm.re s h = e0))
    (HB : Bounds s po fr st s0 e0) (hk : k = 1) (t1 : e0 * 65536 ≤ po * 65536 + fr + st) (t2 : s0 < e0) :
    Calls Try.prog 53 #[SV s p cap, .agg #[.int .i64 po, .int .i64 fr, .bool false, .bool false], .int .i64 st, .bool h] w fun x w' => RetCur (Sm.gone k (s0 * 65536) (e0 * 65536) (s.dat.length * 65536) ⟨po, fr, false, false⟩ st) x ∧ Below w.heap.size w w' := by
  obtain ⟨b1, b2, b3, b4, b5, b6, b7, b8, b9, b10⟩ := HB
  have HE := Lib.hid (show Sm.gone k (s0 * 65536) (e0 * 65536) (s.dat.length * 65536) ⟨po, fr, false, false⟩ st = Sm.curAt (s0 * 65536 + ((po * 65536 + fr) + st - s0 * 65536) % (e0 * 65536 - s0 * 65536)) false by show Sm.fore _ _ _ _ (po * 65536 + fr) st = _; unfold Sm.fore; rw [if_pos ⟨hk, t1⟩])
  have m0 := Sm.mod_lo (x := po * 65536 + fr + st - s0 * 65536) (w := e0 * 65536 - s0 * 65536) (by omega)
  have m1 := Sm.mod_hi (x := po * 65536 + fr + st - s0 * 65536) (w := e0 * 65536 - s0 * 65536) (by omega)
  subst hk
  unfold SV
  go_enter Try.func53, Try.ntmps53
  go_wp2_with (first | (go_at_call 36; ((with_reducible refine (rring' s p cap h _ HK).mono ?_); rintro x w' ⟨rfl, hb1⟩; have HO := Lib.hid ((own3_new w s p cap po fr _ _).kept hb1); obtain ⟨c1, ⟨c2, c3, c4, c5⟩, ⟨r0, r1, r2, r3⟩, ⟨f0, f1, f2, f3⟩⟩ := HO.out)) | (go_at_call 71; ((with_reducible refine (rmod _ _ _ (by omega) (by omega) (by omega) (by omega)).mono ?_); rintro x w' ⟨rfl, rfl⟩)) | (go_at_call 48; ((with_reducible refine (rat _ _ _ (by omega) (by omega)).mono ?_); rintro x w' ⟨⟨qp, qf, qb, qd, rfl, HC⟩, hb2⟩; obtain ⟨c1, ⟨c2, c3, c4, c5⟩, ⟨r0, r1, r2, r3⟩, ⟨f0, f1, f2, f3⟩⟩ := HO.out.kept hb2)))
  exact bodyPost_ret (v := .agg #[.int .i64 qp, .int .i64 qf, .bool qb, .bool qd]) (by simp [results, Try.results53, go_sem, r0, r1, r2, r3]) rfl ⟨⟨_, _, _, _, rfl, HE.out.trans HC.out⟩, end3 _ _ _ _ ((below3 w s p cap po fr _ _).trans ((hb1.mono (by simp; omega)).trans (hb2.mono (by have := hb1.size; simp at this; omega))))⟩
set_option maxHeartbeats 800000 in
theorem gone_f2 (s : Sm.Smp) (p : Option Addr) (cap : Nat) (po fr st : Int) (h : Bool) (w : World) (k s0 e0 : Int) (HK : Hid (Sm.rk s h = k ∧ Sm.rs s h = s0 ∧ Sm.re s h = e0))
    (HB : Bounds s po fr st s0 e0) (hk : k = 2) (t1 : e0 * 65536 ≤ po * 65536 + fr + st) (t2 : s0 < e0) :
    Calls Try.prog 53 #[SV s p cap, .agg #[.int .i64 po, .int .i64 fr, .bool false, .bool false], .int .i64 st, .bool h] w fun x w' => RetCur (Sm.gone k (s0 * 65536) (e0 * 65536) (s.dat.length * 65536) ⟨po, fr, false, false⟩ st) x ∧ Below w.heap.size w w' := by
  obtain ⟨b1, b2, b3, b4, b5, b6, b7, b8, b9, b10⟩ := HB
  have HE := Lib.hid (show Sm.gone k (s0 * 65536) (e0 * 65536) (s.dat.length * 65536) ⟨po, fr, false, false⟩ st = Sm.turned (s0 * 65536) (e0 * 65536 - s0 * 65536) ((po * 65536 + fr) + st - s0 * 65536) by show Sm.fore _ _ _ _ (po * 65536 + fr) st = _; unfold Sm.fore; rw [if_neg (by omega), if_pos ⟨hk, t1⟩])
  subst hk
  unfold SV
  go_enter Try.func53, Try.ntmps53
  go_wp2_with (first | (go_at_call 36; ((with_reducible refine (rring' s p cap h _ HK).mono ?_); rintro x w' ⟨rfl, hb1⟩; have HO := Lib.hid ((own3_new w s p cap po fr _ _).kept hb1); obtain ⟨c1, ⟨c2, c3, c4, c5⟩, ⟨r0, r1, r2, r3⟩, ⟨f0, f1, f2, f3⟩⟩ := HO.out)) | (go_at_call 72; ((with_reducible refine (rturn _ _ _ _ (by omega) (by omega) (by omega) (by omega) (by omega) (by omega)).mono ?_); rintro x w' ⟨⟨qp, qf, qb, qd, rfl, HC⟩, hb2⟩; obtain ⟨c1, ⟨c2, c3, c4, c5⟩, ⟨r0, r1, r2, r3⟩, ⟨f0, f1, f2, f3⟩⟩ := HO.out.kept hb2)))
  exact bodyPost_ret (v := .agg #[.int .i64 qp, .int .i64 qf, .bool qb, .bool qd]) (by simp [results, Try.results53, go_sem, r0, r1, r2, r3]) rfl ⟨⟨_, _, _, _, rfl, HE.out.trans HC.out⟩, end3 _ _ _ _ ((below3 w s p cap po fr _ _).trans ((hb1.mono (by simp; omega)).trans (hb2.mono (by have := hb1.size; simp at this; omega))))⟩
set_option maxHeartbeats 800000 in
theorem gone_fa0 (s : Sm.Smp) (p : Option Addr) (cap : Nat) (po fr st : Int) (h : Bool) (w : World) (k s0 e0 : Int) (HK : Hid (Sm.rk s h = k ∧ Sm.rs s h = s0 ∧ Sm.re s h = e0))
    (HB : Bounds s po fr st s0 e0) (hk : k = 0) (t3 : po * 65536 + fr + st < s.dat.length * 65536) :
    Calls Try.prog 53 #[SV s p cap, .agg #[.int .i64 po, .int .i64 fr, .bool false, .bool false], .int .i64 st, .bool h] w fun x w' => RetCur (Sm.gone k (s0 * 65536) (e0 * 65536) (s.dat.length * 65536) ⟨po, fr, false, false⟩ st) x ∧ Below w.heap.size w w' := by
  obtain ⟨b1, b2, b3, b4, b5, b6, b7, b8, b9, b10⟩ := HB
  have HE := Lib.hid (show Sm.gone k (s0 * 65536) (e0 * 65536) (s.dat.length * 65536) ⟨po, fr, false, false⟩ st = Sm.curAt ((po * 65536 + fr) + st) false by show Sm.fore _ _ _ _ (po * 65536 + fr) st = _; unfold Sm.fore; rw [if_neg (by omega), if_neg (by omega), if_neg (by omega)])
  subst hk
  unfold SV
  go_enter Try.func53, Try.ntmps53
  go_wp2_with (first | (go_at_call 36; ((with_reducible refine (rring' s p cap h _ HK).mono ?_); rintro x w' ⟨rfl, hb1⟩; have HO := Lib.hid ((own3_new w s p cap po fr _ _).kept hb1); obtain ⟨c1, ⟨c2, c3, c4, c5⟩, ⟨r0, r1, r2, r3⟩, ⟨f0, f1, f2, f3⟩⟩ := HO.out)) | (go_at_call 48; ((with_reducible refine (rat _ _ _ (by omega) (by omega)).mono ?_); rintro x w' ⟨⟨qp, qf, qb, qd, rfl, HC⟩, hb2⟩; obtain ⟨c1, ⟨c2, c3, c4, c5⟩, ⟨r0, r1, r2, r3⟩, ⟨f0, f1, f2, f3⟩⟩ := HO.out.kept hb2)))
  exact bodyPost_ret (v := .agg #[.int .i64 qp, .int .i64 qf, .bool qb, .bool qd]) (by simp [results, Try.results53, go_sem, r0, r1, r2, r3]) rfl ⟨⟨_, _, _, _, rfl, HE.out.trans HC.out⟩, end3 _ _ _ _ ((below3 w s p cap po fr _ _).trans ((hb1.mono (by simp; omega)).trans (hb2.mono (by have := hb1.size; simp at this; omega))))⟩
set_option maxHeartbeats 800000 in
theorem gone_fa1 (s : Sm.Smp) (p : Option Addr) (cap : Nat) (po fr st : Int) (h : Bool) (w : World) (k s0 e0 : Int) (HK : Hid (Sm.rk s h = k ∧ Sm.rs s h = s0 ∧ Sm.re s h = e0))
    (HB : Bounds s po fr st s0 e0) (hk : k = 1) (t1 : po * 65536 + fr + st < e0 * 65536) (t3 : po * 65536 + fr + st < s.dat.length * 65536) :
    Calls Try.prog 53 #[SV s p cap, .agg #[.int .i64 po, .int .i64 fr, .bool false, .bool false], .int .i64 st, .bool h] w fun x w' => RetCur (Sm.gone k (s0 * 65536) (e0 * 65536) (s.dat.length * 65536) ⟨po, fr, false, false⟩ st) x ∧ Below w.heap.size w w' := by
  obtain ⟨b1, b2, b3, b4, b5, b6, b7, b8, b9, b10⟩ := HB
  have HE := Lib.hid (show Sm.gone k (s0 * 65536) (e0 * 65536) (s.dat.length * 65536) ⟨po, fr, false, false⟩ st = Sm.curAt ((po * 65536 + fr) + st) false by show Sm.fore _ _ _ _ (po * 65536 + fr) st = _; unfold Sm.fore; rw [if_neg (by omega), if_neg (by omega), if_neg (by omega)])
  subst hk
  unfold SV
  go_enter Try.func53, Try.ntmps53
  go_wp2_with (first | (go_at_call 36; ((with_reducible refine (rring' s p cap h _ HK).mono ?_); rintro x w' ⟨rfl, hb1⟩; have HO := Lib.hid ((own3_new w s p cap po fr _ _).kept hb1); obtain ⟨c1, ⟨c2, c3, c4, c5⟩, ⟨r0, r1, r2, r3⟩, ⟨f0, f1, f2, f3⟩⟩ := HO.out)) | (go_at_call 48; ((with_reducible refine (rat _ _ _ (by omega) (by omega)).mono ?_); rintro x w' ⟨⟨qp, qf, qb, qd, rfl, HC⟩, hb2⟩; obtain ⟨c1, ⟨c2, c3, c4, c5⟩, ⟨r0, r1, r2, r3⟩, ⟨f0, f1, f2, f3⟩⟩ := HO.out.kept hb2)))
  exact bodyPost_ret (v := .agg #[.int .i64 qp, .int .i64 qf, .bool qb, .bool qd]) (by simp [results, Try.results53, go_sem, r0, r1, r2, r3]) rfl ⟨⟨_, _, _, _, rfl, HE.out.trans HC.out⟩, end3 _ _ _ _ ((below3 w s p cap po fr _ _).trans ((hb1.mono (by simp; omega)).trans (hb2.mono (by have := hb1.size; simp at this; omega))))⟩
set_option maxHeartbeats 800000 in
theorem gone_fa2 (s : Sm.Smp) (p : Option Addr) (cap : Nat) (po fr st : Int) (h : Bool) (w : World) (k s0 e0 : Int) (HK : Hid (Sm.rk s h = k ∧ Sm.rs s h = s0 ∧ Sm.re s h = e0))
    (HB : Bounds s po fr st s0 e0) (hk : k = 2) (t1 : po * 65536 + fr + st < e0 * 65536) (t3 : po * 65536 + fr + st < s.dat.length * 65536) :
    Calls Try.prog 53 #[SV s p cap, .agg #[.int .i64 po, .int .i64 fr, .bool false, .bool false], .int .i64 st, .bool h] w fun x w' => RetCur (Sm.gone k (s0 * 65536) (e0 * 65536) (s.dat.length * 65536) ⟨po, fr, false, false⟩ st) x ∧ Below w.heap.size w w' := by
  obtain ⟨b1, b2, b3, b4, b5, b6, b7, b8, b9, b10⟩ := HB
  have HE := Lib.hid (show Sm.gone k (s0 * 65536) (e0 * 65536) (s.dat.length * 65536) ⟨po, fr, false, false⟩ st = Sm.curAt ((po * 65536 + fr) + st) false by show Sm.fore _ _ _ _ (po * 65536 + fr) st = _; unfold Sm.fore; rw [if_neg (by omega), if_neg (by omega), if_neg (by omega)])
  subst hk
  unfold SV
  go_enter Try.func53, Try.ntmps53
  go_wp2_with (first | (go_at_call 36; ((with_reducible refine (rring' s p cap h _ HK).mono ?_); rintro x w' ⟨rfl, hb1⟩; have HO := Lib.hid ((own3_new w s p cap po fr _ _).kept hb1); obtain ⟨c1, ⟨c2, c3, c4, c5⟩, ⟨r0, r1, r2, r3⟩, ⟨f0, f1, f2, f3⟩⟩ := HO.out)) | (go_at_call 48; ((with_reducible refine (rat _ _ _ (by omega) (by omega)).mono ?_); rintro x w' ⟨⟨qp, qf, qb, qd, rfl, HC⟩, hb2⟩; obtain ⟨c1, ⟨c2, c3, c4, c5⟩, ⟨r0, r1, r2, r3⟩, ⟨f0, f1, f2, f3⟩⟩ := HO.out.kept hb2)))
  exact bodyPost_ret (v := .agg #[.int .i64 qp, .int .i64 qf, .bool qb, .bool qd]) (by simp [results, Try.results53, go_sem, r0, r1, r2, r3]) rfl ⟨⟨_, _, _, _, rfl, HE.out.trans HC.out⟩, end3 _ _ _ _ ((below3 w s p cap po fr _ _).trans ((hb1.mono (by simp; omega)).trans (hb2.mono (by have := hb1.size; simp at this; omega))))⟩
set_option maxHeartbeats 800000 in
theorem gone_fo (s : Sm.Smp) (p : Option Addr) (cap : Nat) (po fr st : Int) (h : Bool) (w : World) (k s0 e0 : Int) (HK : Hid (Sm.rk s h = k ∧ Sm.rs s h = s0 ∧ Sm.re s h = e0))
    (HB : Bounds s po fr st s0 e0) (hk : k = 0) (t3 : s.dat.length * 65536 ≤ po * 65536 + fr + st) :
    Calls Try.prog 53 #[SV s p cap, .agg #[.int .i64 po, .int .i64 fr, .bool false, .bool false], .int .i64 st, .bool h] w fun x w' => RetCur (Sm.gone k (s0 * 65536) (e0 * 65536) (s.dat.length * 65536) ⟨po, fr, false, false⟩ st) x ∧ Below w.heap.size w w' := by
  obtain ⟨b1, b2, b3, b4, b5, b6, b7, b8, b9, b10⟩ := HB
  have HE := Lib.hid (show Sm.gone k (s0 * 65536) (e0 * 65536) (s.dat.length * 65536) ⟨po, fr, false, false⟩ st = Sm.over by show Sm.fore _ _ _ _ (po * 65536 + fr) st = _; unfold Sm.fore; rw [if_neg (by omega), if_neg (by omega), if_pos t3])
  subst hk
  unfold SV
  go_enter Try.func53, Try.ntmps53
  go_wp2_with (first | (go_at_call 36; ((with_reducible refine (rring' s p cap h _ HK).mono ?_); rintro x w' ⟨rfl, hb1⟩; have HO := Lib.hid ((own3_new w s p cap po fr _ _).kept hb1); obtain ⟨c1, ⟨c2, c3, c4, c5⟩, ⟨r0, r1, r2, r3⟩, ⟨f0, f1, f2, f3⟩⟩ := HO.out)) | (go_at_call 47; ((with_reducible refine (rover _).mono ?_); rintro x w' ⟨⟨qp, qf, qb, qd, rfl, HC⟩, hb2⟩; obtain ⟨c1, ⟨c2, c3, c4, c5⟩, ⟨r0, r1, r2, r3⟩, ⟨f0, f1, f2, f3⟩⟩ := HO.out.kept hb2)))
  exact bodyPost_ret (v := .agg #[.int .i64 qp, .int .i64 qf, .bool qb, .bool qd]) (by simp [results, Try.results53, go_sem, r0, r1, r2, r3]) rfl ⟨⟨_, _, _, _, rfl, HE.out.trans HC.out⟩, end3 _ _ _ _ ((below3 w s p cap po fr _ _).trans ((hb1.mono (by simp; omega)).trans (hb2.mono (by have := hb1.size; simp at this; omega))))⟩
set_option maxHeartbeats 800000 in
theorem gone_a1 (s : Sm.Smp) (p : Option Addr) (cap : Nat) (po fr st : Int) (h : Bool) (w : World) (k s0 e0 : Int) (HK : Hid (Sm.rk s h = k ∧ Sm.rs s h = s0 ∧ Sm.re s h = e0))
    (HB : Bounds s po fr st s0 e0) (hk : k = 1) (t1 : s0 * 65536 ≤ po * 65536 + fr) (t3 : po * 65536 + fr - st < s0 * 65536) (t2 : s0 < e0) :
    Calls Try.prog 53 #[SV s p cap, .agg #[.int .i64 po, .int .i64 fr, .bool true, .bool false], .int .i64 st, .bool h] w fun x w' => RetCur (Sm.gone k (s0 * 65536) (e0 * 65536) (s.dat.length * 65536) ⟨po, fr, true, false⟩ st) x ∧ Below w.heap.size w w' := by
  obtain ⟨b1, b2, b3, b4, b5, b6, b7, b8, b9, b10⟩ := HB
  have HE := Lib.hid (show Sm.gone k (s0 * 65536) (e0 * 65536) (s.dat.length * 65536) ⟨po, fr, true, false⟩ st = Sm.curAt (s0 * 65536 + ((po * 65536 + fr) - st - s0 * 65536) % (e0 * 65536 - s0 * 65536)) true by show Sm.aft _ _ _ (po * 65536 + fr) st = _; unfold Sm.aft; rw [if_pos ⟨hk, t1, t3⟩])
  have m0 := Sm.mod_lo (x := po * 65536 + fr - st - s0 * 65536) (w := e0 * 65536 - s0 * 65536) (by omega)
  have m1 := Sm.mod_hi (x := po * 65536 + fr - st - s0 * 65536) (w := e0 * 65536 - s0 * 65536) (by omega)
  subst hk
  unfold SV
  go_enter Try.func53, Try.ntmps53
  go_wp2_with (first | (go_at_call 36; ((with_reducible refine (rring' s p cap h _ HK).mono ?_); rintro x w' ⟨rfl, hb1⟩; have HO := Lib.hid ((own3_new w s p cap po fr _ _).kept hb1); obtain ⟨c1, ⟨c2, c3, c4, c5⟩, ⟨r0, r1, r2, r3⟩, ⟨f0, f1, f2, f3⟩⟩ := HO.out)) | (go_at_call 71; ((with_reducible refine (rmod _ _ _ (by omega) (by omega) (by omega) (by omega)).mono ?_); rintro x w' ⟨rfl, rfl⟩)) | (go_at_call 48; ((with_reducible refine (rat _ _ _ (by omega) (by omega)).mono ?_); rintro x w' ⟨⟨qp, qf, qb, qd, rfl, HC⟩, hb2⟩; obtain ⟨c1, ⟨c2, c3, c4, c5⟩, ⟨r0, r1, r2, r3⟩, ⟨f0, f1, f2, f3⟩⟩ := HO.out.kept hb2)))
  exact bodyPost_ret (v := .agg #[.int .i64 qp, .int .i64 qf, .bool qb, .bool qd]) (by simp [results, Try.results53, go_sem, r0, r1, r2, r3]) rfl ⟨⟨_, _, _, _, rfl, HE.out.trans HC.out⟩, end3 _ _ _ _ ((below3 w s p cap po fr _ _).trans ((hb1.mono (by simp; omega)).trans (hb2.mono (by have := hb1.size; simp at this; omega))))⟩
set_option maxHeartbeats 800000 in
theorem gone_a2 (s : Sm.Smp) (p : Option Addr) (cap : Nat) (po fr st : Int) (h : Bool) (w : World) (k s0 e0 : Int) (HK : Hid (Sm.rk s h = k ∧ Sm.rs s h = s0 ∧ Sm.re s h = e0))
    (HB : Bounds s po fr st s0 e0) (hk : k = 2) (t1 : s0 * 65536 ≤ po * 65536 + fr) (t4 : po * 65536 + fr < e0 * 65536) (t2 : s0 < e0) :
    Calls Try.prog 53 #[SV s p cap, .agg #[.int .i64 po, .int .i64 fr, .bool true, .bool false], .int .i64 st, .bool h] w fun x w' => RetCur (Sm.gone k (s0 * 65536) (e0 * 65536) (s.dat.length * 65536) ⟨po, fr, true, false⟩ st) x ∧ Below w.heap.size w w' := by
  obtain ⟨b1, b2, b3, b4, b5, b6, b7, b8, b9, b10⟩ := HB
  have HE := Lib.hid (show Sm.gone k (s0 * 65536) (e0 * 65536) (s.dat.length * 65536) ⟨po, fr, true, false⟩ st = Sm.turned (s0 * 65536) (e0 * 65536 - s0 * 65536) (2 * (e0 * 65536 - s0 * 65536) - 1 - ((po * 65536 + fr) - s0 * 65536) + st) by show Sm.aft _ _ _ (po * 65536 + fr) st = _; unfold Sm.aft; rw [if_neg (by omega), if_pos ⟨hk, t1⟩, if_neg (by omega)])
  subst hk
  unfold SV
  go_enter Try.func53, Try.ntmps53
  go_wp2_with (first | (go_at_call 36; ((with_reducible refine (rring' s p cap h _ HK).mono ?_); rintro x w' ⟨rfl, hb1⟩; have HO := Lib.hid ((own3_new w s p cap po fr _ _).kept hb1); obtain ⟨c1, ⟨c2, c3, c4, c5⟩, ⟨r0, r1, r2, r3⟩, ⟨f0, f1, f2, f3⟩⟩ := HO.out)) | (go_at_call 72; ((with_reducible refine (rturn _ _ _ _ (by omega) (by omega) (by omega) (by omega) (by omega) (by omega)).mono ?_); rintro x w' ⟨⟨qp, qf, qb, qd, rfl, HC⟩, hb2⟩; obtain ⟨c1, ⟨c2, c3, c4, c5⟩, ⟨r0, r1, r2, r3⟩, ⟨f0, f1, f2, f3⟩⟩ := HO.out.kept hb2)))
  exact bodyPost_ret (v := .agg #[.int .i64 qp, .int .i64 qf, .bool qb, .bool qd]) (by simp [results, Try.results53, go_sem, r0, r1, r2, r3]) rfl ⟨⟨_, _, _, _, rfl, HE.out.trans HC.out⟩, end3 _ _ _ _ ((below3 w s p cap po fr _ _).trans ((hb1.mono (by simp; omega)).trans (hb2.mono (by have := hb1.size; simp at this; omega))))⟩
set_option maxHeartbeats 800000 in
theorem gone_a2e (s : Sm.Smp) (p : Option Addr) (cap : Nat) (po fr st : Int) (h : Bool) (w : World) (k s0 e0 : Int) (HK : Hid (Sm.rk s h = k ∧ Sm.rs s h = s0 ∧ Sm.re s h = e0))
    (HB : Bounds s po fr st s0 e0) (hk : k = 2) (t1 : s0 * 65536 ≤ po * 65536 + fr) (t4 : e0 * 65536 ≤ po * 65536 + fr) (t2 : s0 < e0) :
    Calls Try.prog 53 #[SV s p cap, .agg #[.int .i64 po, .int .i64 fr, .bool true, .bool false], .int .i64 st, .bool h] w fun x w' => RetCur (Sm.gone k (s0 * 65536) (e0 * 65536) (s.dat.length * 65536) ⟨po, fr, true, false⟩ st) x ∧ Below w.heap.size w w' := by
  obtain ⟨b1, b2, b3, b4, b5, b6, b7, b8, b9, b10⟩ := HB
  have HE := Lib.hid (show Sm.gone k (s0 * 65536) (e0 * 65536) (s.dat.length * 65536) ⟨po, fr, true, false⟩ st = Sm.turned (s0 * 65536) (e0 * 65536 - s0 * 65536) (2 * (e0 * 65536 - s0 * 65536) - 1 - (e0 * 65536 - 1 - s0 * 65536) + st) by show Sm.aft _ _ _ (po * 65536 + fr) st = _; unfold Sm.aft; rw [if_neg (by omega), if_pos ⟨hk, t1⟩, if_pos t4])
  subst hk
  unfold SV
  go_enter Try.func53, Try.ntmps53
  go_wp2_with (first | (go_at_call 36; ((with_reducible refine (rring' s p cap h _ HK).mono ?_); rintro x w' ⟨rfl, hb1⟩; have HO := Lib.hid ((own3_new w s p cap po fr _ _).kept hb1); obtain ⟨c1, ⟨c2, c3, c4, c5⟩, ⟨r0, r1, r2, r3⟩, ⟨f0, f1, f2, f3⟩⟩ := HO.out)) | (go_at_call 72; ((with_reducible refine (rturn _ _ _ _ (by omega) (by omega) (by omega) (by omega) (by omega) (by omega)).mono ?_); rintro x w' ⟨⟨qp, qf, qb, qd, rfl, HC⟩, hb2⟩; obtain ⟨c1, ⟨c2, c3, c4, c5⟩, ⟨r0, r1, r2, r3⟩, ⟨f0, f1, f2, f3⟩⟩ := HO.out.kept hb2)))
  exact bodyPost_ret (v := .agg #[.int .i64 qp, .int .i64 qf, .bool qb, .bool qd]) (by simp [results, Try.results53, go_sem, r0, r1, r2, r3]) rfl ⟨⟨_, _, _, _, rfl, HE.out.trans HC.out⟩, end3 _ _ _ _ ((below3 w s p cap po fr _ _).trans ((hb1.mono (by simp; omega)).trans (hb2.mono (by have := hb1.size; simp at this; omega))))⟩
set_option maxHeartbeats 800000 in
theorem gone_aa0 (s : Sm.Smp) (p : Option Addr) (cap : Nat) (po fr st : Int) (h : Bool) (w : World) (k s0 e0 : Int) (HK : Hid (Sm.rk s h = k ∧ Sm.rs s h = s0 ∧ Sm.re s h = e0))
    (HB : Bounds s po fr st s0 e0) (hk : k = 0) (t3 : 0 ≤ po * 65536 + fr - st) :
    Calls Try.prog 53 #[SV s p cap, .agg #[.int .i64 po, .int .i64 fr, .bool true, .bool false], .int .i64 st, .bool h] w fun x w' => RetCur (Sm.gone k (s0 * 65536) (e0 * 65536) (s.dat.length * 65536) ⟨po, fr, true, false⟩ st) x ∧ Below w.heap.size w w' := by
  obtain ⟨b1, b2, b3, b4, b5, b6, b7, b8, b9, b10⟩ := HB
  have HE := Lib.hid (show Sm.gone k (s0 * 65536) (e0 * 65536) (s.dat.length * 65536) ⟨po, fr, true, false⟩ st = Sm.curAt ((po * 65536 + fr) - st) true by show Sm.aft _ _ _ (po * 65536 + fr) st = _; unfold Sm.aft; rw [if_neg (by omega), if_neg (by omega), if_neg (by omega)])
  subst hk
  unfold SV
  go_enter Try.func53, Try.ntmps53
  go_wp2_with (first | (go_at_call 36; ((with_reducible refine (rring' s p cap h _ HK).mono ?_); rintro x w' ⟨rfl, hb1⟩; have HO := Lib.hid ((own3_new w s p cap po fr _ _).kept hb1); obtain ⟨c1, ⟨c2, c3, c4, c5⟩, ⟨r0, r1, r2, r3⟩, ⟨f0, f1, f2, f3⟩⟩ := HO.out)) | (go_at_call 48; ((with_reducible refine (rat _ _ _ (by omega) (by omega)).mono ?_); rintro x w' ⟨⟨qp, qf, qb, qd, rfl, HC⟩, hb2⟩; obtain ⟨c1, ⟨c2, c3, c4, c5⟩, ⟨r0, r1, r2, r3⟩, ⟨f0, f1, f2, f3⟩⟩ := HO.out.kept hb2)))
  exact bodyPost_ret (v := .agg #[.int .i64 qp, .int .i64 qf, .bool qb, .bool qd]) (by simp [results, Try.results53, go_sem, r0, r1, r2, r3]) rfl ⟨⟨_, _, _, _, rfl, HE.out.trans HC.out⟩, end3 _ _ _ _ ((below3 w s p cap po fr _ _).trans ((hb1.mono (by simp; omega)).trans (hb2.mono (by have := hb1.size; simp at this; omega))))⟩
set_option maxHeartbeats 800000 in
theorem gone_aa1 (s : Sm.Smp) (p : Option Addr) (cap : Nat) (po fr st : Int) (h : Bool) (w : World) (k s0 e0 : Int) (HK : Hid (Sm.rk s h = k ∧ Sm.rs s h = s0 ∧ Sm.re s h = e0))
    (HB : Bounds s po fr st s0 e0) (hk : k = 1) (t1 : po * 65536 + fr < s0 * 65536) (t3 : 0 ≤ po * 65536 + fr - st) :
    Calls Try.prog 53 #[SV s p cap, .agg #[.int .i64 po, .int .i64 fr, .bool true, .bool false], .int .i64 st, .bool h] w fun x w' => RetCur (Sm.gone k (s0 * 65536) (e0 * 65536) (s.dat.length * 65536) ⟨po, fr, true, false⟩ st) x ∧ Below w.heap.size w w' := by
  obtain ⟨b1, b2, b3, b4, b5, b6, b7, b8, b9, b10⟩ := HB
  have HE := Lib.hid (show Sm.gone k (s0 * 65536) (e0 * 65536) (s.dat.length * 65536) ⟨po, fr, true, false⟩ st = Sm.curAt ((po * 65536 + fr) - st) true by show Sm.aft _ _ _ (po * 65536 + fr) st = _; unfold Sm.aft; rw [if_neg (by omega), if_neg (by omega), if_neg (by omega)])
  subst hk
  unfold SV
  go_enter Try.func53, Try.ntmps53
  go_wp2_with (first | (go_at_call 36; ((with_reducible refine (rring' s p cap h _ HK).mono ?_); rintro x w' ⟨rfl, hb1⟩; have HO := Lib.hid ((own3_new w s p cap po fr _ _).kept hb1); obtain ⟨c1, ⟨c2, c3, c4, c5⟩, ⟨r0, r1, r2, r3⟩, ⟨f0, f1, f2, f3⟩⟩ := HO.out)) | (go_at_call 48; ((with_reducible refine (rat _ _ _ (by omega) (by omega)).mono ?_); rintro x w' ⟨⟨qp, qf, qb, qd, rfl, HC⟩, hb2⟩; obtain ⟨c1, ⟨c2, c3, c4, c5⟩, ⟨r0, r1, r2, r3⟩, ⟨f0, f1, f2, f3⟩⟩ := HO.out.kept hb2)))
  exact bodyPost_ret (v := .agg #[.int .i64 qp, .int .i64 qf, .bool qb, .bool qd]) (by simp [results, Try.results53, go_sem, r0, r1, r2, r3]) rfl ⟨⟨_, _, _, _, rfl, HE.out.trans HC.out⟩, end3 _ _ _ _ ((below3 w s p cap po fr _ _).trans ((hb1.mono (by simp; omega)).trans (hb2.mono (by have := hb1.size; simp at this; omega))))⟩
set_option maxHeartbeats 800000 in
theorem gone_aa2 (s : Sm.Smp) (p : Option Addr) (cap : Nat) (po fr st : Int) (h : Bool) (w : World) (k s0 e0 : Int) (HK : Hid (Sm.rk s h = k ∧ Sm.rs s h = s0 ∧ Sm.re s h = e0))
    (HB : Bounds s po fr st s0 e0) (hk : k = 2) (t1 : po * 65536 + fr < s0 * 65536) (t3 : 0 ≤ po * 65536 + fr - st) :
    Calls Try.prog 53 #[SV s p cap, .agg #[.int .i64 po, .int .i64 fr, .bool true, .bool false], .int .i64 st, .bool h] w fun x w' => RetCur (Sm.gone k (s0 * 65536) (e0 * 65536) (s.dat.length * 65536) ⟨po, fr, true, false⟩ st) x ∧ Below w.heap.size w w' := by
  obtain ⟨b1, b2, b3, b4, b5, b6, b7, b8, b9, b10⟩ := HB
  have HE := Lib.hid (show Sm.gone k (s0 * 65536) (e0 * 65536) (s.dat.length * 65536) ⟨po, fr, true, false⟩ st = Sm.curAt ((po * 65536 + fr) - st) true by show Sm.aft _ _ _ (po * 65536 + fr) st = _; unfold Sm.aft; rw [if_neg (by omega), if_neg (by omega), if_neg (by omega)])
  subst hk
  unfold SV
  go_enter Try.func53, Try.ntmps53
  go_wp2_with (first | (go_at_call 36; ((with_reducible refine (rring' s p cap h _ HK).mono ?_); rintro x w' ⟨rfl, hb1⟩; have HO := Lib.hid ((own3_new w s p cap po fr _ _).kept hb1); obtain ⟨c1, ⟨c2, c3, c4, c5⟩, ⟨r0, r1, r2, r3⟩, ⟨f0, f1, f2, f3⟩⟩ := HO.out)) | (go_at_call 48; ((with_reducible refine (rat _ _ _ (by omega) (by omega)).mono ?_); rintro x w' ⟨⟨qp, qf, qb, qd, rfl, HC⟩, hb2⟩; obtain ⟨c1, ⟨c2, c3, c4, c5⟩, ⟨r0, r1, r2, r3⟩, ⟨f0, f1, f2, f3⟩⟩ := HO.out.kept hb2)))
  exact bodyPost_ret (v := .agg #[.int .i64 qp, .int .i64 qf, .bool qb, .bool qd]) (by simp [results, Try.results53, go_sem, r0, r1, r2, r3]) rfl ⟨⟨_, _, _, _, rfl, HE.out.trans HC.out⟩, end3 _ _ _ _ ((below3 w s p cap po fr _ _).trans ((hb1.mono (by simp; omega)).trans (hb2.mono (by have := hb1.size; simp at this; omega))))⟩
set_option maxHeartbeats 800000 in
theorem gone_aa3 (s : Sm.Smp) (p : Option Addr) (cap : Nat) (po fr st : Int) (h : Bool) (w : World) (k s0 e0 : Int) (HK : Hid (Sm.rk s h = k ∧ Sm.rs s h = s0 ∧ Sm.re s h = e0))
    (HB : Bounds s po fr st s0 e0) (hk : k = 1) (t1 : s0 * 65536 ≤ po * 65536 + fr) (t5 : s0 * 65536 ≤ po * 65536 + fr - st) (t3 : 0 ≤ po * 65536 + fr - st) :
    Calls Try.prog 53 #[SV s p cap, .agg #[.int .i64 po, .int .i64 fr, .bool true, .bool false], .int .i64 st, .bool h] w fun x w' => RetCur (Sm.gone k (s0 * 65536) (e0 * 65536) (s.dat.length * 65536) ⟨po, fr, true, false⟩ st) x ∧ Below w.heap.size w w' := by
  obtain ⟨b1, b2, b3, b4, b5, b6, b7, b8, b9, b10⟩ := HB
  have HE := Lib.hid (show Sm.gone k (s0 * 65536) (e0 * 65536) (s.dat.length * 65536) ⟨po, fr, true, false⟩ st = Sm.curAt ((po * 65536 + fr) - st) true by show Sm.aft _ _ _ (po * 65536 + fr) st = _; unfold Sm.aft; rw [if_neg (by omega), if_neg (by omega), if_neg (by omega)])
  subst hk
  unfold SV
  go_enter Try.func53, Try.ntmps53
  go_wp2_with (first | (go_at_call 36; ((with_reducible refine (rring' s p cap h _ HK).mono ?_); rintro x w' ⟨rfl, hb1⟩; have HO := Lib.hid ((own3_new w s p cap po fr _ _).kept hb1); obtain ⟨c1, ⟨c2, c3, c4, c5⟩, ⟨r0, r1, r2, r3⟩, ⟨f0, f1, f2, f3⟩⟩ := HO.out)) | (go_at_call 48; ((with_reducible refine (rat _ _ _ (by omega) (by omega)).mono ?_); rintro x w' ⟨⟨qp, qf, qb, qd, rfl, HC⟩, hb2⟩; obtain ⟨c1, ⟨c2, c3, c4, c5⟩, ⟨r0, r1, r2, r3⟩, ⟨f0, f1, f2, f3⟩⟩ := HO.out.kept hb2)))
  exact bodyPost_ret (v := .agg #[.int .i64 qp, .int .i64 qf, .bool qb, .bool qd]) (by simp [results, Try.results53, go_sem, r0, r1, r2, r3]) rfl ⟨⟨_, _, _, _, rfl, HE.out.trans HC.out⟩, end3 _ _ _ _ ((below3 w s p cap po fr _ _).trans ((hb1.mono (by simp; omega)).trans (hb2.mono (by have := hb1.size; simp at this; omega))))⟩
set_option maxHeartbeats 800000 in
theorem gone_ao0 (s : Sm.Smp) (p : Option Addr) (cap : Nat) (po fr st : Int) (h : Bool) (w : World) (k s0 e0 : Int) (HK : Hid (Sm.rk s h = k ∧ Sm.rs s h = s0 ∧ Sm.re s h = e0))
    (HB : Bounds s po fr st s0 e0) (hk : k = 0) (t3 : po * 65536 + fr - st < 0) :
    Calls Try.prog 53 #[SV s p cap, .agg #[.int .i64 po, .int .i64 fr, .bool true, .bool false], .int .i64 st, .bool h] w fun x w' => RetCur (Sm.gone k (s0 * 65536) (e0 * 65536) (s.dat.length * 65536) ⟨po, fr, true, false⟩ st) x ∧ Below w.heap.size w w' := by
  obtain ⟨b1, b2, b3, b4, b5, b6, b7, b8, b9, b10⟩ := HB
  have HE := Lib.hid (show Sm.gone k (s0 * 65536) (e0 * 65536) (s.dat.length * 65536) ⟨po, fr, true, false⟩ st = Sm.over by show Sm.aft _ _ _ (po * 65536 + fr) st = _; unfold Sm.aft; rw [if_neg (by omega), if_neg (by omega), if_pos t3])
  subst hk
  unfold SV
  go_enter Try.func53, Try.ntmps53
  go_wp2_with (first | (go_at_call 36; ((with_reducible refine (rring' s p cap h _ HK).mono ?_); rintro x w' ⟨rfl, hb1⟩; have HO := Lib.hid ((own3_new w s p cap po fr _ _).kept hb1); obtain ⟨c1, ⟨c2, c3, c4, c5⟩, ⟨r0, r1, r2, r3⟩, ⟨f0, f1, f2, f3⟩⟩ := HO.out)) | (go_at_call 47; ((with_reducible refine (rover _).mono ?_); rintro x w' ⟨⟨qp, qf, qb, qd, rfl, HC⟩, hb2⟩; obtain ⟨c1, ⟨c2, c3, c4, c5⟩, ⟨r0, r1, r2, r3⟩, ⟨f0, f1, f2, f3⟩⟩ := HO.out.kept hb2)))
  exact bodyPost_ret (v := .agg #[.int .i64 qp, .int .i64 qf, .bool qb, .bool qd]) (by simp [results, Try.results53, go_sem, r0, r1, r2, r3]) rfl ⟨⟨_, _, _, _, rfl, HE.out.trans HC.out⟩, end3 _ _ _ _ ((below3 w s p cap po fr _ _).trans ((hb1.mono (by simp; omega)).trans (hb2.mono (by have := hb1.size; simp at this; omega))))⟩
set_option maxHeartbeats 800000 in
theorem gone_ao1 (s : Sm.Smp) (p : Option Addr) (cap : Nat) (po fr st : Int) (h : Bool) (w : World) (k s0 e0 : Int) (HK : Hid (Sm.rk s h = k ∧ Sm.rs s h = s0 ∧ Sm.re s h = e0))
    (HB : Bounds s po fr st s0 e0) (hk : k = 1) (t1 : po * 65536 + fr < s0 * 65536) (t3 : po * 65536 + fr - st < 0) :
    Calls Try.prog 53 #[SV s p cap, .agg #[.int .i64 po, .int .i64 fr, .bool true, .bool false], .int .i64 st, .bool h] w fun x w' => RetCur (Sm.gone k (s0 * 65536) (e0 * 65536) (s.dat.length * 65536) ⟨po, fr, true, false⟩ st) x ∧ Below w.heap.size w w' := by
  obtain ⟨b1, b2, b3, b4, b5, b6, b7, b8, b9, b10⟩ := HB
  have HE := Lib.hid (show Sm.gone k (s0 * 65536) (e0 * 65536) (s.dat.length * 65536) ⟨po, fr, true, false⟩ st = Sm.over by show Sm.aft _ _ _ (po * 65536 + fr) st = _; unfold Sm.aft; rw [if_neg (by omega), if_neg (by omega), if_pos t3])
  subst hk
  unfold SV
  go_enter Try.func53, Try.ntmps53
  go_wp2_with (first | (go_at_call 36; ((with_reducible refine (rring' s p cap h _ HK).mono ?_); rintro x w' ⟨rfl, hb1⟩; have HO := Lib.hid ((own3_new w s p cap po fr _ _).kept hb1); obtain ⟨c1, ⟨c2, c3, c4, c5⟩, ⟨r0, r1, r2, r3⟩, ⟨f0, f1, f2, f3⟩⟩ := HO.out)) | (go_at_call 47; ((with_reducible refine (rover _).mono ?_); rintro x w' ⟨⟨qp, qf, qb, qd, rfl, HC⟩, hb2⟩; obtain ⟨c1, ⟨c2, c3, c4, c5⟩, ⟨r0, r1, r2, r3⟩, ⟨f0, f1, f2, f3⟩⟩ := HO.out.kept hb2)))
  exact bodyPost_ret (v := .agg #[.int .i64 qp, .int .i64 qf, .bool qb, .bool qd]) (by simp [results, Try.results53, go_sem, r0, r1, r2, r3]) rfl ⟨⟨_, _, _, _, rfl, HE.out.trans HC.out⟩, end3 _ _ _ _ ((below3 w s p cap po fr _ _).trans ((hb1.mono (by simp; omega)).trans (hb2.mono (by have := hb1.size; simp at this; omega))))⟩
set_option maxHeartbeats 800000 in
theorem gone_ao2 (s : Sm.Smp) (p : Option Addr) (cap : Nat) (po fr st : Int) (h : Bool) (w : World) (k s0 e0 : Int) (HK : Hid (Sm.rk s h = k ∧ Sm.rs s h = s0 ∧ Sm.re s h = e0))
    (HB : Bounds s po fr st s0 e0) (hk : k = 2) (t1 : po * 65536 + fr < s0 * 65536) (t3 : po * 65536 + fr - st < 0) :
    Calls Try.prog 53 #[SV s p cap, .agg #[.int .i64 po, .int .i64 fr, .bool true, .bool false], .int .i64 st, .bool h] w fun x w' => RetCur (Sm.gone k (s0 * 65536) (e0 * 65536) (s.dat.length * 65536) ⟨po, fr, true, false⟩ st) x ∧ Below w.heap.size w w' := by
  obtain ⟨b1, b2, b3, b4, b5, b6, b7, b8, b9, b10⟩ := HB
  have HE := Lib.hid (show Sm.gone k (s0 * 65536) (e0 * 65536) (s.dat.length * 65536) ⟨po, fr, true, false⟩ st = Sm.over by show Sm.aft _ _ _ (po * 65536 + fr) st = _; unfold Sm.aft; rw [if_neg (by omega), if_neg (by omega), if_pos t3])
  subst hk
  unfold SV
  go_enter Try.func53, Try.ntmps53
  go_wp2_with (first | (go_at_call 36; ((with_reducible refine (rring' s p cap h _ HK).mono ?_); rintro x w' ⟨rfl, hb1⟩; have HO := Lib.hid ((own3_new w s p cap po fr _ _).kept hb1); obtain ⟨c1, ⟨c2, c3, c4, c5⟩, ⟨r0, r1, r2, r3⟩, ⟨f0, f1, f2, f3⟩⟩ := HO.out)) | (go_at_call 47; ((with_reducible refine (rover _).mono ?_); rintro x w' ⟨⟨qp, qf, qb, qd, rfl, HC⟩, hb2⟩; obtain ⟨c1, ⟨c2, c3, c4, c5⟩, ⟨r0, r1, r2, r3⟩, ⟨f0, f1, f2, f3⟩⟩ := HO.out.kept hb2)))
  exact bodyPost_ret (v := .agg #[.int .i64 qp, .int .i64 qf, .bool qb, .bool qd]) (by simp [results, Try.results53, go_sem, r0, r1, r2, r3]) rfl ⟨⟨_, _, _, _, rfl, HE.out.trans HC.out⟩, end3 _ _ _ _ ((below3 w s p cap po fr _ _).trans ((hb1.mono (by simp; omega)).trans (hb2.mono (by have := hb1.size; simp at this; omega))))⟩
theorem gone_done (s : Sm.Smp) (p : Option Addr) (cap : Nat) (po fr st k s0 e0 : Int) (bk h : Bool) (w : World) :
    Calls Try.prog 53 #[SV s p cap, .agg #[.int .i64 po, .int .i64 fr, .bool bk, .bool true], .int .i64 st, .bool h] w fun x w' => RetCur (Sm.gone k (s0 * 65536) (e0 * 65536) (s.dat.length * 65536) ⟨po, fr, bk, true⟩ st) x ∧ Below w.heap.size w w' := by
  unfold SV
  go_enter Try.func53, Try.ntmps53
  go_wp2
  exact bodyPost_ret (v := .agg #[.int .i64 po, .int .i64 fr, .bool bk, .bool true]) (by simp [results, Try.results53, go_sem]) rfl ⟨⟨_, _, _, _, rfl, rfl⟩, (((Below.refl _ _).alloc (Nat.le_refl _) _).alloc (by simp) _).alloc (by simp; omega) _⟩
/-- Where a cursor of a valid sample stands after a step. -/
theorem rgone (s : Sm.Smp) (p : Option Addr) (cap : Nat) (po fr st : Int) (bk dn h : Bool) (w : World) {k s0 e0 : Int} (HK : Hid (Sm.rk s h = k ∧ Sm.rs s h = s0 ∧ Sm.re s h = e0))
    (hc : dn = true ∨ Bounds s po fr st s0 e0) (hk : k = 0 ∨ k = 1 ∨ k = 2) (hl : k = 0 ∨ s0 < e0) :
    Calls Try.prog 53 #[SV s p cap, .agg #[.int .i64 po, .int .i64 fr, .bool bk, .bool dn], .int .i64 st, .bool h] w fun x w' => RetCur (Sm.gone k (s0 * 65536) (e0 * 65536) (s.dat.length * 65536) ⟨po, fr, bk, dn⟩ st) x ∧ Below w.heap.size w w' := by
  cases dn with
  | true => exact gone_done s p cap po fr st k s0 e0 bk h w
  | false =>
    rcases hc with hc | hb
    · cases hc
    have hb' := hb
    obtain ⟨b1, b2, b3, b4, b5, b6, b7, b8, b9, b10⟩ := hb'
    cases bk with
    | false =>
      by_cases t : e0 * 65536 ≤ po * 65536 + fr + st
      · rcases hk with hk | hk | hk
        · by_cases t3 : (s.dat.length : Int) * 65536 ≤ po * 65536 + fr + st
          · exact gone_fo s p cap po fr st h w k s0 e0 HK hb hk t3
          · exact gone_fa0 s p cap po fr st h w k s0 e0 HK hb hk (by omega)
        · exact gone_f1 s p cap po fr st h w k s0 e0 HK hb hk t (by omega)
        · exact gone_f2 s p cap po fr st h w k s0 e0 HK hb hk t (by omega)
      · rcases hk with hk | hk | hk
        · exact gone_fa0 s p cap po fr st h w k s0 e0 HK hb hk (by omega)
        · exact gone_fa1 s p cap po fr st h w k s0 e0 HK hb hk (by omega) (by omega)
        · exact gone_fa2 s p cap po fr st h w k s0 e0 HK hb hk (by omega) (by omega)
    | true =>
      by_cases t : s0 * 65536 ≤ po * 65536 + fr
      · rcases hk with hk | hk | hk
        · by_cases t3 : 0 ≤ po * 65536 + fr - st
          · exact gone_aa0 s p cap po fr st h w k s0 e0 HK hb hk t3
          · exact gone_ao0 s p cap po fr st h w k s0 e0 HK hb hk (by omega)
        · by_cases t3 : po * 65536 + fr - st < s0 * 65536
          · exact gone_a1 s p cap po fr st h w k s0 e0 HK hb hk t t3 (by omega)
          · exact gone_aa3 s p cap po fr st h w k s0 e0 HK hb hk t (by omega) (by omega)
        · by_cases t3 : po * 65536 + fr < e0 * 65536
          · exact gone_a2 s p cap po fr st h w k s0 e0 HK hb hk t t3 (by omega)
          · exact gone_a2e s p cap po fr st h w k s0 e0 HK hb hk t (by omega) (by omega)
      · by_cases t3 : 0 ≤ po * 65536 + fr - st
        · rcases hk with hk | hk | hk
          · exact gone_aa0 s p cap po fr st h w k s0 e0 HK hb hk t3
          · exact gone_aa1 s p cap po fr st h w k s0 e0 HK hb hk (by omega) t3
          · exact gone_aa2 s p cap po fr st h w k s0 e0 HK hb hk (by omega) t3
        · rcases hk with hk | hk | hk
          · exact gone_ao0 s p cap po fr st h w k s0 e0 HK hb hk (by omega)
          · exact gone_ao1 s p cap po fr st h w k s0 e0 HK hb hk (by omega) (by omega)
          · exact gone_ao2 s p cap po fr st h w k s0 e0 HK hb hk (by omega) (by omega)
end Go.Proofs.Ytmaldhjcdkidmaa

/-
  Contracts of the reference's Applies and Begin: for any sample, offset and direction, what the call returns; nothing that was there is changed.
-/
import Derived.Test.YtmaldhjcdkidmaaRefMoveB
namespace Go.Proofs.Ytmaldhjcdkidmaa
open Go.RowKit

theorem rapplies (s : Sm.Smp) (p : Option Addr) (cap : Nat) (h : Bool) (w : World) (hm : s.name.size ≤ maxLen) (hd : DatAt w p s.dat) (hv : Sm.vld s = true) :
    Calls Try.prog 12 #[SV s p cap, .bool h] w fun x w' => x = .returned (.tuple #[.int .i64 (Sm.rk s h), .int .i64 (Sm.rs s h), .int .i64 (Sm.re s h)]) ∧ Below w.heap.size w w' := by
  unfold SV
  go_enter Try.func12, Try.ntmps12
  go_wp2_with (first | (go_at_call 14; refine (rvalid s p cap _ hm (hd.below (below_box _ _))).mono ?_; rintro x w1 ⟨rfl, hb1⟩; obtain ⟨x0, x1, x2, x3, x4, x5, x6, x7, x8, x9, x10, x11, x12⟩ := ((boxed_new w s p cap 24).below hb1 (by simp))) | (go_at_call 36; refine (rring s p cap h _).mono ?_; rintro x w2 ⟨rfl, hb2⟩))
  go_ret3
  exact ⟨rfl, (below_box _ _).trans ((hb1.mono (by simp)).trans (hb2.mono (by have := hb1.size; simp at this; omega)))⟩
theorem rapplies_no (s : Sm.Smp) (p : Option Addr) (cap : Nat) (h : Bool) (w : World) (hm : s.name.size ≤ maxLen) (hd : DatAt w p s.dat) (hv : Sm.vld s = false) :
    Calls Try.prog 12 #[SV s p cap, .bool h] w fun x w' => x = .returned (.tuple #[.int .i64 0, .int .i64 0, .int .i64 0]) ∧ Below w.heap.size w w' := by
  unfold SV
  go_enter Try.func12, Try.ntmps12
  go_wp2_with (first | (go_at_call 14; refine (rvalid s p cap _ hm (hd.below (below_box _ _))).mono ?_; rintro x w1 ⟨rfl, hb1⟩; obtain ⟨x0, x1, x2, x3, x4, x5, x6, x7, x8, x9, x10, x11, x12⟩ := ((boxed_new w s p cap 24).below hb1 (by simp))))
  go_ret3
  exact ⟨rfl, (below_box _ _).trans (hb1.mono (by simp))⟩
theorem rbegin_back (s : Sm.Smp) (p : Option Addr) (cap : Nat) (o : Int) (w : World) (hm : s.name.size ≤ maxLen) (hd : DatAt w p s.dat) (hv : Sm.vld s = true) (h1 : 0 ≤ o) (h2 : o < s.dat.length) (h3 : (s.dat.length : Int) ≤ 4096) :
    Calls Try.prog 16 #[SV s p cap, .int .i64 o, .bool true] w fun x w' => RetCur (bgn s o true) x ∧ Below w.heap.size w w' := by
  have HE := Lib.hid (show bgn s o true = Sm.curAt ((s.dat.length - 1 - o) * 65536) true by unfold bgn; rw [if_pos ⟨hv, h1, h2⟩, if_pos rfl])
  unfold SV
  go_enter Try.func16, Try.ntmps16
  go_wp2_with (first | (go_at_call 14; refine (rvalid s p cap _ hm (hd.below (below2 w s p cap))).mono ?_; rintro x w1 ⟨rfl, hb1⟩; have HO1 := Lib.hid ((res_new w s p cap).kept hb1); obtain ⟨⟨r0, r1, r2, r3⟩, ⟨f0, f1, f2, f3⟩⟩ := HO1.out) | (go_at_call 48; refine (rat _ _ _ (by omega) (by omega)).mono ?_; rintro x w2 ⟨⟨qp, qf, qb, qd, rfl, HC⟩, hb2⟩; obtain ⟨⟨r0, r1, r2, r3⟩, ⟨f0, f1, f2, f3⟩⟩ := HO1.out.kept hb2))
  exact bodyPost_ret (v := .agg #[.int .i64 qp, .int .i64 qf, .bool qb, .bool qd]) (by simp [results, Try.results16, go_sem, r0, r1, r2, r3]) rfl ⟨⟨_, _, _, _, rfl, HE.out.trans HC.out⟩, end2 _ _ _ _ ((below2 w s p cap).trans ((hb1.mono (by simp; omega)).trans (hb2.mono (by have := hb1.size; simp at this; omega))))⟩
theorem rbegin_fore (s : Sm.Smp) (p : Option Addr) (cap : Nat) (o : Int) (w : World) (hm : s.name.size ≤ maxLen) (hd : DatAt w p s.dat) (hv : Sm.vld s = true) (h1 : 0 ≤ o) (h2 : o < s.dat.length) (h3 : (s.dat.length : Int) ≤ 4096) :
    Calls Try.prog 16 #[SV s p cap, .int .i64 o, .bool false] w fun x w' => RetCur (bgn s o false) x ∧ Below w.heap.size w w' := by
  have HE := Lib.hid (show bgn s o false = Sm.curAt (o * 65536) false by unfold bgn; rw [if_pos ⟨hv, h1, h2⟩, if_neg (by simp)])
  unfold SV
  go_enter Try.func16, Try.ntmps16
  go_wp2_with (first | (go_at_call 14; refine (rvalid s p cap _ hm (hd.below (below2 w s p cap))).mono ?_; rintro x w1 ⟨rfl, hb1⟩; have HO1 := Lib.hid ((res_new w s p cap).kept hb1); obtain ⟨⟨r0, r1, r2, r3⟩, ⟨f0, f1, f2, f3⟩⟩ := HO1.out) | (go_at_call 48; refine (rat _ _ _ (by omega) (by omega)).mono ?_; rintro x w2 ⟨⟨qp, qf, qb, qd, rfl, HC⟩, hb2⟩; obtain ⟨⟨r0, r1, r2, r3⟩, ⟨f0, f1, f2, f3⟩⟩ := HO1.out.kept hb2))
  exact bodyPost_ret (v := .agg #[.int .i64 qp, .int .i64 qf, .bool qb, .bool qd]) (by simp [results, Try.results16, go_sem, r0, r1, r2, r3]) rfl ⟨⟨_, _, _, _, rfl, HE.out.trans HC.out⟩, end2 _ _ _ _ ((below2 w s p cap).trans ((hb1.mono (by simp; omega)).trans (hb2.mono (by have := hb1.size; simp at this; omega))))⟩
theorem rbegin_bad (s : Sm.Smp) (p : Option Addr) (cap : Nat) (o : Int) (w : World) (hm : s.name.size ≤ maxLen) (hd : DatAt w p s.dat) (b : Bool) (hv : Sm.vld s = false) :
    Calls Try.prog 16 #[SV s p cap, .int .i64 o, .bool b] w fun x w' => RetCur (bgn s o b) x ∧ Below w.heap.size w w' := by
  have HE := Lib.hid (show bgn s o b = Sm.over by unfold bgn; rw [if_neg (by simp [hv])])
  unfold SV
  go_enter Try.func16, Try.ntmps16
  go_wp2_with (first | (go_at_call 14; refine (rvalid s p cap _ hm (hd.below (below2 w s p cap))).mono ?_; rintro x w1 ⟨rfl, hb1⟩; have HO1 := Lib.hid ((res_new w s p cap).kept hb1); obtain ⟨⟨r0, r1, r2, r3⟩, ⟨f0, f1, f2, f3⟩⟩ := HO1.out) | (go_at_call 47; refine (rover _).mono ?_; rintro x w2 ⟨⟨qp, qf, qb, qd, rfl, HC⟩, hb2⟩; obtain ⟨⟨r0, r1, r2, r3⟩, ⟨f0, f1, f2, f3⟩⟩ := HO1.out.kept hb2))
  exact bodyPost_ret (v := .agg #[.int .i64 qp, .int .i64 qf, .bool qb, .bool qd]) (by simp [results, Try.results16, go_sem, r0, r1, r2, r3]) rfl ⟨⟨_, _, _, _, rfl, HE.out.trans HC.out⟩, end2 _ _ _ _ ((below2 w s p cap).trans ((hb1.mono (by simp; omega)).trans (hb2.mono (by have := hb1.size; simp at this; omega))))⟩
theorem rbegin_low (s : Sm.Smp) (p : Option Addr) (cap : Nat) (o : Int) (w : World) (hm : s.name.size ≤ maxLen) (hd : DatAt w p s.dat) (b : Bool) (hv : Sm.vld s = true) (h1 : o < 0) :
    Calls Try.prog 16 #[SV s p cap, .int .i64 o, .bool b] w fun x w' => RetCur (bgn s o b) x ∧ Below w.heap.size w w' := by
  have HE := Lib.hid (show bgn s o b = Sm.over by unfold bgn; rw [if_neg (by omega)])
  unfold SV
  go_enter Try.func16, Try.ntmps16
  go_wp2_with (first | (go_at_call 14; refine (rvalid s p cap _ hm (hd.below (below2 w s p cap))).mono ?_; rintro x w1 ⟨rfl, hb1⟩; have HO1 := Lib.hid ((res_new w s p cap).kept hb1); obtain ⟨⟨r0, r1, r2, r3⟩, ⟨f0, f1, f2, f3⟩⟩ := HO1.out) | (go_at_call 47; refine (rover _).mono ?_; rintro x w2 ⟨⟨qp, qf, qb, qd, rfl, HC⟩, hb2⟩; obtain ⟨⟨r0, r1, r2, r3⟩, ⟨f0, f1, f2, f3⟩⟩ := HO1.out.kept hb2))
  exact bodyPost_ret (v := .agg #[.int .i64 qp, .int .i64 qf, .bool qb, .bool qd]) (by simp [results, Try.results16, go_sem, r0, r1, r2, r3]) rfl ⟨⟨_, _, _, _, rfl, HE.out.trans HC.out⟩, end2 _ _ _ _ ((below2 w s p cap).trans ((hb1.mono (by simp; omega)).trans (hb2.mono (by have := hb1.size; simp at this; omega))))⟩
theorem rbegin_high (s : Sm.Smp) (p : Option Addr) (cap : Nat) (o : Int) (w : World) (hm : s.name.size ≤ maxLen) (hd : DatAt w p s.dat) (b : Bool) (hv : Sm.vld s = true) (h0 : 0 ≤ o) (h1 : s.dat.length ≤ o) :
    Calls Try.prog 16 #[SV s p cap, .int .i64 o, .bool b] w fun x w' => RetCur (bgn s o b) x ∧ Below w.heap.size w w' := by
  have HE := Lib.hid (show bgn s o b = Sm.over by unfold bgn; rw [if_neg (by omega)])
  unfold SV
  go_enter Try.func16, Try.ntmps16
  go_wp2_with (first | (go_at_call 14; refine (rvalid s p cap _ hm (hd.below (below2 w s p cap))).mono ?_; rintro x w1 ⟨rfl, hb1⟩; have HO1 := Lib.hid ((res_new w s p cap).kept hb1); obtain ⟨⟨r0, r1, r2, r3⟩, ⟨f0, f1, f2, f3⟩⟩ := HO1.out) | (go_at_call 47; refine (rover _).mono ?_; rintro x w2 ⟨⟨qp, qf, qb, qd, rfl, HC⟩, hb2⟩; obtain ⟨⟨r0, r1, r2, r3⟩, ⟨f0, f1, f2, f3⟩⟩ := HO1.out.kept hb2))
  exact bodyPost_ret (v := .agg #[.int .i64 qp, .int .i64 qf, .bool qb, .bool qd]) (by simp [results, Try.results16, go_sem, r0, r1, r2, r3]) rfl ⟨⟨_, _, _, _, rfl, HE.out.trans HC.out⟩, end2 _ _ _ _ ((below2 w s p cap).trans ((hb1.mono (by simp; omega)).trans (hb2.mono (by have := hb1.size; simp at this; omega))))⟩
theorem rbegin (s : Sm.Smp) (p : Option Addr) (cap : Nat) (o : Int) (b : Bool) (w : World) (hm : s.name.size ≤ maxLen) (hd : DatAt w p s.dat) :
    Calls Try.prog 16 #[SV s p cap, .int .i64 o, .bool b] w fun x w' => RetCur (bgn s o b) x ∧ Below w.heap.size w w' := by
  by_cases hv : Sm.vld s = true
  · by_cases h1 : 0 ≤ o
    · by_cases h2 : o < s.dat.length
      · cases b
        · exact rbegin_fore s p cap o w hm hd hv h1 h2 (vld_len hv)
        · exact rbegin_back s p cap o w hm hd hv h1 h2 (vld_len hv)
      · exact rbegin_high s p cap o w hm hd b hv h1 (by omega)
    · exact rbegin_low s p cap o w hm hd b hv (by omega)
  · exact rbegin_bad s p cap o w hm hd b (by simpa using hv)
end Go.Proofs.Ytmaldhjcdkidmaa

/-
  The contract of the reference's Move: for any sample, cursor, step and key, what the call returns; nothing that was there is changed.
-/
import Derived.Test.YtmaldhjcdkidmaaRefMove
import Derived.Test.YtmaldhjcdkidmaaRefValidB
namespace Go.Proofs.Ytmaldhjcdkidmaa
open Go.RowKit

theorem rmove_invalid (s : Sm.Smp) (p : Option Addr) (cap : Nat) (po fr st : Int) (bk dn h : Bool) (w : World) (hm : s.name.size ≤ maxLen) (hd : DatAt w p s.dat) (hv : Sm.vld s = false) :
    Calls Try.prog 18 #[SV s p cap, .agg #[.int .i64 po, .int .i64 fr, .bool bk, .bool dn], .int .i64 st, .bool h] w fun x w' => RetCurE ⟨0, 0, false, false⟩ 1 x ∧ Below w.heap.size w w' := by
  unfold SV
  go_enter Try.func18, Try.ntmps18
  go_wp2_with (first | (go_at_call 14; refine (rvalid s p cap _ hm (hd.below (below3 w s p cap po fr bk dn))).mono ?_; rintro x w1 ⟨rfl, hb1⟩; have HB1 := Lib.hid ((boxed3 w s p cap po fr bk dn).below hb1 (by simp; omega)); have HO1 := Lib.hid ((own3_new w s p cap po fr bk dn).kept hb1); obtain ⟨x0, x1, x2, x3, x4, x5, x6, x7, x8, x9, x10, x11, x12⟩ := HB1.out; obtain ⟨c1, ⟨c2, c3, c4, c5⟩, ⟨r0, r1, r2, r3⟩, ⟨f0, f1, f2, f3⟩⟩ := HO1.out))
  exact bodyPost_ret (v := .tuple #[.agg #[.int .i64 0, .int .i64 0, .bool false, .bool false], .int .i64 1]) (by simp [results, Try.results18, go_sem, r0, r1, r2, r3]) rfl ⟨⟨_, _, _, _, rfl, rfl⟩, end3 _ _ _ _ ((below3 w s p cap po fr _ _).trans (hb1.mono (by simp; omega)))⟩
theorem rmove_stands (s : Sm.Smp) (p : Option Addr) (cap : Nat) (po fr st : Int) (bk dn h : Bool) (w : World) (hm : s.name.size ≤ maxLen) (hd : DatAt w p s.dat) (hv : Sm.vld s = true) (hs : std s.dat.length po fr bk dn = false) :
    Calls Try.prog 18 #[SV s p cap, .agg #[.int .i64 po, .int .i64 fr, .bool bk, .bool dn], .int .i64 st, .bool h] w fun x w' => RetCurE ⟨0, 0, false, false⟩ 1 x ∧ Below w.heap.size w w' := by
  unfold SV
  go_enter Try.func18, Try.ntmps18
  go_wp2_with (first | (go_at_call 14; refine (rvalid s p cap _ hm (hd.below (below3 w s p cap po fr bk dn))).mono ?_; rintro x w1 ⟨rfl, hb1⟩; have HB1 := Lib.hid ((boxed3 w s p cap po fr bk dn).below hb1 (by simp; omega)); have HO1 := Lib.hid ((own3_new w s p cap po fr bk dn).kept hb1); obtain ⟨x0, x1, x2, x3, x4, x5, x6, x7, x8, x9, x10, x11, x12⟩ := HB1.out; obtain ⟨c1, ⟨c2, c3, c4, c5⟩, ⟨r0, r1, r2, r3⟩, ⟨f0, f1, f2, f3⟩⟩ := HO1.out) | (go_at_call 52; refine (rstands s p cap po fr bk dn _).mono ?_; rintro x w2 ⟨rfl, hb2⟩; have HB2 := Lib.hid (HB1.out.below hb2 (by have := hb1.size; simp at this; omega)); have HO2 := Lib.hid (HO1.out.kept hb2); obtain ⟨x0, x1, x2, x3, x4, x5, x6, x7, x8, x9, x10, x11, x12⟩ := HB2.out; obtain ⟨c1, ⟨c2, c3, c4, c5⟩, ⟨r0, r1, r2, r3⟩, ⟨f0, f1, f2, f3⟩⟩ := HO2.out))
  exact bodyPost_ret (v := .tuple #[.agg #[.int .i64 0, .int .i64 0, .bool false, .bool false], .int .i64 1]) (by simp [results, Try.results18, go_sem, r0, r1, r2, r3]) rfl ⟨⟨_, _, _, _, rfl, rfl⟩, end3 _ _ _ _ ((below3 w s p cap po fr _ _).trans ((hb1.mono (by simp; omega)).trans (hb2.mono (by have := hb1.size; simp at this; omega))))⟩
theorem rmove_range (s : Sm.Smp) (p : Option Addr) (cap : Nat) (po fr st : Int) (bk dn h : Bool) (w : World) (hm : s.name.size ≤ maxLen) (hd : DatAt w p s.dat) (hv : Sm.vld s = true) (hs : std s.dat.length po fr bk dn = true) (hr : st < 0 ∨ 268435456 < st) :
    Calls Try.prog 18 #[SV s p cap, .agg #[.int .i64 po, .int .i64 fr, .bool bk, .bool dn], .int .i64 st, .bool h] w fun x w' => RetCurE ⟨0, 0, false, false⟩ 5 x ∧ Below w.heap.size w w' := by
  unfold SV
  by_cases h1 : st < 0
  · go_enter Try.func18, Try.ntmps18
    go_wp2_with (first | (go_at_call 14; refine (rvalid s p cap _ hm (hd.below (below3 w s p cap po fr bk dn))).mono ?_; rintro x w1 ⟨rfl, hb1⟩; have HB1 := Lib.hid ((boxed3 w s p cap po fr bk dn).below hb1 (by simp; omega)); have HO1 := Lib.hid ((own3_new w s p cap po fr bk dn).kept hb1); obtain ⟨x0, x1, x2, x3, x4, x5, x6, x7, x8, x9, x10, x11, x12⟩ := HB1.out; obtain ⟨c1, ⟨c2, c3, c4, c5⟩, ⟨r0, r1, r2, r3⟩, ⟨f0, f1, f2, f3⟩⟩ := HO1.out) | (go_at_call 52; refine (rstands s p cap po fr bk dn _).mono ?_; rintro x w2 ⟨rfl, hb2⟩; have HB2 := Lib.hid (HB1.out.below hb2 (by have := hb1.size; simp at this; omega)); have HO2 := Lib.hid (HO1.out.kept hb2); obtain ⟨x0, x1, x2, x3, x4, x5, x6, x7, x8, x9, x10, x11, x12⟩ := HB2.out; obtain ⟨c1, ⟨c2, c3, c4, c5⟩, ⟨r0, r1, r2, r3⟩, ⟨f0, f1, f2, f3⟩⟩ := HO2.out))
    exact bodyPost_ret (v := .tuple #[.agg #[.int .i64 0, .int .i64 0, .bool false, .bool false], .int .i64 5]) (by simp [results, Try.results18, go_sem, r0, r1, r2, r3]) rfl ⟨⟨_, _, _, _, rfl, rfl⟩, end3 _ _ _ _ ((below3 w s p cap po fr _ _).trans ((hb1.mono (by simp; omega)).trans (hb2.mono (by have := hb1.size; simp at this; omega))))⟩
  · have h2 : 268435456 < st := by omega
    go_enter Try.func18, Try.ntmps18
    go_wp2_with (first | (go_at_call 14; refine (rvalid s p cap _ hm (hd.below (below3 w s p cap po fr bk dn))).mono ?_; rintro x w1 ⟨rfl, hb1⟩; have HB1 := Lib.hid ((boxed3 w s p cap po fr bk dn).below hb1 (by simp; omega)); have HO1 := Lib.hid ((own3_new w s p cap po fr bk dn).kept hb1); obtain ⟨x0, x1, x2, x3, x4, x5, x6, x7, x8, x9, x10, x11, x12⟩ := HB1.out; obtain ⟨c1, ⟨c2, c3, c4, c5⟩, ⟨r0, r1, r2, r3⟩, ⟨f0, f1, f2, f3⟩⟩ := HO1.out) | (go_at_call 52; refine (rstands s p cap po fr bk dn _).mono ?_; rintro x w2 ⟨rfl, hb2⟩; have HB2 := Lib.hid (HB1.out.below hb2 (by have := hb1.size; simp at this; omega)); have HO2 := Lib.hid (HO1.out.kept hb2); obtain ⟨x0, x1, x2, x3, x4, x5, x6, x7, x8, x9, x10, x11, x12⟩ := HB2.out; obtain ⟨c1, ⟨c2, c3, c4, c5⟩, ⟨r0, r1, r2, r3⟩, ⟨f0, f1, f2, f3⟩⟩ := HO2.out))
    exact bodyPost_ret (v := .tuple #[.agg #[.int .i64 0, .int .i64 0, .bool false, .bool false], .int .i64 5]) (by simp [results, Try.results18, go_sem, r0, r1, r2, r3]) rfl ⟨⟨_, _, _, _, rfl, rfl⟩, end3 _ _ _ _ ((below3 w s p cap po fr _ _).trans ((hb1.mono (by simp; omega)).trans (hb2.mono (by have := hb1.size; simp at this; omega))))⟩
theorem rmove_ok (s : Sm.Smp) (p : Option Addr) (cap : Nat) (po fr st : Int) (bk dn h : Bool) (w : World) (hm : s.name.size ≤ maxLen) (hd : DatAt w p s.dat) (hv : Sm.vld s = true) (hs : std s.dat.length po fr bk dn = true) (s1 : 0 ≤ st) (s2 : st ≤ 268435456) :
    Calls Try.prog 18 #[SV s p cap, .agg #[.int .i64 po, .int .i64 fr, .bool bk, .bool dn], .int .i64 st, .bool h] w fun x w' =>
      RetCurE (Sm.gone (Sm.rk s h) (Sm.rs s h * 65536) (Sm.re s h * 65536) (s.dat.length * 65536) ⟨po, fr, bk, dn⟩ st) 0 x ∧ Below w.heap.size w w' := by
  obtain ⟨hk, hl, q1, q2, q3, q4⟩ := ring_ok hv h
  have hc := stand_ok hs s1 (by omega) q1 q2 q3 q4
  have HCC := Lib.hid hc
  have Hk := Lib.hid hk
  have Hl := Lib.hid hl
  clear hc hk hl
  unfold SV
  go_enter Try.func18, Try.ntmps18
  go_wp2_with (first | (go_at_call 14; refine (rvalid s p cap _ hm (hd.below (below3 w s p cap po fr bk dn))).mono ?_; rintro x w1 ⟨rfl, hb1⟩; have HB1 := Lib.hid ((boxed3 w s p cap po fr bk dn).below hb1 (by simp; omega)); have HO1 := Lib.hid ((own3_new w s p cap po fr bk dn).kept hb1); obtain ⟨x0, x1, x2, x3, x4, x5, x6, x7, x8, x9, x10, x11, x12⟩ := HB1.out; obtain ⟨c1, ⟨c2, c3, c4, c5⟩, ⟨r0, r1, r2, r3⟩, ⟨f0, f1, f2, f3⟩⟩ := HO1.out) | (go_at_call 52; refine (rstands s p cap po fr bk dn _).mono ?_; rintro x w2 ⟨rfl, hb2⟩; have HB2 := Lib.hid (HB1.out.below hb2 (by have := hb1.size; simp at this; omega)); have HO2 := Lib.hid (HO1.out.kept hb2); obtain ⟨x0, x1, x2, x3, x4, x5, x6, x7, x8, x9, x10, x11, x12⟩ := HB2.out; obtain ⟨c1, ⟨c2, c3, c4, c5⟩, ⟨r0, r1, r2, r3⟩, ⟨f0, f1, f2, f3⟩⟩ := HO2.out) | (go_at_call 53; refine (rgone s p cap po fr st bk dn h _ (hk_refl s h) HCC.out Hk.out Hl.out).mono ?_; rintro x w3 ⟨⟨qp, qf, qb, qd, rfl, HC⟩, hb3⟩; obtain ⟨c1, ⟨c2, c3, c4, c5⟩, ⟨r0, r1, r2, r3⟩, ⟨f0, f1, f2, f3⟩⟩ := HO2.out.kept hb3))
  exact bodyPost_ret (v := .tuple #[.agg #[.int .i64 qp, .int .i64 qf, .bool qb, .bool qd], .int .i64 0]) (by simp [results, Try.results18, go_sem, r0, r1, r2, r3]) rfl ⟨⟨_, _, _, _, rfl, HC⟩, end3 _ _ _ _ ((below3 w s p cap po fr _ _).trans ((hb1.mono (by simp; omega)).trans ((hb2.mono (by have := hb1.size; simp at this; omega)).trans (hb3.mono (by have := hb1.size; have := hb2.size; simp at *; omega)))))⟩
end Go.Proofs.Ytmaldhjcdkidmaa

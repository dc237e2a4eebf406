/-
  The contract of the reference's Tap: for any sample, cursor, number and key, what the call returns; nothing that was there is changed.
-/
import Derived.Test.YtmaldhjcdkidmaaRefTapB
import Derived.Test.YtmaldhjcdkidmaaRefBegin
namespace Go.Proofs.Ytmaldhjcdkidmaa
open Go.RowKit

theorem rtap_invalid (s : Sm.Smp) (p : Option Addr) (cap : Nat) (po fr k : Int) (bk dn h : Bool) (w : World) (hm : s.name.size ≤ maxLen) (hd : DatAt w p s.dat) (hv : Sm.vld s = false) :
    Calls Try.prog 20 #[SV s p cap, .agg #[.int .i64 po, .int .i64 fr, .bool bk, .bool dn], .int .i64 k, .bool h] w fun x w' => x = .returned (.int .i64 (tap s h ⟨po, fr, bk, dn⟩ k)) ∧ Below w.heap.size w w' := by
  have HE := Lib.hid (show tap s h ⟨po, fr, bk, dn⟩ k = 0 by unfold tap; rw [if_neg (by simp [hv])])
  unfold SV
  go_enter Try.func20, Try.ntmps20
  go_wp2_with (first | (go_at_call 14; refine (rvalid s p cap _ hm (hd.below (((Below.refl w.heap.size w).alloc (Nat.le_refl _) _).alloc (by simp) _))).mono ?_; rintro x w1 ⟨rfl, hb1⟩; have hz1 := hb1.size; have HO1 := Lib.hid ((own2_new w s p cap po fr bk dn).kept hb1); obtain ⟨⟨x0, x1, x2, x3, x4, x5, x6, x7, x8, x9, x10, x11, x12⟩, c0, c1, c2, c3⟩ := HO1.out))
  go_ret
  exact ⟨ret_int HE.out.symm, ((((Below.refl w.heap.size w).alloc (Nat.le_refl _) _).alloc (by simp) _).trans (hb1.mono (by simp; omega)))⟩
theorem rtap_stands (s : Sm.Smp) (p : Option Addr) (cap : Nat) (po fr k : Int) (bk dn h : Bool) (w : World) (hm : s.name.size ≤ maxLen) (hd : DatAt w p s.dat) (hv : Sm.vld s = true) (hs : std s.dat.length po fr bk dn = false) :
    Calls Try.prog 20 #[SV s p cap, .agg #[.int .i64 po, .int .i64 fr, .bool bk, .bool dn], .int .i64 k, .bool h] w fun x w' => x = .returned (.int .i64 (tap s h ⟨po, fr, bk, dn⟩ k)) ∧ Below w.heap.size w w' := by
  have HE := Lib.hid (show tap s h ⟨po, fr, bk, dn⟩ k = 0 by unfold tap; rw [if_neg (by simp [hs])])
  unfold SV
  go_enter Try.func20, Try.ntmps20
  go_wp2_with (first | (go_at_call 14; refine (rvalid s p cap _ hm (hd.below (((Below.refl w.heap.size w).alloc (Nat.le_refl _) _).alloc (by simp) _))).mono ?_; rintro x w1 ⟨rfl, hb1⟩; have hz1 := hb1.size; have HO1 := Lib.hid ((own2_new w s p cap po fr bk dn).kept hb1); obtain ⟨⟨x0, x1, x2, x3, x4, x5, x6, x7, x8, x9, x10, x11, x12⟩, c0, c1, c2, c3⟩ := HO1.out) | (go_at_call 52; refine (rstands s p cap po fr bk dn _).mono ?_; rintro x w2 ⟨rfl, hb2⟩; have hz2 := hb2.size; have HO2 := Lib.hid (HO1.out.kept hb2); obtain ⟨⟨x0, x1, x2, x3, x4, x5, x6, x7, x8, x9, x10, x11, x12⟩, c0, c1, c2, c3⟩ := HO2.out))
  go_ret
  exact ⟨ret_int HE.out.symm, (((((Below.refl w.heap.size w).alloc (Nat.le_refl _) _).alloc (by simp) _).trans (hb1.mono (by simp; omega))).trans (hb2.mono (by simp at hz1; omega)))⟩
theorem rtap_low (s : Sm.Smp) (p : Option Addr) (cap : Nat) (po fr k : Int) (bk dn h : Bool) (w : World) (hm : s.name.size ≤ maxLen) (hd : DatAt w p s.dat) (hv : Sm.vld s = true) (hs : std s.dat.length po fr bk dn = true) (hk : k < -8) :
    Calls Try.prog 20 #[SV s p cap, .agg #[.int .i64 po, .int .i64 fr, .bool bk, .bool dn], .int .i64 k, .bool h] w fun x w' => x = .returned (.int .i64 (tap s h ⟨po, fr, bk, dn⟩ k)) ∧ Below w.heap.size w w' := by
  have HE := Lib.hid (show tap s h ⟨po, fr, bk, dn⟩ k = 0 by unfold tap; rw [if_neg (by omega)])
  unfold SV
  go_enter Try.func20, Try.ntmps20
  go_wp2_with (first | (go_at_call 14; refine (rvalid s p cap _ hm (hd.below (((Below.refl w.heap.size w).alloc (Nat.le_refl _) _).alloc (by simp) _))).mono ?_; rintro x w1 ⟨rfl, hb1⟩; have hz1 := hb1.size; have HO1 := Lib.hid ((own2_new w s p cap po fr bk dn).kept hb1); obtain ⟨⟨x0, x1, x2, x3, x4, x5, x6, x7, x8, x9, x10, x11, x12⟩, c0, c1, c2, c3⟩ := HO1.out) | (go_at_call 52; refine (rstands s p cap po fr bk dn _).mono ?_; rintro x w2 ⟨rfl, hb2⟩; have hz2 := hb2.size; have HO2 := Lib.hid (HO1.out.kept hb2); obtain ⟨⟨x0, x1, x2, x3, x4, x5, x6, x7, x8, x9, x10, x11, x12⟩, c0, c1, c2, c3⟩ := HO2.out))
  go_ret
  exact ⟨ret_int HE.out.symm, (((((Below.refl w.heap.size w).alloc (Nat.le_refl _) _).alloc (by simp) _).trans (hb1.mono (by simp; omega))).trans (hb2.mono (by simp at hz1; omega)))⟩
theorem rtap_high (s : Sm.Smp) (p : Option Addr) (cap : Nat) (po fr k : Int) (bk dn h : Bool) (w : World) (hm : s.name.size ≤ maxLen) (hd : DatAt w p s.dat) (hv : Sm.vld s = true) (hs : std s.dat.length po fr bk dn = true) (hk : 8 < k) :
    Calls Try.prog 20 #[SV s p cap, .agg #[.int .i64 po, .int .i64 fr, .bool bk, .bool dn], .int .i64 k, .bool h] w fun x w' => x = .returned (.int .i64 (tap s h ⟨po, fr, bk, dn⟩ k)) ∧ Below w.heap.size w w' := by
  have HE := Lib.hid (show tap s h ⟨po, fr, bk, dn⟩ k = 0 by unfold tap; rw [if_neg (by omega)])
  unfold SV
  go_enter Try.func20, Try.ntmps20
  go_wp2_with (first | (go_at_call 14; refine (rvalid s p cap _ hm (hd.below (((Below.refl w.heap.size w).alloc (Nat.le_refl _) _).alloc (by simp) _))).mono ?_; rintro x w1 ⟨rfl, hb1⟩; have hz1 := hb1.size; have HO1 := Lib.hid ((own2_new w s p cap po fr bk dn).kept hb1); obtain ⟨⟨x0, x1, x2, x3, x4, x5, x6, x7, x8, x9, x10, x11, x12⟩, c0, c1, c2, c3⟩ := HO1.out) | (go_at_call 52; refine (rstands s p cap po fr bk dn _).mono ?_; rintro x w2 ⟨rfl, hb2⟩; have hz2 := hb2.size; have HO2 := Lib.hid (HO1.out.kept hb2); obtain ⟨⟨x0, x1, x2, x3, x4, x5, x6, x7, x8, x9, x10, x11, x12⟩, c0, c1, c2, c3⟩ := HO2.out))
  go_ret
  exact ⟨ret_int HE.out.symm, (((((Below.refl w.heap.size w).alloc (Nat.le_refl _) _).alloc (by simp) _).trans (hb1.mono (by simp; omega))).trans (hb2.mono (by simp at hz1; omega)))⟩
theorem rtap_ok (s : Sm.Smp) (p : Option Addr) (cap : Nat) (po fr k : Int) (bk dn h : Bool) (w : World) (hm : s.name.size ≤ maxLen) (hd : DatAt w p s.dat) (hv : Sm.vld s = true) (hs : std s.dat.length po fr bk dn = true) (k1 : -8 ≤ k) (k2 : k ≤ 8) :
    Calls Try.prog 20 #[SV s p cap, .agg #[.int .i64 po, .int .i64 fr, .bool bk, .bool dn], .int .i64 k, .bool h] w fun x w' => x = .returned (.int .i64 (tap s h ⟨po, fr, bk, dn⟩ k)) ∧ Below w.heap.size w w' := by
  have HE := Lib.hid (show tap s h ⟨po, fr, bk, dn⟩ k = tpd s h ⟨po, fr, bk, dn⟩ k by unfold tap; rw [if_pos ⟨hv, hs, k1, k2⟩])
  unfold SV
  go_enter Try.func20, Try.ntmps20
  go_wp2_with (first | (go_at_call 14; refine (rvalid s p cap _ hm (hd.below (((Below.refl w.heap.size w).alloc (Nat.le_refl _) _).alloc (by simp) _))).mono ?_; rintro x w1 ⟨rfl, hb1⟩; have hz1 := hb1.size; have HO1 := Lib.hid ((own2_new w s p cap po fr bk dn).kept hb1); obtain ⟨⟨x0, x1, x2, x3, x4, x5, x6, x7, x8, x9, x10, x11, x12⟩, c0, c1, c2, c3⟩ := HO1.out) | (go_at_call 52; refine (rstands s p cap po fr bk dn _).mono ?_; rintro x w2 ⟨rfl, hb2⟩; have hz2 := hb2.size; have HO2 := Lib.hid (HO1.out.kept hb2); obtain ⟨⟨x0, x1, x2, x3, x4, x5, x6, x7, x8, x9, x10, x11, x12⟩, c0, c1, c2, c3⟩ := HO2.out) | (go_at_call 56; refine (rtapped s p cap po fr k bk dn h _ hv (hd.below (((((Below.refl w.heap.size w).alloc (Nat.le_refl _) _).alloc (by simp) _).trans (hb1.mono (by simp; omega))).trans (hb2.mono (by simp at hz1; omega)))) hs k1 k2).mono ?_; rintro x w3 ⟨rfl, hb3⟩))
  go_ret
  exact ⟨ret_int HE.out.symm, ((((((Below.refl w.heap.size w).alloc (Nat.le_refl _) _).alloc (by simp) _).trans (hb1.mono (by simp; omega))).trans (hb2.mono (by simp at hz1; omega))).trans (hb3.mono (by simp at hz1; omega)))⟩
theorem rtap (s : Sm.Smp) (p : Option Addr) (cap : Nat) (po fr k : Int) (bk dn h : Bool) (w : World) (hm : s.name.size ≤ maxLen) (hd : DatAt w p s.dat) :
    Calls Try.prog 20 #[SV s p cap, .agg #[.int .i64 po, .int .i64 fr, .bool bk, .bool dn], .int .i64 k, .bool h] w fun x w' => x = .returned (.int .i64 (tap s h ⟨po, fr, bk, dn⟩ k)) ∧ Below w.heap.size w w' := by
  by_cases hv : Sm.vld s = true
  · by_cases hs : std s.dat.length po fr bk dn = true
    · by_cases k1 : k < -8
      · exact rtap_low s p cap po fr k bk dn h w hm hd hv hs k1
      · by_cases k2 : 8 < k
        · exact rtap_high s p cap po fr k bk dn h w hm hd hv hs k2
        · exact rtap_ok s p cap po fr k bk dn h w hm hd hv hs (by omega) (by omega)
    · exact rtap_stands s p cap po fr k bk dn h w hm hd hv (by simpa using hs)
  · exact rtap_invalid s p cap po fr k bk dn h w hm hd (by simpa using hv)
end Go.Proofs.Ytmaldhjcdkidmaa

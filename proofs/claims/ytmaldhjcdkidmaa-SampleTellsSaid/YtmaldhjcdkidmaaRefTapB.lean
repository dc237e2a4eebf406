/-
  Contracts of the reference's tapped: the value of a frame along a cursor's way; nothing that was there is changed.
-/
import Derived.Test.YtmaldhjcdkidmaaRefTap
import Derived.Test.YtmaldhjcdkidmaaRefGoneB
namespace Go.Proofs.Ytmaldhjcdkidmaa
open Go.RowKit

theorem rtapped_done (s : Sm.Smp) (p : Option Addr) (cap : Nat) (po fr k : Int) (bk h : Bool) (w : World) :
    Calls Try.prog 56 #[SV s p cap, .agg #[.int .i64 po, .int .i64 fr, .bool bk, .bool true], .int .i64 k, .bool h] w fun x w' => x = .returned (.int .i64 (tpd s h ⟨po, fr, bk, true⟩ k)) ∧ Below w.heap.size w w' := by
  have HE := Lib.hid (show tpd s h ⟨po, fr, bk, true⟩ k = 0 by unfold tpd; rw [if_pos rfl])
  unfold SV
  go_enter Try.func56, Try.ntmps56
  go_wp2
  go_ret
  exact ⟨ret_int HE.out.symm, (((Below.refl w.heap.size w).alloc (Nat.le_refl _) _).alloc (by simp) _)⟩
theorem rtapped_back (s : Sm.Smp) (p : Option Addr) (cap : Nat) (po fr k : Int) (h : Bool) (w : World) (hd : DatAt w p s.dat) (hs : Small s) (b1 : 0 ≤ po) (b2 : po < 4096) (k1 : -8 ≤ k) (k2 : k ≤ 0) :
    Calls Try.prog 56 #[SV s p cap, .agg #[.int .i64 po, .int .i64 fr, .bool true, .bool false], .int .i64 k, .bool h] w fun x w' => x = .returned (.int .i64 (tpd s h ⟨po, fr, true, false⟩ k)) ∧ Below w.heap.size w w' := by
  have HE := Lib.hid (show tpd s h ⟨po, fr, true, false⟩ k = hrd s (po - k) by unfold tpd; rw [if_neg (by simp), if_neg (by omega), if_pos rfl])
  unfold SV
  go_enter Try.func56, Try.ntmps56
  go_wp2_with (first | (go_at_call 73; refine (rheard s p cap _ _ (hd.below (((Below.refl w.heap.size w).alloc (Nat.le_refl _) _).alloc (by simp) _)) hs).mono ?_; rintro x w2 ⟨rfl, hb2⟩))
  go_ret
  exact ⟨ret_int HE.out.symm, (((Below.refl w.heap.size w).alloc (Nat.le_refl _) _).alloc (by simp) _).trans (hb2.mono (by simp; omega))⟩
theorem rtapped_fore (s : Sm.Smp) (p : Option Addr) (cap : Nat) (po fr k : Int) (h : Bool) (w : World) (hd : DatAt w p s.dat) (hs : Small s) (b1 : 0 ≤ po) (b2 : po < 4096) (k1 : -8 ≤ k) (k2 : k ≤ 0) :
    Calls Try.prog 56 #[SV s p cap, .agg #[.int .i64 po, .int .i64 fr, .bool false, .bool false], .int .i64 k, .bool h] w fun x w' => x = .returned (.int .i64 (tpd s h ⟨po, fr, false, false⟩ k)) ∧ Below w.heap.size w w' := by
  have HE := Lib.hid (show tpd s h ⟨po, fr, false, false⟩ k = hrd s (po + k) by unfold tpd; rw [if_neg (by simp), if_neg (by omega), if_neg (by simp)])
  unfold SV
  go_enter Try.func56, Try.ntmps56
  go_wp2_with (first | (go_at_call 73; refine (rheard s p cap _ _ (hd.below (((Below.refl w.heap.size w).alloc (Nat.le_refl _) _).alloc (by simp) _)) hs).mono ?_; rintro x w2 ⟨rfl, hb2⟩))
  go_ret
  exact ⟨ret_int HE.out.symm, (((Below.refl w.heap.size w).alloc (Nat.le_refl _) _).alloc (by simp) _).trans (hb2.mono (by simp; omega))⟩
theorem rtapped_up (s : Sm.Smp) (p : Option Addr) (cap : Nat) (po fr k : Int) (bk h : Bool) (w : World) (hm : Sm.vld s = true) (hd : DatAt w p s.dat) (hs : Small s) (b1 : 0 ≤ po) (b2 : po < s.dat.length) (k1 : 0 < k) (k2 : k ≤ 8) :
    Calls Try.prog 56 #[SV s p cap, .agg #[.int .i64 po, .int .i64 fr, .bool bk, .bool false], .int .i64 k, .bool h] w fun x w' => x = .returned (.int .i64 (tpd s h ⟨po, fr, bk, false⟩ k)) ∧ Below w.heap.size w w' := by
  obtain ⟨hk, hl, q1, q2, q3, q4⟩ := ring_ok hm h
  have HCC : Hid (false = true ∨ Bounds s po 0 (65536 * k) (Sm.rs s h) (Sm.re s h)) := .inr ⟨b1, b2, by omega, by omega, q4, by omega, by omega, q1, q2, q3⟩
  have Hk := Lib.hid hk
  have Hl := Lib.hid hl
  have HE := Lib.hid (show ∀ q : Sm.Cur, Sm.gone (Sm.rk s h) (Sm.rs s h * 65536) (Sm.re s h * 65536) (s.dat.length * 65536) ⟨po, 0, bk, false⟩ (65536 * k) = q → tpd s h ⟨po, fr, bk, false⟩ k = if q.done = true then 0 else hrd s q.pos from fun q e => by
    unfold tpd; rw [if_neg (by simp), if_pos k1]; simp only [e])
  clear hk hl
  unfold SV
  go_enter Try.func56, Try.ntmps56
  go_wp2_with (first | (go_at_call 53; refine (rgone s p cap po 0 (65536 * k) bk false h _ (hk_refl s h) HCC.out Hk.out Hl.out).mono ?_; rintro x w1 ⟨⟨qp, qf, qb, qd, rfl, HC⟩, hb1⟩; have hsz := hb1.size; obtain ⟨x0, x1, x2, x3, x4, x5, x6, x7, x8, x9, x10, x11, x12⟩ := ((boxedc w s p cap po bk).below hb1 (by simp; omega)); have hal : ∀ (o : Obj) (j : Nat), (w1.alloc o).cell? ⟨w.heap.size, j, none⟩ = w1.cell? ⟨w.heap.size, j, none⟩ := fun o j => World.cell?_alloc_past _ _ _ (by simp at hsz; show w.heap.size < _; omega)) | (go_at_call 73; refine (rheard s p cap _ _ (hd.below (((((Below.refl w.heap.size w).alloc (Nat.le_refl _) _).alloc (by simp) _).trans (hb1.mono (by simp; omega))).alloc (by simp at hsz; omega) _)) hs).mono ?_; rintro x w2 ⟨rfl, hb2⟩))
  · have hq : qd = true := by assumption
    have HX := Lib.hid ((HE.out _ HC.out).trans (if_pos hq))
    go_ret
    exact ⟨ret_int HX.out.symm, ((((Below.refl w.heap.size w).alloc (Nat.le_refl _) _).alloc (by simp) _).trans (hb1.mono (by simp; omega))).alloc (by simp at hsz; omega) _⟩
  · have hq : qd = false := by assumption
    have HX := Lib.hid ((HE.out _ HC.out).trans (if_neg (by simp [hq])))
    go_ret
    exact ⟨ret_int HX.out.symm, (((((Below.refl w.heap.size w).alloc (Nat.le_refl _) _).alloc (by simp) _).trans (hb1.mono (by simp; omega))).alloc (by simp at hsz; omega) _).trans (hb2.mono (by simp at hsz ⊢; omega))⟩
theorem rtapped (s : Sm.Smp) (p : Option Addr) (cap : Nat) (po fr k : Int) (bk dn h : Bool) (w : World) (hv : Sm.vld s = true) (hd : DatAt w p s.dat) (hc : std s.dat.length po fr bk dn = true) (k1 : -8 ≤ k) (k2 : k ≤ 8) :
    Calls Try.prog 56 #[SV s p cap, .agg #[.int .i64 po, .int .i64 fr, .bool bk, .bool dn], .int .i64 k, .bool h] w fun x w' => x = .returned (.int .i64 (tpd s h ⟨po, fr, bk, dn⟩ k)) ∧ Below w.heap.size w w' := by
  cases dn with
  | true => exact rtapped_done s p cap po fr k bk h w
  | false =>
    have hs := vld_small hv
    have hl := vld_len hv
    unfold std at hc
    rw [if_neg (by simp)] at hc
    have hc := of_decide_eq_true hc
    by_cases h0 : 0 < k
    · exact rtapped_up s p cap po fr k bk h w hv hd hs hc.1 hc.2.1 h0 k2
    · cases bk
      · exact rtapped_fore s p cap po fr k h w hd hs hc.1 (by omega) k1 (by omega)
      · exact rtapped_back s p cap po fr k h w hd hs hc.1 (by omega) k1 (by omega)
end Go.Proofs.Ytmaldhjcdkidmaa

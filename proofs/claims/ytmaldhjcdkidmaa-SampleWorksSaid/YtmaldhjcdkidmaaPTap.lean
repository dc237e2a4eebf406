/-
  Contracts of package sample's value and behind: what the call returns; nothing that was there is changed.
-/
import Derived.Test.YtmaldhjcdkidmaaPVal
import Derived.Test.YtmaldhjcdkidmaaLex
import Derived.Test.YtmaldhjcdkidmaaRefCur
import Derived.Test.YtmaldhjcdkidmaaUnr
namespace Go.Proofs.Ytmaldhjcdkidmaa
open Go.RowKit

theorem p_value_done (s : Sm.Smp) (p : Option Addr) (cap : Nat) (po fr : Int) (bk : Bool) (w : World) :
    Calls Try.prog 55 #[SV s p cap, .agg #[.int .i64 po, .int .i64 fr, .bool bk, .bool true]] w fun x w' => x = .returned (.int .i64 0) ∧ Below w.heap.size w w' := by
  unfold SV
  go_enter Try.func55, Try.ntmps55
  go_wp2
  go_ret
  exact ⟨rfl, ((Below.refl _ _).alloc (Nat.le_refl _) _).alloc (by simp) _⟩
theorem p_value_in (s : Sm.Smp) (p : Option Addr) (cap : Nat) (i : Nat) (fr : Int) (bk : Bool) (w : World) (hd : DatAt w p s.dat) (hs : Small s) (h : i < s.dat.length) :
    Calls Try.prog 55 #[SV s p cap, .agg #[.int .i64 i, .int .i64 fr, .bool bk, .bool false]] w fun x w' => x = .returned (.int .i64 (hrd s i)) ∧ Below w.heap.size w w' := by
  obtain ⟨b, off, rfl, hc⟩ := hd.at h
  obtain ⟨z, hz⟩ : ∃ z, s.dat.getD i 0 = z := ⟨_, rfl⟩
  have hb := hs i h
  have HE : hrd s i = if s.bits = 8 then 256 * z else z := by
    unfold hrd; rw [if_pos (by omega), Int.toNat_natCast, hz]
  rw [hz] at hc hb
  clear hz
  have hlt : (i : Int) < s.dat.length := by omega
  have hbl : b < w.heap.size := cell_lt hc
  have hc' : ((w.alloc (.cells #[.string s.name, .slice (some ⟨b, off, none⟩) s.dat.length cap, .int .i64 s.bits, .int .i64 s.rate, .int .i64 s.vol, .int .i64 s.pan, .int .i64 s.fine, .int .i64 s.loop, .int .i64 s.start, .int .i64 s.fin, .int .i64 s.sus, .int .i64 s.sstart, .int .i64 s.sfin] 24)).alloc (.cells #[.int .i64 i, .int .i64 fr, .bool bk, .bool false] 26)).cell? ⟨b, off + i, none⟩ = some (.int .i64 z) := by rw [World.cell?_alloc_past _ _ _ (by simp; omega), World.cell?_alloc_past _ _ _ hbl]; exact hc
  clear h hc
  by_cases hb8 : s.bits = 8
  · have HX := Lib.hid (show hrd s i = 256 * z by rw [HE, if_pos hb8])
    have t : (s.bits == 8) = true := by simp [hb8]
    clear HE hb8
    unfold SV
    go_enter Try.func55, Try.ntmps55
    go_wp2
    go_ret
    exact ⟨ret_int HX.out.symm, ((Below.refl _ _).alloc (Nat.le_refl _) _).alloc (by simp) _⟩
  · have HX := Lib.hid (show hrd s i = z by rw [HE, if_neg hb8])
    have t : (s.bits == 8) = false := by simpa using hb8
    clear HE hb8
    unfold SV
    go_enter Try.func55, Try.ntmps55
    go_wp2
    go_ret
    exact ⟨ret_int HX.out.symm, ((Below.refl _ _).alloc (Nat.le_refl _) _).alloc (by simp) _⟩
theorem p_value (s : Sm.Smp) (p : Option Addr) (cap : Nat) (po fr : Int) (bk dn : Bool) (w : World) (hd : DatAt w p s.dat) (hs : Small s) (hc : dn = true ∨ (0 ≤ po ∧ po < s.dat.length)) :
    Calls Try.prog 55 #[SV s p cap, .agg #[.int .i64 po, .int .i64 fr, .bool bk, .bool dn]] w fun x w' => x = .returned (.int .i64 (orz dn (hrd s po))) ∧ Below w.heap.size w w' := by
  cases dn with
  | true => exact p_value_done s p cap po fr bk w
  | false =>
    rcases hc with hc | hc
    · cases hc
    obtain ⟨i, rfl⟩ := Int.eq_ofNat_of_zero_le hc.1
    exact p_value_in s p cap i fr bk w hd hs (by omega)
theorem p_behind_ti (s : Sm.Smp) (p : Option Addr) (cap : Nat) (po fr n : Int) (dn : Bool) (w : World) (hd : DatAt w p s.dat) (hs : Small s) (hl : (s.dat.length : Int) ≤ 4096) (h1 : 0 ≤ po + n) (h2 : po + n ≤ s.dat.length - 1) :
    Calls Try.prog 54 #[SV s p cap, .agg #[.int .i64 po, .int .i64 fr, .bool true, .bool dn], .int .i64 n] w fun x w' => x = .returned (.int .i64 (orz dn (hrd s (po + n)))) ∧ Below w.heap.size w w' := by
  have HD := Lib.hid ((hd.below (below_box w (.cells #[.string s.name, .slice p s.dat.length cap, .int .i64 s.bits, .int .i64 s.rate, .int .i64 s.vol, .int .i64 s.pan, .int .i64 s.fine, .int .i64 s.loop, .int .i64 s.start, .int .i64 s.fin, .int .i64 s.sus, .int .i64 s.sstart, .int .i64 s.sfin] 24))).below (below_box _ (.cells #[.int .i64 (po + n), .int .i64 fr, .bool true, .bool dn] 26)))
  have HV := Lib.hid (fun w' hd' => p_value s p cap (po + n) fr true dn w' hd' hs (.inr ⟨h1, by omega⟩))
  unfold SV at HV
  unfold SV
  go_enter Try.func54, Try.ntmps54
  go_wp2_with (first | (go_at_call 39; ((with_reducible refine (p_within_yes _ _ _ _ h1 h2).mono ?_); rintro x w' ⟨rfl, rfl⟩)) | (go_at_call 55; ((with_reducible refine (HV.out _ HD.out).mono ?_); rintro x w' ⟨rfl, hb'⟩)))
  go_ret
  exact ⟨rfl, (((Below.refl _ _).alloc (Nat.le_refl _) _).alloc (by simp) _).trans (hb'.mono (by simp; omega))⟩
theorem p_behind_to (s : Sm.Smp) (p : Option Addr) (cap : Nat) (po fr n : Int) (dn : Bool) (w : World) (hl : (s.dat.length : Int) ≤ 4096) (p1 : -100000 ≤ po) (p2 : po ≤ 100000) (n1 : -100000 ≤ n) (n2 : n ≤ 100000) (h : po + n < 0 ∨ s.dat.length - 1 < po + n) :
    Calls Try.prog 54 #[SV s p cap, .agg #[.int .i64 po, .int .i64 fr, .bool true, .bool dn], .int .i64 n] w fun x w' => x = .returned (.int .i64 (orz dn (hrd s (po + n)))) ∧ Below w.heap.size w w' := by
  have HE := Lib.hid (show (orz dn (hrd s (po + n))) = 0 by unfold orz hrd; rw [if_neg (show ¬(0 ≤ (po + n) ∧ (po + n) < s.dat.length) by omega)]; cases dn <;> rfl)
  have HI := Lib.hid h
  clear h
  unfold SV
  go_enter Try.func54, Try.ntmps54
  go_wp2_with (first | (go_at_call 39; ((with_reducible refine (p_within_no _ _ _ _ HI.out).mono ?_); rintro x w' ⟨rfl, rfl⟩)))
  go_ret
  exact ⟨ret_int HE.out.symm, ((Below.refl _ _).alloc (Nat.le_refl _) _).alloc (by simp) _⟩
theorem p_behind_fi (s : Sm.Smp) (p : Option Addr) (cap : Nat) (po fr n : Int) (dn : Bool) (w : World) (hd : DatAt w p s.dat) (hs : Small s) (hl : (s.dat.length : Int) ≤ 4096) (h1 : 0 ≤ po - n) (h2 : po - n ≤ s.dat.length - 1) :
    Calls Try.prog 54 #[SV s p cap, .agg #[.int .i64 po, .int .i64 fr, .bool false, .bool dn], .int .i64 n] w fun x w' => x = .returned (.int .i64 (orz dn (hrd s (po - n)))) ∧ Below w.heap.size w w' := by
  have HD := Lib.hid ((hd.below (below_box w (.cells #[.string s.name, .slice p s.dat.length cap, .int .i64 s.bits, .int .i64 s.rate, .int .i64 s.vol, .int .i64 s.pan, .int .i64 s.fine, .int .i64 s.loop, .int .i64 s.start, .int .i64 s.fin, .int .i64 s.sus, .int .i64 s.sstart, .int .i64 s.sfin] 24))).below (below_box _ (.cells #[.int .i64 (po - n), .int .i64 fr, .bool false, .bool dn] 26)))
  have HV := Lib.hid (fun w' hd' => p_value s p cap (po - n) fr false dn w' hd' hs (.inr ⟨h1, by omega⟩))
  unfold SV at HV
  unfold SV
  go_enter Try.func54, Try.ntmps54
  go_wp2_with (first | (go_at_call 39; ((with_reducible refine (p_within_yes _ _ _ _ h1 h2).mono ?_); rintro x w' ⟨rfl, rfl⟩)) | (go_at_call 55; ((with_reducible refine (HV.out _ HD.out).mono ?_); rintro x w' ⟨rfl, hb'⟩)))
  go_ret
  exact ⟨rfl, (((Below.refl _ _).alloc (Nat.le_refl _) _).alloc (by simp) _).trans (hb'.mono (by simp; omega))⟩
theorem p_behind_fo (s : Sm.Smp) (p : Option Addr) (cap : Nat) (po fr n : Int) (dn : Bool) (w : World) (hl : (s.dat.length : Int) ≤ 4096) (p1 : -100000 ≤ po) (p2 : po ≤ 100000) (n1 : -100000 ≤ n) (n2 : n ≤ 100000) (h : po - n < 0 ∨ s.dat.length - 1 < po - n) :
    Calls Try.prog 54 #[SV s p cap, .agg #[.int .i64 po, .int .i64 fr, .bool false, .bool dn], .int .i64 n] w fun x w' => x = .returned (.int .i64 (orz dn (hrd s (po - n)))) ∧ Below w.heap.size w w' := by
  have HE := Lib.hid (show (orz dn (hrd s (po - n))) = 0 by unfold orz hrd; rw [if_neg (show ¬(0 ≤ (po - n) ∧ (po - n) < s.dat.length) by omega)]; cases dn <;> rfl)
  have HI := Lib.hid h
  clear h
  unfold SV
  go_enter Try.func54, Try.ntmps54
  go_wp2_with (first | (go_at_call 39; ((with_reducible refine (p_within_no _ _ _ _ HI.out).mono ?_); rintro x w' ⟨rfl, rfl⟩)))
  go_ret
  exact ⟨ret_int HE.out.symm, ((Below.refl _ _).alloc (Nat.le_refl _) _).alloc (by simp) _⟩
theorem p_behind (s : Sm.Smp) (p : Option Addr) (cap : Nat) (po fr n : Int) (bk dn : Bool) (w : World) (hd : DatAt w p s.dat) (hs : Small s) (hl : (s.dat.length : Int) ≤ 4096) (p1 : -100000 ≤ po) (p2 : po ≤ 100000) (n1 : -100000 ≤ n) (n2 : n ≤ 100000) :
    Calls Try.prog 54 #[SV s p cap, .agg #[.int .i64 po, .int .i64 fr, .bool bk, .bool dn], .int .i64 n] w fun x w' => x = .returned (.int .i64 (orz dn (alt bk (hrd s (po + n)) (hrd s (po - n))))) ∧ Below w.heap.size w w' := by
  cases bk with
  | true =>
    show Calls _ _ _ _ fun x w' => x = .returned (.int .i64 (orz dn (hrd s (po + n)))) ∧ Below w.heap.size w w'
    by_cases h : 0 ≤ po + n ∧ po + n ≤ s.dat.length - 1
    · exact p_behind_ti s p cap po fr n dn w hd hs hl h.1 h.2
    · exact p_behind_to s p cap po fr n dn w hl p1 p2 n1 n2 (by omega)
  | false =>
    show Calls _ _ _ _ fun x w' => x = .returned (.int .i64 (orz dn (hrd s (po - n)))) ∧ Below w.heap.size w w'
    by_cases h : 0 ≤ po - n ∧ po - n ≤ s.dat.length - 1
    · exact p_behind_fi s p cap po fr n dn w hd hs hl h.1 h.2
    · exact p_behind_fo s p cap po fr n dn w hl p1 p2 n1 n2 (by omega)
end Go.Proofs.Ytmaldhjcdkidmaa

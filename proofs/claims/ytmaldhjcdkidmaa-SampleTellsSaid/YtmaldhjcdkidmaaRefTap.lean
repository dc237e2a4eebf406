/-
  Contracts of the reference's heard: a frame as a number of 16 bits; nothing that was there is changed.
-/
import Derived.Test.YtmaldhjcdkidmaaBase
namespace Go.Proofs.Ytmaldhjcdkidmaa
open Go.RowKit

theorem rheard_out (s : Sm.Smp) (p : Option Addr) (cap : Nat) (i : Int) (w : World) (h : i < 0 ∨ s.dat.length ≤ i) :
    Calls Try.prog 73 #[SV s p cap, .int .i64 i] w fun x w' => x = .returned (.int .i64 (hrd s i)) ∧ Below w.heap.size w w' := by
  have HE := Lib.hid (show hrd s i = 0 by unfold hrd; rw [if_neg (by omega)])
  unfold SV
  by_cases h1 : i < 0
  · go_enter Try.func73, Try.ntmps73
    go_wp2
    go_ret
    exact ⟨ret_int HE.out.symm, below_box _ _⟩
  · have h2 : s.dat.length ≤ i := by omega
    go_enter Try.func73, Try.ntmps73
    go_wp2
    go_ret
    exact ⟨ret_int HE.out.symm, below_box _ _⟩
theorem rheard_in (s : Sm.Smp) (p : Option Addr) (cap : Nat) (i : Nat) (w : World) (hd : DatAt w p s.dat) (hs : Small s) (h : i < s.dat.length) :
    Calls Try.prog 73 #[SV s p cap, .int .i64 i] w fun x w' => x = .returned (.int .i64 (hrd s i)) ∧ Below w.heap.size w w' := by
  obtain ⟨b, off, rfl, hc⟩ := hd.at h
  obtain ⟨z, hz⟩ : ∃ z, s.dat.getD i 0 = z := ⟨_, rfl⟩
  have hb := hs i h
  have HE : hrd s i = if s.bits = 8 then 256 * z else z := by
    unfold hrd; rw [if_pos (by omega), Int.toNat_natCast, hz]
  rw [hz] at hc hb
  clear hz
  have hlt : (i : Int) < s.dat.length := by omega
  have hbl : b < w.heap.size := cell_lt hc
  have hc' : (w.alloc (.cells #[.string s.name, .slice (some ⟨b, off, none⟩) s.dat.length cap, .int .i64 s.bits, .int .i64 s.rate, .int .i64 s.vol, .int .i64 s.pan, .int .i64 s.fine, .int .i64 s.loop, .int .i64 s.start, .int .i64 s.fin, .int .i64 s.sus, .int .i64 s.sstart, .int .i64 s.sfin] 24)).cell? ⟨b, off + i, none⟩ = some (.int .i64 z) := by rw [World.cell?_alloc_past _ _ _ hbl]; exact hc
  clear h hc
  by_cases hb8 : s.bits = 8
  · have HX := Lib.hid (show hrd s i = 256 * z by rw [HE, if_pos hb8])
    have t : (s.bits == 8) = true := by simp [hb8]
    clear HE hb8
    unfold SV
    go_enter Try.func73, Try.ntmps73
    go_wp2
    go_ret
    exact ⟨ret_int HX.out.symm, below_box _ _⟩
  · have HX := Lib.hid (show hrd s i = z by rw [HE, if_neg hb8])
    have t : (s.bits == 8) = false := by simpa using hb8
    clear HE hb8
    unfold SV
    go_enter Try.func73, Try.ntmps73
    go_wp2
    go_ret
    exact ⟨ret_int HX.out.symm, below_box _ _⟩
theorem rheard (s : Sm.Smp) (p : Option Addr) (cap : Nat) (i : Int) (w : World) (hd : DatAt w p s.dat) (hs : Small s) :
    Calls Try.prog 73 #[SV s p cap, .int .i64 i] w fun x w' => x = .returned (.int .i64 (hrd s i)) ∧ Below w.heap.size w w' := by
  by_cases h : 0 ≤ i ∧ i < s.dat.length
  · obtain ⟨n, rfl⟩ := Int.eq_ofNat_of_zero_le h.1
    exact rheard_in s p cap n w hd hs (by omega)
  · exact rheard_out s p cap i w (by omega)
end Go.Proofs.Ytmaldhjcdkidmaa

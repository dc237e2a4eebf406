/-
  What the project's and the reference's functions of a sample return alike: Applies, Valid, Begin, Move, Tap, Unroll.
-/
import Derived.Test.YtmaldhjcdkidmaaRefUnr
import Derived.Test.YtmaldhjcdkidmaaRefMoveB
import Derived.Test.YtmaldhjcdkidmaaPTapB
namespace Go.Proofs.Ytmaldhjcdkidmaa
open Go.RowKit

theorem pair_applies (s : Sm.Smp) (hm : s.name.size ≤ maxLen) (hl : (s.dat.length : Int) ≤ 9223372036854775807) (h : Bool) :
    ∃ k a b, (∀ (p : Option Addr) (cap : Nat) (w : World), DatAt w p s.dat → Calls Try.prog 11 #[SV s p cap, .bool h] w fun x w' => x = .returned (.tuple #[.int .i64 k, .int .i64 a, .int .i64 b]) ∧ Below w.heap.size w w') ∧
      ∀ (p : Option Addr) (cap : Nat) (w : World), DatAt w p s.dat → Calls Try.prog 12 #[SV s p cap, .bool h] w fun x w' => x = .returned (.tuple #[.int .i64 k, .int .i64 a, .int .i64 b]) ∧ Below w.heap.size w w' := by
  have _u := hl
  clear _u
  cases hv : Sm.vld s
  · exact ⟨0, 0, 0, fun p cap w hd => p_applies_no s p cap h w hm hd hv, fun p cap w hd => rapplies_no s p cap h w hm hd hv⟩
  · exact ⟨_, _, _, fun p cap w hd => p_applies s p cap h w hm hd hv, fun p cap w hd => rapplies s p cap h w hm hd hv⟩
theorem pair_valid (s : Sm.Smp) (hm : s.name.size ≤ maxLen) (hl : (s.dat.length : Int) ≤ 9223372036854775807)  :
    ∃ v, (∀ (p : Option Addr) (cap : Nat) (w : World), DatAt w p s.dat → Calls Try.prog 13 #[SV s p cap] w fun x w' => x = .returned (.bool v) ∧ Below w.heap.size w w') ∧
      ∀ (p : Option Addr) (cap : Nat) (w : World), DatAt w p s.dat → Calls Try.prog 14 #[SV s p cap] w fun x w' => x = .returned (.bool v) ∧ Below w.heap.size w w' := by
  have _u := hl
  clear _u
  exact ⟨_, fun p cap w hd => p_valid s p cap w hm hd, fun p cap w hd => rvalid s p cap w hm hd⟩
theorem pair_begin (s : Sm.Smp) (hm : s.name.size ≤ maxLen) (hl : (s.dat.length : Int) ≤ 9223372036854775807) (o : Int) (b : Bool) :
    ∃ cp cf cb cd, (∀ (p : Option Addr) (cap : Nat) (w : World), DatAt w p s.dat → Calls Try.prog 15 #[SV s p cap, .int .i64 o, .bool b] w fun x w' => x = .returned (.agg #[.int .i64 cp, .int .i64 cf, .bool cb, .bool cd]) ∧ Below w.heap.size w w') ∧
      ∀ (p : Option Addr) (cap : Nat) (w : World), DatAt w p s.dat → Calls Try.prog 16 #[SV s p cap, .int .i64 o, .bool b] w fun x w' => x = .returned (.agg #[.int .i64 cp, .int .i64 cf, .bool cb, .bool cd]) ∧ Below w.heap.size w w' := by
  exact ⟨_, _, _, _, fun p cap w hd => (p_begin s p cap o b w hm hd hl).mono fun _ _ ⟨h1, h2⟩ => ⟨retC h1, h2⟩, fun p cap w hd => (rbegin s p cap o b w hm hd).mono fun _ _ ⟨h1, h2⟩ => ⟨retC h1, h2⟩⟩
theorem pair_move (s : Sm.Smp) (hm : s.name.size ≤ maxLen) (hl : (s.dat.length : Int) ≤ 9223372036854775807) (po fr st : Int) (bk dn h : Bool) :
    ∃ cp cf cb cd er, (∀ (p : Option Addr) (cap : Nat) (w : World), DatAt w p s.dat → Calls Try.prog 17 #[SV s p cap, .agg #[.int .i64 po, .int .i64 fr, .bool bk, .bool dn], .int .i64 st, .bool h] w fun x w' => x = .returned (.tuple #[.agg #[.int .i64 cp, .int .i64 cf, .bool cb, .bool cd], .int .i64 er]) ∧ Below w.heap.size w w') ∧
      ∀ (p : Option Addr) (cap : Nat) (w : World), DatAt w p s.dat → Calls Try.prog 18 #[SV s p cap, .agg #[.int .i64 po, .int .i64 fr, .bool bk, .bool dn], .int .i64 st, .bool h] w fun x w' => x = .returned (.tuple #[.agg #[.int .i64 cp, .int .i64 cf, .bool cb, .bool cd], .int .i64 er]) ∧ Below w.heap.size w w' := by
  have _u := hl
  clear _u
  cases hv : Sm.vld s
  · exact ⟨_, _, _, _, _, fun p cap w hd => p_Move_bad s p cap po fr st bk dn h w hm hd hv, fun p cap w hd => (rmove_invalid s p cap po fr st bk dn h w hm hd hv).mono fun _ _ ⟨h1, h2⟩ => ⟨retE h1, h2⟩⟩
  · cases hs : std s.dat.length po fr bk dn
    · exact ⟨_, _, _, _, _, fun p cap w hd => (p_Move_stands s p cap po fr st bk dn h w hm hd hv hs).mono fun _ _ ⟨h1, h2⟩ => ⟨retE h1, h2⟩, fun p cap w hd => (rmove_stands s p cap po fr st bk dn h w hm hd hv hs).mono fun _ _ ⟨h1, h2⟩ => ⟨retE h1, h2⟩⟩
    · by_cases hr : st < 0 ∨ 268435456 < st
      · exact ⟨_, _, _, _, _, fun p cap w hd => (p_Move_range s p cap po fr st bk dn h w hm hd hv hs hr).mono fun _ _ ⟨h1, h2⟩ => ⟨retE h1, h2⟩, fun p cap w hd => (rmove_range s p cap po fr st bk dn h w hm hd hv hs hr).mono fun _ _ ⟨h1, h2⟩ => ⟨retE h1, h2⟩⟩
      · refine ⟨_, _, _, _, _, fun p cap w hd => p_Move_to s p cap ⟨po, fr, bk, dn⟩ (mvS s h ⟨po, fr, bk, dn⟩ st) st h w hm hd hv hs (by omega) (by omega) rfl, fun p cap w hd => (rmove_ok s p cap po fr st bk dn h w hm hd hv hs (by omega) (by omega)).mono fun _ _ ⟨h1, h2⟩ => ⟨retE h1, h2⟩⟩
theorem pair_tap (s : Sm.Smp) (hm : s.name.size ≤ maxLen) (hl : (s.dat.length : Int) ≤ 9223372036854775807) (po fr k : Int) (bk dn h : Bool) :
    ∃ y, (∀ (p : Option Addr) (cap : Nat) (w : World), DatAt w p s.dat → Calls Try.prog 19 #[SV s p cap, .agg #[.int .i64 po, .int .i64 fr, .bool bk, .bool dn], .int .i64 k, .bool h] w fun x w' => x = .returned (.int .i64 y) ∧ Below w.heap.size w w') ∧
      ∀ (p : Option Addr) (cap : Nat) (w : World), DatAt w p s.dat → Calls Try.prog 20 #[SV s p cap, .agg #[.int .i64 po, .int .i64 fr, .bool bk, .bool dn], .int .i64 k, .bool h] w fun x w' => x = .returned (.int .i64 y) ∧ Below w.heap.size w w' := by
  have _u := hl
  clear _u
  exact ⟨_, fun p cap w hd => p_Tap s p cap po fr k bk dn h w hm hd, fun p cap w hd => rtap s p cap po fr k bk dn h w hm hd⟩
/-- A call has returned this list, wherever it lies, and this error. -/
def RetL (l : List Int) (er : Int) (e : Ending) (w' : World) : Prop := ∃ p cap, e = .returned (.tuple #[.slice p l.length cap, .int .i64 er]) ∧ DatAt w' p l
theorem pair_unroll (s : Sm.Smp) (hm : s.name.size ≤ maxLen) (n : Int) (h : Bool) :
    ∃ l er, (l.length : Int) ≤ 4611686018427387904 ∧ (∀ (p : Option Addr) (cap : Nat) (w : World), DatAt w p s.dat → Calls Try.prog 23 #[SV s p cap, .int .i64 n, .bool h] w fun x w' => RetL l er x w' ∧ Below w.heap.size w w') ∧
      ∀ (p : Option Addr) (cap : Nat) (w : World), DatAt w p s.dat → Calls Try.prog 24 #[SV s p cap, .int .i64 n, .bool h] w fun x w' => RetL l er x w' ∧ Below w.heap.size w w' := by
  cases hv : Sm.vld s
  · exact ⟨[], 1, by simp, fun p cap w hd => (p_unroll_bad s p cap n h w hm hd hv).mono fun _ _ ⟨h1, h2⟩ => ⟨⟨none, 0, h1, .inl rfl⟩, h2⟩, fun p cap w hd => (runroll_bad s p cap n h w hm hd hv).mono fun _ _ ⟨h1, h2⟩ => ⟨⟨none, 0, h1, .inl rfl⟩, h2⟩⟩
  · by_cases hlo : n < 0
    · exact ⟨[], 5, by simp, fun p cap w hd => (p_unroll_range s p cap n h w hm hd hv (.inl hlo)).mono fun _ _ ⟨h1, h2⟩ => ⟨⟨none, 0, h1, .inl rfl⟩, h2⟩, fun p cap w hd => (runroll_lo s p cap n h w hm hd hv hlo).mono fun _ _ ⟨h1, h2⟩ => ⟨⟨none, 0, h1, .inl rfl⟩, h2⟩⟩
    · by_cases hhi : 200000 < n
      · exact ⟨[], 5, by simp, fun p cap w hd => (p_unroll_range s p cap n h w hm hd hv (.inr hhi)).mono fun _ _ ⟨h1, h2⟩ => ⟨⟨none, 0, h1, .inl rfl⟩, h2⟩, fun p cap w hd => (runroll_hi s p cap n h w hm hd hv hlo hhi).mono fun _ _ ⟨h1, h2⟩ => ⟨⟨none, 0, h1, .inl rfl⟩, h2⟩⟩
      · obtain ⟨N, rfl⟩ : ∃ N : Nat, n = N := ⟨n.toNat, by omega⟩
        refine ⟨unr s h N, 0, by rw [unr_length]; omega, fun p cap w hd => (p_unroll s p cap N h w hm hd hv (by omega)).mono fun _ _ ⟨h1, h2⟩ => ⟨?_, h2⟩, fun p cap w hd => (runroll_ok s p cap N h w hm hd hv (by omega)).mono fun _ _ ⟨h1, h2⟩ => ⟨h1, h2⟩⟩
        obtain ⟨g, he, hd⟩ := h1
        exact ⟨_, _, he, hd⟩
end Go.Proofs.Ytmaldhjcdkidmaa

/-
  PackReads' walk: for any bytes, bits, version and number the law returns true; nothing that was there is changed.
-/
import Derived.Test.YtfljgdehbogimaaRefUnb
import Derived.Test.YtfljgdehbogimaaPAwake
import Derived.Test.YtfljgdehbogimaaPSame
namespace Go.Proofs.Ytfljgdehbogimaa
open Go.RowKit

theorem row_dat2 {e : TypeId} {w : World} {B g c n : Nat} {l : List Int} (h : w.ownsRow B e 1 (.slice (some ⟨g, 0, none⟩) n c) n (l.map (Value.int .i64))) (hn : l.length = n) : DatAt w (some ⟨g, 0, none⟩) l := by
  refine .inr ⟨g, 0, rfl, (World.ownsRow.lt h g rfl).2, fun i hi => ?_⟩
  rw [Nat.zero_add, World.ownsRow.cellAt h i (by omega), map_getD hi]
theorem ask_nn {m : Nat} {n : Int} (h : ask m n = 0) : (m : Int) ≤ 400000 ∧ n.toNat ≤ 4096 := by
  unfold ask at h
  split at h
  · omega
  · split at h
    · omega
    · omega
/-- Project and reference read the same by Undelta. -/
theorem und_same (bs : List Int) (b n : Int) (hdb : ∀ x ∈ bs, 0 ≤ x ∧ x < 256) (hl : (bs.length : Int) ≤ 1152921504606846976) : ∃ (X : List Int) (L : Nat) (m e : Int), X.length = L ∧ L ≤ 4096 ∧
    (∀ (pb : Option Addr) (capb : Nat) (w : World), BytAt w pb bs → Calls Try.prog 13 #[.slice pb bs.length capb, .int .i64 b, .int .i64 n] w fun r w' => (∃ p c, r = .returned (.tuple #[.slice p L c, .int .i64 m, .int .i64 e]) ∧ DatAt w' p X) ∧ Below w.heap.size w w') ∧
    (∀ (pb : Option Addr) (capb : Nat) (w : World), BytAt w pb bs → Calls Try.prog 14 #[.slice pb bs.length capb, .int .i64 b, .int .i64 n] w fun r w' => (∃ p c, r = .returned (.tuple #[.slice p L c, .int .i64 m, .int .i64 e]) ∧ DatAt w' p X) ∧ Below w.heap.size w w') := by
  by_cases h : udE bs.length b n = 0
  · have hb : b = 8 ∨ b = 16 := by
      rcases Classical.em (b = 8 ∨ b = 16) with hb | hb
      · exact hb
      · rw [show udE bs.length b n = 1 from if_neg hb] at h; cases h
    have ha : ask bs.length n = 0 := by rw [show udE bs.length b n = ask bs.length n from if_pos hb] at h; exact h
    refine ⟨udx bs b n.toNat, n.toNat, ((n.toNat - udM bs b n.toNat : Nat) : Int), 0, udx_length bs b _, (ask_nn ha).2, fun pb capb w hd => ?_, fun pb capb w hd => ?_⟩
    · refine (p_Undelta bs pb capb b n w hd hdb hl).mono fun r w' ⟨⟨u, m, hr, _, hk⟩, hb'⟩ => ⟨?_, hb'⟩
      obtain ⟨⟨g, rfl⟩, rfl, hrow⟩ := hk h
      rw [h] at hr
      exact ⟨_, _, hr, row_dat2 hrow (udx_length bs b _)⟩
    · refine (rundelta bs pb capb b n w hd hdb hl).mono fun r w' ⟨_, hk, hb'⟩ => ⟨?_, hb'⟩
      obtain ⟨g, c, hr, hrow⟩ := hk h
      exact ⟨_, _, hr, row_dat2 hrow (udx_length bs b _)⟩
  · refine ⟨[], 0, 0, udE bs.length b n, rfl, by omega, fun pb capb w hd => ?_, fun pb capb w hd => ?_⟩
    · refine (p_Undelta bs pb capb b n w hd hdb hl).mono fun r w' ⟨⟨u, m, hr, hk, _⟩, hb'⟩ => ⟨?_, hb'⟩
      obtain ⟨rfl, rfl⟩ := hk h
      exact ⟨none, 0, hr, .inl rfl⟩
    · refine (rundelta bs pb capb b n w hd hdb hl).mono fun r w' ⟨hk, _, hb'⟩ => ⟨?_, hb'⟩
      exact ⟨none, 0, hk h, .inl rfl⟩
/-- Project and reference read the same by Unblocks. -/
theorem unb_same (bs : List Int) (b v n : Int) (hdb : ∀ x ∈ bs, 0 ≤ x ∧ x < 256) (hl : (bs.length : Int) ≤ 1152921504606846976) : ∃ (X : List Int) (L : Nat) (u m e : Int), X.length = L ∧ L ≤ 4096 ∧
    (∀ (pb : Option Addr) (capb : Nat) (w : World), bs.length ≤ capb → BytAt w pb bs → Calls Try.prog 16 #[.slice pb bs.length capb, .int .i64 b, .int .i64 v, .int .i64 n] w fun r w' => (∃ p c, r = .returned (.tuple #[.slice p L c, .int .i64 u, .int .i64 m, .int .i64 e]) ∧ DatAt w' p X) ∧ Below w.heap.size w w') ∧
    (∀ (pb : Option Addr) (capb : Nat) (w : World), bs.length ≤ capb → BytAt w pb bs → Calls Try.prog 17 #[.slice pb bs.length capb, .int .i64 b, .int .i64 v, .int .i64 n] w fun r w' => (∃ p c, r = .returned (.tuple #[.slice p L c, .int .i64 u, .int .i64 m, .int .i64 e]) ∧ DatAt w' p X) ∧ Below w.heap.size w w') := by
  by_cases h : ubE bs.length b v n = 0
  · have hc : (v = 1 ∨ v = 2) ∧ (b = 8 ∨ b = 16) := by
      rcases Classical.em ((v = 1 ∨ v = 2) ∧ (b = 8 ∨ b = 16)) with hb | hb
      · exact hb
      · rw [show ubE bs.length b v n = 1 from if_neg hb] at h; cases h
    have ha : ask bs.length n = 0 := by rw [show ubE bs.length b v n = ask bs.length n from if_pos hc] at h; exact h
    cases hr : ub b (n.toNat + 1) n.toNat bs with
    | none =>
      refine ⟨[], 0, 0, 0, 9, rfl, by omega, fun pb capb w hlc hd => ?_, fun pb capb w hlc hd => ?_⟩
      · refine (p_Unblocks bs pb capb b v n w hd hdb hlc hl).mono fun r w' ⟨_, hk, hb'⟩ => ⟨?_, hb'⟩
        exact ⟨none, 0, (hk h).1 hr, .inl rfl⟩
      · refine (runblocks bs pb capb b v n w hd hdb hlc hl).mono fun r w' ⟨_, hk, hb'⟩ => ⟨?_, hb'⟩
        exact ⟨none, 0, (hk h).1 hr, .inl rfl⟩
    | some p =>
      obtain ⟨vs, u⟩ := p
      by_cases hv : vs.length ≤ n.toNat
      · have hX : (dec b v vs ++ List.replicate (n.toNat - vs.length) 0).length = n.toNat := by rw [List.length_append, dec_length, List.length_replicate]; omega
        refine ⟨dec b v vs ++ List.replicate (n.toNat - vs.length) 0, n.toNat, u, ((n.toNat - vs.length : Nat) : Int), 0, hX, (ask_nn ha).2, fun pb capb w hlc hd => ?_, fun pb capb w hlc hd => ?_⟩
        · refine (p_Unblocks bs pb capb b v n w hd hdb hlc hl).mono fun r w' ⟨_, hk, hb'⟩ => ⟨?_, hb'⟩
          obtain ⟨_, g, he, hrow⟩ := (hk h).2 vs u hr
          exact ⟨_, _, he, row_dat2 hrow hX⟩
        · refine (runblocks bs pb capb b v n w hd hdb hlc hl).mono fun r w' ⟨_, hk, hb'⟩ => ⟨?_, hb'⟩
          obtain ⟨_, g, c, he, hrow⟩ := (hk h).2 vs u hr
          exact ⟨_, _, he, row_dat2 hrow hX⟩
      · refine ⟨[], 0, 0, 0, 0, rfl, by omega, fun pb capb w hlc hd => ?_, fun pb capb w hlc hd => ?_⟩
        · exact (p_Unblocks bs pb capb b v n w hd hdb hlc hl).mono fun r w' ⟨_, hk, _⟩ => absurd ((hk h).2 vs u hr).1 hv
        · exact (runblocks bs pb capb b v n w hd hdb hlc hl).mono fun r w' ⟨_, hk, _⟩ => absurd ((hk h).2 vs u hr).1 hv
  · refine ⟨[], 0, 0, 0, ubE bs.length b v n, rfl, by omega, fun pb capb w hlc hd => ?_, fun pb capb w hlc hd => ?_⟩
    · refine (p_Unblocks bs pb capb b v n w hd hdb hlc hl).mono fun r w' ⟨hk, _, hb'⟩ => ⟨?_, hb'⟩
      exact ⟨none, 0, hk h, .inl rfl⟩
    · refine (runblocks bs pb capb b v n w hd hdb hlc hl).mono fun r w' ⟨hk, _, hb'⟩ => ⟨?_, hb'⟩
      exact ⟨none, 0, hk h, .inl rfl⟩
end Go.Proofs.Ytfljgdehbogimaa

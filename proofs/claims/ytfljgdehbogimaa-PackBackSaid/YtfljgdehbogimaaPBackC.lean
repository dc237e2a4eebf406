/-
  What package pack's functions return of what was written and of a beginning of it: contracts for the law PackBack.
-/
import Derived.Test.YtfljgdehbogimaaPBk
import Derived.Test.YtfljgdehbogimaaPUnbW
import Derived.Test.YtfljgdehbogimaaPDelta
import Derived.Test.YtfljgdehbogimaaPAwake
import Derived.Test.YtfljgdehbogimaaPSame
namespace Go.Proofs.Ytfljgdehbogimaa
open Go.RowKit

theorem own_dat2 {k : IntKind} {e : TypeId} {w : World} {B n : Nat} {v : Value} {l : List Int} (h : w.ownsRow B e 1 v n (l.map (Value.int k))) (hn : l.length = n) : ∃ p cap, v = .slice p l.length cap ∧ KAt k w p l ∧ l.length ≤ cap := by
  rcases h.2 with ⟨rfl, rfl⟩ | ⟨g, cap, cur, rfl, _, _, h3, _⟩
  · exact ⟨none, 0, by rw [hn], .inl (List.eq_nil_of_length_eq_zero hn), by omega⟩
  · refine ⟨some ⟨g, 0, none⟩, cap, by rw [hn], .inr ⟨g, 0, rfl, (World.ownsRow.lt h g rfl).2, fun i hi => ?_⟩, by omega⟩
    rw [Nat.zero_add, World.ownsRow.cellAt h i (by omega)]
    simp [hi, List.getD_eq_getElem?_getD]
theorem dat_row {e : TypeId} {w : World} {B g c n : Nat} {l : List Int} (h : w.ownsRow B e 1 (.slice (some ⟨g, 0, none⟩) n c) n (l.map (Value.int .i64))) (hn : l.length = n) : DatAt w (some ⟨g, 0, none⟩) l := by
  refine .inr ⟨g, 0, rfl, (World.ownsRow.lt h g rfl).2, fun i hi => ?_⟩
  rw [Nat.zero_add, World.ownsRow.cellAt h i (by omega), map_getD hi]
theorem kat_take {k : IntKind} {w : World} {p : Option Addr} {l : List Int} (h : KAt k w p l) (j : Nat) : KAt k w p (l.take j) := by
  rcases h with rfl | ⟨b, o, hp, hl, hc⟩
  · exact .inl List.take_nil
  · refine .inr ⟨b, o, hp, hl, fun i hi => ?_⟩
    rw [List.length_take] at hi
    rw [hc i (by omega), take_at (by omega)]
/-- The first M of l, and zeros. -/
def fstN (l : List Int) (M : Nat) : List Int := l.take M ++ List.replicate (l.length - M) 0
theorem fstN_length {l : List Int} {M : Nat} (h : M ≤ l.length) : (fstN l M).length = l.length := by
  unfold fstN
  rw [List.length_append, List.length_take, List.length_replicate]
  omega
theorem fstN_all (l : List Int) : fstN l l.length = l := by simp [fstN]
theorem fstN_lo {l : List Int} {M i : Nat} (h : M ≤ l.length) (hi : i < M) : (fstN l M).getD i 0 = l.getD i 0 := by
  unfold fstN
  rw [List.getD_eq_getElem?_getD, List.getElem?_append_left (by rw [List.length_take]; omega), ← List.getD_eq_getElem?_getD, take_at hi]
theorem fstN_hi {l : List Int} {M i : Nat} (h : M ≤ l.length) (hi : M ≤ i) : (fstN l M).getD i 0 = 0 := by
  unfold fstN
  rw [List.getD_eq_getElem?_getD, List.getElem?_append_right (by rw [List.length_take]; omega), List.getElem?_replicate]
  split
  · rfl
  · rfl
theorem dlt_in (l : List Int) (b : Int) : ∀ x ∈ dlt l b, 0 ≤ x ∧ x < 256 := by
  intro x hx
  unfold dlt at hx
  rw [List.mem_flatMap] at hx
  obtain ⟨d, _, hd⟩ := hx
  unfold byts at hd
  split at hd
  · simp only [List.mem_cons, List.not_mem_nil, or_false] at hd
    omega
  · simp only [List.mem_cons, List.not_mem_nil, or_false] at hd
    omega
theorem dlt_length {l : List Int} {b : Int} (h : b = 8 ∨ b = 16) : (dlt l b).length ≤ 2 * l.length := by
  rcases h with rfl | rfl
  · unfold dlt; rw [byts_8, List.length_map, Pk.difs_length]; omega
  · unfold dlt; rw [byts_16, Pk.difs_length]; omega
theorem blks_in (L : List Int) : ∀ x ∈ blks L, 0 ≤ x ∧ x < 256 := by
  intro x hx
  unfold blks at hx
  rw [List.mem_flatMap] at hx
  obtain ⟨i, _, hx⟩ := hx
  unfold blk at hx
  rw [List.mem_cons] at hx
  rcases hx with rfl | hx
  · have := wid_hi (part L i)
    omega
  · unfold Pk.pby at hx
    rw [List.mem_map] at hx
    obtain ⟨j, _, rfl⟩ := hx
    exact ⟨Pk.pbyte_lo (Pk.bitsOf_bits _ _) _ _, Pk.pbyte_hi (Pk.bitsOf_bits _ _) _ _⟩
theorem blks_length {L : List Int} (h : L.length ≤ 4096) : (blks L).length ≤ 9000 := by
  have := blksN_length L ((L.length + 255) / 256)
  have e : blksN L ((L.length + 255) / 256) = blks L := rfl
  rw [e] at this
  omega
theorem ask_zero {m n : Nat} (h1 : m ≤ 9000) (h2 : n ≤ 4096) : ask m n = 0 := by
  unfold ask
  rw [if_neg (by omega), if_neg (by omega)]
/-- What Undelta returns of a beginning of what Delta wrote. -/
theorem c_und {l : List Int} {b : Int} (h : whl l b = 0) (p : Option Addr) (c j : Nat) (w : World) (hj : j ≤ (dlt l b).length) (hd : BytAt w p (dlt l b)) :
    ∃ M, M ≤ l.length ∧ (j = (dlt l b).length → M = l.length) ∧ Calls Try.prog 13 #[.slice p j c, .int .i64 b, .int .i64 l.length] w fun e w' => (∃ g, e = .returned (.tuple #[.slice (some ⟨g, 0, none⟩) l.length l.length, .int .i64 ((l.length - M : Nat) : Int), .int .i64 0]) ∧ DatAt w' (some ⟨g, 0, none⟩) (fstN l M)) ∧ Below w.heap.size w w' := by
  obtain ⟨h1, h2, h3⟩ := udx_take h j
  have hb := (whl_zero h).1
  have h4 := (whl_zero h).2.2
  have hl := dlt_length (l := l) hb
  have e0 : ((dlt l b).take j).length = j := by rw [List.length_take]; omega
  have C := p_Undelta ((dlt l b).take j) p c b l.length w (kat_take hd j) (fun x hx => dlt_in l b x (List.mem_of_mem_take hx)) (by rw [e0]; omega)
  have e1 : udE j b l.length = 0 := by unfold udE; rw [if_pos hb]; exact ask_zero (by omega) (by omega)
  rw [e0, e1] at C
  refine ⟨_, h1, fun e => h3 (by omega), C.mono ?_⟩
  rintro e w' ⟨⟨u, m, rfl, _, hk⟩, hb'⟩
  obtain ⟨⟨g, rfl⟩, rfl, hrow⟩ := hk rfl
  refine ⟨⟨g, rfl, ?_⟩, hb'⟩
  have e2 : udx ((dlt l b).take j) b (l.length : Int).toNat = fstN l (udM ((dlt l b).take j) b l.length) := h2
  rw [e2] at hrow
  exact dat_row hrow (fstN_length h1)
/-- What Unblocks returns of a beginning of what Blocks wrote. -/
theorem c_unb {l : List Int} {b v : Int} (h : whl l b = 0) (hv : v = 1 ∨ v = 2) (p : Option Addr) (c j : Nat) (w : World) (hj : j ≤ (blks (enc b v l)).length) (hc : j ≤ c) (hd : BytAt w p (blks (enc b v l))) :
    ∃ M u : Nat, M ≤ l.length ∧ (j = (blks (enc b v l)).length → M = l.length ∧ u = j) ∧ Calls Try.prog 16 #[.slice p j c, .int .i64 b, .int .i64 v, .int .i64 l.length] w fun e w' => (∃ g, e = .returned (.tuple #[.slice (some ⟨g, 0, none⟩) l.length l.length, .int .i64 u, .int .i64 ((l.length - M : Nat) : Int), .int .i64 0]) ∧ DatAt w' (some ⟨g, 0, none⟩) (fstN l M)) ∧ Below w.heap.size w w' := by
  obtain ⟨vs, u, h0, h1, h2, h3⟩ := ubx_take (v := v) h j
  have hb := (whl_zero h).1
  have h4 := (whl_zero h).2.2
  have hl := blks_length (L := enc b v l) (by rw [enc_length]; exact h4)
  have e0 : ((blks (enc b v l)).take j).length = j := by rw [List.length_take]; omega
  have C := p_Unblocks ((blks (enc b v l)).take j) p c b v l.length w (kat_take hd j) (fun x hx => blks_in _ x (List.mem_of_mem_take hx)) (by rw [e0]; exact hc) (by rw [e0]; omega)
  have e1 : ubE j b v l.length = 0 := by unfold ubE; rw [if_pos ⟨hv, hb⟩]; exact ask_zero (by omega) (by omega)
  rw [e0, e1] at C
  refine ⟨vs.length, u, h1, fun e => ?_, C.mono ?_⟩
  · obtain ⟨k1, k2⟩ := h3 (by omega)
    exact ⟨k1, by omega⟩
  rintro e w' ⟨_, hk, hb'⟩
  obtain ⟨_, g, rfl, hrow⟩ := (hk rfl).2 vs u h0
  refine ⟨⟨g, rfl, ?_⟩, hb'⟩
  have e2 : dec b v vs ++ List.replicate ((l.length : Int).toNat - vs.length) 0 = fstN l vs.length := by rw [h2]; rfl
  rw [e2] at hrow
  exact dat_row hrow (fstN_length h1)
theorem c_und_all {l : List Int} {b : Int} (h : whl l b = 0) (p : Option Addr) (c : Nat) (w : World) (hd : BytAt w p (dlt l b)) :
    Calls Try.prog 13 #[.slice p (dlt l b).length c, .int .i64 b, .int .i64 l.length] w fun e w' => (∃ g, e = .returned (.tuple #[.slice (some ⟨g, 0, none⟩) l.length l.length, .int .i64 0, .int .i64 0]) ∧ DatAt w' (some ⟨g, 0, none⟩) l) ∧ Below w.heap.size w w' := by
  obtain ⟨M, _, h2, C⟩ := c_und h p c _ w (Nat.le_refl _) hd
  obtain rfl := h2 rfl
  rw [Nat.sub_self, fstN_all] at C
  exact C
theorem c_unb_all {l : List Int} {b v : Int} (h : whl l b = 0) (hv : v = 1 ∨ v = 2) (p : Option Addr) (c : Nat) (w : World) (hc : (blks (enc b v l)).length ≤ c) (hd : BytAt w p (blks (enc b v l))) :
    Calls Try.prog 16 #[.slice p (blks (enc b v l)).length c, .int .i64 b, .int .i64 v, .int .i64 l.length] w fun e w' => (∃ g, e = .returned (.tuple #[.slice (some ⟨g, 0, none⟩) l.length l.length, .int .i64 (blks (enc b v l)).length, .int .i64 0, .int .i64 0]) ∧ DatAt w' (some ⟨g, 0, none⟩) l) ∧ Below w.heap.size w w' := by
  obtain ⟨M, u, _, h2, C⟩ := c_unb h hv p c _ w (Nat.le_refl _) hc hd
  obtain ⟨rfl, rfl⟩ := h2 rfl
  rw [Nat.sub_self, fstN_all] at C
  exact C
end Go.Proofs.Ytfljgdehbogimaa

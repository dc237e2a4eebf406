/-
  The contract of the law package's same[int] over the same numbers.
-/
import Derived.Test.YtcchfahdgmcpbaaPCurve
import Derived.Deep.DeepCutAuto
namespace Go.Proofs.Ytcchfahdgmcpbaa
open Go.RowKit

/-- Numbers that lie at p. -/
def NumsAt (w : World) (p : Option Addr) (l : List Int) : Prop := l = [] ∨ ∃ b off, p = some ⟨b, off, none⟩ ∧ b < w.heap.size ∧ ∀ i, i < l.length → w.cell? ⟨b, off + i, none⟩ = some (.int .i64 (l.getD i 0))
theorem NumsAt.below {w w' : World} {p : Option Addr} {l : List Int} (h : NumsAt w p l) (hb : Below w.heap.size w w') : NumsAt w' p l := by
  rcases h with h | ⟨b, off, hp, hl, hc⟩
  · exact .inl h
  · exact .inr ⟨b, off, hp, Nat.lt_of_lt_of_le hl hb.size, fun i hi => by rw [hb.cell (p := ⟨b, _, none⟩) hl]; exact hc i hi⟩
theorem NumsAt.drewN {w : World} {p : Option Addr} {l : List Int} (h : NumsAt w p l) (n : Nat) : NumsAt (w.drewN n) p l := h.below (below_drewN' (Below.refl _ _) n)
theorem NumsAt.at {w : World} {p : Option Addr} {l : List Int} (h : NumsAt w p l) {i : Nat} (hi : i < l.length) : ∃ b off, p = some ⟨b, off, none⟩ ∧ w.cell? ⟨b, off + i, none⟩ = some (.int .i64 (l.getD i 0)) := by
  rcases h with rfl | ⟨b, off, hp, _, hc⟩
  · exact absurd hi (by simp)
  · exact ⟨b, off, hp, hc i hi⟩
theorem nums_row {w : World} {B n : Nat} {e : TypeId} {v : Value} {l : List Int} (h : w.ownsRow B e 1 v n (l.map (Value.int .i64))) (hn : l.length = n) : ∃ p cap, v = .slice p l.length cap ∧ NumsAt w p l := by
  rcases h.2 with ⟨rfl, rfl⟩ | ⟨g, cap, cur, rfl, _⟩
  · exact ⟨none, 0, by rw [hn], .inl (List.eq_nil_of_length_eq_zero hn)⟩
  · refine ⟨some ⟨g, 0, none⟩, cap, by rw [hn], .inr ⟨g, 0, rfl, (World.ownsRow.lt h g rfl).2, fun i hi => ?_⟩⟩
    rw [Nat.zero_add, World.ownsRow.cellAt h i (by omega)]
    simp [hi, List.getD_eq_getElem?_getD]
theorem reti_nums {l : List Int} {B : Nat} {e : Ending} {w' : World} (h : RetI l B e w') : ∃ p cap, e = .returned (.slice p l.length cap) ∧ NumsAt w' p l := by
  obtain ⟨v, rfl, h⟩ := h
  obtain ⟨p, cap, rfl, hd⟩ := nums_row h rfl
  exact ⟨p, cap, rfl, hd⟩
set_option maxHeartbeats 1600000 in
theorem p_same (l : List Int) (pa pb : Option Addr) (ca cb : Nat) (w : World) (ha : NumsAt w pa l) (hb : NumsAt w pb l) (hl : (l.length : Int) ≤ 9223372036854775807) :
    Calls Try.prog 15 #[.slice pa l.length ca, .slice pb l.length cb] w fun x w' => x = .returned (.bool true) ∧ Below w.heap.size w w' := by
  have HA := Lib.hid ha
  have HB := Lib.hid hb
  obtain ⟨n, hn⟩ : ∃ n, l.length = n := ⟨_, rfl⟩
  have HN := Lib.hid hn
  rw [hn] at hl ⊢
  clear ha hb hn
  go_enter Try.func15, Try.ntmps15
  go_wp2
  go_loopw [13] (fun i wr => ∃ k : Nat, k ≤ n ∧ i = .int .i64 k ∧ Hid (Below w.heap.size w wr)) (fun i _ => n - (intOf i).toNat)
  case atStart => exact ⟨0, by omega, rfl, Below.refl _ _⟩
  case round =>
    obtain ⟨k, hk, rfl, HW⟩ := hrel
    by_cases hlt : k < n
    · obtain ⟨b1, o1, hp1, hc1⟩ := (HA.out.below HW.out).at (show k < l.length by rw [HN.out]; exact hlt)
      obtain ⟨b2, o2, hp2, hc2⟩ := (HB.out.below HW.out).at (show k < l.length by rw [HN.out]; exact hlt)
      obtain ⟨v, hv⟩ : ∃ v, l.getD k 0 = v := ⟨_, rfl⟩
      rw [hv] at hc1 hc2
      clear hv
      subst hp1 hp2
      have hki : (k : Int) < (n : Int) := by omega
      go_upto_region 6 with fail
      go_quiet (fail)
      go_wp2
      go_roundw
      case rel => exact ⟨k + 1, by omega, by go_num, below_drewN' HW.out _⟩
      case measure => simp [intOf]; omega
    · go_wp2
      go_ret
      exact ⟨rfl, HW.out⟩
end Go.Proofs.Ytcchfahdgmcpbaa

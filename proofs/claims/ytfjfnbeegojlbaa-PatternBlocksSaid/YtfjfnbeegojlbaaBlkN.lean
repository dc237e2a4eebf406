/-
  What the law PatternBlocks asks, as mathematics. No program.
-/
import Derived.Test.YtfjfnbeegojlbaaBlkM
namespace Go.Proofs.Ytfjfnbeegojlbaa
open Go.RowKit

theorem blk_paste {r : Int} {l : List Pt.Cl} {ch : Int} {a : Pt.Ar} (h : Pt.eArea r l ch a = 0) :
    Pt.ePaste r l ch a.h (Pt.copyL l ch.toNat a.r.toNat a.c.toNat a.h.toNat a.w.toNat) a.w a.r a.c = 0 ∧ Pt.pasteL l ch.toNat (Pt.copyL l ch.toNat a.r.toNat a.c.toNat a.h.toNat a.w.toNat) a.h.toNat a.w.toNat a.r.toNat a.c.toNat false = l := by
  have hv : Pt.vpat r l ch = true := by
    unfold Pt.eArea at h
    cases e : Pt.vpat r l ch with
    | true => rfl
    | false => rw [e] at h; simp at h
  obtain ⟨R, C, ar, ac, ah, aw, rfl, rfl, rfl, g1, g2, g3, g4, g5, g6, g7, g8⟩ := area_nat h
  simp only [Int.toNat_natCast]
  refine ⟨?_, Pt.paste_copy g3 (by omega)⟩
  unfold Pt.ePaste
  rw [Pt.copy_vpat g3 g8 g5 g7 g6 g4 g1 g2, if_pos rfl]
  unfold Pt.ePlace
  rw [hv, if_pos rfl, if_pos]
  simp only [Pt.plc, Bool.and_eq_true, decide_eq_true_eq]
  omega
theorem blk_split {r : Int} {l : List Pt.Cl} {ch row : Int} (h : Pt.eSplit r l ch row = 0) :
    Pt.eJoin row (l.take (row.toNat * ch.toNat)) (r - row) (l.drop (row.toNat * ch.toNat)) ch = 0 := by
  unfold Pt.eSplit at h
  cases e : Pt.vpat r l ch with
  | false => rw [e] at h; simp at h
  | true =>
    by_cases e3 : 1 ≤ row ∧ row < r
    · obtain ⟨R, C, rfl, rfl, g1, g2, g3, g4, g5, g6⟩ := Pt.vpat_nat e
      obtain ⟨k, rfl⟩ : ∃ k : Nat, row = k := ⟨row.toNat, by omega⟩
      simp only [Int.toNat_natCast]
      obtain ⟨h1, h2⟩ := Pt.split_vpat (k := k) g5 g6 (by omega) (by omega) g2 g3 g4
      unfold Pt.eJoin
      rw [h1, h2, if_pos (by rfl), if_pos (by omega)]
    · rw [e, if_pos rfl, if_neg e3] at h; exact absurd h (by decide)
theorem eTran_parts {r : Int} {l : List Pt.Cl} {ch : Int} {a : Pt.Ar} {s : Int} (h : Pt.eTran r l ch a s = 0) : Pt.eArea r l ch a = 0 ∧ -119 ≤ s ∧ s ≤ 119 := by
  unfold Pt.eTran at h
  by_cases e : Pt.eArea r l ch a = 0
  · rw [if_pos e] at h
    by_cases e2 : Pt.wth s (-119) 119 = true
    · exact ⟨e, Pt.wth_iff.1 e2⟩
    · rw [if_neg e2] at h; exact absurd h (by decide)
  · rw [if_neg e] at h; exact absurd h e
theorem blk_tran {r : Int} {l : List Pt.Cl} {ch : Int} {a : Pt.Ar} {s : Int} (h : Pt.eTran r l ch a s = 0) :
    Pt.eTran r (Pt.tranL l ch.toNat a.r.toNat a.c.toNat a.h.toNat a.w.toNat s) ch a (-s) = 0 := by
  obtain ⟨h1, h2, h3⟩ := eTran_parts h
  have hw : Pt.awi a r ch = true := by
    unfold Pt.eArea at h1
    cases e : Pt.vpat r l ch with
    | false => rw [e] at h1; simp at h1
    | true =>
      cases e2 : Pt.awi a r ch with
      | true => rfl
      | false => rw [e, e2] at h1; simp at h1
  have hv : Pt.vpat r l ch = true := by
    unfold Pt.eArea at h1
    cases e : Pt.vpat r l ch with
    | true => rfl
    | false => rw [e] at h1; simp at h1
  obtain ⟨b1, b2, b3, b4⟩ := Pt.vpat_iff.1 hv
  have hv2 : Pt.vpat r (Pt.tranL l ch.toNat a.r.toNat a.c.toNat a.h.toNat a.w.toNat s) ch = true := Pt.vpat_iff.2 ⟨b1, b2, by rw [Pt.tran_len]; exact b3, Pt.tran_all b4⟩
  unfold Pt.eTran
  have e1 : Pt.eArea r (Pt.tranL l ch.toNat a.r.toNat a.c.toNat a.h.toNat a.w.toNat s) ch a = 0 := by unfold Pt.eArea; rw [hv2, hw]; rfl
  rw [if_pos e1, if_pos (Pt.wth_iff.2 ⟨by omega, by omega⟩)]
end Go.Proofs.Ytfjfnbeegojlbaa

/-
  Mathematics of blocks: what was copied, pasted, split, joined and transposed. No program.
-/
import Derived.Test.YtfjfnbeegojlbaaPSplit
namespace Go.Proofs.Ytfjfnbeegojlbaa
open Go.RowKit

namespace Pt
theorem copy_at {l : List Cl} {C r c h w y x : Nat} (hy : y < h) (hx : x < w) : at' (copyL l C r c h w) (y * w + x) = at' l ((r + y) * C + (c + x)) := by
  unfold copyL
  rw [mk_at _ _ (rc_in hy hx), rc_div hx, rc_mod hx]
theorem copy_all {l : List Cl} {R C r c h w : Nat} (hl : l.length = R * C) (ha : all l = true) (hr : r + h ≤ R) (hc : c + w ≤ C) (hw : 1 ≤ w) : all (copyL l C r c h w) = true := by
  refine all_mk fun j hj => ?_
  rw [show (copyL l C r c h w).length = h * w from mk_len _ _] at hj
  obtain ⟨y, x, hy, hx, rfl⟩ := rc_split hw hj
  rw [copy_at hy hx]
  exact all_at ha (by rw [hl]; exact rc_in (by omega) (by omega))
theorem copy_vpat {l : List Cl} {R C r c h w : Nat} (hl : l.length = R * C) (ha : all l = true) (hr : r + h ≤ R) (hc : c + w ≤ C) (hw : 1 ≤ w) (hh : 1 ≤ h) (h1 : R ≤ 64) (h2 : C ≤ 16) : vpat (h : Int) (copyL l C r c h w) (w : Int) = true :=
  vpat_mk hh (by omega) hw (by omega) (mk_len _ _) (copy_all hl ha hr hc hw)
theorem paste_copy {l : List Cl} {R C r c h w : Nat} (hl : l.length = R * C) (hC : 1 ≤ C) : pasteL l C (copyL l C r c h w) h w r c false = l := by
  refine (eq_mk rfl fun k hk => ?_).symm
  obtain ⟨y, x, hy, hx, rfl⟩ := rc_split hC (hl ▸ hk)
  rw [rc_div hx, rc_mod hx]
  by_cases e : r ≤ y ∧ y - r < h ∧ c ≤ x ∧ x - c < w
  · rw [if_pos e, copy_at e.2.1 e.2.2.2, show r + (y - r) = y by omega, show c + (x - c) = x by omega]
    rfl
  · rw [if_neg e]
theorem all_take {l : List Cl} (n : Nat) (h : all l = true) : all (l.take n) = true := List.all_eq_true.2 fun x hx => List.all_eq_true.1 h x (List.mem_of_mem_take hx)
theorem all_drop {l : List Cl} (n : Nat) (h : all l = true) : all (l.drop n) = true := List.all_eq_true.2 fun x hx => List.all_eq_true.1 h x (List.mem_of_mem_drop hx)
theorem split_vpat {l : List Cl} {R C k : Nat} (hl : l.length = R * C) (ha : all l = true) (h1 : 1 ≤ k) (h2 : k < R) (hR : R ≤ 64) (hC1 : 1 ≤ C) (hC : C ≤ 16) : vpat (k : Int) (l.take (k * C)) (C : Int) = true ∧ vpat ((R : Int) - k) (l.drop (k * C)) (C : Int) = true := by
  have hk : k * C ≤ R * C := Nat.mul_le_mul_right C (by omega)
  have e : (R : Int) - k = ((R - k : Nat) : Int) := by omega
  rw [e]
  exact ⟨vpat_mk h1 (by omega) hC1 hC (by rw [List.length_take, hl]; omega) (all_take _ ha), vpat_mk (by omega) (by omega) hC1 hC (by rw [List.length_drop, hl, Nat.sub_mul]) (all_drop _ ha)⟩
theorem tran_len (l : List Cl) (C r c h w : Nat) (s : Int) : (tranL l C r c h w s).length = l.length := mk_len _ _
theorem trn_bounds {n s : Int} (h : vnt n = true) : vnt (trn n s) = true := by
  unfold trn
  cases h1 : pitched n && pitched (n + s) with
  | false => exact h
  | true =>
    simp only [Bool.and_eq_true] at h1
    have := wth_iff.1 h1.2
    simp only [vnt, decide_eq_true_eq, if_true]
    omega
theorem trC_valid {c : Cl} {s : Int} (h : vcl c = true) : vcl (trC c s) = true := by
  simp only [vcl, Bool.and_eq_true] at h ⊢
  exact ⟨trn_bounds h.1, h.2⟩
theorem tran_all {l : List Cl} {C r c h w : Nat} {s : Int} (ha : all l = true) : all (tranL l C r c h w s) = true := by
  refine all_mk fun j hj => ?_
  rw [tran_len] at hj
  unfold tranL
  rw [mk_at _ _ hj]
  split
  · exact trC_valid (all_at ha hj)
  · exact all_at ha hj
/-- No note leaves. -/
def stays (s : Int) (c : Cl) : Bool := !(pitched c.nt && !pitched (c.nt + s))
theorem trC_back {c : Cl} {s : Int} (h : stays s c = true) : trC (trC c s) (-s) = c := by
  obtain ⟨n, i, vc, va, ef, pa⟩ := c
  have e : trn (trn n s) (-s) = n := by
    simp only [stays] at h
    unfold trn
    cases h1 : pitched n with
    | false => simp [h1]
    | true =>
      have h2 : pitched (n + s) = true := by simpa [h1] using h
      simp only [h2, Bool.and_self, if_true]
      rw [show n + s + -s = n by omega, h1]
      simp
  show (⟨trn (trn n s) (-s), i, vc, va, ef, pa⟩ : Cl) = _
  rw [e]
theorem tran_back {l : List Cl} {C r c h w : Nat} {s : Int} (hs : ∀ k, k < l.length → stays s (at' l k) = true) : tranL (tranL l C r c h w s) C r c h w (-s) = l := by
  refine (eq_mk (by rw [tran_len]) fun k hk => ?_).symm
  rw [tran_len] at hk
  have e : at' (tranL l C r c h w s) k = if r ≤ k / C ∧ k / C < r + h ∧ c ≤ k % C ∧ k % C < c + w then trC (at' l k) s else at' l k := mk_at _ _ hk
  rw [e]
  by_cases hc : r ≤ k / C ∧ k / C < r + h ∧ c ≤ k % C ∧ k % C < c + w
  · rw [if_pos hc, if_pos hc, trC_back (hs k hk)]
  · rw [if_neg hc, if_neg hc]
end Pt
end Go.Proofs.Ytfjfnbeegojlbaa

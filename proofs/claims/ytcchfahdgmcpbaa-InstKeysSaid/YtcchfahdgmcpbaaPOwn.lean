/-
  Lists of a hundred and twenty keys; the contract of package inst's ownNotes.
-/
import Derived.Test.YtcchfahdgmcpbaaPClo
import Derived.Deep.DeepCutAuto
namespace Go.Proofs.Ytcchfahdgmcpbaa
open Go.RowKit

theorem Kr.setA {w : World} {g k : Nat} {l l' : List (Int × Int)} {x : Int} (h : Kr w g l) (hl : l'.length = l.length) (hk : ∀ i, i < l.length → In.tk l' i = (if i = k then x else In.tk l i) ∧ In.vl l' i = In.vl l i) :
    Kr (w.setCell ⟨g, k * 2, none⟩ (.int .i64 x)) g l' := by
  have ne : ∀ {i j : Nat}, i ≠ j → (⟨g, i, none⟩ : Addr) ≠ ⟨g, j, none⟩ := fun hij e => hij (congrArg Addr.off e)
  refine ⟨by simpa using h.1, fun i hi => ?_⟩
  rw [hl] at hi
  obtain ⟨⟨h1, h2⟩, h3, h4⟩ := h.2 i hi
  obtain ⟨e1, e2⟩ := hk i hi
  refine ⟨?_, by simpa using h3, by simpa using h4⟩
  rw [e2, World.cell?_setCell_other (a := ⟨g, k * 2, none⟩) (b := ⟨g, i * 2 + 1, none⟩) _ _ (ne (by omega))]
  by_cases e : i = k
  · subst e
    rw [if_pos rfl] at e1
    rw [e1]
    exact ⟨World.cell?_setCell_same _ _ _ h1, h2⟩
  · rw [if_neg e] at e1
    rw [e1, World.cell?_setCell_other _ _ _ _ (ne (by omega))]
    exact ⟨h1, h2⟩
theorem kr_row {w : World} {B g n cap : Nat} {e : TypeId} {l : List (Int × Int)} (h : w.ownsRow B e 2 (.slice (some ⟨g, 0, none⟩) n cap) n (pc l)) (hn : l.length = n) (h0 : l ≠ []) : Kr w g l ∧ B ≤ g := by
  obtain ⟨p, cap', hv, _, hk⟩ := rows_kr h hn
  obtain ⟨g', hp, hb, hkr⟩ := hk h0
  rw [hp] at hv
  simp at hv
  obtain ⟨rfl, _⟩ := hv
  exact ⟨hkr, hb⟩
theorem pc_zeros : ∀ n : Nat, pc (List.replicate n (0, 0)) = List.replicate (n * 2) (.int .i64 0)
  | 0 => rfl
  | n + 1 => by rw [List.replicate_succ, pc_cons, pc_zeros n, show (n + 1) * 2 = n * 2 + 1 + 1 by omega, List.replicate_succ, List.replicate_succ]
theorem made_pairs (n : Nat) : (madeCells (Value.agg #[.int .i64 0, .int .i64 0]).cells (n * 2)).toList = pc (List.replicate n (0, 0)) := by
  rw [pc_zeros]
  apply List.ext_getElem
  · simp [madeCells]
  · intro i h1 h2
    have : i % 2 = 0 ∨ i % 2 = 1 := by omega
    rcases this with e | e <;> simp [madeCells, Value.cells, e]
namespace In
/-- A hundred and twenty keys. -/
def mkl (f : Nat → Int × Int) : List (Int × Int) := (List.range 120).map f
theorem mkl_len (f : Nat → Int × Int) : (mkl f).length = 120 := by simp [mkl]
theorem mkl_tk (f : Nat → Int × Int) {k : Nat} (h : (k : Int) < 120) : tk (mkl f) k = (f k).1 := by simp [tk, mkl, List.getD_eq_getElem?_getD, show k < 120 by omega]
theorem mkl_vl (f : Nat → Int × Int) {k : Nat} (h : (k : Int) < 120) : vl (mkl f) k = (f k).2 := by simp [vl, mkl, List.getD_eq_getElem?_getD, show k < 120 by omega]
theorem mkl_ne (f : Nat → Int × Int) : mkl f ≠ [] := fun e => by have := mkl_len f; rw [e] at this; simp at this
theorem mkl_ext {f g : Nat → Int × Int} (h : ∀ k : Nat, (k : Int) < 120 → f k = g k) : mkl f = mkl g := List.map_congr_left fun k hk => h k (by have := List.mem_range.1 hk; omega)
theorem mkl_zero : mkl (fun _ => (0, 0)) = List.replicate 120 (0, 0) := by
  unfold mkl
  rw [List.map_const', List.length_range]
theorem mkl_of {l : List (Int × Int)} (h : (l.length : Int) = 120) : mkl (fun k => (tk l k, vl l k)) = l := by
  apply List.ext_getElem
  · rw [mkl_len]; omega
  · intro i h1 h2
    simp [mkl, tk, vl, List.getD_eq_getElem?_getD, h2]
/-- What all keys play. -/
def bas (ks : List (Int × Int)) : List (Int × Int) := mkl fun k => (plA ks k, plB ks k 0)
theorem bas_some {ks : List (Int × Int)} (h : (ks.length : Int) = 120) : bas ks = ks := by
  have hne : ks ≠ [] := by intro e; rw [e] at h; simp at h
  rw [← mkl_of h]
  unfold bas
  rw [mkl_of h]
  exact (mkl_ext fun k _ => by simp [plA, plB, hne]).trans (mkl_of h)
theorem bas_none : bas [] = mkl fun k => ((k : Int), 0) := mkl_ext fun k _ => by simp [plA, plB]
/-- The first k keys play their own notes. -/
def ownTo (k : Nat) : List (Int × Int) := mkl fun j => if j < k then ((j : Int), 0) else (0, 0)
theorem ownTo_zero : ownTo 0 = List.replicate 120 (0, 0) := by rw [← mkl_zero]; exact mkl_ext fun k _ => by simp
theorem ownTo_all {n : Nat} (h : ¬ ((n : Int) < 120)) : ownTo n = bas [] := by rw [bas_none]; exact mkl_ext fun k hk => by rw [if_pos (by omega)]
theorem ownTo_succ (k : Nat) {i : Nat} (hi : (i : Int) < 120) : tk (ownTo (k + 1)) i = (if i = k then (k : Int) else tk (ownTo k) i) ∧ vl (ownTo (k + 1)) i = vl (ownTo k) i := by
  unfold ownTo
  rw [mkl_tk _ hi, mkl_tk _ hi, mkl_vl _ hi, mkl_vl _ hi]
  by_cases e : i = k
  · subst e; simp
  · by_cases h : i < k
    · rw [if_pos (by omega), if_pos h, if_neg e]; exact ⟨rfl, rfl⟩
    · rw [if_neg (by omega), if_neg h, if_neg e]; exact ⟨rfl, rfl⟩
end In
/-- A hundred and twenty keys of one's own are handed back. -/
def RetK (l : List (Int × Int)) (B : Nat) (e : Ending) (w' : World) : Prop := ∃ g, e = .returned (.slice (some ⟨g, 0, none⟩) 120 120) ∧ B ≤ g ∧ Kr w' g l
set_option maxHeartbeats 1600000 in
theorem p_own (w : World) : Calls Try.prog 50 #[] w fun x w' => RetK (In.bas []) w.heap.size x w' ∧ Below w.heap.size w w' := by
  obtain ⟨i0, hinf, hz0, hz1, hz2⟩ := info_parts Try.infoKey
  obtain ⟨g, hg⟩ : ∃ g, g = w.heap.size := ⟨_, rfl⟩
  go_enter Try.func50, Try.ntmps50
  go_wp2_with (first | (at_make; go_loud (refine wpList_make_full _ rfl _ _ 38 rfl w.heap.size 52 i0 (.agg #[.int .i64 0, .int .i64 0]) 2 Try.underlying38 hinf hz0 hz1 .i64 .i64 _ _ 120 rfl rfl rfl rfl (by rw [hz2]; omega) (by unfold maxLen; omega) (Nat.le_refl _) ?_; intro w3 hown3 hgrow3; have hq : w3.ownsRow w.heap.size 52 2 (.slice (some ⟨w.heap.size, 0, none⟩) 120 120) 120 (pc (In.ownTo 0)) := (by rw [In.ownTo_zero, ← made_pairs]; exact hown3); have hk3 : Kr w3 w.heap.size (In.ownTo 0) := (kr_row hq (In.mkl_len _) (In.mkl_ne _)).1; rw [← hg] at hk3; have HK3 := Lib.hid hk3; have HB3 := Lib.hid (grown_below hgrow3); clear hq hk3 hown3 hgrow3)))
  rw [← hg]
  have HG := Lib.hid hg
  clear hg hinf hz0 hz1 hz2
  go_loopw [6] (fun j wr => ∃ k : Nat, (k : Int) ≤ 120 ∧ j = .int .i64 k ∧ Hid (Kr wr g (In.ownTo k)) ∧ Hid (Below w.heap.size w wr)) (fun j _ => 120 - (intOf j).toNat)
  case atStart => exact ⟨0, by omega, rfl, HK3.out, HB3.out⟩
  case round =>
    obtain ⟨k, hk, rfl, HK, HB⟩ := hrel
    by_cases hlt : (k : Int) < 120
    · obtain ⟨⟨c1, -⟩, f1, -⟩ := HK.out.2 k (by unfold In.ownTo; rw [In.mkl_len]; omega)
      have HS := Lib.hid (HK.out.setA (l' := In.ownTo (k + 1)) (k := k) (x := (k : Int)) (by unfold In.ownTo; rw [In.mkl_len, In.mkl_len]) (fun i hi => In.ownTo_succ k (by unfold In.ownTo at hi; rw [In.mkl_len] at hi; omega)))
      go_wp2
      go_roundw
      case rel => exact ⟨k + 1, by omega, by go_num, HS.out, HB.out.setCell (p := ⟨g, k * 2, none⟩) (by rw [HG.out]; exact Nat.le_refl _) _⟩
      case measure => simp [intOf]; omega
    · have HE := Lib.hid (In.ownTo_all hlt)
      go_wp2
      go_ret
      exact ⟨⟨g, rfl, Nat.le_of_eq HG.out.symm, by rw [← HE.out]; exact HK.out⟩, HB.out⟩
end Go.Proofs.Ytcchfahdgmcpbaa

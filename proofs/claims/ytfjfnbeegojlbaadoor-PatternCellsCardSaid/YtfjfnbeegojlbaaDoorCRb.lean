/-
  Package pattern's readInst, readVolume and readEffect.
-/
import Derived.Test.YtfjfnbeegojlbaaDoorCRd
namespace Go.Proofs.YtfjfnbeegojlbaaDoor
open Go.RowKit

theorem two_ls {f : ByteArray} (h : f.size = 2) : ∃ x y, f.data.toList = [x, y] := by
  have hl : f.data.toList.length = 2 := by simpa using h
  match e : f.data.toList, hl with
  | [x, y], _ => exact ⟨x, y, rfl⟩
theorem three_ls {f : ByteArray} (h : f.size = 3) : ∃ x y z, f.data.toList = [x, y, z] := by
  have hl : f.data.toList.length = 3 := by simpa using h
  match e : f.data.toList, hl with
  | [x, y, z], _ => exact ⟨x, y, z, rfl⟩
theorem p_num_ok (f : ByteArray) (b : Nat) (hb : b = 10 ∨ b = 16) (hf : f.size = 2) {n : Int} (h : Pt.nm2 (Pt.D36.take b) b f.data.toList = some n) (w : World) :
    Calls Tryd.prog 53 #[.string f, .int .i64 (b : Int)] w fun e w' => e = .returned (.int .i64 n) ∧ Below w.heap.size w w' := by
  obtain ⟨x, y, e⟩ := two_ls hf
  have hl : (Pt.D36.take b).length = b := by rcases hb with rfl | rfl <;> decide
  rw [e] at h
  simp only [Pt.nm2] at h
  split at h
  · rename_i hc
    obtain ⟨i, hi, hil, -⟩ := Pt.ix_at hc.1
    obtain ⟨j, hj, hjl, -⟩ := Pt.ix_at hc.2
    rw [hi, hj] at h
    have e2 : n = ((b * i + j : Nat) : Int) := by
      have : (b : Int) * i + j = n := by simpa using h
      rw [← this]
      omega
    rw [e2]
    refine (p_number_ok f x y b hb e hi hj (by omega) (by omega) w).mono fun e w' ⟨h1, d, h2⟩ => ⟨h1, ?_⟩
    rw [h2]
    exact below_drewN' (Below.refl _ _) _
  · exact absurd h (by simp)
theorem p_num_bad (f : ByteArray) (b : Nat) (hb : b = 10 ∨ b = 16) (hf : f.size = 2) (h : Pt.nm2 (Pt.D36.take b) b f.data.toList = none) (w : World) :
    Calls Tryd.prog 53 #[.string f, .int .i64 (b : Int)] w fun e w' => e = Pn 2 ∧ Below w.heap.size w w' := by
  obtain ⟨x, y, e⟩ := two_ls hf
  by_cases h1 : 0 ≤ Lib.indexByte (Pt.D36.take b) x
  · obtain ⟨i, hi, -, -⟩ := Pt.ix_at h1
    by_cases h2 : 0 ≤ Lib.indexByte (Pt.D36.take b) y
    · rw [e] at h
      simp only [Pt.nm2] at h
      rw [if_pos ⟨h1, h2⟩] at h
      exact absurd h (by simp)
    · exact p_number_bad2 f x y b hb e hi h2 w
  · exact p_number_bad1 f x y b hb e h1 w
theorem p_num10_ok (f : ByteArray) (hf : f.size = 2) {n : Int} (h : Pt.nm2 Pt.D10 10 f.data.toList = some n) (w : World) :
    Calls Tryd.prog 53 #[.string f, .int .i64 10] w fun e w' => e = .returned (.int .i64 n) ∧ Below w.heap.size w w' := p_num_ok f 10 (.inl rfl) hf h w
theorem p_num10_bad (f : ByteArray) (hf : f.size = 2) (h : Pt.nm2 Pt.D10 10 f.data.toList = none) (w : World) :
    Calls Tryd.prog 53 #[.string f, .int .i64 10] w fun e w' => e = Pn 2 ∧ Below w.heap.size w w' := p_num_bad f 10 (.inl rfl) hf h w
theorem p_num16_ok (f : ByteArray) (hf : f.size = 2) {n : Int} (h : Pt.nm2 Pt.D16 16 f.data.toList = some n) (w : World) :
    Calls Tryd.prog 53 #[.string f, .int .i64 16] w fun e w' => e = .returned (.int .i64 n) ∧ Below w.heap.size w w' := p_num_ok f 16 (.inr rfl) hf h w
theorem p_num16_bad (f : ByteArray) (hf : f.size = 2) (h : Pt.nm2 Pt.D16 16 f.data.toList = none) (w : World) :
    Calls Tryd.prog 53 #[.string f, .int .i64 16] w fun e w' => e = Pn 2 ∧ Below w.heap.size w w' := p_num_bad f 16 (.inr rfl) hf h w
theorem rd_done {w W w1 w3 : World} {g : Nat} {v : Int × Int} (hb : Below w.heap.size w W ∧ W.heap.size = g + 1 ∧ g = w.heap.size ∧ W.rangeAt g 0 (VL (0, 0)) ∧ W.there g 0 2) (h1 : Below W.heap.size W w1) (ht : w1.there g 0 2) (e3 : w3 = w1.setCells g 0 (VL v)) : Below w.heap.size w w3 ∧ w3.rangeAt g 0 (VL v) := by
  obtain ⟨b1, b2, b3, b4, b5⟩ := hb
  have hz := h1.size
  subst e3
  exact ⟨grown_at (stepB b1 h1) (by omega) (by omega) (grown_setCells _ _ _ _), World.rangeAt_setCells_same w1 g 0 (VL v) ht⟩
/-- What a reading function keeps: its result's room. -/
def RdS (w : World) (g : Nat) (u : World) : Prop := Below w.heap.size w u ∧ u.there g 0 2 ∧ g = w.heap.size
theorem RdS.start {w W : World} {g : Nat} (hb : Below w.heap.size w W ∧ W.heap.size = g + 1 ∧ g = w.heap.size ∧ W.rangeAt g 0 (VL (0, 0)) ∧ W.there g 0 2) : RdS w g W.drew :=
  ⟨hb.1.drew, hb.2.2.2.2, hb.2.2.1⟩
theorem RdS.lt {w u : World} {g : Nat} (h : RdS w g u) : g < u.heap.size := by
  obtain ⟨v, hv⟩ := Option.isSome_iff_exists.1 (h.2.1 0 (by decide)).1
  exact cell_lt hv
theorem RdS.step {w u u' : World} {g : Nat} (h : RdS w g u) (hb : Below u.heap.size u u') : RdS w g u' := ⟨stepB h.1 hb, there_below h.2.1 hb h.lt, h.2.2⟩
theorem RdS.cells {w u : World} {g : Nat} (h : RdS w g u) : (∃ v, u.cell? ⟨g, 0, none⟩ = some v) ∧ (∃ v, u.cell? ⟨g, 1, none⟩ = some v) ∧ u.frozen? ⟨g, 0, none⟩ = false ∧ u.frozen? ⟨g, 1, none⟩ = false := by
  obtain ⟨a0, b0⟩ := h.2.1 0 (by decide)
  obtain ⟨a1, b1⟩ := h.2.1 1 (by decide)
  rw [Nat.zero_add] at a0 b0 a1 b1
  exact ⟨Option.isSome_iff_exists.1 a0, Option.isSome_iff_exists.1 a1, b0, b1⟩
theorem RdS.set {w u : World} {g : Nat} (h : RdS w g u) (x y : Value) : RdS w g ((u.setCell ⟨g, 0, none⟩ x).setCell ⟨g, 1, none⟩ y) := by
  refine ⟨?_, there_set (there_set h.2.1), h.2.2⟩
  have hl := h.lt
  have hg := h.2.2
  exact (h.1.setCell (by simp; omega) _).setCell (by simp; omega) _
theorem RdS.vals {w u : World} {g : Nat} (h : RdS w g u) (x y : Value) : ((u.setCell ⟨g, 0, none⟩ x).setCell ⟨g, 1, none⟩ y).rangeAt g 0 [x, y] := by
  obtain ⟨⟨v, hv⟩, ⟨v', hv'⟩, -, -⟩ := h.cells
  intro k z hz
  match k, hz with
  | 0, hz =>
    obtain rfl : x = z := by simpa using hz
    rw [World.cell?_setCell_other _ _ _ _ (by simp)]
    exact World.cell?_setCell_same _ _ _ hv
  | 1, hz =>
    obtain rfl : y = z := by simpa using hz
    exact World.cell?_setCell_same _ _ _ (by rw [World.cell?_setCell_other _ _ _ _ (by simp)]; exact hv')
  | k + 2, hz => simp at hz
theorem p_readInst_ok (f : ByteArray) (hf : f.size = 2) {n : Int} (h : Pt.nm2 Pt.D10 10 f.data.toList = some n) (w : World) :
    Calls Tryd.prog 31 #[.string f] w fun e w' => e = .returned (VV (n, 0)) ∧ Below w.heap.size w w' := by
  have C := Lib.hid (fun u => p_num10_ok f hf h u)
  obtain ⟨W, hW⟩ : ∃ W, W = w.alloc (.cells #[.int .i64 0, .int .i64 0] 42) := ⟨_, rfl⟩
  obtain ⟨g, hg⟩ : ∃ g, g = w.heap.size := ⟨_, rfl⟩
  have HB := Lib.hid (show Below w.heap.size w W ∧ W.heap.size = g + 1 ∧ g = w.heap.size ∧ W.rangeAt g 0 (VL (0, 0)) ∧ W.there g 0 2 by rw [hW, hg]; exact ⟨below_box _ _, by simp, rfl, range_box w (VL (0, 0)) _, there_box w (VL (0, 0)) _⟩)
  clear h
  go_enter Tryd.func31, Tryd.ntmps31
  go_upto_region 1 with fail
  rw [← hW, ← hg]
  clear hW hg
  go_wp2_with (first | (go_at_call 53; ((with_reducible refine (C.out _).mono ?_); rintro x' w1 ⟨rfl, hb1⟩; have HB1 := Lib.hid hb1; clear hb1; obtain ⟨HT1, HR1⟩ : Hid (w1.there g 0 2) ∧ Hid (w1.rangeAt g 0 (VL (0, 0))) := ⟨Lib.hid (there_below HB.out.2.2.2.2 HB1.out (by have := HB.out; omega)), Lib.hid (range_below HB.out.2.2.2.1 HB1.out (by have := HB.out; omega))⟩)) | (refine st_row (cs := VL (n, 0)) Tryd.infoVal (vl_one _) (by rfl) _ _ rfl rfl rfl HT1.out ?_; rintro w3 e3))
  obtain ⟨b1, b2⟩ := rd_done HB.out HB1.out HT1.out e3
  exact bodyPost_ret (res_row (cs := VL (n, 0)) Tryd.underlying42 rfl Tryd.infoVal rfl rfl b2) rfl ⟨rfl, b1⟩
theorem p_readInst_bad (f : ByteArray) (hf : f.size = 2) (h : Pt.nm2 Pt.D10 10 f.data.toList = none) (w : World) :
    Calls Tryd.prog 31 #[.string f] w fun e w' => e = Pn 2 ∧ Below w.heap.size w w' := by
  have C := Lib.hid (fun u => p_num10_bad f hf h u)
  unfold Pn at C
  clear h
  go_enter Tryd.func31, Tryd.ntmps31
  go_wp2_with (first | (go_at_call 53; ((with_reducible refine (C.out _).mono ?_); rintro x' w1 ⟨rfl, hb1⟩)))
  exact ⟨rfl, rfl, stepB (below_box _ _) hb1⟩
theorem p_readVolume_ok (f : ByteArray) {a x y : UInt8} (hf : f.data.toList = [a, x, y]) {i : Nat} (hi : Lib.indexByte Pt.V12 a = i) (hil : i < 36) {n : Int} (h : Pt.nm2 Pt.D10 10 [x, y] = some n) (w : World) :
    Calls Tryd.prog 35 #[.string f] w fun e w' => e = .returned (VV ((i : Int) + 1, n)) ∧ Below w.heap.size w w' := by
  have hs : f.size = 3 := size_of hf
  have hx : f[0]'(by omega) = a := byte_at hf 0 (by omega)
  obtain ⟨r, hr⟩ : ∃ r, f.extract 1 3 = r := ⟨_, rfl⟩
  have hrl : r.data.toList = [x, y] := by rw [← hr, Lib.extract_data, hf]; rfl
  have C1 := Lib.hid (fun u => p_place_ok a Pt.VO u i hi)
  have C2 := Lib.hid (fun u => p_num10_ok r (size_of hrl) (by rw [hrl]; exact h) u)
  have i1 : (i : Int) ≤ 36 := by omega
  obtain ⟨W, hW⟩ : ∃ W, W = w.alloc (.cells #[.int .i64 0, .int .i64 0] 42) := ⟨_, rfl⟩
  obtain ⟨g, hg⟩ : ∃ g, g = w.heap.size := ⟨_, rfl⟩
  have HB := Lib.hid (show Below w.heap.size w W ∧ W.heap.size = g + 1 ∧ g = w.heap.size ∧ W.rangeAt g 0 (VL (0, 0)) ∧ W.there g 0 2 by rw [hW, hg]; exact ⟨below_box _ _, by simp, rfl, range_box w (VL (0, 0)) _, there_box w (VL (0, 0)) _⟩)
  have hgg := RdS.start HB.out
  have j0 : IntKind.i64.wrap ((i : Int) + 1) = (i : Int) + 1 := by rw [IntKind.wrap_i64]; omega
  clear h hf hi hil hrl
  go_enter Tryd.func35, Tryd.ntmps35
  go_upto_region 1 with fail
  rw [← hW, ← hg]
  clear hW hg
  unfold Pt.VO at C1
  go_region_held3 (fun u => RdS w g u)
    (first | with_reducible exact hgg | with_reducible exact HB5.out | exact HB5.out.set _ _)
    (first | (go_at_call 51; with_reducible refine (C1.out _).mono ?_; rintro x' w4 ⟨rfl, rfl⟩) | (go_at_call 53; with_reducible refine (C2.out _).mono ?_; rintro x' w5 ⟨rfl, hb5⟩; have HB5 := Lib.hid (hgg.step hb5); obtain ⟨⟨v0, z0⟩, ⟨v1, z1⟩, z2, z3⟩ := HB5.out.cells; clear hb5))
  go_wp2
  exact bodyPost_ret (res_row (cs := VL ((i : Int) + 1, n)) Tryd.underlying42 rfl Tryd.infoVal rfl rfl (HB5.out.vals _ _)) rfl ⟨rfl, (HB5.out.set _ _).1⟩
theorem p_readVolume_bad1 (f : ByteArray) {a x y : UInt8} (hf : f.data.toList = [a, x, y]) (hi : ¬ 0 ≤ Lib.indexByte Pt.V12 a) (w : World) :
    Calls Tryd.prog 35 #[.string f] w fun e w' => e = Pn 2 ∧ Below w.heap.size w w' := by
  have hs : f.size = 3 := size_of hf
  have hx : f[0]'(by omega) = a := byte_at hf 0 (by omega)
  obtain ⟨r, hr⟩ : ∃ r, f.extract 1 3 = r := ⟨_, rfl⟩
  have hrl : r.data.toList = [x, y] := by rw [← hr, Lib.extract_data, hf]; rfl
  have CB := Lib.hid (fun u => p_place_bad a Pt.VO u hi)
  obtain ⟨W, hW⟩ : ∃ W, W = w.alloc (.cells #[.int .i64 0, .int .i64 0] 42) := ⟨_, rfl⟩
  obtain ⟨g, hg⟩ : ∃ g, g = w.heap.size := ⟨_, rfl⟩
  have HB := Lib.hid (show Below w.heap.size w W ∧ W.heap.size = g + 1 ∧ g = w.heap.size ∧ W.rangeAt g 0 (VL (0, 0)) ∧ W.there g 0 2 by rw [hW, hg]; exact ⟨below_box _ _, by simp, rfl, range_box w (VL (0, 0)) _, there_box w (VL (0, 0)) _⟩)
  have hgg := RdS.start HB.out
  clear hf hi hrl
  unfold Pn at CB
  go_enter Tryd.func35, Tryd.ntmps35
  go_upto_region 1 with fail
  rw [← hW, ← hg]
  clear hW hg
  unfold Pt.VO at CB
  refine wp_region_held_drew (S := fun u => RdS w g u) (by kernel_rfl) (hgg) (fun hHeld => ?_)
  refine wpAnyH_take (i := 0) (oi := ?oi0) (v := .string f) ?hi0 (by kernel_rfl) (by kernel_rfl) (by kernel_rfl) ?hq0 ?hy0 (by assumption) ?rest0
  case hi0 => (simp only [List.getElem?_toArray, List.getElem?_cons_zero]; rfl)
  case hq0 => exact fun c a w h => h
  case hy0 => exact Or.inl ⟨by rfl, fun w hSw => by (try dsimp only at hSw); go_simp⟩
  case rest0 =>
  simp only [Act.put, List.setIfInBounds_toArray, List.set_cons_zero, List.set_cons_succ]
  refine wpAnyH_take (i := 1) (oi := ?oi1) (v := .int .u8 (a.toNat : Int)) ?hi1 (by kernel_rfl) (by kernel_rfl) (by kernel_rfl) ?hq1 ?hy1 (by assumption) ?rest1
  case hi1 => (simp only [List.getElem?_toArray, List.getElem?_cons_succ, List.getElem?_cons_zero]; rfl)
  case hq1 => exact fun c a w h => h
  case hy1 => exact Or.inl ⟨by rfl, fun w hSw => by (try dsimp only at hSw); go_simp⟩
  case rest1 =>
  simp only [Act.put, List.setIfInBounds_toArray, List.set_cons_zero, List.set_cons_succ]
  refine wpAnyH_take (i := 4) (oi := ?oi4) (v := .string f) ?hi4 (by kernel_rfl) (by kernel_rfl) (by kernel_rfl) ?hq4 ?hy4 (by assumption) ?rest4
  case hi4 => (simp only [List.getElem?_toArray, List.getElem?_cons_succ, List.getElem?_cons_zero]; rfl)
  case hq4 => exact fun c a w h => h
  case hy4 => exact Or.inl ⟨by rfl, fun w hSw => by (try dsimp only at hSw); go_simp⟩
  case rest4 =>
  simp only [Act.put, List.setIfInBounds_toArray, List.set_cons_zero, List.set_cons_succ]
  refine wpAnyH_take (i := 5) (oi := ?oi5) (v := .string r) ?hi5 (by kernel_rfl) (by kernel_rfl) (by kernel_rfl) ?hq5 ?hy5 (by assumption) ?rest5
  case hi5 => (simp only [List.getElem?_toArray, List.getElem?_cons_succ, List.getElem?_cons_zero]; rfl)
  case hq5 => exact fun c a w h => h
  case hy5 => exact Or.inl ⟨by rfl, fun w hSw => by (try dsimp only at hSw); go_simp⟩
  case rest5 =>
  simp only [Act.put, List.setIfInBounds_toArray, List.set_cons_zero, List.set_cons_succ]
  refine wpAnyH_ready (rs := [2]) (by kernel_rfl) (by simp) ?_
  refine AllReadyH.cons (o := ?o2) (ho := ?ho2) (fun K' hK' => ?st2) AllReadyH.nil
  case ho2 => (simp only [List.getElem?_toArray, List.getElem?_cons_succ, List.getElem?_cons_zero]; rfl)
  case st2 =>
  go_simp
  (go_at_call 51; with_reducible refine (CB.out _).mono ?_; rintro x' w4 ⟨rfl, rfl⟩)
  refine post_panic (P := Tryd.prog) (fn := Tryd.f35) rfl ?_
  exact ⟨rfl, hgg.1⟩
theorem p_readVolume_bad2 (f : ByteArray) {a x y : UInt8} (hf : f.data.toList = [a, x, y]) {i : Nat} (hi : Lib.indexByte Pt.V12 a = i) (hil : i < 36) (h : Pt.nm2 Pt.D10 10 [x, y] = none) (w : World) :
    Calls Tryd.prog 35 #[.string f] w fun e w' => e = Pn 2 ∧ Below w.heap.size w w' := by
  have hs : f.size = 3 := size_of hf
  have hx : f[0]'(by omega) = a := byte_at hf 0 (by omega)
  obtain ⟨r, hr⟩ : ∃ r, f.extract 1 3 = r := ⟨_, rfl⟩
  have hrl : r.data.toList = [x, y] := by rw [← hr, Lib.extract_data, hf]; rfl
  have C1 := Lib.hid (fun u => p_place_ok a Pt.VO u i hi)
  have CB := Lib.hid (fun u => p_num10_bad r (size_of hrl) (by rw [hrl]; exact h) u)
  have i1 : (i : Int) ≤ 36 := by omega
  have j0 : IntKind.i64.wrap ((i : Int) + 1) = (i : Int) + 1 := by rw [IntKind.wrap_i64]; omega
  obtain ⟨W, hW⟩ : ∃ W, W = w.alloc (.cells #[.int .i64 0, .int .i64 0] 42) := ⟨_, rfl⟩
  obtain ⟨g, hg⟩ : ∃ g, g = w.heap.size := ⟨_, rfl⟩
  have HB := Lib.hid (show Below w.heap.size w W ∧ W.heap.size = g + 1 ∧ g = w.heap.size ∧ W.rangeAt g 0 (VL (0, 0)) ∧ W.there g 0 2 by rw [hW, hg]; exact ⟨below_box _ _, by simp, rfl, range_box w (VL (0, 0)) _, there_box w (VL (0, 0)) _⟩)
  have hgg := RdS.start HB.out
  clear hf hi hil h hrl
  unfold Pn at CB
  go_enter Tryd.func35, Tryd.ntmps35
  go_upto_region 1 with fail
  rw [← hW, ← hg]
  clear hW hg
  unfold Pt.VO at C1
  refine wp_region_held_drew (S := fun u => RdS w g u) (by kernel_rfl) (hgg) (fun hHeld => ?_)
  refine wpAnyH_take (i := 0) (oi := ?oi0) (v := .string f) ?hi0 (by kernel_rfl) (by kernel_rfl) (by kernel_rfl) ?hq0 ?hy0 (by assumption) ?rest0
  case hi0 => (simp only [List.getElem?_toArray, List.getElem?_cons_zero]; rfl)
  case hq0 => exact fun c a w h => h
  case hy0 => exact Or.inl ⟨by rfl, fun w hSw => by (try dsimp only at hSw); go_simp⟩
  case rest0 =>
  simp only [Act.put, List.setIfInBounds_toArray, List.set_cons_zero, List.set_cons_succ]
  refine wpAnyH_take (i := 1) (oi := ?oi1) (v := .int .u8 (a.toNat : Int)) ?hi1 (by kernel_rfl) (by kernel_rfl) (by kernel_rfl) ?hq1 ?hy1 (by assumption) ?rest1
  case hi1 => (simp only [List.getElem?_toArray, List.getElem?_cons_succ, List.getElem?_cons_zero]; rfl)
  case hq1 => exact fun c a w h => h
  case hy1 => exact Or.inl ⟨by rfl, fun w hSw => by (try dsimp only at hSw); go_simp⟩
  case rest1 =>
  simp only [Act.put, List.setIfInBounds_toArray, List.set_cons_zero, List.set_cons_succ]
  refine wpAnyH_take (i := 4) (oi := ?oi4) (v := .string f) ?hi4 (by kernel_rfl) (by kernel_rfl) (by kernel_rfl) ?hq4 ?hy4 (by assumption) ?rest4
  case hi4 => (simp only [List.getElem?_toArray, List.getElem?_cons_succ, List.getElem?_cons_zero]; rfl)
  case hq4 => exact fun c a w h => h
  case hy4 => exact Or.inl ⟨by rfl, fun w hSw => by (try dsimp only at hSw); go_simp⟩
  case rest4 =>
  simp only [Act.put, List.setIfInBounds_toArray, List.set_cons_zero, List.set_cons_succ]
  refine wpAnyH_take (i := 5) (oi := ?oi5) (v := .string r) ?hi5 (by kernel_rfl) (by kernel_rfl) (by kernel_rfl) ?hq5 ?hy5 (by assumption) ?rest5
  case hi5 => (simp only [List.getElem?_toArray, List.getElem?_cons_succ, List.getElem?_cons_zero]; rfl)
  case hq5 => exact fun c a w h => h
  case hy5 => exact Or.inl ⟨by rfl, fun w hSw => by (try dsimp only at hSw); go_simp⟩
  case rest5 =>
  simp only [Act.put, List.setIfInBounds_toArray, List.set_cons_zero, List.set_cons_succ]
  refine wpAnyH_ready (rs := [2]) (by kernel_rfl) (by simp) ?_
  refine AllReadyH.cons (o := ?o2) (ho := ?ho2) (fun K' hK' => ?st2) AllReadyH.nil
  case ho2 => (simp only [List.getElem?_toArray, List.getElem?_cons_succ, List.getElem?_cons_zero]; rfl)
  case st2 =>
  go_simp
  (go_at_call 51; with_reducible refine (C1.out _).mono ?_; rintro x' w4 ⟨rfl, rfl⟩)
  go_wp2_with fail
  refine hK'.out _ _ (hgg) (fun hHeld => ?_)
  clear hK' K'
  (try simp only [Act.put, List.setIfInBounds_toArray, List.set_cons_zero, List.set_cons_succ])
  refine wpAnyH_take (i := 3) (oi := ?oi3) (v := .int .i64 ((i : Int) + 1)) ?hi3 (by kernel_rfl) (by kernel_rfl) (by kernel_rfl) ?hq3 ?hy3 (by assumption) ?rest3
  case hi3 => (simp only [List.getElem?_toArray, List.getElem?_cons_succ, List.getElem?_cons_zero]; rfl)
  case hq3 => exact fun c a w h => h
  case hy3 => exact Or.inl ⟨by rfl, fun w hSw => by (try dsimp only at hSw); go_simp⟩
  case rest3 =>
  simp only [Act.put, List.setIfInBounds_toArray, List.set_cons_zero, List.set_cons_succ]
  refine wpAnyH_ready (rs := [6]) (by kernel_rfl) (by simp) ?_
  refine AllReadyH.cons (o := ?o6) (ho := ?ho6) (fun K' hK' => ?st6) AllReadyH.nil
  case ho6 => (simp only [List.getElem?_toArray, List.getElem?_cons_succ, List.getElem?_cons_zero]; rfl)
  case st6 =>
  go_simp
  (go_at_call 53; with_reducible refine (CB.out _).mono ?_; rintro x' w5 ⟨rfl, hb5⟩)
  refine post_panic (P := Tryd.prog) (fn := Tryd.f35) rfl ?_
  exact ⟨rfl, stepB hgg.1 hb5⟩
theorem p_readEffect_ok (f : ByteArray) {a x y : UInt8} (hf : f.data.toList = [a, x, y]) {i : Nat} (hi : Lib.indexByte Pt.D36 a = i) (hil : i < 36) {n : Int} (h : Pt.nm2 Pt.D16 16 [x, y] = some n) (w : World) :
    Calls Tryd.prog 39 #[.string f] w fun e w' => e = .returned (VV ((i : Int) + 1, n)) ∧ Below w.heap.size w w' := by
  have hs : f.size = 3 := size_of hf
  have hx : f[0]'(by omega) = a := byte_at hf 0 (by omega)
  obtain ⟨r, hr⟩ : ∃ r, f.extract 1 3 = r := ⟨_, rfl⟩
  have hrl : r.data.toList = [x, y] := by rw [← hr, Lib.extract_data, hf]; rfl
  have C1 := Lib.hid (fun u => p_place_ok a Pt.DG u i hi)
  have C2 := Lib.hid (fun u => p_num16_ok r (size_of hrl) (by rw [hrl]; exact h) u)
  have i1 : (i : Int) ≤ 36 := by omega
  obtain ⟨W, hW⟩ : ∃ W, W = w.alloc (.cells #[.int .i64 0, .int .i64 0] 42) := ⟨_, rfl⟩
  obtain ⟨g, hg⟩ : ∃ g, g = w.heap.size := ⟨_, rfl⟩
  have HB := Lib.hid (show Below w.heap.size w W ∧ W.heap.size = g + 1 ∧ g = w.heap.size ∧ W.rangeAt g 0 (VL (0, 0)) ∧ W.there g 0 2 by rw [hW, hg]; exact ⟨below_box _ _, by simp, rfl, range_box w (VL (0, 0)) _, there_box w (VL (0, 0)) _⟩)
  have hgg := RdS.start HB.out
  have j0 : IntKind.i64.wrap ((i : Int) + 1) = (i : Int) + 1 := by rw [IntKind.wrap_i64]; omega
  clear h hf hi hil hrl
  go_enter Tryd.func39, Tryd.ntmps39
  go_upto_region 1 with fail
  rw [← hW, ← hg]
  clear hW hg
  unfold Pt.DG at C1
  go_region_held3 (fun u => RdS w g u)
    (first | with_reducible exact hgg | with_reducible exact HB5.out | exact HB5.out.set _ _)
    (first | (go_at_call 51; with_reducible refine (C1.out _).mono ?_; rintro x' w4 ⟨rfl, rfl⟩) | (go_at_call 53; with_reducible refine (C2.out _).mono ?_; rintro x' w5 ⟨rfl, hb5⟩; have HB5 := Lib.hid (hgg.step hb5); obtain ⟨⟨v0, z0⟩, ⟨v1, z1⟩, z2, z3⟩ := HB5.out.cells; clear hb5))
  go_wp2
  exact bodyPost_ret (res_row (cs := VL ((i : Int) + 1, n)) Tryd.underlying42 rfl Tryd.infoVal rfl rfl (HB5.out.vals _ _)) rfl ⟨rfl, (HB5.out.set _ _).1⟩
theorem p_readEffect_bad1 (f : ByteArray) {a x y : UInt8} (hf : f.data.toList = [a, x, y]) (hi : ¬ 0 ≤ Lib.indexByte Pt.D36 a) (w : World) :
    Calls Tryd.prog 39 #[.string f] w fun e w' => e = Pn 2 ∧ Below w.heap.size w w' := by
  have hs : f.size = 3 := size_of hf
  have hx : f[0]'(by omega) = a := byte_at hf 0 (by omega)
  obtain ⟨r, hr⟩ : ∃ r, f.extract 1 3 = r := ⟨_, rfl⟩
  have hrl : r.data.toList = [x, y] := by rw [← hr, Lib.extract_data, hf]; rfl
  have CB := Lib.hid (fun u => p_place_bad a Pt.DG u hi)
  obtain ⟨W, hW⟩ : ∃ W, W = w.alloc (.cells #[.int .i64 0, .int .i64 0] 42) := ⟨_, rfl⟩
  obtain ⟨g, hg⟩ : ∃ g, g = w.heap.size := ⟨_, rfl⟩
  have HB := Lib.hid (show Below w.heap.size w W ∧ W.heap.size = g + 1 ∧ g = w.heap.size ∧ W.rangeAt g 0 (VL (0, 0)) ∧ W.there g 0 2 by rw [hW, hg]; exact ⟨below_box _ _, by simp, rfl, range_box w (VL (0, 0)) _, there_box w (VL (0, 0)) _⟩)
  have hgg := RdS.start HB.out
  clear hf hi hrl
  unfold Pn at CB
  go_enter Tryd.func39, Tryd.ntmps39
  go_upto_region 1 with fail
  rw [← hW, ← hg]
  clear hW hg
  unfold Pt.DG at CB
  refine wp_region_held_drew (S := fun u => RdS w g u) (by kernel_rfl) (hgg) (fun hHeld => ?_)
  refine wpAnyH_take (i := 0) (oi := ?oi0) (v := .string f) ?hi0 (by kernel_rfl) (by kernel_rfl) (by kernel_rfl) ?hq0 ?hy0 (by assumption) ?rest0
  case hi0 => (simp only [List.getElem?_toArray, List.getElem?_cons_zero]; rfl)
  case hq0 => exact fun c a w h => h
  case hy0 => exact Or.inl ⟨by rfl, fun w hSw => by (try dsimp only at hSw); go_simp⟩
  case rest0 =>
  simp only [Act.put, List.setIfInBounds_toArray, List.set_cons_zero, List.set_cons_succ]
  refine wpAnyH_take (i := 1) (oi := ?oi1) (v := .int .u8 (a.toNat : Int)) ?hi1 (by kernel_rfl) (by kernel_rfl) (by kernel_rfl) ?hq1 ?hy1 (by assumption) ?rest1
  case hi1 => (simp only [List.getElem?_toArray, List.getElem?_cons_succ, List.getElem?_cons_zero]; rfl)
  case hq1 => exact fun c a w h => h
  case hy1 => exact Or.inl ⟨by rfl, fun w hSw => by (try dsimp only at hSw); go_simp⟩
  case rest1 =>
  simp only [Act.put, List.setIfInBounds_toArray, List.set_cons_zero, List.set_cons_succ]
  refine wpAnyH_take (i := 4) (oi := ?oi4) (v := .string f) ?hi4 (by kernel_rfl) (by kernel_rfl) (by kernel_rfl) ?hq4 ?hy4 (by assumption) ?rest4
  case hi4 => (simp only [List.getElem?_toArray, List.getElem?_cons_succ, List.getElem?_cons_zero]; rfl)
  case hq4 => exact fun c a w h => h
  case hy4 => exact Or.inl ⟨by rfl, fun w hSw => by (try dsimp only at hSw); go_simp⟩
  case rest4 =>
  simp only [Act.put, List.setIfInBounds_toArray, List.set_cons_zero, List.set_cons_succ]
  refine wpAnyH_take (i := 5) (oi := ?oi5) (v := .string r) ?hi5 (by kernel_rfl) (by kernel_rfl) (by kernel_rfl) ?hq5 ?hy5 (by assumption) ?rest5
  case hi5 => (simp only [List.getElem?_toArray, List.getElem?_cons_succ, List.getElem?_cons_zero]; rfl)
  case hq5 => exact fun c a w h => h
  case hy5 => exact Or.inl ⟨by rfl, fun w hSw => by (try dsimp only at hSw); go_simp⟩
  case rest5 =>
  simp only [Act.put, List.setIfInBounds_toArray, List.set_cons_zero, List.set_cons_succ]
  refine wpAnyH_ready (rs := [2]) (by kernel_rfl) (by simp) ?_
  refine AllReadyH.cons (o := ?o2) (ho := ?ho2) (fun K' hK' => ?st2) AllReadyH.nil
  case ho2 => (simp only [List.getElem?_toArray, List.getElem?_cons_succ, List.getElem?_cons_zero]; rfl)
  case st2 =>
  go_simp
  (go_at_call 51; with_reducible refine (CB.out _).mono ?_; rintro x' w4 ⟨rfl, rfl⟩)
  refine post_panic (P := Tryd.prog) (fn := Tryd.f39) rfl ?_
  exact ⟨rfl, hgg.1⟩
theorem p_readEffect_bad2 (f : ByteArray) {a x y : UInt8} (hf : f.data.toList = [a, x, y]) {i : Nat} (hi : Lib.indexByte Pt.D36 a = i) (hil : i < 36) (h : Pt.nm2 Pt.D16 16 [x, y] = none) (w : World) :
    Calls Tryd.prog 39 #[.string f] w fun e w' => e = Pn 2 ∧ Below w.heap.size w w' := by
  have hs : f.size = 3 := size_of hf
  have hx : f[0]'(by omega) = a := byte_at hf 0 (by omega)
  obtain ⟨r, hr⟩ : ∃ r, f.extract 1 3 = r := ⟨_, rfl⟩
  have hrl : r.data.toList = [x, y] := by rw [← hr, Lib.extract_data, hf]; rfl
  have C1 := Lib.hid (fun u => p_place_ok a Pt.DG u i hi)
  have CB := Lib.hid (fun u => p_num16_bad r (size_of hrl) (by rw [hrl]; exact h) u)
  have i1 : (i : Int) ≤ 36 := by omega
  have j0 : IntKind.i64.wrap ((i : Int) + 1) = (i : Int) + 1 := by rw [IntKind.wrap_i64]; omega
  obtain ⟨W, hW⟩ : ∃ W, W = w.alloc (.cells #[.int .i64 0, .int .i64 0] 42) := ⟨_, rfl⟩
  obtain ⟨g, hg⟩ : ∃ g, g = w.heap.size := ⟨_, rfl⟩
  have HB := Lib.hid (show Below w.heap.size w W ∧ W.heap.size = g + 1 ∧ g = w.heap.size ∧ W.rangeAt g 0 (VL (0, 0)) ∧ W.there g 0 2 by rw [hW, hg]; exact ⟨below_box _ _, by simp, rfl, range_box w (VL (0, 0)) _, there_box w (VL (0, 0)) _⟩)
  have hgg := RdS.start HB.out
  clear hf hi hil h hrl
  unfold Pn at CB
  go_enter Tryd.func39, Tryd.ntmps39
  go_upto_region 1 with fail
  rw [← hW, ← hg]
  clear hW hg
  unfold Pt.DG at C1
  refine wp_region_held_drew (S := fun u => RdS w g u) (by kernel_rfl) (hgg) (fun hHeld => ?_)
  refine wpAnyH_take (i := 0) (oi := ?oi0) (v := .string f) ?hi0 (by kernel_rfl) (by kernel_rfl) (by kernel_rfl) ?hq0 ?hy0 (by assumption) ?rest0
  case hi0 => (simp only [List.getElem?_toArray, List.getElem?_cons_zero]; rfl)
  case hq0 => exact fun c a w h => h
  case hy0 => exact Or.inl ⟨by rfl, fun w hSw => by (try dsimp only at hSw); go_simp⟩
  case rest0 =>
  simp only [Act.put, List.setIfInBounds_toArray, List.set_cons_zero, List.set_cons_succ]
  refine wpAnyH_take (i := 1) (oi := ?oi1) (v := .int .u8 (a.toNat : Int)) ?hi1 (by kernel_rfl) (by kernel_rfl) (by kernel_rfl) ?hq1 ?hy1 (by assumption) ?rest1
  case hi1 => (simp only [List.getElem?_toArray, List.getElem?_cons_succ, List.getElem?_cons_zero]; rfl)
  case hq1 => exact fun c a w h => h
  case hy1 => exact Or.inl ⟨by rfl, fun w hSw => by (try dsimp only at hSw); go_simp⟩
  case rest1 =>
  simp only [Act.put, List.setIfInBounds_toArray, List.set_cons_zero, List.set_cons_succ]
  refine wpAnyH_take (i := 4) (oi := ?oi4) (v := .string f) ?hi4 (by kernel_rfl) (by kernel_rfl) (by kernel_rfl) ?hq4 ?hy4 (by assumption) ?rest4
  case hi4 => (simp only [List.getElem?_toArray, List.getElem?_cons_succ, List.getElem?_cons_zero]; rfl)
  case hq4 => exact fun c a w h => h
  case hy4 => exact Or.inl ⟨by rfl, fun w hSw => by (try dsimp only at hSw); go_simp⟩
  case rest4 =>
  simp only [Act.put, List.setIfInBounds_toArray, List.set_cons_zero, List.set_cons_succ]
  refine wpAnyH_take (i := 5) (oi := ?oi5) (v := .string r) ?hi5 (by kernel_rfl) (by kernel_rfl) (by kernel_rfl) ?hq5 ?hy5 (by assumption) ?rest5
  case hi5 => (simp only [List.getElem?_toArray, List.getElem?_cons_succ, List.getElem?_cons_zero]; rfl)
  case hq5 => exact fun c a w h => h
  case hy5 => exact Or.inl ⟨by rfl, fun w hSw => by (try dsimp only at hSw); go_simp⟩
  case rest5 =>
  simp only [Act.put, List.setIfInBounds_toArray, List.set_cons_zero, List.set_cons_succ]
  refine wpAnyH_ready (rs := [2]) (by kernel_rfl) (by simp) ?_
  refine AllReadyH.cons (o := ?o2) (ho := ?ho2) (fun K' hK' => ?st2) AllReadyH.nil
  case ho2 => (simp only [List.getElem?_toArray, List.getElem?_cons_succ, List.getElem?_cons_zero]; rfl)
  case st2 =>
  go_simp
  (go_at_call 51; with_reducible refine (C1.out _).mono ?_; rintro x' w4 ⟨rfl, rfl⟩)
  go_wp2_with fail
  refine hK'.out _ _ (hgg) (fun hHeld => ?_)
  clear hK' K'
  (try simp only [Act.put, List.setIfInBounds_toArray, List.set_cons_zero, List.set_cons_succ])
  refine wpAnyH_take (i := 3) (oi := ?oi3) (v := .int .i64 ((i : Int) + 1)) ?hi3 (by kernel_rfl) (by kernel_rfl) (by kernel_rfl) ?hq3 ?hy3 (by assumption) ?rest3
  case hi3 => (simp only [List.getElem?_toArray, List.getElem?_cons_succ, List.getElem?_cons_zero]; rfl)
  case hq3 => exact fun c a w h => h
  case hy3 => exact Or.inl ⟨by rfl, fun w hSw => by (try dsimp only at hSw); go_simp⟩
  case rest3 =>
  simp only [Act.put, List.setIfInBounds_toArray, List.set_cons_zero, List.set_cons_succ]
  refine wpAnyH_ready (rs := [6]) (by kernel_rfl) (by simp) ?_
  refine AllReadyH.cons (o := ?o6) (ho := ?ho6) (fun K' hK' => ?st6) AllReadyH.nil
  case ho6 => (simp only [List.getElem?_toArray, List.getElem?_cons_succ, List.getElem?_cons_zero]; rfl)
  case st6 =>
  go_simp
  (go_at_call 53; with_reducible refine (CB.out _).mono ?_; rintro x' w5 ⟨rfl, hb5⟩)
  refine post_panic (P := Tryd.prog) (fn := Tryd.f39) rfl ?_
  exact ⟨rfl, stepB hgg.1 hb5⟩
end Go.Proofs.YtfjfnbeegojlbaaDoor

/-
  Package pattern's readNote.
-/
import Derived.Test.YtfjfnbeegojlbaaDoorCRb
namespace Go.Proofs.YtfjfnbeegojlbaaDoor
open Go.RowKit

/-- The library's variable holds a number. -/
def MaxIs (w : World) : Prop := ∃ m, w.cell? ⟨0, 0, none⟩ = some (.int .i64 m)
theorem MaxIs.kept {w w' : World} (h : MaxIs w) (hb : Below w.heap.size w w') : MaxIs w' := by
  obtain ⟨m, hm⟩ := h
  exact ⟨m, kept_cell hb hm⟩
theorem l_Index {w : World} (hm : MaxIs w) (q : ByteArray) {a b : UInt8} (hq : q.data.toList = [a, b]) {t : Int} (ht : Lib.index Pt.NL [a, b] = t) :
    Calls Tryd.prog 50 #[.string Pt.NM, .string q] w fun e w' => e = .returned (.int .i64 t) ∧ w = w' := by
  obtain ⟨m, hm⟩ := hm
  refine (Tryd.strings_Index Pt.NM q m w (by decide) hm).mono fun e w' ⟨h1, h2⟩ => ⟨?_, h2.symm⟩
  rw [hq] at h1
  have : Lib.index Pt.NM.data.toList [a, b] = t := ht
  rw [this] at h1
  exact h1
theorem p_readNote_off (w : World) (f : ByteArray) (n : Int) (hn : (f = ⟨#[61, 61, 61]⟩ ∧ n = 255) ∨ (f = ⟨#[94, 94, 94]⟩ ∧ n = 254) ∨ (f = ⟨#[126, 126, 126]⟩ ∧ n = 253)) :
    Calls Tryd.prog 27 #[.string f] w fun e w' => e = .returned (VV (n, 0)) ∧ Below w.heap.size w w' := by
  obtain ⟨W, hW⟩ : ∃ W, W = w.alloc (.cells #[.int .i64 0, .int .i64 0] 42) := ⟨_, rfl⟩
  obtain ⟨g, hg⟩ : ∃ g, g = w.heap.size := ⟨_, rfl⟩
  have HB := Lib.hid (show Below w.heap.size w W ∧ W.heap.size = g + 1 ∧ g = w.heap.size ∧ W.rangeAt g 0 (VL (0, 0)) ∧ W.there g 0 2 by rw [hW, hg]; exact ⟨below_box _ _, by simp, rfl, range_box w (VL (0, 0)) _, there_box w (VL (0, 0)) _⟩)
  rcases hn with ⟨rfl, rfl⟩ | ⟨rfl, rfl⟩ | ⟨rfl, rfl⟩
  all_goals
    go_enter Tryd.func27, Tryd.ntmps27
    go_upto_region 1 with fail
    rw [← hW, ← hg]
    clear hW hg
    go_wp2_with (refine st_row (cs := VL (_, 0)) Tryd.infoVal (vl_one _) (by rfl) _ _ rfl rfl rfl HB.out.2.2.2.2 ?_; rintro w3 e3)
    obtain ⟨b1, b2⟩ := rd_done HB.out (Below.refl _ _) HB.out.2.2.2.2 e3
    exact bodyPost_ret (res_row (cs := VL (_, 0)) Tryd.underlying42 rfl Tryd.infoVal rfl rfl b2) rfl ⟨rfl, b1⟩
theorem p_readNote_bad1 {w : World} (hm : MaxIs w) (f : ByteArray) {a b c : UInt8} (hf : f.data.toList = [a, b, c]) (n1 : ¬ [a, b, c] = [61, 61, 61]) (n2 : ¬ [a, b, c] = [94, 94, 94]) (n3 : ¬ [a, b, c] = [126, 126, 126]) (h : ¬ (0 ≤ Lib.index Pt.NL [a, b] ∧ Lib.index Pt.NL [a, b] % 2 = 0)) :
    Calls Tryd.prog 27 #[.string f] w fun e w' => e = Pn 2 ∧ Below w.heap.size w w' := by
  have hs : f.size = 3 := size_of hf
  have hx : f[2]'(by omega) = c := byte_at hf 2 (by omega)
  obtain ⟨q, hq⟩ : ∃ q, f.extract 0 2 = q := ⟨_, rfl⟩
  have hql : q.data.toList = [a, b] := by rw [← hq, Lib.extract_data, hf]; rfl
  have t1 : (f.toList == [61, 61, 61]) = false := by rw [Lib.toList_data, hf]; exact beq_eq_false_iff_ne.2 n1
  have t2 : (f.toList == [94, 94, 94]) = false := by rw [Lib.toList_data, hf]; exact beq_eq_false_iff_ne.2 n2
  have t3 : (f.toList == [126, 126, 126]) = false := by rw [Lib.toList_data, hf]; exact beq_eq_false_iff_ne.2 n3
  obtain ⟨W, hW⟩ : ∃ W, W = w.alloc (.cells #[.int .i64 0, .int .i64 0] 42) := ⟨_, rfl⟩
  obtain ⟨g, hg⟩ : ∃ g, g = w.heap.size := ⟨_, rfl⟩
  have HB := Lib.hid (show Below w.heap.size w W ∧ W.heap.size = g + 1 ∧ g = w.heap.size ∧ W.rangeAt g 0 (VL (0, 0)) ∧ W.there g 0 2 by rw [hW, hg]; exact ⟨below_box _ _, by simp, rfl, range_box w (VL (0, 0)) _, there_box w (VL (0, 0)) _⟩)
  have hgg := RdS.start HB.out
  have hgW : Below w.heap.size w W := HB.out.1
  have hi1 := Lib.index_ge Pt.NL [a, b]
  obtain ⟨t, ht⟩ : ∃ t, Lib.index Pt.NL [a, b] = t := ⟨_, rfl⟩
  have CI := Lib.hid (l_Index (hm.kept HB.out.1) q hql ht)
  have CD := Lib.hid (fun u => p_demand_bad 2 u)
  unfold Pn at CD
  rw [ht] at h hi1
  clear hf hql n1 n2 n3 ht hm
  unfold Pt.NM at CI
  go_enter Tryd.func27, Tryd.ntmps27
  go_upto_region 1 with fail
  rw [← hW, ← hg]
  clear hW hg
  by_cases h0 : 0 ≤ t
  · obtain ⟨u, rfl⟩ : ∃ u : Nat, t = u := ⟨t.toNat, by omega⟩
    have o1 : ((u : Int) % 2 == 0) = false := by simp; omega
    have o2 : ((u : Int).tmod 2) = (u : Int) % 2 := Int.tmod_eq_emod_of_nonneg (by omega)
    clear h hi1
    go_wp2_with (first | (go_at_call 50; ((with_reducible refine (CI.out).mono ?_); rintro x' w1 ⟨rfl, rfl⟩)) | (go_at_call 47; ((with_reducible refine (CD.out _).mono ?_); rintro x' w2 ⟨rfl, rfl⟩)))
    exact ⟨rfl, rfl, hgW⟩
  · obtain rfl : t = -1 := by omega
    clear h hi1
    go_wp2_with (first | (go_at_call 50; ((with_reducible refine (CI.out).mono ?_); rintro x' w1 ⟨rfl, rfl⟩)) | (go_at_call 47; ((with_reducible refine (CD.out _).mono ?_); rintro x' w2 ⟨rfl, rfl⟩)))
    exact ⟨rfl, rfl, hgW⟩
theorem p_readNote_ok {w : World} (hm : MaxIs w) (f : ByteArray) {a b c : UInt8} (hf : f.data.toList = [a, b, c]) (n1 : ¬ [a, b, c] = [61, 61, 61]) (n2 : ¬ [a, b, c] = [94, 94, 94]) (n3 : ¬ [a, b, c] = [126, 126, 126]) {s : Nat} (ht : Lib.index Pt.NL [a, b] = ((2 * s : Nat) : Int)) (hs12 : s < 12) {o : Nat} (ho : Lib.indexByte Pt.D10 c = o) (ho10 : o < 10) :
    Calls Tryd.prog 27 #[.string f] w fun e w' => e = .returned (VV (12 * (o : Int) + (s : Int) + 1, 0)) ∧ Below w.heap.size w w' := by
  have hs : f.size = 3 := size_of hf
  have hx : f[2]'(by omega) = c := byte_at hf 2 (by omega)
  obtain ⟨q, hq⟩ : ∃ q, f.extract 0 2 = q := ⟨_, rfl⟩
  have hql : q.data.toList = [a, b] := by rw [← hq, Lib.extract_data, hf]; rfl
  have t1 : (f.toList == [61, 61, 61]) = false := by rw [Lib.toList_data, hf]; exact beq_eq_false_iff_ne.2 n1
  have t2 : (f.toList == [94, 94, 94]) = false := by rw [Lib.toList_data, hf]; exact beq_eq_false_iff_ne.2 n2
  have t3 : (f.toList == [126, 126, 126]) = false := by rw [Lib.toList_data, hf]; exact beq_eq_false_iff_ne.2 n3
  obtain ⟨W, hW⟩ : ∃ W, W = w.alloc (.cells #[.int .i64 0, .int .i64 0] 42) := ⟨_, rfl⟩
  obtain ⟨g, hg⟩ : ∃ g, g = w.heap.size := ⟨_, rfl⟩
  have HB := Lib.hid (show Below w.heap.size w W ∧ W.heap.size = g + 1 ∧ g = w.heap.size ∧ W.rangeAt g 0 (VL (0, 0)) ∧ W.there g 0 2 by rw [hW, hg]; exact ⟨below_box _ _, by simp, rfl, range_box w (VL (0, 0)) _, there_box w (VL (0, 0)) _⟩)
  have hgg := RdS.start HB.out
  have hgW : Below w.heap.size w W := HB.out.1
  have CI := Lib.hid (l_Index (hm.kept HB.out.1) q hql ht)
  have CD := Lib.hid (fun u => p_demand_ok 2 u)
  have i1 : (s : Int) ≤ 24 := by omega
  have o2 : ((2 * s : Nat) : Int).tmod 2 = 0 := by rw [Int.tmod_eq_emod_of_nonneg (by omega)]; omega
  have o3 : ((2 * s : Nat) : Int).tdiv 2 = (s : Int) := by rw [Int.tdiv_eq_ediv_of_nonneg (by omega)]; omega
  obtain ⟨u, hu⟩ : ∃ u, 2 * s = u := ⟨_, rfl⟩
  have u1 : (u : Int) ≤ 48 := by omega
  have o5 : (u : Int) / 2 = (s : Int) := by omega
  have o6 : (u : Int) % 2 = 0 := by omega
  have o7 : IntKind.i64.wrap (s : Int) = (s : Int) := by rw [IntKind.wrap_i64]; omega
  rw [hu] at CI o2 o3
  have CP := Lib.hid (fun u => p_place_ok c (Pt.DG.extract 0 10) u o (by rw [dig_ls]; exact ho))
  obtain ⟨D, hD⟩ : ∃ D, Pt.DG.extract 0 10 = D := ⟨_, rfl⟩
  rw [hD] at CP
  unfold Pt.DG at hD
  have o8 : IntKind.i64.wrap (12 * (o : Int)) = 12 * (o : Int) := by rw [IntKind.wrap_i64]; omega
  have o9 : IntKind.i64.wrap (12 * (o : Int) + (s : Int)) = 12 * (o : Int) + (s : Int) := by rw [IntKind.wrap_i64]; omega
  have o10 : IntKind.i64.wrap (12 * (o : Int) + (s : Int) + 1) = 12 * (o : Int) + (s : Int) + 1 := by rw [IntKind.wrap_i64]; omega
  clear hf hql n1 n2 n3 ht ho ho10 hs12 hu i1 u1 hm
  unfold Pt.NM at CI
  go_enter Tryd.func27, Tryd.ntmps27
  go_upto_region 1 with fail
  rw [← hW, ← hg]
  clear hW hg
  go_upto_region 10 with (first | (go_at_call 50; ((with_reducible refine (CI.out).mono ?_); rintro x' w1 ⟨rfl, rfl⟩)) | (go_at_call 47; ((with_reducible refine (CD.out _).mono ?_); rintro x' w2 ⟨rfl, rfl⟩)))
  obtain ⟨⟨v0, z0⟩, ⟨v1, z1⟩, z2, z3⟩ := RdS.cells (w := w) (u := W) (g := g) ⟨HB.out.1, HB.out.2.2.2.2, HB.out.2.2.1⟩
  go_region_held3 (fun u => RdS w g u)
    (first | with_reducible exact hgg | exact hgg.set _ _)
    (first | (go_at_call 51; with_reducible refine (CP.out _).mono ?_; rintro x' w4 ⟨rfl, rfl⟩))
  go_wp2
  exact bodyPost_ret (res_row (cs := VL (12 * (o : Int) + (s : Int) + 1, 0)) Tryd.underlying42 rfl Tryd.infoVal rfl rfl (hgg.vals _ _)) rfl ⟨rfl, (hgg.set _ _).1⟩
theorem p_readNote_bad2 {w : World} (hm : MaxIs w) (f : ByteArray) {a b c : UInt8} (hf : f.data.toList = [a, b, c]) (n1 : ¬ [a, b, c] = [61, 61, 61]) (n2 : ¬ [a, b, c] = [94, 94, 94]) (n3 : ¬ [a, b, c] = [126, 126, 126]) {s : Nat} (ht : Lib.index Pt.NL [a, b] = ((2 * s : Nat) : Int)) (hs12 : s < 12) (ho : ¬ 0 ≤ Lib.indexByte Pt.D10 c) :
    Calls Tryd.prog 27 #[.string f] w fun e w' => e = Pn 2 ∧ Below w.heap.size w w' := by
  have hs : f.size = 3 := size_of hf
  have hx : f[2]'(by omega) = c := byte_at hf 2 (by omega)
  obtain ⟨q, hq⟩ : ∃ q, f.extract 0 2 = q := ⟨_, rfl⟩
  have hql : q.data.toList = [a, b] := by rw [← hq, Lib.extract_data, hf]; rfl
  have t1 : (f.toList == [61, 61, 61]) = false := by rw [Lib.toList_data, hf]; exact beq_eq_false_iff_ne.2 n1
  have t2 : (f.toList == [94, 94, 94]) = false := by rw [Lib.toList_data, hf]; exact beq_eq_false_iff_ne.2 n2
  have t3 : (f.toList == [126, 126, 126]) = false := by rw [Lib.toList_data, hf]; exact beq_eq_false_iff_ne.2 n3
  obtain ⟨W, hW⟩ : ∃ W, W = w.alloc (.cells #[.int .i64 0, .int .i64 0] 42) := ⟨_, rfl⟩
  obtain ⟨g, hg⟩ : ∃ g, g = w.heap.size := ⟨_, rfl⟩
  have HB := Lib.hid (show Below w.heap.size w W ∧ W.heap.size = g + 1 ∧ g = w.heap.size ∧ W.rangeAt g 0 (VL (0, 0)) ∧ W.there g 0 2 by rw [hW, hg]; exact ⟨below_box _ _, by simp, rfl, range_box w (VL (0, 0)) _, there_box w (VL (0, 0)) _⟩)
  have hgg := RdS.start HB.out
  have hgW : Below w.heap.size w W := HB.out.1
  have CI := Lib.hid (l_Index (hm.kept HB.out.1) q hql ht)
  have CD := Lib.hid (fun u => p_demand_ok 2 u)
  have i1 : (s : Int) ≤ 24 := by omega
  have o2 : ((2 * s : Nat) : Int).tmod 2 = 0 := by rw [Int.tmod_eq_emod_of_nonneg (by omega)]; omega
  have o3 : ((2 * s : Nat) : Int).tdiv 2 = (s : Int) := by rw [Int.tdiv_eq_ediv_of_nonneg (by omega)]; omega
  obtain ⟨u, hu⟩ : ∃ u, 2 * s = u := ⟨_, rfl⟩
  have u1 : (u : Int) ≤ 48 := by omega
  have o5 : (u : Int) / 2 = (s : Int) := by omega
  have o6 : (u : Int) % 2 = 0 := by omega
  have o7 : IntKind.i64.wrap (s : Int) = (s : Int) := by rw [IntKind.wrap_i64]; omega
  rw [hu] at CI o2 o3
  have CP := Lib.hid (fun u => p_place_bad c (Pt.DG.extract 0 10) u (by rw [dig_ls]; exact ho))
  unfold Pn at CP
  obtain ⟨D, hD⟩ : ∃ D, Pt.DG.extract 0 10 = D := ⟨_, rfl⟩
  rw [hD] at CP
  unfold Pt.DG at hD
  clear hf hql n1 n2 n3 ht ho hs12 hu i1 u1 hm
  unfold Pt.NM at CI
  go_enter Tryd.func27, Tryd.ntmps27
  go_upto_region 1 with fail
  rw [← hW, ← hg]
  clear hW hg
  go_upto_region 10 with (first | (go_at_call 50; ((with_reducible refine (CI.out).mono ?_); rintro x' w1 ⟨rfl, rfl⟩)) | (go_at_call 47; ((with_reducible refine (CD.out _).mono ?_); rintro x' w2 ⟨rfl, rfl⟩)))
  refine wp_region_held_drew (S := fun u => RdS w g u) (by kernel_rfl) (hgg) (fun hHeld => ?_)
  refine wpAnyH_take (i := 0) (oi := ?oi0) (v := .string f) ?hi0 (by kernel_rfl) (by kernel_rfl) (by kernel_rfl) ?hq0 ?hy0 (by assumption) ?rest0
  case hi0 => (simp only [List.getElem?_toArray, List.getElem?_cons_zero]; rfl)
  case hq0 => exact fun c a w h => h
  case hy0 => exact Or.inl ⟨by rfl, fun w hSw => by (try dsimp only at hSw); go_simp⟩
  case rest0 =>
  simp only [Act.put, List.setIfInBounds_toArray, List.set_cons_zero, List.set_cons_succ]
  refine wpAnyH_take (i := 1) (oi := ?oi1) (v := .int .u8 (c.toNat : Int)) ?hi1 (by kernel_rfl) (by kernel_rfl) (by kernel_rfl) ?hq1 ?hy1 (by assumption) ?rest1
  case hi1 => (simp only [List.getElem?_toArray, List.getElem?_cons_succ, List.getElem?_cons_zero]; rfl)
  case hq1 => exact fun c a w h => h
  case hy1 => exact Or.inl ⟨by rfl, fun w hSw => by (try dsimp only at hSw); go_simp⟩
  case rest1 =>
  simp only [Act.put, List.setIfInBounds_toArray, List.set_cons_zero, List.set_cons_succ]
  refine wpAnyH_take (i := 2) (oi := ?oi2) (v := .string D) ?hi2 (by kernel_rfl) (by kernel_rfl) (by kernel_rfl) ?hq2 ?hy2 (by assumption) ?rest2
  case hi2 => (simp only [List.getElem?_toArray, List.getElem?_cons_succ, List.getElem?_cons_zero]; rfl)
  case hq2 => exact fun c a w h => h
  case hy2 => exact Or.inl ⟨by rfl, fun w hSw => by (try dsimp only at hSw); go_simp⟩
  case rest2 =>
  simp only [Act.put, List.setIfInBounds_toArray, List.set_cons_zero, List.set_cons_succ]
  refine wpAnyH_take (i := 5) (oi := ?oi5) (v := .int .i64 (u : Int)) ?hi5 (by kernel_rfl) (by kernel_rfl) (by kernel_rfl) ?hq5 ?hy5 (by assumption) ?rest5
  case hi5 => (simp only [List.getElem?_toArray, List.getElem?_cons_succ, List.getElem?_cons_zero]; rfl)
  case hq5 => exact fun c a w h => h
  case hy5 => exact Or.inl ⟨by rfl, fun w hSw => by (try dsimp only at hSw); go_simp⟩
  case rest5 =>
  simp only [Act.put, List.setIfInBounds_toArray, List.set_cons_zero, List.set_cons_succ]
  refine wpAnyH_take (i := 6) (oi := ?oi6) (v := .int .i64 (s : Int)) ?hi6 (by kernel_rfl) (by kernel_rfl) (by kernel_rfl) ?hq6 ?hy6 (by assumption) ?rest6
  case hi6 => (simp only [List.getElem?_toArray, List.getElem?_cons_succ, List.getElem?_cons_zero]; rfl)
  case hq6 => exact fun c a w h => h
  case hy6 => exact Or.inl ⟨by rfl, fun w hSw => by (try dsimp only at hSw); go_simp⟩
  case rest6 =>
  simp only [Act.put, List.setIfInBounds_toArray, List.set_cons_zero, List.set_cons_succ]
  refine wpAnyH_ready (rs := [3]) (by kernel_rfl) (by simp) ?_
  refine AllReadyH.cons (o := ?o3) (ho := ?ho3) (fun K' hK' => ?st3) AllReadyH.nil
  case ho3 => (simp only [List.getElem?_toArray, List.getElem?_cons_succ, List.getElem?_cons_zero]; rfl)
  case st3 =>
  go_simp
  (go_at_call 51; with_reducible refine (CP.out _).mono ?_; rintro x' w4 ⟨rfl, rfl⟩)
  refine post_panic (P := Tryd.prog) (fn := Tryd.f27) rfl ?_
  exact ⟨rfl, hgg.1⟩
/-- A field's text is read. -/
theorem g_read_ok {k : Nat} (hk : k < 4) {w : World} (hm : MaxIs w) (f : ByteArray) (hf : f.size = Pt.wid k) {v : Int × Int} (h : Pt.rd k f.data.toList = some v) :
    Calls Tryd.prog (rF k) #[.string f] w fun e w' => e = .returned (VV v) ∧ Below w.heap.size w w' := by
  match k, hk with
  | 0, _ =>
    obtain ⟨a, b, c, e⟩ := three_ls hf
    rw [Pt.rd_0, e] at h
    obtain ⟨n, hn, rfl⟩ := Option.map_eq_some_iff.1 h
    rw [Pt.rdN] at hn
    split at hn
    · rename_i h1
      obtain rfl : n = 255 := by simpa using hn.symm
      exact p_readNote_off w f 255 (.inl ⟨Pt.ext_ls (e.trans h1), rfl⟩)
    · split at hn
      · rename_i h1
        obtain rfl : n = 254 := by simpa using hn.symm
        exact p_readNote_off w f 254 (.inr (.inl ⟨Pt.ext_ls (e.trans h1), rfl⟩))
      · split at hn
        · rename_i h1
          obtain rfl : n = 253 := by simpa using hn.symm
          exact p_readNote_off w f 253 (.inr (.inr ⟨Pt.ext_ls (e.trans h1), rfl⟩))
        · rename_i n1 n2 n3
          split at hn
          · rename_i hc
            obtain ⟨h0, h1, h2⟩ := hc
            obtain ⟨o, ho, hol, -⟩ := Pt.ix_at h2
            have hr := Lib.index_room Pt.NL [a, b] h0
            rw [show Pt.NL.length = 24 by decide, show ([a, b] : List UInt8).length = 2 from rfl] at hr
            obtain ⟨s, hs⟩ : ∃ s : Nat, Lib.index Pt.NL [a, b] = ((2 * s : Nat) : Int) := ⟨(Lib.index Pt.NL [a, b]).toNat / 2, by omega⟩
            rw [ho, hs] at hn
            have e2 : n = 12 * (o : Int) + (s : Int) + 1 := by
              have : 12 * (o : Int) + ((2 * s : Nat) : Int) / 2 + 1 = n := by simpa using hn
              omega
            rw [e2]
            exact p_readNote_ok hm f e n1 n2 n3 hs (by omega) ho (by rw [show Pt.D10.length = 10 by decide] at hol; exact hol)
          · exact absurd hn (by simp)
  | 1, _ =>
    rw [Pt.rd_1] at h
    obtain ⟨n, hn, rfl⟩ := Option.map_eq_some_iff.1 h
    exact p_readInst_ok f hf hn w
  | 2, _ =>
    obtain ⟨a, x, y, e⟩ := three_ls hf
    rw [Pt.rd_2, e, Pt.rdC_cons] at h
    split at h
    · rename_i hc
      obtain ⟨n, hn, rfl⟩ := Option.map_eq_some_iff.1 h
      obtain ⟨i, hi, hil, -⟩ := Pt.ix_at hc
      rw [hi]
      exact p_readVolume_ok f e hi (by rw [show Pt.V12.length = 12 by decide] at hil; omega) hn w
    · exact absurd h (by simp)
  | 3, _ =>
    obtain ⟨a, x, y, e⟩ := three_ls hf
    rw [Pt.rd_3, e, Pt.rdC_cons] at h
    split at h
    · rename_i hc
      obtain ⟨n, hn, rfl⟩ := Option.map_eq_some_iff.1 h
      obtain ⟨i, hi, hil, -⟩ := Pt.ix_at hc
      rw [hi]
      exact p_readEffect_ok f e hi (by rw [show Pt.D36.length = 36 by decide] at hil; omega) hn w
    · exact absurd h (by simp)
theorem g_read_bad {k : Nat} (hk : k < 4) {w : World} (hm : MaxIs w) (f : ByteArray) (hf : f.size = Pt.wid k) (h : Pt.rd k f.data.toList = none) :
    Calls Tryd.prog (rF k) #[.string f] w fun e w' => e = Pn 2 ∧ Below w.heap.size w w' := by
  match k, hk with
  | 0, _ =>
    obtain ⟨a, b, c, e⟩ := three_ls hf
    rw [Pt.rd_0, e] at h
    have hn : Pt.rdN [a, b, c] = none := by simpa using h
    rw [Pt.rdN] at hn
    split at hn
    · exact absurd hn (by simp)
    · split at hn
      · exact absurd hn (by simp)
      · split at hn
        · exact absurd hn (by simp)
        · rename_i n1 n2 n3
          by_cases hc : 0 ≤ Lib.index Pt.NL [a, b] ∧ Lib.index Pt.NL [a, b] % 2 = 0
          · have hr := Lib.index_room Pt.NL [a, b] hc.1
            rw [show Pt.NL.length = 24 by decide, show ([a, b] : List UInt8).length = 2 from rfl] at hr
            obtain ⟨s, hs⟩ : ∃ s : Nat, Lib.index Pt.NL [a, b] = ((2 * s : Nat) : Int) := ⟨(Lib.index Pt.NL [a, b]).toNat / 2, by omega⟩
            refine p_readNote_bad2 hm f e n1 n2 n3 hs (by omega) (fun h2 => ?_)
            rw [if_pos ⟨hc.1, hc.2, h2⟩] at hn
            exact absurd hn (by simp)
          · exact p_readNote_bad1 hm f e n1 n2 n3 hc
  | 1, _ =>
    rw [Pt.rd_1] at h
    exact p_readInst_bad f hf (by simpa using h) w
  | 2, _ =>
    obtain ⟨a, x, y, e⟩ := three_ls hf
    rw [Pt.rd_2, e, Pt.rdC_cons] at h
    by_cases hc : 0 ≤ Lib.indexByte Pt.V12 a
    · rw [if_pos hc] at h
      obtain ⟨i, hi, hil, -⟩ := Pt.ix_at hc
      exact p_readVolume_bad2 f e hi (by rw [show Pt.V12.length = 12 by decide] at hil; omega) (by simpa using h) w
    · exact p_readVolume_bad1 f e hc w
  | 3, _ =>
    obtain ⟨a, x, y, e⟩ := three_ls hf
    rw [Pt.rd_3, e, Pt.rdC_cons] at h
    by_cases hc : 0 ≤ Lib.indexByte Pt.D36 a
    · rw [if_pos hc] at h
      obtain ⟨i, hi, hil, -⟩ := Pt.ix_at hc
      exact p_readEffect_bad2 f e hi (by rw [show Pt.D36.length = 36 by decide] at hil; omega) (by simpa using h) w
    · exact p_readEffect_bad1 f e hc w
end Go.Proofs.YtfjfnbeegojlbaaDoor

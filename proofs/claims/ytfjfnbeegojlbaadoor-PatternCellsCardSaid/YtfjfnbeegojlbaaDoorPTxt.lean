/-
  Package pattern's Text.
-/
import Derived.Test.YtfjfnbeegojlbaaDoorPText
import Derived.Test.YtfjfnbeegojlbaaDoorPEq
namespace Go.Proofs.YtfjfnbeegojlbaaDoor
open Go.RowKit

namespace Pt
/-- The fields so far. -/
def fls (c : Cl) (k : Nat) : List ByteArray := [if 0 < k then fieldT 0 c else ByteArray.empty, if 1 < k then fieldT 1 c else ByteArray.empty, if 2 < k then fieldT 2 c else ByteArray.empty, if 3 < k then fieldT 3 c else ByteArray.empty]
theorem fls_set (c : Cl) {k : Nat} (hk : k < 4) : (fls c k).set k (fieldT k c) = fls c (k + 1) := by
  match k, hk with
  | 0, _ => rfl
  | 1, _ => rfl
  | 2, _ => rfl
  | 3, _ => rfl
theorem join_len (c : Cl) : (Lib.join ((fls c 4).map (·.data.toList)) [32]).length ≤ 140737488355328 := by
  have h : ∀ k, (fieldT k c).data.toList.length ≤ 3 := fun k => by rw [Array.length_toList]; exact fieldT_size k c
  have h0 := h 0
  have h1 := h 1
  have h2 := h 2
  have h3 := h 3
  simp [Lib.join, fls] at *
  omega
def textT (c : Cl) : ByteArray := ⟨(Lib.join ((fields c).map (·.data.toList)) [32]).toArray⟩
end Pt
def strs (l : List ByteArray) : List Value := l.map Value.string
def Fl (w : World) (bf : Nat) (l : List ByteArray) : Prop := w.rangeAt bf 0 (strs l) ∧ w.there bf 0 l.length
theorem Fl.set {w : World} {bf k : Nat} {l : List ByteArray} (h : Fl w bf l) (hk : k < l.length) (s : ByteArray) : Fl (w.setCell ⟨bf, k, none⟩ (.string s)) bf (l.set k s) := by
  constructor
  · have := range_set_in (p := k) (v := .string s) h.1 (by simp [strs]; exact hk)
    rw [Nat.zero_add] at this
    unfold strs at *
    rwa [List.map_set]
  · rw [List.length_set]; exact there_set h.2
theorem Fl.kept {w w' : World} {bf : Nat} {l : List ByteArray} (h : Fl w bf l) (hb : Below w.heap.size w w') (hl : bf < w.heap.size) : Fl w' bf l := ⟨range_below h.1 hb hl, there_below h.2 hb hl⟩
theorem Fl.cell {w : World} {bf k : Nat} {l : List ByteArray} (h : Fl w bf l) (hk : k < l.length) : ∃ v, w.cell? ⟨bf, k, none⟩ = some v ∧ w.frozen? ⟨bf, k, none⟩ = false := by
  obtain ⟨h1, h2⟩ := h.2 k hk
  rw [Nat.zero_add] at h1 h2
  obtain ⟨v, hv⟩ := Option.isSome_iff_exists.1 h1
  exact ⟨v, hv, h2⟩
theorem p_Text_bad (c : Pt.Cl) (w : World) (h : Pt.vcl c = false) :
    Calls Tryd.prog 4 #[.agg (CL c).toArray] w fun x w' => x = .returned (.tuple #[.string ByteArray.empty, .int .i64 1]) ∧ Below w.heap.size w w' := by
  have C := Lib.hid (fun w => p_ValidCell c w)
  rw [h] at C
  have HR := Lib.hid (fun (w : World) => range_box w (CL c) 23)
  clear h
  go_enter Tryd.func4, Tryd.ntmps4
  go_wp2_with (first | (refine ld_cell (by rfl) _ rfl rfl (HR.out _) ?_) | (go_at_call 6; ((with_reducible refine (C.out _).mono ?_); rintro x' w1 ⟨rfl, hb1⟩)))
  go_ret2
  exact ⟨rfl, stepB (below_box _ _) hb1⟩
set_option maxRecDepth 100000 in
set_option maxHeartbeats 3200000 in
theorem p_Text_ok (c : Pt.Cl) (w : World) (h : Pt.vcl c = true) :
    Calls Tryd.prog 4 #[.agg (CL c).toArray] w fun x w' => x = .returned (.tuple #[.string (Pt.textT c), .int .i64 0]) ∧ Below w.heap.size w w' := by
  have C := Lib.hid (fun w => p_ValidCell c w)
  rw [h] at C
  have HVC := Lib.hid h
  obtain ⟨W, hW⟩ : ∃ W, W = w.alloc (.cells (CL c).toArray 23) := ⟨_, rfl⟩
  have hB : Below w.heap.size w W := by rw [hW]; exact below_box _ _
  obtain ⟨b, hb⟩ : ∃ b, b = w.heap.size := ⟨_, rfl⟩
  have hC : W.rangeAt b 0 (CL c) := by rw [hW, hb]; exact range_box _ _ _
  have HS := Lib.hid (show W.heap.size = b + 1 ∧ b = w.heap.size from ⟨by rw [hW, hb]; simp, hb⟩)
  have HB := Lib.hid hB
  have HC := Lib.hid hC
  rw [cl_arr] at hW
  rw [cl_arr c]
  clear h hB hC
  go_enter Tryd.func4, Tryd.ntmps4
  go_upto_region 1 with fail
  rw [← hW, ← hb]
  clear hW hb
  go_wp2_with (first | (refine ld_cell (by rfl) _ rfl rfl HC.out ?_) | (go_at_call 6; ((with_reducible refine (C.out _).mono ?_); rintro x' w1 ⟨rfl, hb1⟩; have HB1 := Lib.hid hb1; clear hb1)) | (go_at_call 11; ((with_reducible refine (p_parts _).mono ?_); rintro x' w2 ⟨rfl, hb2⟩; have HB2 := Lib.hid hb2; clear hb2)))
  obtain ⟨bf, hbf⟩ : ∃ bf, bf = w1.heap.size := ⟨_, rfl⟩
  have hF1 : Fl (w1.alloc (.cells #[.string ByteArray.empty, .string ByteArray.empty, .string ByteArray.empty, .string ByteArray.empty] 32)) bf (Pt.fls c 0) := by
    rw [hbf]
    exact ⟨range_box w1 (strs (Pt.fls c 0)) _, there_box w1 (strs (Pt.fls c 0)) _⟩
  have hF2 : Fl w2 bf (Pt.fls c 0) := hF1.kept HB2.out (by rw [hbf]; simp)
  have hB2 : Below w1.heap.size w1 w2 := stepB (below_box _ _) HB2.out
  have HF0 := Lib.hid hF2
  have HC2 := Lib.hid (range_below HC.out (stepB HB1.out hB2) (by have := HS.out; omega))
  have HBF := Lib.hid (show bf = w1.heap.size ∧ b < bf ∧ bf < w2.heap.size from ⟨hbf, by have := HS.out; have := HB1.out.size; omega, by have := cell_lt (hF2.1 0 _ rfl); exact this⟩)
  have HB2T := Lib.hid hB2
  rw [← hbf]
  clear hbf hF1 hF2 hB2
  go_loopw [12] (fun i wr => ∃ k : Nat, k ≤ 4 ∧ i = .int .i64 k ∧ Hid (w2.grownBy wr (some bf)) ∧ Hid (Fl wr bf (Pt.fls c k))) (fun i _ => 4 - (intOf i).toNat)
  case atStart => exact ⟨0, by omega, rfl, grownBy_refl _ _, HF0.out⟩
  case round =>
    obtain ⟨k, hk, rfl, HG, HF⟩ := hrel
    by_cases hlt : k < 4
    · have E1 := eg hlt
      have E2 := ew hlt
      have HLT := Lib.hid hlt
      have hlt' : (k : Int) < 4 := by omega
      obtain ⟨wk, hwk⟩ : ∃ wk, Pt.wid k = wk := ⟨_, rfl⟩
      have HWK := Lib.hid hwk
      have hw3 : wk ≤ 3 := by rw [← hwk]; unfold Pt.wid; split <;> decide
      have i1 : (0 : Int) ≤ (wk : Int) := by omega
      have i2 : (wk : Int) ≤ 3 := by omega
      obtain ⟨v, hv⟩ : ∃ v, Pt.pv k c = v := ⟨_, rfl⟩
      have HVV := Lib.hid hv
      have G1 := Lib.hid (fun u => g_get hlt c u)
      rw [hv] at G1
      have S1 := Lib.hid (fun u => p_set v u)
      have eV : VV v = .agg #[.int .i64 v.1, .int .i64 v.2] := rfl
      rw [eV] at G1 S1
      have HCW := Lib.hid (range_grown HC2.out HG.out (by have := HBF.out; omega) (by have := HBF.out; omega))
      have HLW := Lib.hid (show bf < wr.heap.size ∧ b < wr.heap.size by have := HBF.out; have := HG.out.size; omega)
      clear hlt hv eV hwk hw3
      cases hvs : Pt.isSet v with
      | false =>
        rw [hvs] at S1
        have HV := Lib.hid hvs
        clear hvs
        go_upto_region 8 with (first | (refine ix_part HLT.out (by rfl) _ _ rfl rfl rfl ?_) | ((refine al_part (by rfl) rfl ?_); intro w2' hb2 hs2 ht2; have HB2' := Lib.hid hb2; have HT2 := Lib.hid ht2; have HS2 := Lib.hid hs2; clear hb2 ht2 hs2) | ((refine st_row (cs := PK k) Tryd.infoPart (pk_one k) (by rfl) _ _ rfl rfl rfl HT2.out ?_); rintro w3 e3; have h3 := World.rangeAt_setCells_same w2' wr.heap.size 0 (PK k) HT2.out; rw [← e3] at h3; have HB3 := Lib.hid (show Below wr.heap.size wr w3 by rw [e3]; exact grown_at HB2'.out (Nat.le_refl _) (by rw [HS2.out]; omega) (grown_setCells _ _ _ _)); have H3 := Lib.hid h3; have p1 := H3.out 1 _ rfl; rw [HWK.out] at p1; have p2 := H3.out 2 _ rfl; have hf3 := HF.out.kept HB3.out HLW.out.1; obtain ⟨z0, z1, z2⟩ := hf3.cell (k := k) (by have := HLT.out; exact this); have HF3 := Lib.hid hf3; clear e3 h3 hf3))
        obtain ⟨w4, hw4⟩ : ∃ w4, w4 = w3.setCell ⟨bf, k, none⟩ (.string ((⟨#[46, 46, 46]⟩ : ByteArray).extract 0 wk)) := ⟨_, rfl⟩
        have hF4 : Fl w4 bf ((Pt.fls c k).set k (Pt.dots wk)) := by rw [hw4]; exact HF3.out.set (by have := HLT.out; exact this) _
        have hg4 : w3.grownBy w4 (some bf) := by rw [hw4]; exact grown_set _ _ _ _
        have hq4 : w4.rangeAt wr.heap.size 0 (PK k) := range_grown H3.out hg4 (by have := HLW.out; omega) (cell_lt (H3.out 0 _ rfl))
        have hc4 : w4.rangeAt b 0 (CL c) := range_grown (range_below HCW.out HB3.out HLW.out.2) hg4 (by have := HBF.out; omega) (by have := HLW.out; have := HB3.out.size; omega)
        rw [← hw4]
        have HF4 := Lib.hid hF4
        have HG4 := Lib.hid hg4
        have HQ4 := Lib.hid hq4
        have HC4 := Lib.hid hc4
        have HL4 := Lib.hid (show bf < w4.heap.size ∧ wr.heap.size < w4.heap.size from ⟨by have := HLW.out; have := HB3.out.size; have := hg4.size; omega, cell_lt (hq4 0 _ rfl)⟩)
        clear hw4 hF4 hg4 hq4 hc4 p1 p2 z1 z2
        have p2 := HQ4.out 2 _ rfl
        go_wp2_with (first | (refine ld_cell (by rfl) _ rfl rfl HC4.out ?_) | (go_at_fn (gF k); (with_reducible refine (G1.out _).mono ?_); rintro x' w5 ⟨rfl, hb5⟩; have HB5 := Lib.hid hb5; clear hb5) | (go_at_call 12; ((with_reducible refine (S1.out _).mono ?_); rintro x' w6 ⟨rfl, hb6⟩; have HB6 := Lib.hid hb6; clear hb6)))
        go_roundw
        case rel =>
          have hb46 : Below w4.heap.size w4 w6 := stepB HB5.out (stepB (below_box _ _) HB6.out)
          refine ⟨k + 1, by have := HLT.out; omega, by go_num, grownBy_trans HG.out (grownBy_trans (grownBy_trans (grownBy_of HB3.out) HG4.out) (grownBy_of hb46)), ?_⟩
          have e : Pt.fieldT k c = Pt.dots wk := by unfold Pt.fieldT; rw [HVV.out, HV.out, HWK.out]; rfl
          rw [← Pt.fls_set c HLT.out, e]
          exact HF4.out.kept hb46 HL4.out.1
        case measure => simp [intOf]; have := HLT.out; omega
      | true =>
        rw [hvs] at S1
        have HV := Lib.hid hvs
        clear hvs
        go_upto_region 8 with (first | (refine ix_part HLT.out (by rfl) _ _ rfl rfl rfl ?_) | ((refine al_part (by rfl) rfl ?_); intro w2' hb2 hs2 ht2; have HB2' := Lib.hid hb2; have HT2 := Lib.hid ht2; have HS2 := Lib.hid hs2; clear hb2 ht2 hs2) | ((refine st_row (cs := PK k) Tryd.infoPart (pk_one k) (by rfl) _ _ rfl rfl rfl HT2.out ?_); rintro w3 e3; have h3 := World.rangeAt_setCells_same w2' wr.heap.size 0 (PK k) HT2.out; rw [← e3] at h3; have HB3 := Lib.hid (show Below wr.heap.size wr w3 by rw [e3]; exact grown_at HB2'.out (Nat.le_refl _) (by rw [HS2.out]; omega) (grown_setCells _ _ _ _)); have H3 := Lib.hid h3; have p1 := H3.out 1 _ rfl; rw [HWK.out] at p1; have p2 := H3.out 2 _ rfl; have hf3 := HF.out.kept HB3.out HLW.out.1; obtain ⟨z0, z1, z2⟩ := hf3.cell (k := k) (by have := HLT.out; exact this); have HF3 := Lib.hid hf3; clear e3 h3 hf3))
        obtain ⟨w4, hw4⟩ : ∃ w4, w4 = w3.setCell ⟨bf, k, none⟩ (.string ((⟨#[46, 46, 46]⟩ : ByteArray).extract 0 wk)) := ⟨_, rfl⟩
        have hF4 : Fl w4 bf ((Pt.fls c k).set k (Pt.dots wk)) := by rw [hw4]; exact HF3.out.set (by have := HLT.out; exact this) _
        have hg4 : w3.grownBy w4 (some bf) := by rw [hw4]; exact grown_set _ _ _ _
        have hq4 : w4.rangeAt wr.heap.size 0 (PK k) := range_grown H3.out hg4 (by have := HLW.out; omega) (cell_lt (H3.out 0 _ rfl))
        have hc4 : w4.rangeAt b 0 (CL c) := range_grown (range_below HCW.out HB3.out HLW.out.2) hg4 (by have := HBF.out; omega) (by have := HLW.out; have := HB3.out.size; omega)
        rw [← hw4]
        have HF4 := Lib.hid hF4
        have HG4 := Lib.hid hg4
        have HQ4 := Lib.hid hq4
        have HC4 := Lib.hid hc4
        have HL4 := Lib.hid (show bf < w4.heap.size ∧ wr.heap.size < w4.heap.size from ⟨by have := HLW.out; have := HB3.out.size; have := hg4.size; omega, cell_lt (hq4 0 _ rfl)⟩)
        clear hw4 hF4 hg4 hq4 hc4 p1 p2 z1 z2
        have p2 := HQ4.out 2 _ rfl
        have W1 := Lib.hid (fun u => g_write HLT.out v (by rw [← HVV.out]; exact Pt.vcl_ok HVC.out HLT.out (by rw [HVV.out]; exact HV.out)) (by rw [← HVV.out]; exact (Pt.vcl_bytes HVC.out k).2.1) u)
        go_wp2_with (first | (refine ld_cell (by rfl) _ rfl rfl HC4.out ?_) | (go_at_fn (gF k); (with_reducible refine (G1.out _).mono ?_); rintro x' w5 ⟨rfl, hb5⟩; have HB5 := Lib.hid hb5; clear hb5 p2) | (go_at_call 12; ((with_reducible refine (S1.out _).mono ?_); rintro x' w6 ⟨rfl, hb6⟩; have HB6 := Lib.hid hb6; clear hb6; have HB46 := Lib.hid (stepB HB5.out (stepB (below_box w5 (.cells (VL v).toArray 42)) HB6.out)); have p4 := range_below HQ4.out HB46.out HL4.out.2 4 _ rfl; have q6 := range_below (range_box w5 (VL v) 42) HB6.out (by simp); have q0 := q6 0 _ rfl; have q1 := q6 1 _ rfl; clear q6)) | (go_at_fn (wF k); (with_reducible refine (W1.out _).mono ?_); rintro x' w7 ⟨rfl, hb7⟩; have HB7 := Lib.hid (stepB HB46.out hb7); clear hb7; have hf7 := HF4.out.kept HB7.out HL4.out.1; obtain ⟨z0, z1, z2⟩ := hf7.cell (k := k) (by rw [List.length_set]; exact HLT.out); have HF7 := Lib.hid hf7; clear hf7))
        go_roundw
        case rel =>
          refine ⟨k + 1, by have := HLT.out; omega, by go_num, grownBy_trans HG.out (grownBy_trans (grownBy_trans (grownBy_trans (grownBy_of HB3.out) HG4.out) (grownBy_of HB7.out)) (grown_set _ _ _ _)), ?_⟩
          have e : Pt.fieldT k c = Pt.partT k v := by unfold Pt.fieldT; rw [HVV.out, HV.out]; rfl
          have hf := HF7.out.set (k := k) (by rw [List.length_set]; exact HLT.out) (Pt.partT k v)
          rw [List.set_set, ← e, Pt.fls_set c HLT.out] at hf
          rw [← e]
          exact hf
        case measure => simp [intOf]; have := HLT.out; omega
    · obtain rfl : k = 4 := by omega
      have CJ := Lib.hid (Tryd.strings_Join bf 0 4 (Pt.fls c 4) ⟨#[32]⟩ wr (fun j x hx => HF.out.1 j _ (by simp [strs, hx])) (by have := HBF.out; have := HG.out.size; omega) (by show 4 ≤ _; omega) (by show 4 ≤ 4; omega) (Pt.join_len c))
      have HT : (⟨(Lib.join ((Pt.fls c 4).map (·.data.toList)) [32]).toArray⟩ : ByteArray) = Pt.textT c := rfl
      rw [show (⟨#[32]⟩ : ByteArray).data.toList = [32] from rfl, HT, show (Pt.fls c 4).length = 4 from rfl] at CJ
      clear HT
      go_wp2_with (first | (go_at_call 13; ((with_reducible refine (CJ.out).mono ?_); rintro x' w5 ⟨rfl, hb5⟩)))
      go_ret2
      refine ⟨rfl, ?_⟩
      have e1 := HBF.out
      have e2 := HS.out
      have e3 := HB1.out.size
      exact (grown_at (stepB HB.out (stepB HB1.out HB2T.out)) (by omega) (by have := HB2T.out.size; omega) HG.out).trans (hb5.mono (by have := HG.out.size; have := HB2T.out.size; omega))
theorem p_Text (c : Pt.Cl) (w : World) :
    Calls Tryd.prog 4 #[.agg (CL c).toArray] w fun x w' => x = .returned (.tuple #[.string (if Pt.vcl c then Pt.textT c else ByteArray.empty), .int .i64 (if Pt.vcl c then 0 else 1)]) ∧ Below w.heap.size w w' := by
  cases h : Pt.vcl c with
  | false => exact p_Text_bad c w h
  | true => exact p_Text_ok c w h
end Go.Proofs.YtfjfnbeegojlbaaDoor

/-
  The law PatternCells: for any cell and text it returns true.
-/
import Derived.Test.YtfjfnbeegojlbaaDoorCRq
import Derived.Test.YtfjfnbeegojlbaaDoorPAwake
import Derived.Deep.RegionHeld3
import Derived.Deep.DeepCutAuto
namespace Go.Proofs.YtfjfnbeegojlbaaDoor
open Go.RowKit

theorem told_ex (s : ByteArray) : ∃ c e, Pt.Told s c e ∧ ((e = 0 ∧ Pt.vcl c = true ∧ Pt.textT c = s) ∨ e = 2) := by
  cases h : Pt.prT (Pt.spl s.data.toList) with
  | none => exact ⟨_, _, told_bad h, .inr rfl⟩
  | some c => exact ⟨_, _, told_ok h, .inl ⟨rfl, Pt.prT_is.1 h⟩⟩
theorem p_Parse_v {w : World} (hm : MaxIs w) (s : ByteArray) (hs : s.size ≤ 140737488355328) {c : Pt.Cl} {e : Int} (h : Pt.Told s c e) :
    Calls Tryd.prog 8 #[.string s] w fun x w' => x = .returned (.tuple #[.agg (CL c).toArray, .int .i64 e]) ∧ Below w.heap.size w w' :=
  (p_Parse hm s hs).mono fun x w' ⟨⟨c', e', he, ht⟩, hb⟩ => by
    obtain ⟨rfl, rfl⟩ := Pt.told_one h ht
    exact ⟨he, hb⟩
theorem r_Parse_v (s : ByteArray) (w : World) {c : Pt.Cl} {e : Int} (h : Pt.Told s c e) :
    Calls Tryd.prog 9 #[.string s] w fun x w' => x = .returned (.tuple #[.agg (CL c).toArray, .int .i64 e]) ∧ Below w.heap.size w w' :=
  (r_Parse s w).mono fun x w' ⟨⟨c', e', he, ht⟩, hb⟩ => by
    obtain ⟨rfl, rfl⟩ := Pt.told_one h ht
    exact ⟨he, hb⟩
section
variable {ops : Array Oper} {rest : List Oper} {op : Oper} {a : Act} {w : World} {Q : Exit → Act → World → Prop}
theorem al_cell (hw : Region.wanted op (yielded ops a.tmps) = true) (ho : op.op = .alloc 23)
    (h : ∀ w', Below w.heap.size w w' → w'.heap.size = w.heap.size + 1 → w'.there w.heap.size 0 6 → wpList Tryd.prog ops Q rest (a.put op.dst (.pointer (some ⟨w.heap.size, 0, none⟩))) w') : wpList Tryd.prog ops Q (op :: rest) a w := by
  simp only [wpList, hw, if_true]
  refine .inl ?_
  unfold Oper.wp execOp
  simp only [ho]
  simp [go_sem]
  refine h _ (below_box _ _) (by simp) ?_
  exact there_box w [_, _, _, _, _, _] _
end
/-- The text of a cell, as it is told; the cell that is read of it. -/
structure Said (c : Pt.Cl) (s : ByteArray) (e : Int) (d : Pt.Cl) (g : Int) : Prop where
  txt : (s, e) = if Pt.vcl c then (Pt.textT c, 0) else (ByteArray.empty, 1)
  told : Pt.Told s d g
  back : e = 0 → d = c ∧ g = 0
  size : s.size ≤ 14
theorem said_ex (c : Pt.Cl) : ∃ s e d g, Said c s e d g := by
  cases h : Pt.vcl c with
  | true =>
    have ht : Pt.Told (Pt.textT c) c 0 := .inl ⟨⟨h, rfl⟩, rfl⟩
    exact ⟨Pt.textT c, 0, c, 0, by rw [h]; rfl, ht, fun _ => ⟨rfl, rfl⟩, Nat.le_of_eq (Pt.textT_size h)⟩
  | false =>
    obtain ⟨d, g, ht, -⟩ := told_ex ByteArray.empty
    exact ⟨ByteArray.empty, 1, d, g, by rw [h]; rfl, ht, fun e => absurd e (by decide), by decide⟩
theorem p_Text_s {c : Pt.Cl} {s : ByteArray} {e : Int} {d : Pt.Cl} {g : Int} (h : Said c s e d g) (w : World) :
    Calls Tryd.prog 4 #[.agg (CL c).toArray] w fun x w' => x = .returned (.tuple #[.string s, .int .i64 e]) ∧ Below w.heap.size w w' :=
  (p_Text c w).mono fun x w' ⟨hx, hb⟩ => by
    have ht := h.txt
    cases hv : Pt.vcl c with
    | true =>
      rw [hv] at hx ht
      obtain ⟨rfl, rfl⟩ := Prod.mk.inj ht
      exact ⟨hx, hb⟩
    | false =>
      rw [hv] at hx ht
      obtain ⟨rfl, rfl⟩ := Prod.mk.inj ht
      exact ⟨hx, hb⟩
theorem r_Text_s {c : Pt.Cl} {s : ByteArray} {e : Int} {d : Pt.Cl} {g : Int} (h : Said c s e d g) (w : World) :
    Calls Tryd.prog 5 #[.agg (CL c).toArray] w fun x w' => x = .returned (.tuple #[.string s, .int .i64 e]) ∧ Below w.heap.size w w' :=
  (r_Text c w).mono fun x w' ⟨hx, hb⟩ => by
    have ht := h.txt
    cases hv : Pt.vcl c with
    | true =>
      rw [hv] at hx ht
      obtain ⟨rfl, rfl⟩ := Prod.mk.inj ht
      exact ⟨hx, hb⟩
    | false =>
      rw [hv] at hx ht
      obtain ⟨rfl, rfl⟩ := Prod.mk.inj ht
      exact ⟨hx, hb⟩
theorem said_e {c : Pt.Cl} {s : ByteArray} {e : Int} {d : Pt.Cl} {g : Int} (h : Said c s e d g) : e = 0 ∨ e = 1 := by
  have ht := h.txt
  cases hv : Pt.vcl c with
  | true => rw [hv] at ht; exact .inl (Prod.mk.inj ht).2
  | false => rw [hv] at ht; exact .inr (Prod.mk.inj ht).2
theorem six_of {W : World} {b : Nat} {c : Pt.Cl} (hC : W.rangeAt b 0 (CL c)) : ∀ u, Below W.heap.size W u → Below W.heap.size W u ∧ u.cell? ⟨b, 0, none⟩ = some (.int .i64 c.nt) ∧ u.cell? ⟨b, 1, none⟩ = some (.int .i64 c.it) ∧ u.cell? ⟨b, 2, none⟩ = some (.int .i64 c.vc) ∧ u.cell? ⟨b, 3, none⟩ = some (.int .i64 c.va) ∧ u.cell? ⟨b, 4, none⟩ = some (.int .i64 c.ef) ∧ u.cell? ⟨b, 5, none⟩ = some (.int .i64 c.pa) := fun u hu => by
  have h := range_below hC hu (cell_lt (hC 0 _ rfl))
  exact ⟨hu, h 0 _ rfl, h 1 _ rfl, h 2 _ rfl, h 3 _ rfl, h 4 _ rfl, h 5 _ rfl⟩
set_option maxRecDepth 100000 in
set_option maxHeartbeats 3200000 in
theorem cells_any (c : Pt.Cl) (text : ByteArray) (w : World) (hm : MaxIs w) (hs : text.size ≤ 140737488355328) :
    Calls Tryd.prog 3 #[.agg (CL c).toArray, .string text] w fun x w' => x = .returned (.bool true) ∧ Below w.heap.size w w' := by
  obtain ⟨s, e, d, g, hS⟩ := said_ex c
  obtain ⟨xc, xe, hT, hX⟩ := told_ex text
  obtain ⟨v, hv⟩ : ∃ v, Pt.vcl c = v := ⟨_, rfl⟩
  have HM := Lib.hid hm
  have HSZ := Lib.hid (show s.size ≤ 140737488355328 from Nat.le_trans hS.size (by decide))
  have HTZ := Lib.hid hs
  have T1 := Lib.hid (fun u => p_Text_s hS u)
  have T2 := Lib.hid (fun u => r_Text_s hS u)
  have V1 := Lib.hid (fun u => p_ValidCell c u)
  have V2 := Lib.hid (fun u => r_ValidCell c u)
  rw [hv] at V1 V2
  have A1 := Lib.hid (fun u => p_awake u)
  have HSAID := Lib.hid hS
  have HTOLD := Lib.hid hT
  have HXX := Lib.hid hX
  obtain ⟨W, hW⟩ : ∃ W, W = w.alloc (.cells (CL c).toArray 23) := ⟨_, rfl⟩
  obtain ⟨b, hb⟩ : ∃ b, b = w.heap.size := ⟨_, rfl⟩
  have HW := Lib.hid (show Below w.heap.size w W ∧ W.rangeAt b 0 (CL c) ∧ b < W.heap.size by rw [hW, hb]; exact ⟨below_box _ _, range_box _ _ _, by simp⟩)
  have H6 := Lib.hid (six_of HW.out.2.1)
  rw [cl_arr] at hW T1 T2 V1 V2 ⊢
  have hcl := cl_arr c
  clear hm hs hS hT hX hv
  go_enter Tryd.func3, Tryd.ntmps3
  go_upto_region 1 with fail
  rw [← hW, ← hb]
  clear hW hb
  go_upto_region 3 with (first | (refine ld_cell (by rfl) _ rfl rfl HW.out.2.1 ?_) | (go_at_call 4; ((with_reducible refine (T1.out _).mono ?_); rintro x' w1 ⟨rfl, hb1⟩; have HB1 := Lib.hid hb1; have HC1 := Lib.hid (range_below HW.out.2.1 hb1 HW.out.2.2); clear hb1)) | (refine ld_cell (by rfl) _ rfl rfl HC1.out ?_) | (go_at_call 5; ((with_reducible refine (T2.out _).mono ?_); rintro x' w2 ⟨rfl, hb2⟩; have HB2 := Lib.hid (stepB HB1.out hb2); clear hb2)))
  have hg0 := H6.out w2.drew HB2.out.drew
  go_region_held3 (fun u => Below W.heap.size W u ∧ u.cell? ⟨b, 0, none⟩ = some (.int .i64 c.nt) ∧ u.cell? ⟨b, 1, none⟩ = some (.int .i64 c.it) ∧ u.cell? ⟨b, 2, none⟩ = some (.int .i64 c.vc) ∧ u.cell? ⟨b, 3, none⟩ = some (.int .i64 c.va) ∧ u.cell? ⟨b, 4, none⟩ = some (.int .i64 c.ef) ∧ u.cell? ⟨b, 5, none⟩ = some (.int .i64 c.pa))
    (first | with_reducible exact hg0 | with_reducible exact HV4.out | with_reducible exact HV5.out)
    (first | (go_at_call 6; with_reducible refine (V1.out _).mono ?_; rintro x' w4 ⟨rfl, hb4⟩; have HV4 := Lib.hid (H6.out _ (stepB hg0.1 hb4)); clear hb4) | (go_at_call 7; with_reducible refine (V2.out _).mono ?_; rintro x' w5 ⟨rfl, hb5⟩; have HV5 := Lib.hid (H6.out _ (stepB HV4.out.1 hb5)); clear hb5))
  have HB5 := Lib.hid HV5.out.1
  have HM5 := Lib.hid (HM.out.kept (stepB HW.out.1 HB5.out))
  have PS := Lib.hid (p_Parse_v HM5.out s HSZ.out HSAID.out.told)
  have PT := Lib.hid (fun u (hu : Below w.heap.size w u) => p_Parse_v (HM.out.kept hu) text HTZ.out HTOLD.out)
  have RT := Lib.hid (fun u => r_Parse_v text u HTOLD.out)
  have hcx := cl_arr xc
  clear V1 V2 T2 hg0 HV4 HV5
  obtain ⟨tx, te, hTX, hTE⟩ : ∃ tx te, (∀ u, Calls Tryd.prog 4 #[.agg (CL xc).toArray] u fun x w' => x = .returned (.tuple #[.string tx, .int .i64 te]) ∧ Below u.heap.size u w') ∧ ((xe = 0 ∧ tx = text ∧ te = 0) ∨ xe = 2) := by
    rcases HXX.out with ⟨h1, h2, h3⟩ | h1
    · refine ⟨text, 0, fun u => (p_Text_ok xc u h2).mono fun x w' ⟨hx, hb⟩ => ⟨by rw [hx, h3], hb⟩, .inl ⟨h1, rfl, rfl⟩⟩
    · exact ⟨_, _, fun u => p_Text xc u, .inr h1⟩
  have TX := Lib.hid hTX
  rw [hcx] at TX
  clear hTX
  rcases said_e HSAID.out with rfl | rfl
  · obtain ⟨rfl, rfl⟩ := HSAID.out.back rfl
    rcases hTE with ⟨rfl, rfl, rfl⟩ | rfl
    all_goals
      go_upto_region 8 with (first | (go_at_call 8; ((with_reducible refine (PS.out).mono ?_); rintro x' w6 ⟨rfl, hb6⟩; have HB6 := Lib.hid (stepB HB5.out hb6); clear hb6)) | ((refine al_cell (by rfl) rfl ?_); intro w7 hb7 hs7 ht7; have HB7 := Lib.hid hb7; have HS7 := Lib.hid hs7; have HT7 := Lib.hid ht7; clear hb7 hs7 ht7) | ((refine st_cell (c := d) (by rfl) _ _ rfl rfl rfl HT7.out ?_); rintro w8 e8; have HR8 := Lib.hid (show w8.rangeAt w6.heap.size 0 (CL d) by rw [e8]; exact World.rangeAt_setCells_same w7 w6.heap.size 0 (CL d) HT7.out); have HB8 := Lib.hid (show Below W.heap.size W w8 by rw [e8]; exact stepB HB6.out (grown_at HB7.out (Nat.le_refl _) HB7.out.size (grown_setCells _ _ _ _))); have HC8 := Lib.hid (range_below HW.out.2.1 HB8.out HW.out.2.2); clear e8) | (refine ld_cell (by rfl) _ rfl rfl HR8.out ?_) | (refine ld_cell (by rfl) _ rfl rfl HC8.out ?_))
      clear hcl
      go_upto_region 9 with (first | (go_at_call 8; ((with_reducible refine (PT.out _ (stepB HW.out.1 HB8.out)).mono ?_); rintro x' w9 ⟨rfl, hb9⟩; have HB9 := Lib.hid (stepB HB8.out hb9); clear hb9)) | ((refine al_cell (by rfl) rfl ?_); intro w10 hb10 hs10 ht10; have HB10 := Lib.hid hb10; have HT10 := Lib.hid ht10; clear hb10 hs10 ht10) | ((refine st_cell (c := xc) (by rfl) _ _ rfl rfl rfl HT10.out ?_); rintro w11 e11; have HR11 := Lib.hid (show w11.rangeAt w9.heap.size 0 (CL xc) ∧ w9.heap.size < w11.heap.size by rw [e11]; have hq := World.rangeAt_setCells_same w10 w9.heap.size 0 (CL xc) HT10.out; exact ⟨hq, cell_lt (hq 0 _ rfl)⟩); have HB11 := Lib.hid (show Below W.heap.size W w11 by rw [e11]; exact stepB HB9.out (grown_at HB10.out (Nat.le_refl _) HB10.out.size (grown_setCells _ _ _ _))); clear e11))
      go_wp2_with (first | (go_at_call 9; ((with_reducible refine (RT.out _).mono ?_); rintro x' w12 ⟨rfl, hb12⟩; have HB12 := Lib.hid (stepB HB11.out hb12); have HR12 := Lib.hid (range_below HR11.out.1 hb12 HR11.out.2); have HL12 := Lib.hid (Nat.lt_of_lt_of_le HR11.out.2 hb12.size); clear hb12)) | ((refine al_cell (by rfl) rfl ?_); intro w13 hb13 hs13 ht13; have HB13 := Lib.hid hb13; have HT13 := Lib.hid ht13; clear hb13 hs13 ht13) | ((refine st_cell (c := xc) (by rfl) _ _ rfl rfl rfl HT13.out ?_); rintro w14 e14; have HR14 := Lib.hid (show w14.rangeAt w12.heap.size 0 (CL xc) by rw [e14]; exact World.rangeAt_setCells_same w13 w12.heap.size 0 (CL xc) HT13.out); have hg14 : Below w12.heap.size w12 w14 := (by rw [e14]; exact grown_at HB13.out (Nat.le_refl _) HB13.out.size (grown_setCells _ _ _ _)); have HB14 := Lib.hid (stepB HB12.out hg14); have HX14 := Lib.hid (range_below HR12.out hg14 HL12.out); clear e14 hg14) | (refine ld_cell (by rfl) _ rfl rfl HX14.out ?_) | (refine ld_cell (by rfl) _ rfl rfl HR14.out ?_) | (go_at_call 4; ((with_reducible refine (TX.out _).mono ?_); rintro x' w15 ⟨rfl, hb15⟩; have HB15 := Lib.hid (stepB HB14.out hb15); clear hb15)) | (go_at_call 10; ((with_reducible refine (A1.out _).mono ?_); rintro x' w16 ⟨rfl, hb16⟩; have HB16 := Lib.hid (stepB HB15.out hb16); clear hb16)))
      go_ret
      exact ⟨rfl, stepB HW.out.1 HB16.out⟩
  · rcases hTE with ⟨rfl, rfl, rfl⟩ | rfl
    all_goals
      go_upto_region 6 with (first | (go_at_call 8; ((with_reducible refine (PS.out).mono ?_); rintro x' w6 ⟨rfl, hb6⟩; have HB6 := Lib.hid (stepB HB5.out hb6); clear hb6)) | ((refine al_cell (by rfl) rfl ?_); intro w7 hb7 hs7 ht7; have HB7 := Lib.hid hb7; have HS7 := Lib.hid hs7; have HT7 := Lib.hid ht7; clear hb7 hs7 ht7) | ((refine st_cell (c := d) (by rfl) _ _ rfl rfl rfl HT7.out ?_); rintro w8 e8; have HR8 := Lib.hid (show w8.rangeAt w6.heap.size 0 (CL d) by rw [e8]; exact World.rangeAt_setCells_same w7 w6.heap.size 0 (CL d) HT7.out); have HB8 := Lib.hid (show Below W.heap.size W w8 by rw [e8]; exact stepB HB6.out (grown_at HB7.out (Nat.le_refl _) HB7.out.size (grown_setCells _ _ _ _))); have HC8 := Lib.hid (range_below HW.out.2.1 HB8.out HW.out.2.2); clear e8) | (refine ld_cell (by rfl) _ rfl rfl HR8.out ?_) | (refine ld_cell (by rfl) _ rfl rfl HC8.out ?_))
      go_upto_region 8 with (fail)
      clear hcl
      go_upto_region 9 with (first | (go_at_call 8; ((with_reducible refine (PT.out _ (stepB HW.out.1 HB8.out)).mono ?_); rintro x' w9 ⟨rfl, hb9⟩; have HB9 := Lib.hid (stepB HB8.out hb9); clear hb9)) | ((refine al_cell (by rfl) rfl ?_); intro w10 hb10 hs10 ht10; have HB10 := Lib.hid hb10; have HT10 := Lib.hid ht10; clear hb10 hs10 ht10) | ((refine st_cell (c := xc) (by rfl) _ _ rfl rfl rfl HT10.out ?_); rintro w11 e11; have HR11 := Lib.hid (show w11.rangeAt w9.heap.size 0 (CL xc) ∧ w9.heap.size < w11.heap.size by rw [e11]; have hq := World.rangeAt_setCells_same w10 w9.heap.size 0 (CL xc) HT10.out; exact ⟨hq, cell_lt (hq 0 _ rfl)⟩); have HB11 := Lib.hid (show Below W.heap.size W w11 by rw [e11]; exact stepB HB9.out (grown_at HB10.out (Nat.le_refl _) HB10.out.size (grown_setCells _ _ _ _))); clear e11))
      go_wp2_with (first | (go_at_call 9; ((with_reducible refine (RT.out _).mono ?_); rintro x' w12 ⟨rfl, hb12⟩; have HB12 := Lib.hid (stepB HB11.out hb12); have HR12 := Lib.hid (range_below HR11.out.1 hb12 HR11.out.2); have HL12 := Lib.hid (Nat.lt_of_lt_of_le HR11.out.2 hb12.size); clear hb12)) | ((refine al_cell (by rfl) rfl ?_); intro w13 hb13 hs13 ht13; have HB13 := Lib.hid hb13; have HT13 := Lib.hid ht13; clear hb13 hs13 ht13) | ((refine st_cell (c := xc) (by rfl) _ _ rfl rfl rfl HT13.out ?_); rintro w14 e14; have HR14 := Lib.hid (show w14.rangeAt w12.heap.size 0 (CL xc) by rw [e14]; exact World.rangeAt_setCells_same w13 w12.heap.size 0 (CL xc) HT13.out); have hg14 : Below w12.heap.size w12 w14 := (by rw [e14]; exact grown_at HB13.out (Nat.le_refl _) HB13.out.size (grown_setCells _ _ _ _)); have HB14 := Lib.hid (stepB HB12.out hg14); have HX14 := Lib.hid (range_below HR12.out hg14 HL12.out); clear e14 hg14) | (refine ld_cell (by rfl) _ rfl rfl HX14.out ?_) | (refine ld_cell (by rfl) _ rfl rfl HR14.out ?_) | (go_at_call 4; ((with_reducible refine (TX.out _).mono ?_); rintro x' w15 ⟨rfl, hb15⟩; have HB15 := Lib.hid (stepB HB14.out hb15); clear hb15)) | (go_at_call 10; ((with_reducible refine (A1.out _).mono ?_); rintro x' w16 ⟨rfl, hb16⟩; have HB16 := Lib.hid (stepB HB15.out hb16); clear hb16)))
      go_ret
      exact ⟨rfl, stepB HW.out.1 HB16.out⟩
end Go.Proofs.YtfjfnbeegojlbaaDoor

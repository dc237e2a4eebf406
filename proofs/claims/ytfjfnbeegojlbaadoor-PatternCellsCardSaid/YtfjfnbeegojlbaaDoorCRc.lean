/-
  Package pattern's readCell.
-/
import Derived.Test.YtfjfnbeegojlbaaDoorCSp
import Derived.Test.YtfjfnbeegojlbaaDoorPAppA
namespace Go.Proofs.YtfjfnbeegojlbaaDoor
open Go.RowKit

/-- What readCell does. -/
def RdC (T : Option Pt.Cl) (e : Ending) : Prop := match T with | some c => e = .returned (.agg (CL c).toArray) | none => e = Pn 2
/-- Where readCell stands: the cell so far, the fields. -/
structure Rs (w : World) (g b : Nat) (pcs : List ByteArray) (c : Pt.Cl) (u : World) : Prop where
  bel : Below w.heap.size w u
  str : ∀ j x, pcs[j]? = some x → u.cell? ⟨g, j, none⟩ = some (.string x)
  cel : u.rangeAt b 0 (CL c)
  th : u.there b 0 6
  lo : w.heap.size < b ∧ g ≠ b ∧ g < u.heap.size
  res : u.there w.heap.size 0 6
theorem Rs.lt {w u : World} {g b : Nat} {pcs : List ByteArray} {c : Pt.Cl} (h : Rs w g b pcs c u) : b < u.heap.size := cell_lt (h.cel 0 _ rfl)
theorem Rs.below {w u u' : World} {g b : Nat} {pcs : List ByteArray} {c : Pt.Cl} (h : Rs w g b pcs c u) (hb : Below u.heap.size u u') : Rs w g b pcs c u' := by
  have hl := h.lo
  have hz := hb.size
  exact ⟨stepB h.bel hb, fun j x hx => kept_cell hb (h.str j x hx), range_below h.cel hb h.lt, there_below h.th hb h.lt, by omega, there_below h.res hb (by have := h.lt; omega)⟩
theorem Rs.put {w u u' : World} {g b : Nat} {pcs : List ByteArray} {c c' : Pt.Cl} (h : Rs w g b pcs c u) (hp : Put u b 0 c' u') : Rs w g b pcs c' u' := by
  have hl := h.lo
  have hz := hp.gr.size
  have hs := h.bel.size
  refine ⟨grown_at h.bel (by omega) hs hp.gr, fun j x hx => ?_, hp.rg, hp.th, by omega, there_grown h.res hp.gr (by omega) (by have := h.lt; omega)⟩
  rw [World.cell?_of_block (a := ⟨g, j, none⟩) (hp.gr.block g hl.2.2 (by simp; omega))]
  exact h.str j x hx
theorem pcs_at {pcs : List ByteArray} {fs : List (List UInt8)} (h : pcs.map (·.data.toList) = fs) {k : Nat} (hk : k < pcs.length) : ∃ f, pcs[k]? = some f ∧ fs.getD k [] = f.data.toList := by
  refine ⟨pcs[k], List.getElem?_eq_getElem hk, ?_⟩
  rw [← h, List.getD_eq_getElem?_getD, List.getElem?_map, List.getElem?_eq_getElem hk]
  rfl
theorem er {k : Nat} (hk : k < 4) : ∀ args w, (callFunc (rF k) args).run Tryd.prog w = .ok (.enter (rF k) args) w := by
  match k, hk with
  | 0, _ => exact enters_of Tryd.func27 (by kernel_rfl) rfl
  | 1, _ => exact enters_of Tryd.func31 (by kernel_rfl) rfl
  | 2, _ => exact enters_of Tryd.func35 (by kernel_rfl) rfl
  | 3, _ => exact enters_of Tryd.func39 (by kernel_rfl) rfl
theorem g_put2 {k : Nat} (hk : k < 4) (c : Pt.Cl) (v : Int × Int) (b o : Nat) (w : World) (hr : w.rangeAt b o (CL c)) (ht : w.there b o 6) :
    Calls Tryd.prog (uF k) #[.pointer (some ⟨b, o, none⟩), .agg #[.int .i64 v.1, .int .i64 v.2]] w fun x w' => x = .returned (.tuple #[]) ∧ Put w b o (Pt.pw k c v) w' := g_put hk c v b o w hr ht
set_option maxRecDepth 100000 in
set_option maxHeartbeats 3200000 in
theorem p_readCell {w : World} (hm : MaxIs w) (s : ByteArray) (hs : s.size ≤ 140737488355328) :
    Calls Tryd.prog 20 #[.string s] w fun e w' => RdC (Pt.prT (Pt.spl s.data.toList)) e ∧ Below w.heap.size w w' := by
  obtain ⟨pcs, hpc⟩ : ∃ pcs, Lib.splitB ⟨#[32]⟩ 0 (min 4 (s.size + 1) - 1) s = pcs := ⟨_, rfl⟩
  obtain ⟨fs, hfs⟩ : ∃ fs, Pt.spl s.data.toList = fs := ⟨_, rfl⟩
  have hmap : pcs.map (·.data.toList) = fs := by
    rw [← hpc, ← hfs, Lib.splitB_data]
    have : s.data.toList.length = s.size := by simp
    unfold Pt.spl
    rw [this]
  obtain ⟨T, hT⟩ : ∃ T, Pt.prT fs = T := ⟨_, rfl⟩
  rw [hfs, hT]
  have CS := Lib.hid (fun u => l_SplitN s u hs hpc)
  have HT := Lib.hid hT
  have HM := Lib.hid hm
  have HMAP := Lib.hid hmap
  obtain ⟨W, hW⟩ : ∃ W, W = w.alloc (.cells (CL Pt.zc).toArray 23) := ⟨_, rfl⟩
  obtain ⟨b2, hb2⟩ : ∃ b2, b2 = w.heap.size := ⟨_, rfl⟩
  have HW := Lib.hid (show Below w.heap.size w W ∧ W.rangeAt b2 0 (CL Pt.zc) ∧ W.there b2 0 6 ∧ b2 = w.heap.size ∧ W.heap.size = b2 + 1 by rw [hW, hb2]; exact ⟨below_box _ _, range_box _ _ _, there_box _ (CL Pt.zc) _, rfl, by simp⟩)
  obtain ⟨n, hn⟩ : ∃ n, pcs.length = n := ⟨_, rfl⟩
  have HN := Lib.hid hn
  have hn4 : n ≤ 4 := by
    rw [← hn, ← hpc]
    have := Lib.splitB_length_le ⟨#[32]⟩ 0 (min 4 (s.size + 1) - 1) s
    omega
  have hnz : (n : Int) ≤ 4 := by omega
  unfold CL Pt.zc at hW
  clear hs hpc hfs hmap hT hm
  go_enter Tryd.func20, Tryd.ntmps20
  go_upto_region 1 with fail
  rw [← hW, ← hb2]
  clear hW hb2
  go_upto_region 3 with (first | (go_at_call 11; ((with_reducible refine (p_parts _).mono ?_); rintro x' w1 ⟨rfl, hb1⟩; have HB1 := Lib.hid hb1; clear hb1)) | ((refine al_parts (by rfl) rfl ?_); intro w2 hb2 hs2 ht2; have HB2 := Lib.hid hb2; have HT2 := Lib.hid ht2; have HS2 := Lib.hid hs2; clear hb2 hs2 ht2) | ((refine st_row (cs := PL) Tryd.infoParts pl_one (by rfl) _ _ rfl rfl rfl HT2.out ?_); rintro w3 e3; have HR3 := Lib.hid (show w3.rangeAt w1.heap.size 0 PL by rw [e3]; exact World.rangeAt_setCells_same w2 w1.heap.size 0 PL HT2.out); have HB3 := Lib.hid (show Below w1.heap.size w1 w3 by rw [e3]; exact grown_at HB2.out (Nat.le_refl _) (by rw [HS2.out]; omega) (grown_setCells _ _ _ _)); clear e3) | (go_at_call 46; ((with_reducible refine (CS.out _).mono ?_); rintro x' w4 ⟨cap, hcap, rfl, hb4, hg4, hst4⟩; have HB4 := Lib.hid hb4; have HG4 := Lib.hid hg4; have HST := Lib.hid hst4; clear hb4 hg4 hst4; rw [HN.out] at hcap ⊢)))
  have CDo := Lib.hid (fun u => p_demand_ok 2 u)
  have CDb := Lib.hid (fun u => p_demand_bad 2 u)
  unfold Pn at CDb
  have HB4W := Lib.hid (stepB HW.out.1 (stepB HB1.out (stepB HB3.out HB4.out)))
  by_cases h4 : n = 4
  · have e4 : ((n : Int) == 4) = true := by rw [h4]; rfl
    have HN4 := Lib.hid h4
    clear h4 hn
    obtain ⟨w5, hw5⟩ : ∃ w5, w5 = w4.alloc (.cells (CL Pt.zc).toArray 23) := ⟨_, rfl⟩
    obtain ⟨b5, hb5⟩ : ∃ b5, b5 = w4.heap.size := ⟨_, rfl⟩
    obtain ⟨g, hg⟩ : ∃ g, g = w3.heap.size := ⟨_, rfl⟩
    obtain ⟨b3, hb3⟩ : ∃ b3, b3 = w1.heap.size := ⟨_, rfl⟩
    have hB5 : Below w4.heap.size w4 w5 := by rw [hw5]; exact below_box _ _
    have HX5 := Lib.hid (show Rs w g b5 pcs Pt.zc w5 by
      have e1 := HB4W.out.size
      refine ⟨stepB HB4W.out hB5, fun j x hx => ?_, by rw [hw5, hb5]; exact range_box _ _ _, by rw [hw5, hb5]; exact there_box _ (CL Pt.zc) _, by
        have q1 := HG4.out
        have q2 := hB5.size
        have q3 := HW.out
        have q4 := HB1.out.size
        have q5 := HB3.out.size
        have q6 := HB4.out.size
        rw [hg, hb5]
        omega, ?_⟩
      · rw [hg]
        exact kept_cell hB5 (HST.out j x hx)
      · have q := there_below HW.out.2.2.1 (stepB HB1.out (stepB HB3.out (stepB HB4.out hB5))) (by have := HW.out; omega)
        rw [HW.out.2.2.2.1] at q
        exact q)
    have h13 : w1.heap.size < w3.heap.size := cell_lt (HR3.out 0 _ rfl)
    have HP5 := Lib.hid (show w5.rangeAt b3 0 PL by rw [hb3]; exact range_below (range_below HR3.out HB4.out h13) hB5 (by have := HB4.out.size; omega))
    clear h13
    rw [← hg, ← hb3]
    unfold CL Pt.zc at hw5
    have HW5 := Lib.hid hw5
    have HB5 := Lib.hid hb5
    clear hw5 hb5 hg hb3 hB5
    go_upto_region 5 with (first | (go_at_call 47; ((with_reducible refine (CDo.out _).mono ?_); rintro x' w6 ⟨rfl, rfl⟩)))
    rw [← HW5.out, ← HB5.out]
    clear HW5 HB5
    go_wp2_with (first | (refine ld_row (cs := PL) Tryd.underlying39 rfl Tryd.infoParts (by rfl) _ rfl rfl HP5.out ?_))
    have HZ0 := Lib.hid (show Pt.prF fs 0 = some Pt.zc from rfl)
    go_loopw [18] (fun i wr => ∃ (k : Nat) (c : Pt.Cl), k ≤ 4 ∧ i = .int .i64 k ∧ Hid (Pt.prF fs k = some c) ∧ Hid (Rs w g b5 pcs c wr)) (fun i _ => 4 - (intOf i).toNat)
    case atStart => exact ⟨0, _, by omega, rfl, HZ0.out, HX5.out⟩
    case round =>
      obtain ⟨k, c, hk, rfl, HF, HX⟩ := hrel
      by_cases hlt : k < 4
      · have E1 := er hlt
        have E2 := eu hlt
        have HLT := Lib.hid hlt
        have hlt' : (k : Int) < 4 := by omega
        have hltn : k < n := by have := HN4.out; omega
        obtain ⟨f, hf, hfl⟩ := pcs_at HMAP.out (k := k) (by rw [HN.out]; exact hltn)
        have HFP := Lib.hid hf
        have HFL := Lib.hid hfl
        obtain ⟨wk, hwk⟩ : ∃ wk, Pt.wid k = wk := ⟨_, rfl⟩
        have HWK := Lib.hid hwk
        have hw3 : wk ≤ 3 := by rw [← hwk]; unfold Pt.wid; split <;> decide
        have i1 : (0 : Int) ≤ (wk : Int) := by omega
        have i2 : (wk : Int) ≤ 3 := by omega
        clear hlt hf hfl hwk hw3
        go_upto_region 8 with (first | (refine ix_part HLT.out (by rfl) _ _ rfl rfl rfl ?_) | ((refine al_part (by rfl) rfl ?_); intro w6 hb6 hs6 ht6; have HB6 := Lib.hid hb6; have HT6 := Lib.hid ht6; have HS6 := Lib.hid hs6; clear hb6 ht6 hs6) | ((refine st_row (cs := PK k) Tryd.infoPart (pk_one k) (by rfl) _ _ rfl rfl rfl HT6.out ?_); rintro w7 e7; have h7 := World.rangeAt_setCells_same w6 wr.heap.size 0 (PK k) HT6.out; rw [← e7] at h7; have HB7 := Lib.hid (show Below wr.heap.size wr w7 by rw [e7]; exact grown_at HB6.out (Nat.le_refl _) (by rw [HS6.out]; omega) (grown_setCells _ _ _ _)); have H7 := Lib.hid h7; have p1 := H7.out 1 _ rfl; rw [HWK.out] at p1; have HX7 := Lib.hid (HX.out.below HB7.out); have z0 := HX7.out.str k f HFP.out; clear e7 h7))
        have HBW := Lib.hid HX7.out.bel
        by_cases hz : f.size = Pt.wid k
        · have ez : ((f.size : Int) == (wk : Int)) = true := by rw [hz, HWK.out]; exact beq_self_eq_true _
          have HZ := Lib.hid hz
          clear hz
          obtain ⟨D, hD⟩ : ∃ D, Pt.dots wk = D := ⟨_, rfl⟩
          have HD := Lib.hid hD
          unfold Pt.dots at hD
          by_cases hd : f.data.toList = D.data.toList
          · have ed : (f.toList == D.toList) = true := by rw [Lib.toList_data, Lib.toList_data, hd]; exact beq_self_eq_true _
            have HN2 := Lib.hid (show Pt.prF fs (k + 1) = some c by rw [Pt.prF_go HF.out, HFL.out]; exact Pt.stepP_dots (by rw [HWK.out, HD.out]; exact hd))
            clear hd
            go_wp2_with (first | (go_at_call 47; ((with_reducible refine (CDo.out _).mono ?_); rintro x' w8 ⟨rfl, rfl⟩)))
            go_roundw
            case rel => exact ⟨k + 1, c, by have := HLT.out; omega, by go_num, HN2.out, HX7.out⟩
            case measure => simp [intOf]; have := HLT.out; omega
          · have ed : (f.toList == D.toList) = false := by rw [Lib.toList_data, Lib.toList_data]; exact beq_eq_false_iff_ne.2 hd
            have HDN := Lib.hid (show f.data.toList ≠ (Pt.dots (Pt.wid k)).data.toList by rw [HWK.out, HD.out]; exact hd)
            clear hd
            have p5 := H7.out 5 _ rfl
            cases hr : Pt.rd k f.data.toList with
            | none =>
              have GR := Lib.hid (fun u hu => g_read_bad HLT.out (w := u) hu f HZ.out hr)
              have HE := Lib.hid (show T = none by rw [← HT.out]; exact Pt.prT_none (k := k + 1) (by have := HLT.out; omega) (by rw [Pt.prF_go HF.out, HFL.out]; exact Pt.stepP_bad HDN.out hr))
              unfold Pn at GR
              clear hr
              go_wp2_with (first | (go_at_call 47; ((with_reducible refine (CDo.out _).mono ?_); rintro x' w8 ⟨rfl, rfl⟩)) | (go_at_fn (rF k); (with_reducible refine (GR.out _ (HM.out.kept HBW.out)).mono ?_); rintro x' w9 ⟨rfl, hb9⟩))
              rw [HE.out]
              exact ⟨rfl, rfl, stepB HBW.out hb9⟩
            | some v =>
              have GR := Lib.hid (fun u hu => g_read_ok HLT.out (w := u) hu f HZ.out hr)
              have eV : VV v = .agg #[.int .i64 v.1, .int .i64 v.2] := rfl
              have S1 := Lib.hid (fun u => p_set v u)
              rw [eV] at GR S1
              cases hs : Pt.isSet v with
              | false =>
                rw [hs] at S1
                have HE := Lib.hid (show T = none by rw [← HT.out]; exact Pt.prT_none (k := k + 1) (by have := HLT.out; omega) (by rw [Pt.prF_go HF.out, HFL.out]; exact Pt.stepP_zero HDN.out hr hs))
                clear hr hs eV
                go_wp2_with (first | (go_at_call 47; ((with_reducible refine (CDo.out _).mono ?_); rintro x' w8 ⟨rfl, rfl⟩)) | (go_at_fn (rF k); (with_reducible refine (GR.out _ (HM.out.kept HBW.out)).mono ?_); rintro x' w9 ⟨rfl, hb9⟩; have HB9 := Lib.hid hb9; clear hb9) | (go_at_call 12; ((with_reducible refine (S1.out _).mono ?_); rintro x' w10 ⟨rfl, hb10⟩; have HB10 := Lib.hid hb10; clear hb10)) | (go_at_call 47; ((with_reducible refine (CDb.out _).mono ?_); rintro x' w8 ⟨rfl, rfl⟩)))
                rw [HE.out]
                exact ⟨rfl, rfl, stepB HBW.out (stepB HB9.out (stepB (below_box _ _) HB10.out))⟩
              | true =>
                rw [hs] at S1
                have HN2 := Lib.hid (show Pt.prF fs (k + 1) = some (Pt.pw k c v) by rw [Pt.prF_go HF.out, HFL.out]; exact Pt.stepP_set HZ.out HDN.out hr hs)
                clear hr hs eV
                go_wp2_with (first | (go_at_call 47; ((with_reducible refine (CDo.out _).mono ?_); rintro x' w8 ⟨rfl, rfl⟩)) | (go_at_fn (rF k); (with_reducible refine (GR.out _ (HM.out.kept HBW.out)).mono ?_); rintro x' w9 ⟨rfl, hb9⟩; have HB9 := Lib.hid hb9; clear hb9) | (go_at_call 12; ((with_reducible refine (S1.out _).mono ?_); rintro x' w10 ⟨rfl, hb10⟩; have HB10 := Lib.hid hb10; clear hb10; have HB710 := Lib.hid (stepB HB9.out (stepB (below_box w9 (.cells (VL v).toArray 42)) HB10.out)); have p3 := range_below H7.out HB710.out (cell_lt (H7.out 0 _ rfl)) 3 _ rfl; have HX10 := Lib.hid (HX7.out.below HB710.out); have q6 := range_below (range_box w9 (VL v) 42) HB10.out (by simp); have q0 := q6 0 _ rfl; have q1 := q6 1 _ rfl; clear q6; have U1 := Lib.hid (g_put2 HLT.out c v b5 0 w10 HX10.out.cel HX10.out.th))) | (go_at_fn (uF k); (with_reducible refine U1.out.mono ?_); rintro x' w11 ⟨rfl, hp11⟩; have HX11 := Lib.hid (HX10.out.put hp11); clear hp11))
                go_roundw
                case rel => exact ⟨k + 1, _, by have := HLT.out; omega, by go_num, HN2.out, HX11.out⟩
                case measure => simp [intOf]; have := HLT.out; omega
        · have ez : ((f.size : Int) == (wk : Int)) = false := by rw [← HWK.out]; exact beq_eq_false_iff_ne.2 (by omega)
          have HE := Lib.hid (show T = none by
            rw [← HT.out]
            refine Pt.prT_none (k := k + 1) (by have := HLT.out; omega) ?_
            rw [Pt.prF_go HF.out, HFL.out]
            exact Pt.stepP_len (by rw [Array.length_toList]; exact hz))
          clear hz
          go_wp2_with (first | (go_at_call 47; ((with_reducible refine (CDb.out _).mono ?_); rintro x' w8 ⟨rfl, rfl⟩)))
          rw [HE.out]
          exact ⟨rfl, rfl, HBW.out⟩
      · obtain rfl : k = 4 := by omega
        have hlt' : ¬ ((4 : Nat) : Int) < 4 := by omega
        have CV := Lib.hid (fun u => p_ValidCell c u)
        cases hv : Pt.vcl c with
        | false =>
          rw [hv] at CV
          have HE := Lib.hid (show T = none by rw [← HT.out]; unfold Pt.prT; rw [HF.out]; simp only [hv]; split <;> rfl)
          clear hv
          go_wp2_with (first | (refine ld_cell (by rfl) _ rfl rfl HX.out.cel ?_) | (go_at_call 6; ((with_reducible refine (CV.out _).mono ?_); rintro x' w6 ⟨rfl, hb6⟩; have HB6 := Lib.hid hb6; clear hb6)) | (go_at_call 47; ((with_reducible refine (CDb.out _).mono ?_); rintro x' w8 ⟨rfl, rfl⟩)))
          rw [HE.out]
          exact ⟨rfl, rfl, stepB HX.out.bel HB6.out⟩
        | true =>
          rw [hv] at CV
          have HE := Lib.hid (show T = some c by rw [← HT.out]; unfold Pt.prT; rw [HF.out]; simp only [hv, if_true]; rw [if_pos]; rw [← HMAP.out, List.length_map, HN.out, HN4.out])
          have HB2 := Lib.hid HW.out.2.2.2.1
          clear hv
          go_wp2_with (first | (refine ld_cell (by rfl) _ rfl rfl HX.out.cel ?_) | (refine ld_cell (by rfl) _ rfl rfl HX6.out.cel ?_) | (go_at_call 6; ((with_reducible refine (CV.out _).mono ?_); rintro x' w6 ⟨rfl, hb6⟩; have HX6 := Lib.hid (HX.out.below hb6); clear hb6; have HT6 := Lib.hid (show w6.there b2 0 6 by rw [HB2.out]; exact HX6.out.res))) | (go_at_call 47; ((with_reducible refine (CDo.out _).mono ?_); rintro x' w8 ⟨rfl, rfl⟩)) | ((refine st_cell (c := c) (by rfl) _ _ rfl rfl rfl HT6.out ?_); rintro w9 e9; have HR9 := Lib.hid (show w9.rangeAt b2 0 (CL c) by rw [e9]; exact World.rangeAt_setCells_same w6 b2 0 (CL c) HT6.out); have HB9 := Lib.hid (show Below w.heap.size w w9 by rw [e9]; exact grown_at HX6.out.bel (by rw [HB2.out]; exact Nat.le_refl _) HX6.out.bel.size (grown_setCells _ _ _ _)); clear e9))
          rw [HE.out]
          exact bodyPost_ret (res_row (cs := CL c) Tryd.underlying23 rfl (info_cl c) rfl rfl HR9.out) rfl ⟨rfl, HB9.out⟩
  · have e4 : ((n : Int) == 4) = false := beq_eq_false_iff_ne.2 (by omega)
    have HE := Lib.hid (show T = none by rw [← HT.out]; unfold Pt.prT; rw [if_neg]; rw [← HMAP.out, List.length_map, HN.out]; exact h4)
    clear h4 hn
    go_wp2_with (first | (go_at_call 47; ((with_reducible refine (CDb.out _).mono ?_); rintro x' w6 ⟨rfl, rfl⟩)))
    rw [HE.out]
    exact ⟨rfl, rfl, HB4W.out⟩
end Go.Proofs.YtfjfnbeegojlbaaDoor

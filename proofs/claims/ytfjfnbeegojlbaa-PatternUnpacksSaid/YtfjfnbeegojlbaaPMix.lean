/-
  Package pattern's mixed.
-/
import Derived.Test.YtfjfnbeegojlbaaPPart
import Derived.Test.YtfjfnbeegojlbaaPCopy
import Derived.Shelf.Abstract
namespace Go.Proofs.Ytfjfnbeegojlbaa
open Go.RowKit

namespace Pt
/-- The first k parts are mixed. -/
def mixTo : Nat → Cl → Cl → Cl
  | 0, o, _ => o
  | k + 1, o, c => if isSet (pv k (mixTo k o c)) then mixTo k o c else pw k (mixTo k o c) (pv k c)
theorem mixTo_all (o c : Cl) : mixTo 4 o c = mixed o c := by
  obtain ⟨a1, a2, a3, a4, a5, a6⟩ := o
  obtain ⟨c1, c2, c3, c4, c5, c6⟩ := c
  by_cases h1 : a1 = 0 <;> by_cases h2 : a2 = 0 <;> by_cases h3 : a3 = 0 <;> by_cases h5 : a5 = 0 <;> simp [mixTo, mixed, isSet, pv, pw, h1, h2, h3, h5]
end Pt
theorem eg {k : Nat} (hk : k < 4) : ∀ args w, (callFunc (gF k) args).run Try.prog w = .ok (.enter (gF k) args) w := by
  match k, hk with
  | 0, _ => exact enters_of Try.func64 (by kernel_rfl) rfl
  | 1, _ => exact enters_of Try.func68 (by kernel_rfl) rfl
  | 2, _ => exact enters_of Try.func72 (by kernel_rfl) rfl
  | 3, _ => exact enters_of Try.func76 (by kernel_rfl) rfl
theorem eu {k : Nat} (hk : k < 4) : ∀ args w, (callFunc (uF k) args).run Try.prog w = .ok (.enter (uF k) args) w := by
  match k, hk with
  | 0, _ => exact enters_of Try.func65 (by kernel_rfl) rfl
  | 1, _ => exact enters_of Try.func69 (by kernel_rfl) rfl
  | 2, _ => exact enters_of Try.func73 (by kernel_rfl) rfl
  | 3, _ => exact enters_of Try.func77 (by kernel_rfl) rfl
section
variable {ops : Array Oper} {rest : List Oper} {op : Oper} {a : Act} {w : World} {Q : Exit → Act → World → Prop}
set_option maxRecDepth 100000 in
/-- The part of a number, out of all parts. -/
theorem ix_part {k : Nat} (hk : k < 4) (hw : Region.wanted op (yielded ops a.tmps) = true) (x y : Operand) (ho : op.op = .index 90 x y) (hx : a.eval x = .agg PL.toArray) (hy : a.eval y = .int .i64 (k : Int))
    (h : wpList Try.prog ops Q rest (a.put op.dst (.agg (PK k).toArray)) w) : wpList Try.prog ops Q (op :: rest) a w := by
  simp only [wpList, hw, if_true]
  refine .inl ?_
  unfold Oper.wp execOp
  simp only [ho, hx, hy]
  match k, hk with
  | 0, _ => simp [go_sem, PL, PK]; exact h
  | 1, _ => simp [go_sem, PL, PK]; exact h
  | 2, _ => simp [go_sem, PL, PK]; exact h
  | 3, _ => simp [go_sem, PL, PK]; exact h
/-- Room for a part. -/
theorem al_part (hw : Region.wanted op (yielded ops a.tmps) = true) (ho : op.op = .alloc 89)
    (h : ∀ w', Below w.heap.size w w' → w'.heap.size = w.heap.size + 1 → w'.there w.heap.size 0 6 → wpList Try.prog ops Q rest (a.put op.dst (.pointer (some ⟨w.heap.size, 0, none⟩))) w') : wpList Try.prog ops Q (op :: rest) a w := by
  simp only [wpList, hw, if_true]
  refine .inl ?_
  unfold Oper.wp execOp
  simp only [ho]
  simp [go_sem]
  refine h _ (below_box _ _) (by simp) ?_
  exact there_box w [_, _, _, _, _, _] _
end
theorem grown_put {W u w' : World} {b o : Nat} {c : Pt.Cl} (hP : Put u b o c w') (hb : Below W.heap.size W u) : W.grownBy w' (some b) := grownBy_trans (grownBy_of hb) hP.gr
theorem keepMix {W : World} {b q : Nat} {c : Pt.Cl} {k : Nat} (hc : W.rangeAt (b + 1) 0 (CL c)) (hp : W.rangeAt q 0 (PK k)) (n : q ≠ b) {w' : World} (hb : W.grownBy w' (some b)) :
    W.grownBy w' (some b) ∧ w'.cell? ⟨q, 2, none⟩ = some (.func (.func (gF k)) #[] #[]) ∧ w'.cell? ⟨q, 3, none⟩ = some (.func (.func (uF k)) #[] #[]) ∧ w'.cell? ⟨b + 1, 0, none⟩ = some (.int .i64 c.nt) ∧ w'.cell? ⟨b + 1, 1, none⟩ = some (.int .i64 c.it) ∧ w'.cell? ⟨b + 1, 2, none⟩ = some (.int .i64 c.vc) ∧ w'.cell? ⟨b + 1, 3, none⟩ = some (.int .i64 c.va) ∧ w'.cell? ⟨b + 1, 4, none⟩ = some (.int .i64 c.ef) ∧ w'.cell? ⟨b + 1, 5, none⟩ = some (.int .i64 c.pa) :=
  have m : b + 1 ≠ b := by omega
  ⟨hb, cell_grown hb (hp 2 _ rfl) n, cell_grown hb (hp 3 _ rfl) n, cell_grown hb (hc 0 _ rfl) m, cell_grown hb (hc 1 _ rfl) m, cell_grown hb (hc 2 _ rfl) m, cell_grown hb (hc 3 _ rfl) m, cell_grown hb (hc 4 _ rfl) m, cell_grown hb (hc 5 _ rfl) m⟩
set_option maxRecDepth 100000 in
set_option maxHeartbeats 3200000 in
theorem p_mixed (o c : Pt.Cl) (w : World) :
    Calls Try.prog 32 #[.agg (CL o).toArray, .agg (CL c).toArray] w fun x w' => x = .returned (.agg (CL (Pt.mixed o c)).toArray) ∧ Below w.heap.size w w' := by
  obtain ⟨W, hW⟩ : ∃ W, W = ((w.alloc (.cells (CL o).toArray 28)).alloc (.cells (CL c).toArray 28)).alloc (.cells (CL Pt.zc).toArray 28) := ⟨_, rfl⟩
  have hB : Below w.heap.size w W := by rw [hW]; exact stepB (stepB (below_box _ _) (below_box _ _)) (below_box _ _)
  have hs : W.heap.size = w.heap.size + 3 := by rw [hW]; simp
  obtain ⟨b, hb⟩ : ∃ b, b = w.heap.size := ⟨_, rfl⟩
  have e1 : (w.alloc (.cells (CL o).toArray 28)).heap.size = b + 1 := by rw [hb]; simp
  have e2 : ((w.alloc (.cells (CL o).toArray 28)).alloc (.cells (CL c).toArray 28)).heap.size = b + 2 := by rw [hb]; simp
  have h0 : W.rangeAt b 0 (CL o) ∧ W.there b 0 6 := by
    rw [hW]
    constructor
    · exact range_below (range_below (by rw [hb]; exact range_box _ _ _) (below_box _ _) (by omega)) (below_box _ _) (by omega)
    · exact there_below (there_below (by rw [hb]; exact there_box w (CL o) _) (below_box _ _) (by omega)) (below_box _ _) (by omega)
  have h1 : W.rangeAt (b + 1) 0 (CL c) := by
    rw [hW]
    exact range_below (by rw [← e1]; exact range_box _ _ _) (below_box _ _) (by omega)
  have h2 : W.there (b + 2) 0 6 := by
    rw [hW, ← e2]
    exact there_box _ (CL Pt.zc) _
  have HB := Lib.hid hB
  rw [← hb] at hs
  have HS := Lib.hid hs
  have H0 := Lib.hid h0
  have H1 := Lib.hid h1
  have H2 := Lib.hid h2
  have HBE := Lib.hid hb
  have HM := Lib.hid (Pt.mixTo_all o c)
  rw [cl_arr o, cl_arr c, cl_zc] at hW
  clear hB hs e1 e2 h0 h1 h2
  rw [cl_arr o, cl_arr c]
  go_enter Try.func32, Try.ntmps32
  go_upto_region 1 with fail
  rw [← hW, ← hb]
  clear hW hb
  go_wp2_with (first | (go_at_call 49; ((with_reducible refine (p_parts _).mono ?_); rintro x' w1 ⟨rfl, hb1⟩; have HB1 := Lib.hid hb1; clear hb1)))
  go_loopw [8] (fun i wr => ∃ k : Nat, k ≤ 4 ∧ i = .int .i64 k ∧ Hid (w1.grownBy wr (some b)) ∧ Hid (wr.rangeAt b 0 (CL (Pt.mixTo k o c)) ∧ wr.there b 0 6)) (fun i _ => 4 - (intOf i).toNat)
  case atStart => exact ⟨0, by omega, rfl, grownBy_refl _ _, range_below H0.out.1 HB1.out (by have := HS.out; omega), there_below H0.out.2 HB1.out (by have := HS.out; omega)⟩
  case round =>
    obtain ⟨k, hk, rfl, HG, HR⟩ := hrel
    by_cases hlt : k < 4
    · obtain ⟨m, hm⟩ : ∃ m, Pt.mixTo k o c = m := ⟨_, rfl⟩
      rw [hm] at HR
      have HMK := Lib.hid hm
      have E1 := eg hlt
      have E2 := eu hlt
      have HLT := Lib.hid hlt
      have hlt' : (k : Int) < 4 := by omega
      have HC1 := Lib.hid (range_grown (range_below H1.out HB1.out (by have := HS.out; omega)) HG.out (by omega) (by have := HS.out; have := HB1.out.size; omega))
      have HSZ := Lib.hid (show b + 3 ≤ wr.heap.size by have := HS.out; have := HB1.out.size; have := HG.out.size; omega)
      obtain ⟨v, hv⟩ : ∃ v, Pt.pv k m = v := ⟨_, rfl⟩
      have G1 := Lib.hid (fun u => g_get hlt m u)
      rw [hv] at G1
      have S1 := Lib.hid (fun u => p_set v u)
      clear hm hlt
      cases hvs : Pt.isSet v with
      | true =>
        rw [hvs] at S1
        have HV := Lib.hid hvs
        have HVV := Lib.hid hv
        clear hvs hv
        go_wp2_with (first | (refine ix_part HLT.out (by rfl) _ _ rfl rfl rfl ?_) | ((refine al_part (by rfl) rfl ?_); intro w2 hb2 hs2 ht2; have HB2 := Lib.hid hb2; have HT2 := Lib.hid ht2; have HS2 := Lib.hid hs2; clear hb2 ht2 hs2) | ((refine st_row (cs := PK k) Try.infoPart (pk_one k) (by rfl) _ _ rfl rfl rfl HT2.out ?_); rintro w3 e3; have h3 := World.rangeAt_setCells_same w2 wr.heap.size 0 (PK k) HT2.out; rw [← e3] at h3; have HB3 := Lib.hid (show Below wr.heap.size wr w3 by rw [e3]; exact grown_at HB2.out (Nat.le_refl _) (by rw [HS2.out]; omega) (grown_setCells _ _ _ _)); have p2 := h3 2 _ rfl; have p3 := h3 3 _ rfl; clear e3) | (refine ld_cell (by rfl) _ rfl rfl (range_below HR.out.1 HB3.out (by have := HSZ.out; omega)) ?_) | (go_at_fn (gF k); (with_reducible refine (G1.out _).mono ?_); rintro x' w4 ⟨rfl, hb4⟩; have HB4 := Lib.hid hb4; clear hb4) | (go_at_call 50; ((with_reducible refine (S1.out _).mono ?_); rintro x' w5 ⟨rfl, hb5⟩; have HB5 := Lib.hid hb5; clear hb5)))
        go_roundw
        case rel =>
          have hb5 := stepB (stepB HB3.out HB4.out) HB5.out
          have e : Pt.mixTo (k + 1) o c = m := by
            show (if Pt.isSet (Pt.pv k (Pt.mixTo k o c)) then Pt.mixTo k o c else _) = m
            rw [HMK.out, HVV.out, HV.out]
            rfl
          refine ⟨k + 1, by omega, by go_num, grownBy_trans HG.out (grownBy_of hb5), ?_, ?_⟩
          · rw [e]; exact range_below HR.out.1 hb5 (by have := HSZ.out; omega)
          · exact there_below HR.out.2 hb5 (by have := HSZ.out; omega)
        case measure => simp [intOf]; omega
      | false =>
        rw [hvs] at S1
        have HV := Lib.hid hvs
        have HVV := Lib.hid hv
        have G2 := Lib.hid (fun u => g_get HLT.out c u)
        rw [cl_arr c] at G2
        have U1 := Lib.hid (fun u hr ht => g_put HLT.out m (Pt.pv k c) b 0 u hr ht)
        obtain ⟨z, hz⟩ : ∃ z, Pt.pv k c = z := ⟨_, rfl⟩
        rw [hz] at G2 U1
        have HZ := Lib.hid hz
        clear hvs hv hz
        go_upto_region 5 with (first | (refine ix_part HLT.out (by rfl) _ _ rfl rfl rfl ?_) | ((refine al_part (by rfl) rfl ?_); intro w2 hb2 hs2 ht2; have HB2 := Lib.hid hb2; have HT2 := Lib.hid ht2; have HS2 := Lib.hid hs2; clear hb2 ht2 hs2) | ((refine st_row (cs := PK k) Try.infoPart (pk_one k) (by rfl) _ _ rfl rfl rfl HT2.out ?_); rintro w3 e3; have h3 := World.rangeAt_setCells_same w2 wr.heap.size 0 (PK k) HT2.out; rw [← e3] at h3; have H3 := Lib.hid h3; have HB3 := Lib.hid (show Below wr.heap.size wr w3 by rw [e3]; exact grown_at HB2.out (Nat.le_refl _) (by rw [HS2.out]; omega) (grown_setCells _ _ _ _)); have p2 := H3.out 2 _ rfl; have p3 := H3.out 3 _ rfl; clear h3; clear e3) | (refine ld_cell (by rfl) _ rfl rfl (range_below HR.out.1 HB3.out (by have := HSZ.out; omega)) ?_) | (go_at_fn (gF k); (with_reducible refine (G1.out _).mono ?_); rintro x' w4 ⟨rfl, hb4⟩; have HB4 := Lib.hid hb4; clear hb4) | (go_at_call 50; ((with_reducible refine (S1.out _).mono ?_); rintro x' w5 ⟨rfl, hb5⟩; have HB5 := Lib.hid hb5; clear hb5)))
        obtain ⟨q, hq⟩ : ∃ q, q = wr.heap.size := ⟨_, rfl⟩
        have hb45 := stepB HB4.out HB5.out
        have HRW := Lib.hid (range_below (range_below HR.out.1 HB3.out (by have := HSZ.out; omega)) hb45 (by have := HSZ.out; have := HB3.out.size; omega))
        have HTW := Lib.hid (there_below (there_below HR.out.2 HB3.out (by have := HSZ.out; omega)) hb45 (by have := HSZ.out; have := HB3.out.size; omega))
        have HCW := Lib.hid (range_below (range_below HC1.out HB3.out (by have := HSZ.out; omega)) hb45 (by have := HSZ.out; have := HB3.out.size; omega))
        have HPW := Lib.hid (range_below H3.out hb45 (by have := HS2.out; have := cell_lt p2; exact this))
        have HNE := Lib.hid (show q ≠ b by have := HSZ.out; omega)
        have HB45 := Lib.hid (stepB HB3.out hb45)
        rw [← hq] at HPW
        have hlb : b < w5.heap.size := by have := HSZ.out; have := HB45.out.size; omega
        rw [← hq]
        clear hq hb45 p2 p3
        have HRX := Lib.hid (fun u (hu : Below w5.heap.size w5 u) => range_below HRW.out hu hlb)
        have HTX := Lib.hid (fun u (hu : Below w5.heap.size w5 u) => there_below HTW.out hu hlb)
        have G3 := Lib.hid (fun u (hu : Below w5.heap.size w5 u) => onB hu (G2.out u))
        have hg0 := (Below.refl w5.heap.size w5).drew
        have hg := keepMix HCW.out HPW.out HNE.out (grownBy_of hg0)
        clear hlb
        go_region_held3 (fun w' => w5.grownBy w' (some b) ∧ w'.cell? ⟨q, 2, none⟩ = some (.func (.func (gF k)) #[] #[]) ∧ w'.cell? ⟨q, 3, none⟩ = some (.func (.func (uF k)) #[] #[]) ∧ w'.cell? ⟨b + 1, 0, none⟩ = some (.int .i64 c.nt) ∧ w'.cell? ⟨b + 1, 1, none⟩ = some (.int .i64 c.it) ∧ w'.cell? ⟨b + 1, 2, none⟩ = some (.int .i64 c.vc) ∧ w'.cell? ⟨b + 1, 3, none⟩ = some (.int .i64 c.va) ∧ w'.cell? ⟨b + 1, 4, none⟩ = some (.int .i64 c.ef) ∧ w'.cell? ⟨b + 1, 5, none⟩ = some (.int .i64 c.pa))
          (first | with_reducible exact hg | (with_reducible refine keepMix HCW.out HPW.out HNE.out (grownBy_of ?_); with_reducible assumption) | exact keepMix HCW.out HPW.out HNE.out (grown_put hB7 hB6))
          (first | (go_at_fn (gF k); with_reducible refine (G3.out _ ?_).mono ?_; with_reducible assumption; rintro x' w6 ⟨rfl, hB6⟩; have r6 := HRX.out _ hB6; have t6 := HTX.out _ hB6) | (go_at_fn (uF k); with_reducible refine (U1.out _ ?_ ?_).mono ?_; with_reducible assumption; with_reducible assumption; rintro x' w7 ⟨rfl, hB7⟩))
        go_wp2
        go_roundw
        case rel =>
          have e : Pt.mixTo (k + 1) o c = Pt.pw k m z := by
            show (if Pt.isSet (Pt.pv k (Pt.mixTo k o c)) then Pt.mixTo k o c else Pt.pw k (Pt.mixTo k o c) (Pt.pv k c)) = _
            rw [HMK.out, HVV.out, HV.out, HZ.out]
            rfl
          refine ⟨k + 1, by have := HLT.out; omega, by go_num, grownBy_trans HG.out (grownBy_trans (grownBy_of HB45.out) (grown_put hB7 hB6)), ?_, hB7.th⟩
          rw [e]
          exact hB7.rg
        case measure => simp [intOf]; omega
    · obtain rfl : k = 4 := by omega
      rw [HM.out] at HR
      have HRW := Lib.hid HR.out.1
      have HT2 := Lib.hid (there_grown (there_below H2.out HB1.out (by have := HS.out; omega)) HG.out (by omega) (by have := HS.out; have := HB1.out.size; omega))
      go_wp2_with (first | (refine ld_cell (by rfl) _ rfl rfl HRW.out ?_) | ((refine st_cell (by rfl) _ _ rfl rfl rfl HT2.out ?_); intro w5 e5; have E5 := Lib.hid e5; clear e5))
      have hr := World.rangeAt_setCells_same wr (b + 2) 0 (CL (Pt.mixed o c)) HT2.out
      have e1 := HBE.out
      have e2 := HS.out
      have e3 := HB1.out.size
      have e4 := HG.out.size
      rw [← E5.out] at hr
      refine bodyPost_ret (res_row (cs := CL (Pt.mixed o c)) Try.underlying28 rfl (info_cl _) rfl rfl hr) rfl ⟨rfl, ?_⟩
      rw [E5.out]
      exact grown_at (grown_at (stepB HB.out HB1.out) (by omega) (by omega) HG.out) (g := b + 2) (by omega) (by omega) (grown_setCells _ _ _ _)
end Go.Proofs.Ytfjfnbeegojlbaa

/-
  The reference's line; rows that are laid one after the other. The reference's Insert. The reference's Delete. Interpolation: what the loop has done; the reference's Floor.
-/
import Derived.Test.YtfjfnbeegojlbaaGreatRBadB
import Derived.Test.YtfjfnbeegojlbaaGreatGj
import Derived.Test.YtfjfnbeegojlbaaGreatRTr
namespace Go.Proofs.YtfjfnbeegojlbaaGreat
open Go.RowKit

/-- A row of a pattern; an empty one where there is none. -/
def lnL (l : List Pt.Cl) (C : Nat) (y : Int) (R : Nat) : List Pt.Cl := if Pt.plc y R then (l.drop (y.toNat * C)).take C else List.replicate C Pt.zc
theorem ln_in {l : List Pt.Cl} {C R y : Nat} (h : y < R) : lnL l C y R = (l.drop (y * C)).take C := by
  unfold lnL
  rw [if_pos (show Pt.plc (y : Int) (R : Int) = true from decide_eq_true (by omega))]
  rfl
theorem ln_out {l : List Pt.Cl} {C R : Nat} {y : Int} (h : Pt.plc y R = false) : lnL l C y R = List.replicate C Pt.zc := by
  unfold lnL
  rw [h]
  rfl
theorem row_in {R C y : Nat} (h : y < R) : y * C + C ≤ R * C := by
  have := Nat.mul_le_mul_right C (show y + 1 ≤ R from h)
  rwa [Nat.add_mul, Nat.one_mul] at this
theorem ln_len {l : List Pt.Cl} {C R : Nat} (hl : l.length = R * C) (y : Int) : (lnL l C y R).length = C := by
  cases h : Pt.plc y R with
  | false => rw [ln_out h, List.length_replicate]
  | true =>
    obtain ⟨a1, a2⟩ := plt h
    obtain ⟨m, rfl⟩ : ∃ m : Nat, y = m := ⟨y.toNat, by omega⟩
    have := row_in (R := R) (C := C) (y := m) (by omega)
    rw [ln_in (by omega), List.length_take, List.length_drop, hl]
    omega
theorem ln_at {l : List Pt.Cl} {C R y j : Nat} (h : y < R) (hj : j < C) : Pt.at' (lnL l C y R) j = Pt.at' l (y * C + j) := by rw [ln_in h, Pt.at_take _ _ _ hj, Pt.at_drop]
theorem ln_zc {l : List Pt.Cl} {C R j : Nat} {y : Int} (h : Pt.plc y R = false) : Pt.at' (lnL l C y R) j = Pt.zc := by rw [ln_out h]; exact Pt.at_rep _ _
theorem take_row {T r : List Pt.Cl} {k C : Nat} (hr : r.length = C) (hT : k * C + C ≤ T.length) (hat : ∀ j, j < C → Pt.at' T (k * C + j) = Pt.at' r j) : T.take ((k + 1) * C) = T.take (k * C) ++ r := by
  have e : (k + 1) * C = k * C + C := by rw [Nat.add_mul, Nat.one_mul]
  refine Pt.ext_at (by rw [List.length_append, List.length_take, List.length_take, hr, e]; omega) fun i hi => ?_
  rw [List.length_take, e] at hi
  rw [e, Pt.at_take _ _ _ (by omega), Pt.at_app, List.length_take, Nat.min_eq_left (by omega)]
  by_cases h : i < k * C
  · rw [if_pos h, Pt.at_take _ _ _ h]
  · rw [if_neg h, ← hat _ (by omega), show k * C + (i - k * C) = i by omega]
theorem ins_step {l : List Pt.Cl} {R C y row : Nat} {z : Int} (hl : l.length = R * C) (hy : y < R) (hz : (y < row ∧ z = y) ∨ (y = row ∧ z = -1) ∨ (row < y ∧ z = (y : Int) - 1)) : (Pt.insL l C row).take ((y + 1) * C) = (Pt.insL l C row).take (y * C) ++ lnL l C z R := by
  have hi := row_in (C := C) hy
  have hlen : (Pt.insL l C row).length = R * C := (Pt.mk_len _ _).trans hl
  refine take_row (ln_len hl z) (by rw [hlen]; exact hi) fun j hj => ?_
  unfold Pt.insL
  rw [Pt.mk_at _ _ (by rw [hl]; omega)]
  rcases hz with ⟨h, rfl⟩ | ⟨rfl, rfl⟩ | ⟨h, rfl⟩
  · have := row_in (C := C) h
    rw [if_pos (by omega), ln_at hy hj]
  · rw [if_neg (by omega), if_pos (by omega), ln_zc (decide_eq_false (by omega))]
  · have := row_in (C := C) h
    obtain ⟨m, rfl⟩ : ∃ m, y = m + 1 := ⟨y - 1, by omega⟩
    rw [if_neg (by omega), if_neg (by omega), show ((m + 1 : Nat) : Int) - 1 = (m : Nat) by omega, ln_at (by omega) hj, Nat.add_mul, Nat.one_mul, show m * C + C + j - C = m * C + j by omega]
theorem ins_all {l : List Pt.Cl} {R C row : Nat} (hl : l.length = R * C) : (Pt.insL l C row).take (R * C) = Pt.insL l C row := List.take_of_length_le (by rw [show (Pt.insL l C row).length = R * C from (Pt.mk_len _ _).trans hl]; exact Nat.le_refl _)
theorem del_step {l : List Pt.Cl} {R C y k row : Nat} (hl : l.length = R * C) (hr : row < R) (hy : y ≤ R) (hz : (y < row ∧ k = y) ∨ (row < y ∧ y = k + 1)) : (Pt.delL l C row).take ((k + 1) * C) = (Pt.delL l C row).take (k * C) ++ lnL l C y R := by
  have hi := row_in (R := R) (C := C) (y := k) (by omega)
  have hlen : (Pt.delL l C row).length = R * C := (Pt.mk_len _ _).trans hl
  refine take_row (ln_len hl y) (by rw [hlen]; exact hi) fun j hj => ?_
  unfold Pt.delL
  rw [Pt.mk_at _ _ (by rw [hl]; omega)]
  rcases hz with ⟨h, rfl⟩ | ⟨h, rfl⟩
  · have := row_in (C := C) h
    rw [if_pos (by omega), ln_at (by omega) hj]
  · have h1 : row ≤ k := by omega
    have := Nat.mul_le_mul_right C h1
    rw [if_neg (by omega)]
    by_cases h2 : k + 1 < R
    · have h3 := row_in (C := C) h2
      rw [Nat.add_mul, Nat.one_mul] at h3
      rw [if_pos (by rw [hl]; omega), ln_at h2 hj, Nat.add_mul, Nat.one_mul]
      congr 1
      omega
    · obtain rfl : R = k + 1 := by omega
      rw [if_neg (by rw [hl, Nat.add_mul, Nat.one_mul]; omega), ln_zc (decide_eq_false (by omega))]
theorem del_all {l : List Pt.Cl} {R C row : Nat} (hl : l.length = R * C) : (Pt.delL l C row).take (R * C) = Pt.delL l C row := List.take_of_length_le (by rw [show (Pt.delL l C row).length = R * C from (Pt.mk_len _ _).trans hl]; exact Nat.le_refl _)
set_option maxHeartbeats 1600000 in
theorem r_line_in (R C y M : Nat) (l : List Pt.Cl) (b0 off n cap : Nat) (w : World) (hb0 : b0 < w.heap.size) (hr0 : w.rangeAt b0 off (cc l)) (hln : l.length = n) (hM : y * C = M) (hy : y < R) (hR : R ≤ 64) (h1 : 1 ≤ C) (h2 : C ≤ 16) (hn : M + C ≤ n) (hc : n ≤ cap) (hb : n ≤ 1024) :
    Calls Tryz.prog 55 #[PV R (some ⟨b0, off, none⟩) n cap, .int .i64 C, .int .i64 y] w fun x w' => (∃ q c, x = .returned (.slice q C c) ∧ CellsAt w' q ((l.drop M).take C)) ∧ Below w.heap.size w w' := by
  have CI := Lib.hid (r_inside_v (show Pt.plc (y : Int) (R : Int) = true from decide_eq_true (by omega)))
  have HB0 := Lib.hid hb0
  have HR0 := Lib.hid (show w.rangeAt b0 (off + M * 6) (cc ((l.drop M).take C)) from rng_sub hr0 M C (by rw [hln]; exact hn))
  obtain ⟨E, hE⟩ : ∃ E, M + C = E := ⟨_, rfl⟩
  have hM' : (y : Int) * (C : Int) = (M : Int) := by rw [← hM, Int.natCast_mul]
  have hE' : ((y : Int) + 1) * (C : Int) = (E : Int) := by rw [Int.add_mul, hM']; omega
  have m1 : (M : Int) ≤ 1024 := by omega
  have m2 : (E : Int) ≤ 1024 := by omega
  have m3 : (y : Int) ≤ 64 := by omega
  have m5 : (C : Int) ≤ 16 := by omega
  have m6 : M ≤ cap := by omega
  have m7 : E ≤ cap := by omega
  have m8 : ¬ cap = M := by omega
  have m9 : M ≤ E := by omega
  have HE := Lib.hid hE
  unfold PV
  clear hM hE hn hb hb0 hr0 hln hy hR h1 h2 hc
  go_enter Tryz.func55, Tryz.ntmps55
  go_wp2_with (first | (go_at_call 36; ((with_reducible refine (CI.out _).mono ?_); rintro x' w1 ⟨rfl, rfl⟩)))
  go_ret
  exact ⟨⟨some ⟨b0, off + M * 6, none⟩, cap - M, by show Ending.returned (.slice _ (E - M) _) = _; rw [show E - M = C by have := HE.out; omega], .inr ⟨b0, off + M * 6, rfl, by have := HB0.out; simp; omega, range_below HR0.out (below_box _ _) HB0.out⟩⟩, below_box _ _⟩
set_option maxHeartbeats 1600000 in
theorem r_line_out (R C : Nat) (y : Int) (v : Value) (w : World) (hy : Pt.plc y R = false) (h2 : C ≤ 16) :
    Calls Tryz.prog 55 #[.agg #[.int .i64 R, v], .int .i64 C, .int .i64 y] w fun x w' => (∃ q c, x = .returned (.slice q C c) ∧ CellsAt w' q (List.replicate C Pt.zc)) ∧ Below w.heap.size w w' := by
  obtain ⟨i0, hinf, hz0, hz1, hz2⟩ := info_parts Tryz.infoCell
  have CI := Lib.hid (r_inside_v hy)
  obtain ⟨W, hW⟩ : ∃ W, W = w.alloc (.cells #[.int .i64 R, v] 24) := ⟨_, rfl⟩
  have HB := Lib.hid (show Below w.heap.size w W by rw [hW]; exact below_box _ _)
  obtain ⟨b, hb⟩ : ∃ b, b = w.heap.size := ⟨_, rfl⟩
  have k0 : W.cell? ⟨b, 0, none⟩ = some (.int .i64 R) := by rw [hW, hb]; simp
  clear hy
  go_enter Tryz.func55, Tryz.ntmps55
  go_upto_region 1 with fail
  rw [← hW, ← hb]
  clear hW hb
  go_wp2_with (first | (go_at_call 36; ((with_reducible refine (CI.out _).mono ?_); rintro x' w1 ⟨rfl, rfl⟩)) | (at_make; go_loud (refine wpList_make_full _ rfl _ _ 22 rfl W.heap.size 28 i0 (.agg #[.int .i64 0, .int .i64 0, .int .i64 0, .int .i64 0, .int .i64 0, .int .i64 0]) 6 Tryz.underlying22 hinf hz0 hz1 .i64 .i64 _ _ C rfl rfl rfl rfl (by rw [hz2]; omega) (by unfold maxLen; omega) (Nat.le_refl _) ?_; intro w3 hown3 hgrow3; have HR3 := Lib.hid (show w3.ownsRow W.heap.size 28 6 (.slice (some ⟨W.heap.size, 0, none⟩) C C) C (cc (List.replicate C Pt.zc)) by rw [← made_cells]; exact hown3); have HB3 := Lib.hid (grown_below hgrow3); clear hown3 hgrow3)))
  go_ret
  obtain ⟨q, cap, e, h1, h3⟩ := rows_own HR3.out (by simp)
  rw [List.length_replicate] at e
  exact ⟨⟨_, _, rfl, by cases e; exact h3.at⟩, stepB HB.out HB3.out⟩
theorem r_line (R C : Nat) (y : Int) (l : List Pt.Cl) (b0 off n cap : Nat) (w : World) (hb0 : b0 < w.heap.size) (hr0 : w.rangeAt b0 off (cc l)) (hln : l.length = n) (hl : l.length = R * C) (hR : R ≤ 64) (h1 : 1 ≤ C) (h2 : C ≤ 16) (hc : n ≤ cap) (hb : n ≤ 1024) :
    Calls Tryz.prog 55 #[PV R (some ⟨b0, off, none⟩) n cap, .int .i64 C, .int .i64 y] w fun x w' => (∃ q c, x = .returned (.slice q C c) ∧ CellsAt w' q (lnL l C y R)) ∧ Below w.heap.size w w' := by
  cases h : Pt.plc y R with
  | false =>
    rw [ln_out h]
    exact r_line_out R C y _ w h h2
  | true =>
    obtain ⟨a1, a2⟩ := plt h
    obtain ⟨m, rfl⟩ : ∃ m : Nat, y = m := ⟨y.toNat, by omega⟩
    rw [ln_in (show m < R by omega)]
    have := row_in (R := R) (C := C) (y := m) (by omega)
    exact r_line_in R C m _ l b0 off n cap w hb0 hr0 hln rfl (by omega) hR h1 h2 (by omega) hc hb

theorem pb_apart {w w' : World} {b : Nat} {rr : Option Nat} {r : Int} {v : Value} (h : Pb w b r v) (hg : w.grownBy w' rr) (hne : rr ≠ some b) : Pb w' b r v := by
  have hb := hg.block b h.lt (fun e => hne e.symm)
  exact ⟨fun j u hu => by rw [World.cell?_of_block (a := ⟨b, 0 + j, none⟩) hb]; exact h.1 j u hu, fun j hj => by rw [World.cell?_of_block (a := ⟨b, 0 + j, none⟩) hb, World.frozen?_of_block (a := ⟨b, 0 + j, none⟩) hb]; exact h.2 j hj⟩
theorem grown_new {w w1 w2 : World} {b : Nat} {rr : Option Nat} (h1 : w.grownBy w1 (some b)) (h2 : w1.grownBy w2 rr) (hr : ∀ k, rr = some k → w.heap.size ≤ k) : w.grownBy w2 (some b) :=
  ⟨h2.os.trans h1.os, h2.tape.trans h1.tape, h2.output.trans h1.output, Nat.le_trans h1.size h2.size, fun k hk hne => (h2.block k (Nat.lt_of_lt_of_le hk h1.size) (fun e => by have := hr k e.symm; omega)).trans (h1.block k hk hne)⟩
/-- What the loop keeps: the pattern that grows lies in block b8. -/
def Gw (W : World) (b8 D C R k : Nat) (T : List Pt.Cl) (q : Option Addr) (m c : Nat) (u : World) : Prop := W.grownBy u (some b8) ∧ Pb u b8 R (.slice q m c) ∧ m = k * C ∧ Oc u D (.slice q m c) (T.take (k * C))
/-- A row has been appended and stored. -/
theorem Gw.app {W u u' v : World} {b8 D C R k m c m' c' : Nat} {T r : List Pt.Cl} {q q' : Option Addr} (h : Gw W b8 D C R k T q m c u) (hb : Below u.heap.size u u') (hg : u'.grownBy v (Value.ownBlock (.slice q m c))) (hD : W.heap.size ≤ D ∧ b8 < D) (hm : m' = m + C) (ho : Oc v D (.slice q' m' c') (T.take (k * C) ++ r)) (hT : T.take ((k + 1) * C) = T.take (k * C) ++ r) : Gw W b8 D C R (k + 1) T q' m' c' (v.setCell ⟨b8, 1, none⟩ (.slice q' m' c')) := by
  obtain ⟨h1, h2, h3, h4⟩ := h
  have hv : W.grownBy v (some b8) := grown_new (grownBy_trans h1 (grownBy_of hb)) hg (fun k hk => Nat.le_trans hD.1 (h4.lt k hk).1)
  have hp : Pb v b8 R (.slice q m c) := pb_apart (h2.kept hb) hg (fun e => by have := (h4.lt b8 e).1; omega)
  refine ⟨grownBy_trans hv (grown_set _ _ _ _), hp.set1 _, by rw [hm, h3, Nat.add_mul, Nat.one_mul], ?_⟩
  rw [hT]
  exact ho.grown (grown_set v b8 1 _) (fun e => by have := (ho.lt b8 e).1; omega)
theorem Gw.fz {W u u' v : World} {b8 D C R k m c : Nat} {T : List Pt.Cl} {q : Option Addr} (h : Gw W b8 D C R k T q m c u) (hb : Below u.heap.size u u') (hg : u'.grownBy v (Value.ownBlock (.slice q m c))) (hD : W.heap.size ≤ D ∧ b8 < D) : v.cell? ⟨b8, 1, none⟩ = some (.slice q m c) ∧ v.frozen? ⟨b8, 1, none⟩ = false := by
  have hp : Pb v b8 R (.slice q m c) := pb_apart (h.2.1.kept hb) hg (fun e => by have := (h.2.2.2.lt b8 e).1; omega)
  exact ⟨hp.1 1 _ rfl, (hp.2 1 (by decide)).2⟩
set_option maxRecDepth 100000 in
set_option maxHeartbeats 6400000 in
theorem r_Insert_ok (R C row : Nat) (l : List Pt.Cl) (b0 off cap : Nat) (w : World) (hb0 : b0 < w.heap.size) (hr0 : w.rangeAt b0 off (cc l)) (hcap : l.length ≤ cap) (h1 : Pt.vpat R l C = true) (g2 : R ≤ 64) (g3 : 1 ≤ C) (g4 : C ≤ 16) (hl : l.length = R * C) (hrow : row < R) :
    Calls Tryz.prog 22 #[PV R (some ⟨b0, off, none⟩) l.length cap, .int .i64 C, .int .i64 row] w fun x w' => RetPE R (Pt.insL l C row) 0 w.heap.size x w' ∧ Below w.heap.size w w' := by
  obtain ⟨W, hW, hB, hs, hp, hr⟩ := two_new' w R (.slice (some ⟨b0, off, none⟩) l.length cap)
  have HB := Lib.hid hB
  have HP := Lib.hid hp
  have HR := Lib.hid hr
  have HS := Lib.hid hs
  have hbW : b0 < W.heap.size := Nat.lt_of_lt_of_le hb0 hB.size
  have hrW : W.rangeAt b0 off (cc l) := range_below hr0 hB hb0
  have CV := Lib.hid (fun u (hu : Below W.heap.size W u) => r_Valid R l (some ⟨b0, off, none⟩) cap C u (.inr ⟨b0, off, rfl, Nat.lt_of_lt_of_le hbW hu.size, range_below hrW hu hbW⟩))
  rw [h1] at CV
  have hn1 : l.length ≤ 1024 := by rw [hl]; exact Pt.rc_bound g2 g4
  have CR := Lib.hid (fun u => r_inside_v (show Pt.plc (row : Int) (R : Int) = true from decide_eq_true (by omega)) u)
  obtain ⟨n, hnn⟩ : ∃ n, l.length = n := ⟨_, rfl⟩
  have CLn := Lib.hid (fun (y : Int) u (hu : Below W.heap.size W u) => r_line R C y l b0 off n cap u (Nat.lt_of_lt_of_le hbW hu.size) (range_below hrW hu hbW) hnn hl g2 g3 g4 (by rw [← hnn]; exact hcap) (by rw [← hnn]; exact hn1))
  obtain ⟨b, hb⟩ : ∃ b, b = w.heap.size := ⟨_, rfl⟩
  rw [← hb] at hp HP HR HS
  have HBE := Lib.hid hb
  have HBc := Lib.hid (Below.refl W.heap.size W)
  unfold PV at CV CLn ⊢
  obtain ⟨TT, hTT⟩ : ∃ TT, Pt.insL l C row = TT := ⟨_, rfl⟩
  have HTE := Lib.hid hTT
  have HTL := Lib.hid (show TT.length = l.length from by rw [← hTT]; exact Pt.mk_len _ _)
  have HTA := Lib.hid (show TT.take (R * C) = TT from by rw [← hTT]; exact ins_all hl)
  have HN := Lib.hid (show l.length = n ∧ l.length = R * C ∧ n ≤ 1024 ∧ R ≤ 64 ∧ 1 ≤ C ∧ C ≤ 16 ∧ row < R from ⟨hnn, hl, by rw [← hnn]; exact hn1, g2, g3, g4, hrow⟩)
  have m1 : (R : Int) ≤ 64 := by omega
  have m2 : (row : Int) < (R : Int) := by omega
  rw [hTT]
  rw [hnn] at hW HP CV hp ⊢
  obtain ⟨k0, k1⟩ := two_cells hp (Below.refl _ W)
  clear hB hs hp hr h1 hl hn1 hnn g2 g3 g4 hb0 hr0 hcap hrow hbW hrW hTT
  go_enter Tryz.func22, Tryz.ntmps22
  go_upto_region 1 with fail
  rw [← hW, ← hb]
  clear hW hb
  go_upto_region 6 with (first | (refine ld_pat (by rfl) (.tmp 3) rfl rfl (HP.out.kept HBc.out).1 ?_) | (go_at_call 10; ((with_reducible refine (CV.out _ HBc.out).mono ?_); rintro x' w1 ⟨rfl, hb1⟩; have HBn := Lib.hid (stepB HBc.out hb1); clear HBc k0 k1 hb1; have HBc := HBn; clear HBn; obtain ⟨k0, k1⟩ := two_cells HP.out HBc.out)) | (go_at_call 36; ((with_reducible refine (CR.out _).mono ?_); rintro x' w3 ⟨rfl, rfl⟩)) | ((refine st_pat (by rfl) (.tmp 8) _ rfl rfl rfl (pb_box _ _ _ _).2 ?_); intro w4 h4 g4; have H4 := Lib.hid h4; have G4 := Lib.hid g4; clear h4 g4))
  obtain ⟨b8, hb8⟩ : ∃ b8, b8 = w1.heap.size := ⟨_, rfl⟩
  have HB4 := Lib.hid (show Below W.heap.size W w4 from grown_at (stepB HBc.out (below_box _ (.cells #[.int .i64 0, .slice none 0 0] 24))) HBc.out.size (by simp; exact Nat.le_succ_of_le HBc.out.size) G4.out)
  have HGE := Lib.hid (show W.heap.size ≤ b8 ∧ b8 < w4.heap.size ∧ b + 2 = W.heap.size ∧ w.heap.size = b ∧ W.heap.size ≤ w4.heap.size from ⟨by rw [hb8]; exact HBc.out.size, by rw [hb8]; exact H4.out.lt, HS.out.symm, HBE.out.symm, HB4.out.size⟩)
  have HD8 := Lib.hid (show w4.heap.size ≤ w4.heap.size ∧ b8 < w4.heap.size from ⟨Nat.le_refl _, HGE.out.2.1⟩)
  rw [← hb8] at H4 ⊢
  clear hb8 k0 k1
  have HU := Lib.hid (show ∀ u : World, w4.grownBy u (some b8) → Pb u b R (.slice (some ⟨b0, off, none⟩) n cap) ∧ Pb u (b + 1) 0 (.slice none 0 0) ∧ Below W.heap.size W u from fun u hu => by
    obtain ⟨e1, e2, e3, e4, e5⟩ := HGE.out
    exact ⟨(HP.out.kept HB4.out).grown hu (by omega), (HR.out.kept HB4.out).grown hu (by omega), grown_at HB4.out e1 e5 hu⟩)
  go_wp2
  go_loopw [9] (fun i wr => ∃ (y m cq : Nat) (q : Option Addr), y ≤ R ∧ i = .int .i64 y ∧ Hid (Gw w4 b8 w4.heap.size C R y TT q m cq wr)) (fun i _ => R - (intOf i).toNat)
  case atStart => exact ⟨0, 0, 0, none, by omega, rfl, grownBy_refl _ _, H4.out, by simp, by rw [Nat.zero_mul, List.take_zero]; exact Oc.nil _ _⟩
  case round =>
    obtain ⟨y, m, cq, q, hy, rfl, HQ⟩ := hrel
    obtain ⟨hp', hr', hbw⟩ := HU.out _ HQ.out.1
    have HBW := Lib.hid hbw
    have HPR := Lib.hid hp'
    have HRR := Lib.hid hr'
    obtain ⟨k0, k1, _, _⟩ := hp'.cells
    clear hp' hr' hbw
    by_cases hlt : y < R
    · have hlt' : (y : Int) < (R : Int) := by omega
      have HKR := Lib.hid (show y * C ≤ n by have := row_in (C := C) hlt; have := HN.out; omega)
      have HLT := Lib.hid hlt
      clear hy hlt
      by_cases c1 : y < row
      · have c1' : (y : Int) < (row : Int) := by omega
        have HC1 := Lib.hid c1
        clear c1
        have HCL := Lib.hid (fun u (hu : Below wr.heap.size wr u) => CLn.out ((y : Int)) u (stepB HBW.out hu))
        have HST := Lib.hid (show TT.take ((y + 1) * C) = TT.take (y * C) ++ lnL l C (y : Int) R from by rw [← HTE.out]; exact ins_step HN.out.2.1 HLT.out (.inl ⟨HC1.out, rfl⟩))
        have j1 := (HQ.out.2.1).1 1 _ rfl
        have HF6 := Lib.hid (show ∀ u : World, Below wr.heap.size wr u → Oc u w4.heap.size (.slice q m cq) ((TT).take (y * C)) ∧ ((TT).take (y * C)).length = m ∧ (lnL l C ((y : Int)) R).length = C ∧ w4.heap.size ≤ u.heap.size ∧ m ≤ 100000 ∧ C ≤ 100000 from fun u hu => by
          have hh := HQ.out.2.2.2
          have e := hh.1
          refine ⟨hh.kept hu, ?_, ln_len HN.out.2.1 _, Nat.le_trans HQ.out.1.size hu.size, ?_, ?_⟩
          · rw [HQ.out.2.2.1, List.length_take, Nat.min_eq_left]
            rw [HTL.out, HN.out.1]
            exact HKR.out
          · have := HKR.out; have := HN.out; have := HQ.out.2.2.1; omega
          · have := HN.out; omega)
        go_upto_region 11 with fail
        go_region_law (first | (go_simp; go_at_call 55; (with_reducible refine (HCL.out _ (Below.refl _ _).drew).mono ?_); rintro x' w6 ⟨⟨q6, c6, rfl, hq6⟩, hb6⟩; have HB6 := Lib.hid (below_of_drew hb6); have HQ6 := Lib.hid hq6; have y1 := kept_cell HB6.out j1; obtain ⟨z0, z1⟩ := two_cells HPR.out HB6.out; clear hq6 hb6) | (refine step_app_c rfl (.tmp 46) (.tmp 50) rfl rfl rfl (HF6.out _ HB6.out).1 HQ6.out (HF6.out _ HB6.out).2 ?_; intro p7 c7 w7 h7 g7 a7; have f7 := HQ.out.fz HB6.out g7 HD8.out; have H7 := Lib.hid h7; have G7 := Lib.hid g7; obtain ⟨f70, f71⟩ := f7; clear h7 g7 a7))
        all_goals
          have HNW := Lib.hid (HQ.out.app HB6.out G7.out HD8.out rfl H7.out HST.out)
          obtain ⟨w8, h8⟩ : ∃ w8, w8 = w7.setCell ⟨b8, 1, none⟩ (.slice p7 (m + C) c7) := ⟨_, rfl⟩
          rw [← h8] at HNW
          rw [← h8]
          clear h8
          go_wp2
          go_roundw
          case rel => exact ⟨y + 1, m + C, c7, p7, HLT.out, by go_num, HNW.out⟩
          case measure => simp [intOf]; have := HLT.out; omega
      · by_cases c2 : y = row
        · have c2' : ((y : Int) == (row : Int)) = true := by simp [c2]
          have c1' : ¬ (y : Int) < (row : Int) := by omega
          have HC2 := Lib.hid c2
          clear c1 c2
          have HCL := Lib.hid (fun u (hu : Below wr.heap.size wr u) => CLn.out ((-1 : Int)) u (stepB HBW.out hu))
          have HST := Lib.hid (show TT.take ((y + 1) * C) = TT.take (y * C) ++ lnL l C (-1 : Int) R from by rw [← HTE.out]; exact ins_step HN.out.2.1 HLT.out (.inr (.inl ⟨HC2.out, rfl⟩)))
          have j1 := (HQ.out.2.1).1 1 _ rfl
          have HF6 := Lib.hid (show ∀ u : World, Below wr.heap.size wr u → Oc u w4.heap.size (.slice q m cq) ((TT).take (y * C)) ∧ ((TT).take (y * C)).length = m ∧ (lnL l C ((-1 : Int)) R).length = C ∧ w4.heap.size ≤ u.heap.size ∧ m ≤ 100000 ∧ C ≤ 100000 from fun u hu => by
            have hh := HQ.out.2.2.2
            have e := hh.1
            refine ⟨hh.kept hu, ?_, ln_len HN.out.2.1 _, Nat.le_trans HQ.out.1.size hu.size, ?_, ?_⟩
            · rw [HQ.out.2.2.1, List.length_take, Nat.min_eq_left]
              rw [HTL.out, HN.out.1]
              exact HKR.out
            · have := HKR.out; have := HN.out; have := HQ.out.2.2.1; omega
            · have := HN.out; omega)
          go_upto_region 13 with fail
          go_region_law (first | (go_simp; go_at_call 55; (with_reducible refine (HCL.out _ (Below.refl _ _).drew).mono ?_); rintro x' w6 ⟨⟨q6, c6, rfl, hq6⟩, hb6⟩; have HB6 := Lib.hid (below_of_drew hb6); have HQ6 := Lib.hid hq6; have y1 := kept_cell HB6.out j1; obtain ⟨z0, z1⟩ := two_cells HPR.out HB6.out; clear hq6 hb6) | (refine step_app_c rfl (.tmp 58) (.tmp 61) rfl rfl rfl (HF6.out _ HB6.out).1 HQ6.out (HF6.out _ HB6.out).2 ?_; intro p7 c7 w7 h7 g7 a7; have f7 := HQ.out.fz HB6.out g7 HD8.out; have H7 := Lib.hid h7; have G7 := Lib.hid g7; obtain ⟨f70, f71⟩ := f7; clear h7 g7 a7))
          all_goals
            have HNW := Lib.hid (HQ.out.app HB6.out G7.out HD8.out rfl H7.out HST.out)
            obtain ⟨w8, h8⟩ : ∃ w8, w8 = w7.setCell ⟨b8, 1, none⟩ (.slice p7 (m + C) c7) := ⟨_, rfl⟩
            rw [← h8] at HNW
            rw [← h8]
            clear h8
            go_wp2
            go_roundw
            case rel => exact ⟨y + 1, m + C, c7, p7, HLT.out, by go_num, HNW.out⟩
            case measure => simp [intOf]; have := HLT.out; omega
        · have c2' : ((y : Int) == (row : Int)) = false := by simp; omega
          have c1' : ¬ (y : Int) < (row : Int) := by omega
          have c3 : 1 ≤ y := by omega
          have c3' : IntKind.i64.wrap ((y : Int) - 1) = (y : Int) - 1 := by rw [IntKind.wrap_i64]; omega
          have HC3 := Lib.hid (show row < y by omega)
          clear c1 c2 c3
          have HCL := Lib.hid (fun u (hu : Below wr.heap.size wr u) => CLn.out ((y : Int) - 1) u (stepB HBW.out hu))
          have HST := Lib.hid (show TT.take ((y + 1) * C) = TT.take (y * C) ++ lnL l C ((y : Int) - 1) R from by rw [← HTE.out]; exact ins_step HN.out.2.1 HLT.out (.inr (.inr ⟨HC3.out, rfl⟩)))
          have j1 := (HQ.out.2.1).1 1 _ rfl
          have HF6 := Lib.hid (show ∀ u : World, Below wr.heap.size wr u → Oc u w4.heap.size (.slice q m cq) ((TT).take (y * C)) ∧ ((TT).take (y * C)).length = m ∧ (lnL l C ((y : Int) - 1) R).length = C ∧ w4.heap.size ≤ u.heap.size ∧ m ≤ 100000 ∧ C ≤ 100000 from fun u hu => by
            have hh := HQ.out.2.2.2
            have e := hh.1
            refine ⟨hh.kept hu, ?_, ln_len HN.out.2.1 _, Nat.le_trans HQ.out.1.size hu.size, ?_, ?_⟩
            · rw [HQ.out.2.2.1, List.length_take, Nat.min_eq_left]
              rw [HTL.out, HN.out.1]
              exact HKR.out
            · have := HKR.out; have := HN.out; have := HQ.out.2.2.1; omega
            · have := HN.out; omega)
          go_upto_region 9 with fail
          go_region_law (first | (go_simp; go_at_call 55; (with_reducible refine (HCL.out _ (Below.refl _ _).drew).mono ?_); rintro x' w6 ⟨⟨q6, c6, rfl, hq6⟩, hb6⟩; have HB6 := Lib.hid (below_of_drew hb6); have HQ6 := Lib.hid hq6; have y1 := kept_cell HB6.out j1; obtain ⟨z0, z1⟩ := two_cells HPR.out HB6.out; clear hq6 hb6) | (refine step_app_c rfl (.tmp 33) (.tmp 38) rfl rfl rfl (HF6.out _ HB6.out).1 HQ6.out (HF6.out _ HB6.out).2 ?_; intro p7 c7 w7 h7 g7 a7; have f7 := HQ.out.fz HB6.out g7 HD8.out; have H7 := Lib.hid h7; have G7 := Lib.hid g7; obtain ⟨f70, f71⟩ := f7; clear h7 g7 a7))
          all_goals
            have HNW := Lib.hid (HQ.out.app HB6.out G7.out HD8.out rfl H7.out HST.out)
            obtain ⟨w8, h8⟩ : ∃ w8, w8 = w7.setCell ⟨b8, 1, none⟩ (.slice p7 (m + C) c7) := ⟨_, rfl⟩
            rw [← h8] at HNW
            rw [← h8]
            clear h8
            go_wp2
            go_roundw
            case rel => exact ⟨y + 1, m + C, c7, p7, HLT.out, by go_num, HNW.out⟩
            case measure => simp [intOf]; have := HLT.out; omega
    · obtain rfl : y = R := by omega
      go_wp2_with (first | (refine ld_pat (by rfl) (.tmp 8) rfl rfl HQ.out.2.1.1 ?_) | ((refine st_pat (by rfl) (.tmp 6) _ rfl rfl rfl HRR.out.2 ?_); intro w5 h5 g5; have H5 := Lib.hid h5; have G5 := Lib.hid g5; clear h5 g5))
      obtain ⟨e1, e2, e3, e4, e5⟩ := HGE.out
      have hh := HQ.out.2.2.2
      have e6 := HQ.out.1.size
      rw [HTA.out] at hh
      obtain ⟨q', cq', e, hc, ho⟩ := hh.own
      simp only [Value.slice.injEq] at e
      obtain ⟨rfl, rfl, rfl⟩ := e
      refine bodyPost_ret (res_pe rfl rfl H5.out.1 rfl) rfl ⟨⟨q, cq, rfl, hc, (ho.grown G5.out (by omega)).mono (by omega)⟩, grown_at (grown_at (stepB HB.out HB4.out) (by omega) (by omega) HQ.out.1) (by omega) (by omega) G5.out⟩
theorem r_Insert (r : Int) (l : List Pt.Cl) (p : Option Addr) (cap : Nat) (ch row : Int) (w : World) (hd : CellsAt w p l) (hcap : l.length ≤ cap) :
    Calls Tryz.prog 22 #[PV r p l.length cap, .int .i64 ch, .int .i64 row] w fun x w' => RetPE (Pt.okI (Pt.ePlace r l ch row 0) r) (Pt.okL (Pt.ePlace r l ch row 0) (Pt.insL l ch.toNat row.toNat)) (Pt.ePlace r l ch row 0) w.heap.size x w' ∧ Below w.heap.size w w' := by
  by_cases h : Pt.ePlace r l ch row 0 = 0
  · rw [h]
    obtain ⟨R, C, y, x, rfl, rfl, rfl, hx, g1, g2, g3, g4, g5, g6, g7, g8⟩ := place_nx h
    have h1 : 1 ≤ C := by omega
    rcases hd with rfl | ⟨b1, o1, rfl, hb1, hr1⟩
    · simp at g6
    · exact r_Insert_ok R C y l b1 o1 cap w hb1 hr1 hcap g8 g3 h1 g4 g5 g1
  · have e1 : Pt.okI (Pt.ePlace r l ch row 0) r = 0 := if_neg h
    have e2 : Pt.okL (Pt.ePlace r l ch row 0) (Pt.insL l ch.toNat row.toNat) = [] := if_neg h
    rw [e1, e2]
    exact r_Insert_bad r l p cap ch row w hd rfl h

set_option maxRecDepth 100000 in
set_option maxHeartbeats 6400000 in
theorem r_Delete_ok (R C row : Nat) (l : List Pt.Cl) (b0 off cap : Nat) (w : World) (hb0 : b0 < w.heap.size) (hr0 : w.rangeAt b0 off (cc l)) (hcap : l.length ≤ cap) (h1 : Pt.vpat R l C = true) (g2 : R ≤ 64) (g3 : 1 ≤ C) (g4 : C ≤ 16) (hl : l.length = R * C) (hrow : row < R) :
    Calls Tryz.prog 24 #[PV R (some ⟨b0, off, none⟩) l.length cap, .int .i64 C, .int .i64 row] w fun x w' => RetPE R (Pt.delL l C row) 0 w.heap.size x w' ∧ Below w.heap.size w w' := by
  obtain ⟨W, hW, hB, hs, hp, hr⟩ := two_new' w R (.slice (some ⟨b0, off, none⟩) l.length cap)
  have HB := Lib.hid hB
  have HP := Lib.hid hp
  have HR := Lib.hid hr
  have HS := Lib.hid hs
  have hbW : b0 < W.heap.size := Nat.lt_of_lt_of_le hb0 hB.size
  have hrW : W.rangeAt b0 off (cc l) := range_below hr0 hB hb0
  have CV := Lib.hid (fun u (hu : Below W.heap.size W u) => r_Valid R l (some ⟨b0, off, none⟩) cap C u (.inr ⟨b0, off, rfl, Nat.lt_of_lt_of_le hbW hu.size, range_below hrW hu hbW⟩))
  rw [h1] at CV
  have hn1 : l.length ≤ 1024 := by rw [hl]; exact Pt.rc_bound g2 g4
  have CR := Lib.hid (fun u => r_inside_v (show Pt.plc (row : Int) (R : Int) = true from decide_eq_true (by omega)) u)
  obtain ⟨n, hnn⟩ : ∃ n, l.length = n := ⟨_, rfl⟩
  have CLn := Lib.hid (fun (y : Int) u (hu : Below W.heap.size W u) => r_line R C y l b0 off n cap u (Nat.lt_of_lt_of_le hbW hu.size) (range_below hrW hu hbW) hnn hl g2 g3 g4 (by rw [← hnn]; exact hcap) (by rw [← hnn]; exact hn1))
  obtain ⟨b, hb⟩ : ∃ b, b = w.heap.size := ⟨_, rfl⟩
  rw [← hb] at hp HP HR HS
  have HBE := Lib.hid hb
  have HBc := Lib.hid (Below.refl W.heap.size W)
  unfold PV at CV CLn ⊢
  obtain ⟨TT, hTT⟩ : ∃ TT, Pt.delL l C row = TT := ⟨_, rfl⟩
  have HTE := Lib.hid hTT
  have HTL := Lib.hid (show TT.length = l.length from by rw [← hTT]; exact Pt.mk_len _ _)
  have HTA := Lib.hid (show TT.take (R * C) = TT from by rw [← hTT]; exact del_all hl)
  have HN := Lib.hid (show l.length = n ∧ l.length = R * C ∧ n ≤ 1024 ∧ R ≤ 64 ∧ 1 ≤ C ∧ C ≤ 16 ∧ row < R from ⟨hnn, hl, by rw [← hnn]; exact hn1, g2, g3, g4, hrow⟩)
  have m1 : (R : Int) ≤ 64 := by omega
  have m2 : (row : Int) < (R : Int) := by omega
  rw [hTT]
  rw [hnn] at hW HP CV hp ⊢
  obtain ⟨k0, k1⟩ := two_cells hp (Below.refl _ W)
  clear hB hs hp hr h1 hl hn1 hnn g2 g3 g4 hb0 hr0 hcap hrow hbW hrW hTT
  go_enter Tryz.func24, Tryz.ntmps24
  go_upto_region 1 with fail
  rw [← hW, ← hb]
  clear hW hb
  go_upto_region 6 with (first | (refine ld_pat (by rfl) (.tmp 3) rfl rfl (HP.out.kept HBc.out).1 ?_) | (go_at_call 10; ((with_reducible refine (CV.out _ HBc.out).mono ?_); rintro x' w1 ⟨rfl, hb1⟩; have HBn := Lib.hid (stepB HBc.out hb1); clear HBc k0 k1 hb1; have HBc := HBn; clear HBn; obtain ⟨k0, k1⟩ := two_cells HP.out HBc.out)) | (go_at_call 36; ((with_reducible refine (CR.out _).mono ?_); rintro x' w3 ⟨rfl, rfl⟩)) | ((refine st_pat (by rfl) (.tmp 8) _ rfl rfl rfl (pb_box _ _ _ _).2 ?_); intro w4 h4 g4; have H4 := Lib.hid h4; have G4 := Lib.hid g4; clear h4 g4))
  obtain ⟨b8, hb8⟩ : ∃ b8, b8 = w1.heap.size := ⟨_, rfl⟩
  have HB4 := Lib.hid (show Below W.heap.size W w4 from grown_at (stepB HBc.out (below_box _ (.cells #[.int .i64 0, .slice none 0 0] 24))) HBc.out.size (by simp; exact Nat.le_succ_of_le HBc.out.size) G4.out)
  have HGE := Lib.hid (show W.heap.size ≤ b8 ∧ b8 < w4.heap.size ∧ b + 2 = W.heap.size ∧ w.heap.size = b ∧ W.heap.size ≤ w4.heap.size from ⟨by rw [hb8]; exact HBc.out.size, by rw [hb8]; exact H4.out.lt, HS.out.symm, HBE.out.symm, HB4.out.size⟩)
  have HD8 := Lib.hid (show w4.heap.size ≤ w4.heap.size ∧ b8 < w4.heap.size from ⟨Nat.le_refl _, HGE.out.2.1⟩)
  rw [← hb8] at H4 ⊢
  clear hb8 k0 k1
  have HU := Lib.hid (show ∀ u : World, w4.grownBy u (some b8) → Pb u b R (.slice (some ⟨b0, off, none⟩) n cap) ∧ Pb u (b + 1) 0 (.slice none 0 0) ∧ Below W.heap.size W u from fun u hu => by
    obtain ⟨e1, e2, e3, e4, e5⟩ := HGE.out
    exact ⟨(HP.out.kept HB4.out).grown hu (by omega), (HR.out.kept HB4.out).grown hu (by omega), grown_at HB4.out e1 e5 hu⟩)
  go_wp2
  go_loopw [9] (fun i wr => ∃ (y k m cq : Nat) (q : Option Addr), y ≤ R + 1 ∧ ((y ≤ row ∧ k = y) ∨ (row < y ∧ y = k + 1)) ∧ i = .int .i64 y ∧ Hid (Gw w4 b8 w4.heap.size C R k TT q m cq wr)) (fun i _ => R + 1 - (intOf i).toNat)
  case atStart => exact ⟨0, 0, 0, 0, none, by omega, .inl ⟨by omega, rfl⟩, rfl, grownBy_refl _ _, H4.out, by simp, by rw [Nat.zero_mul, List.take_zero]; exact Oc.nil _ _⟩
  case round =>
    obtain ⟨y, k, m, cq, q, hy, hk, rfl, HQ⟩ := hrel
    obtain ⟨hp', hr', hbw⟩ := HU.out _ HQ.out.1
    have HBW := Lib.hid hbw
    have HPR := Lib.hid hp'
    have HRR := Lib.hid hr'
    obtain ⟨k0, k1, _, _⟩ := hp'.cells
    clear hp' hr' hbw
    by_cases hlt : y ≤ R
    · have hlt' : (y : Int) ≤ (R : Int) := by omega
      have HLT := Lib.hid hlt
      clear hy hlt
      by_cases c1 : y = row
      · have c1' : ((y : Int) == (row : Int)) = true := by simp [c1]
        have HC1 := Lib.hid c1
        have HK := Lib.hid hk
        clear c1 hk
        go_wp2
        go_roundw
        case rel => exact ⟨y + 1, k, m, cq, q, by have := HLT.out; omega, .inr (by have := HK.out; have := HC1.out; omega), by go_num, HQ.out⟩
        case measure => simp [intOf]; have := HLT.out; omega
      · have c1' : ((y : Int) == (row : Int)) = false := by simp; omega
        have HKR := Lib.hid (show k * C ≤ n by
          have := HN.out
          have := row_in (R := R) (C := C) (y := k) (by omega)
          omega)
        have HK := Lib.hid (show (y < row ∧ k = y) ∨ (row < y ∧ y = k + 1) by omega)
        clear c1 hk
        have HCL := Lib.hid (fun u (hu : Below wr.heap.size wr u) => CLn.out ((y : Int)) u (stepB HBW.out hu))
        have HST := Lib.hid (show TT.take ((k + 1) * C) = TT.take (k * C) ++ lnL l C (y : Int) R from by rw [← HTE.out]; exact del_step HN.out.2.1 HN.out.2.2.2.2.2.2 HLT.out HK.out)
        have j1 := (HQ.out.2.1).1 1 _ rfl
        have HF6 := Lib.hid (show ∀ u : World, Below wr.heap.size wr u → Oc u w4.heap.size (.slice q m cq) ((TT).take (k * C)) ∧ ((TT).take (k * C)).length = m ∧ (lnL l C ((y : Int)) R).length = C ∧ w4.heap.size ≤ u.heap.size ∧ m ≤ 100000 ∧ C ≤ 100000 from fun u hu => by
          have hh := HQ.out.2.2.2
          have e := hh.1
          refine ⟨hh.kept hu, ?_, ln_len HN.out.2.1 _, Nat.le_trans HQ.out.1.size hu.size, ?_, ?_⟩
          · rw [HQ.out.2.2.1, List.length_take, Nat.min_eq_left]
            rw [HTL.out, HN.out.1]
            exact HKR.out
          · have := HKR.out; have := HN.out; have := HQ.out.2.2.1; omega
          · have := HN.out; omega)
        go_upto_region 10 with fail
        go_region_law (first | (go_simp; go_at_call 55; (with_reducible refine (HCL.out _ (Below.refl _ _).drew).mono ?_); rintro x' w6 ⟨⟨q6, c6, rfl, hq6⟩, hb6⟩; have HB6 := Lib.hid (below_of_drew hb6); have HQ6 := Lib.hid hq6; have y1 := kept_cell HB6.out j1; obtain ⟨z0, z1⟩ := two_cells HPR.out HB6.out; clear hq6 hb6) | (refine step_app_c rfl (.tmp 36) (.tmp 40) rfl rfl rfl (HF6.out _ HB6.out).1 HQ6.out (HF6.out _ HB6.out).2 ?_; intro p7 c7 w7 h7 g7 a7; have f7 := HQ.out.fz HB6.out g7 HD8.out; have H7 := Lib.hid h7; have G7 := Lib.hid g7; obtain ⟨f70, f71⟩ := f7; clear h7 g7 a7))
        all_goals
          have HNW := Lib.hid (HQ.out.app HB6.out G7.out HD8.out rfl H7.out HST.out)
          obtain ⟨w8, h8⟩ : ∃ w8, w8 = w7.setCell ⟨b8, 1, none⟩ (.slice p7 (m + C) c7) := ⟨_, rfl⟩
          rw [← h8] at HNW
          rw [← h8]
          clear h8
          go_wp2
          go_roundw
          case rel => exact ⟨y + 1, k + 1, m + C, c7, p7, by have := HLT.out; omega, (by have := HK.out; omega), by go_num, HNW.out⟩
          case measure => simp [intOf]; have := HLT.out; omega
    · obtain rfl : y = R + 1 := by omega
      obtain rfl : k = R := by have := HN.out; omega
      clear hy hk hlt
      go_wp2_with (first | (refine ld_pat (by rfl) (.tmp 8) rfl rfl HQ.out.2.1.1 ?_) | ((refine st_pat (by rfl) (.tmp 6) _ rfl rfl rfl HRR.out.2 ?_); intro w5 h5 g5; have H5 := Lib.hid h5; have G5 := Lib.hid g5; clear h5 g5))
      obtain ⟨e1, e2, e3, e4, e5⟩ := HGE.out
      have hh := HQ.out.2.2.2
      have e6 := HQ.out.1.size
      rw [HTA.out] at hh
      obtain ⟨q', cq', e, hc, ho⟩ := hh.own
      simp only [Value.slice.injEq] at e
      obtain ⟨rfl, rfl, rfl⟩ := e
      refine bodyPost_ret (res_pe rfl rfl H5.out.1 rfl) rfl ⟨⟨q, cq, rfl, hc, (ho.grown G5.out (by omega)).mono (by omega)⟩, grown_at (grown_at (stepB HB.out HB4.out) (by omega) (by omega) HQ.out.1) (by omega) (by omega) G5.out⟩
theorem r_Delete (r : Int) (l : List Pt.Cl) (p : Option Addr) (cap : Nat) (ch row : Int) (w : World) (hd : CellsAt w p l) (hcap : l.length ≤ cap) :
    Calls Tryz.prog 24 #[PV r p l.length cap, .int .i64 ch, .int .i64 row] w fun x w' => RetPE (Pt.okI (Pt.ePlace r l ch row 0) r) (Pt.okL (Pt.ePlace r l ch row 0) (Pt.delL l ch.toNat row.toNat)) (Pt.ePlace r l ch row 0) w.heap.size x w' ∧ Below w.heap.size w w' := by
  by_cases h : Pt.ePlace r l ch row 0 = 0
  · rw [h]
    obtain ⟨R, C, y, x, rfl, rfl, rfl, hx, g1, g2, g3, g4, g5, g6, g7, g8⟩ := place_nx h
    have h1 : 1 ≤ C := by omega
    rcases hd with rfl | ⟨b1, o1, rfl, hb1, hr1⟩
    · simp at g6
    · exact r_Delete_ok R C y l b1 o1 cap w hb1 hr1 hcap g8 g3 h1 g4 g5 g1
  · have e1 : Pt.okI (Pt.ePlace r l ch row 0) r = 0 := if_neg h
    have e2 : Pt.okL (Pt.ePlace r l ch row 0) (Pt.delL l ch.toNat row.toNat) = [] := if_neg h
    rw [e1, e2]
    exact r_Delete_bad r l p cap ch row w hd rfl h

/-- What a cell becomes. -/
def intF (l : List Pt.Cl) (C c f t : Nat) (j : Nat) : Pt.Cl := Pt.intC (Pt.at' l (f * C + c)) (Pt.at' l (t * C + c)) (Pt.at' l j) ((t : Int) - f) (((j / C : Nat) : Int) - f)
theorem int_at {l : List Pt.Cl} {C c f t Y I : Nat} (hc : c < C) (hI : Y * C + c = I) : intF l C c f t I = Pt.intC (Pt.at' l (f * C + c)) (Pt.at' l (t * C + c)) (Pt.at' l I) ((t : Int) - f) ((Y : Int) - f) := by
  unfold intF
  rw [show I / C = Y by rw [← hI]; exact Pt.rc_div hc]
theorem int_done {l : List Pt.Cl} {R C c f t : Nat} {L : List Pt.Cl} (h1 : c < C) (hl : l.length = R * C) (hf : f < t) (h : Up l C (f + 1) c 1 (intF l C c f t) (t - (f + 1)) 0 L) : L = Pt.intL l C c f t := by
  rw [up_done h (by omega) hl]
  refine Pt.eq_mk (Pt.mk_len _ _) fun k hk => ?_
  rw [Pt.mk_at _ _ hk]
  by_cases c1 : f + 1 ≤ k / C ∧ k / C < f + 1 + (t - (f + 1)) ∧ c ≤ k % C ∧ k % C < c + 1
  · rw [if_pos c1, if_pos (by omega)]
    rfl
  · rw [if_neg c1, if_neg (by omega)]
theorem int_none {l : List Pt.Cl} {C c f t : Nat} (h : ¬ ((Pt.at' l (f * C + c)).ef = (Pt.at' l (t * C + c)).ef ∧ (Pt.at' l (f * C + c)).ef ≠ 0)) : Pt.intL l C c f t = l := by
  refine (Pt.eq_mk rfl fun k _ => ?_).symm
  split
  · unfold Pt.intC
    rw [if_neg (fun e => h ⟨e.1, e.2.1⟩)]
  · rfl
theorem int_step {l : List Pt.Cl} {C c f t Y I : Nat} {L : List Pt.Cl} (h : Up l C (f + 1) c 1 (intF l C c f t) (Y - (f + 1)) 0 L) (hc : c < C) (hY : f + 1 ≤ Y) (hI : Y * C + c = I) (hl : I < l.length) : Pt.at' L I = Pt.at' l I ∧ Up l C (f + 1) c 1 (intF l C c f t) (Y + 1 - (f + 1)) 0 (L.set I (intF l C c f t I)) := by
  have e : (f + 1 + (Y - (f + 1))) * C + (c + 0) = I := by rw [show f + 1 + (Y - (f + 1)) = Y by omega, Nat.add_zero]; exact hI
  refine ⟨up_now h (by decide) (by omega) e hl, ?_⟩
  rw [show Y + 1 - (f + 1) = Y - (f + 1) + 1 by omega]
  exact up_row (up_step h (by decide) (by omega) e hl)
theorem ip_eq {a b n k : Int} (hn : 0 < n) : a + ((b - a) * k) / n = (a * (n - k) + b * k) / n := by
  have e : a * (n - k) + b * k = (b - a) * k + a * n := by rw [Int.mul_sub, Int.sub_mul]; omega
  rw [e, Int.add_mul_ediv_right _ _ (by omega : n ≠ 0)]
  omega
theorem ip_bound {a b : Int} {n k : Nat} (ha : 0 ≤ a ∧ a ≤ 255) (hb : 0 ≤ b ∧ b ≤ 255) (hk : k < n) : (0 ≤ a * ((n : Int) - k) ∧ a * ((n : Int) - k) ≤ 255 * n) ∧ (0 ≤ b * (k : Int) ∧ b * (k : Int) ≤ 255 * n) ∧ 0 ≤ (a * ((n : Int) - k) + b * (k : Int)) / (n : Int) ∧ (a * ((n : Int) - k) + b * (k : Int)) / (n : Int) ≤ 255 := by
  have p1 := Int.mul_nonneg ha.1 (show (0 : Int) ≤ (n : Int) - k by omega)
  have p2 := Int.mul_nonneg hb.1 (show (0 : Int) ≤ (k : Int) by omega)
  have u1 := Int.mul_le_mul_of_nonneg_right ha.2 (show (0 : Int) ≤ (n : Int) - k by omega)
  have u2 := Int.mul_le_mul_of_nonneg_right hb.2 (show (0 : Int) ≤ (k : Int) by omega)
  refine ⟨⟨p1, by omega⟩, ⟨p2, by omega⟩, Int.ediv_nonneg (by omega) (by omega), ?_⟩
  have : (a * ((n : Int) - k) + b * (k : Int)) / (n : Int) < 256 := Int.ediv_lt_of_lt_mul (by omega) (by omega)
  omega
theorem kr_two {w : World} {g I : Nat} {L : List Pt.Cl} {c : Pt.Cl} {e p : Int} (h : Kr w g L) (hI : I < L.length) (hc : Pt.at' L I = c) : Kr ((w.setCell ⟨g, I * 6 + 4, none⟩ (.int .i64 e)).setCell ⟨g, I * 6 + 5, none⟩ (.int .i64 p)) g (L.set I { c with ef := e, pa := p }) := by
  have h1 := h.setField (i := I) (j := 4) (c := { c with ef := e }) (v := .int .i64 e) hI (by decide) (by rw [hc]; rfl)
  have h2 := h1.setField (i := I) (j := 5) (c := { c with ef := e, pa := p }) (v := .int .i64 p) (by rw [List.length_set]; exact hI) (by decide) (by rw [Pt.at_set _ _ _ hI, if_pos rfl]; rfl)
  rwa [List.set_set] at h2
theorem vcl_pa {c : Pt.Cl} (h : Pt.vcl c = true) : 0 ≤ c.pa ∧ c.pa ≤ 255 := by
  simp only [Pt.vcl, Bool.and_eq_true, Pt.wth_iff] at h
  omega
theorem two_cb (u : World) (x y : Pt.Cl) : Below u.heap.size u ((u.alloc (.cells (CL x).toArray 28)).alloc (.cells (CL y).toArray 28)).drew ∧ ((u.alloc (.cells (CL x).toArray 28)).alloc (.cells (CL y).toArray 28)).drew.rangeAt u.heap.size 0 (CL x) ∧ ((u.alloc (.cells (CL x).toArray 28)).alloc (.cells (CL y).toArray 28)).drew.rangeAt (u.heap.size + 1) 0 (CL y) := by
  have h1 := range_below (range_box u (CL x) 28) (below_box (u.alloc (.cells (CL x).toArray 28)) (.cells (CL y).toArray 28)) (by simp)
  have h2 := range_box (u.alloc (.cells (CL x).toArray 28)) (CL y) 28
  rw [show (u.alloc (.cells (CL x).toArray 28)).heap.size = u.heap.size + 1 by simp] at h2
  exact ⟨(stepB (below_box _ _) (below_box _ _)).drew, h1, h2⟩
theorem fl_zero {a b q : Int} (hb : 0 < b) (h : -a = b * q + 0) : -q = a / b := by
  have : a = b * (-q) := by rw [Int.mul_neg]; omega
  rw [this, Int.mul_ediv_cancel_left _ (by omega : b ≠ 0)]
theorem fl_pos {a b q r : Int} (hb : 0 < b) (h : -a = b * q + r) (h1 : 0 < r) (h2 : r < b) : -q - 1 = a / b := by
  have : a = (b - r) + b * (-q - 1) := by rw [Int.mul_sub, Int.mul_neg]; omega
  rw [this, Int.add_mul_ediv_left _ _ (by omega : b ≠ 0), Int.ediv_eq_zero_of_lt (by omega) (by omega)]
  omega
theorem r_floor (a b : Int) (w : World) (h1 : -1152921504606846976 ≤ a) (h2 : a ≤ 1152921504606846976) (hb : 0 < b) (hb2 : b ≤ 1152921504606846976) :
    Calls Tryz.prog 56 #[.int .i64 a, .int .i64 b] w fun x w' => x = .returned (.int .i64 (a / b)) ∧ w = w' := by
  by_cases h0 : a < 0
  · have t1 : a.tdiv b = -((-a) / b) := by rw [show a = -(-a) by omega, Int.neg_tdiv, Int.tdiv_eq_ediv_of_nonneg (by omega)]; simp
    have t2 : a.tmod b = -((-a) % b) := by rw [show a = -(-a) by omega, Int.neg_tmod, Int.tmod_eq_emod_of_nonneg (by omega)]; simp
    have e := Int.mul_ediv_add_emod (-a) b
    have m0 := Int.emod_nonneg (-a) (by omega : b ≠ 0)
    have m1 := Int.emod_lt_of_pos (-a) hb
    have q1 := Int.ediv_nonneg (by omega : 0 ≤ -a) (by omega : 0 ≤ b)
    have q2 : (-a) / b ≤ -a := Int.ediv_le_self _ (by omega)
    obtain ⟨q, hq⟩ : ∃ q, (-a) / b = q := ⟨_, rfl⟩
    obtain ⟨r, hr⟩ : ∃ r, (-a) % b = r := ⟨_, rfl⟩
    rw [hq] at t1 e q1 q2
    rw [hr] at t2 e m0 m1
    clear hq hr
    by_cases hr0 : r = 0
    · subst hr0
      have HE := Lib.hid (fl_zero hb e.symm)
      have t2 : a.tmod b = 0 := by rw [t2]; rfl
      clear e m0 m1
      go_enter Tryz.func56, Tryz.ntmps56
      go_wp2
      go_ret
      exact ⟨ret_int HE.out, rfl⟩
    · have HE := Lib.hid (fl_pos hb e.symm (by omega) m1)
      have m2 : -r < 0 := by omega
      clear e
      go_enter Tryz.func56, Tryz.ntmps56
      go_wp2
      go_ret
      exact ⟨ret_int HE.out, rfl⟩
  · have q0 : a.tdiv b = a / b := Int.tdiv_eq_ediv_of_nonneg (by omega)
    have q3 : a.tmod b = a % b := Int.tmod_eq_emod_of_nonneg (by omega)
    have m0 := Int.emod_nonneg a (by omega : b ≠ 0)
    have q1 := Int.ediv_nonneg (by omega : 0 ≤ a) (by omega : 0 ≤ b)
    have q2 : a / b ≤ a := Int.ediv_le_self _ (by omega)
    go_enter Tryz.func56, Tryz.ntmps56
    go_wp2
    go_ret
    exact ⟨rfl, rfl⟩
end Go.Proofs.YtfjfnbeegojlbaaGreat

/-
  Package pattern's reader.cell.
-/
import Derived.Test.YtfjfnbeegojlbaaPRcB
namespace Go.Proofs.Ytfjfnbeegojlbaa
open Go.RowKit

theorem keepF {w' : World} {q b : Nat} {o : Nat} {k : Nat} {c : Pt.Cl} (hp : w'.rangeAt q 0 (PK k)) (hc : w'.rangeAt b o (CL c)) :
    w'.cell? ⟨q, 2, none⟩ = some (.func (.func (gF k)) #[] #[]) ∧ w'.cell? ⟨q, 3, none⟩ = some (.func (.func (uF k)) #[] #[]) ∧ w'.cell? ⟨b, o, none⟩ = some (.int .i64 c.nt) ∧ w'.cell? ⟨b, o + 1, none⟩ = some (.int .i64 c.it) ∧ w'.cell? ⟨b, o + 2, none⟩ = some (.int .i64 c.vc) ∧ w'.cell? ⟨b, o + 3, none⟩ = some (.int .i64 c.va) ∧ w'.cell? ⟨b, o + 4, none⟩ = some (.int .i64 c.ef) ∧ w'.cell? ⟨b, o + 5, none⟩ = some (.int .i64 c.pa) :=
  ⟨hp 2 _ rfl, hp 3 _ rfl, hc 0 _ rfl, hc 1 _ rfl, hc 2 _ rfl, hc 3 _ rfl, hc 4 _ rfl, hc 5 _ rfl⟩
theorem keepE {w' : World} {q : Nat} {k : Nat} (hp : w'.rangeAt q 0 (PK k)) :
    w'.cell? ⟨q, 0, none⟩ = some (.int .i64 (Pt.num k : Nat)) ∧ w'.cell? ⟨q, 3, none⟩ = some (.func (.func (uF k)) #[] #[]) := ⟨hp 0 _ rfl, hp 3 _ rfl⟩
set_option maxRecDepth 100000 in
set_option maxHeartbeats 6400000 in
theorem p_cell_go {w : World} {bR o : Nat} {xs : List Int} {p : Option Addr} {cap i : Nat} (h : Rn w bR xs p cap i) (hp : ∀ b off, p = some ⟨b, off, none⟩ → b < w.heap.size) {m : Nat} {t : List Int} (e : xs.drop i = (m : Int) :: t) {la : Pt.Cl} (hla : w.rangeAt bR o (CL la)) (hth : w.there bR o 6) (ho : 2 ≤ o) (hv : Pt.vmask m la = true) :
    Calls Try.prog 60 #[.pointer (some ⟨bR, 0, none⟩), .pointer (some ⟨bR, o, none⟩)] w fun x w' => RetC w bR o xs p cap (Pt.ufin (Pt.uks m 4 ⟨Pt.zc, la, t⟩)) x w' := by
  obtain ⟨W, hW⟩ : ∃ W, W = w.alloc (.cells #[.int .i64 0, .int .i64 0, .int .i64 0, .int .i64 0, .int .i64 0, .int .i64 0] 28) := ⟨_, rfl⟩
  have HB := Lib.hid (show Below w.heap.size w W by rw [hW]; exact below_box _ _)
  have HT4 := Lib.hid (show W.there w.heap.size 0 6 by rw [hW]; exact there_box w (CL Pt.zc) _)
  have C1 := Lib.hid (p_next_cons (h.below HB.out) e)
  have hm : m < 256 := by
    have := h.hy (m : Int) (List.mem_of_mem_drop (i := i) (by rw [e]; simp))
    omega
  have C2 := Lib.hid (fun u => p_validMask m hm la u)
  rw [hv] at C2
  have C3 := Lib.hid (fun u => p_demand_ok 9 u)
  have HLA := Lib.hid (range_below hla HB.out h.lt)
  have HTL := Lib.hid (there_below hth HB.out h.lt)
  have HO := Lib.hid ho
  have HM := Lib.hid hm
  have HP := Lib.hid hp
  have HH := Lib.hid h
  have HI := Lib.hid (drop_cons' e)
  obtain ⟨T, hT⟩ : ∃ T, Pt.ufin (Pt.uks m 4 ⟨Pt.zc, la, t⟩) = T := ⟨_, rfl⟩
  rw [hT]
  have HT := Lib.hid hT
  obtain ⟨b4, hb4⟩ : ∃ b4, b4 = w.heap.size := ⟨_, rfl⟩
  have HBE := Lib.hid hb4
  have HLT0 := Lib.hid h.lt
  have hm' : (m : Int) < 256 := by omega
  clear h e hm hv hla ho hth hp hT
  go_enter Try.func60, Try.ntmps60
  go_upto_region 1 with fail
  rw [← hW, ← hb4]
  rw [← hb4] at HT4
  clear hW hb4
  go_upto_region 3 with (first | (go_at_call 58; ((with_reducible refine (C1.out).mono ?_); rintro x' w1 ⟨rfl, h1⟩; have H1 := Lib.hid h1; have hr1 := Lib.hid (show w1.rangeAt bR o (CL la) from fun j v hv => by rw [(h1.out (o + j) (by have := HO.out; omega)).1]; exact HLA.out j v hv); clear h1)) | (refine ld_cell (by rfl) _ rfl rfl hr1.out ?_) | (go_at_call 83; ((with_reducible refine (C2.out _).mono ?_); rintro x' w2 ⟨rfl, h2⟩; have H2 := Lib.hid h2; clear h2)) | (go_at_call 59; ((with_reducible refine (C3.out _).mono ?_); rintro x' w3 ⟨rfl, h3⟩; have H3 := Lib.hid h3; clear h3)))
  obtain ⟨V, hV⟩ : ∃ V, V = w3.alloc (.cells #[.int .i64 0, .int .i64 0, .int .i64 0, .int .i64 0, .int .i64 0, .int .i64 0] 28) := ⟨_, rfl⟩
  have HBV := Lib.hid (show Below w3.heap.size w3 V by rw [hV]; exact below_box _ _)
  have HC6 := Lib.hid (show V.rangeAt w3.heap.size 0 (CL Pt.zc) ∧ V.there w3.heap.size 0 6 by rw [hV]; exact ⟨range_box w3 (CL Pt.zc) _, there_box w3 (CL Pt.zc) _⟩)
  obtain ⟨b6, hb6⟩ : ∃ b6, b6 = w3.heap.size := ⟨_, rfl⟩
  rw [← hb6] at HC6
  have HX0 := Lib.hid (show Cw w bR o b4 b6 xs p cap (i + 1) Pt.zc la V from by
    have hs := H1.out
    have hb := stepB H2.out H3.out
    have hlr : bR < W.heap.size := Nat.lt_of_lt_of_le HLT0.out HB.out.size
    have hs3 := (hs.below hb).below HBV.out
    have hb4W : b4 < W.heap.size := there_lt HT4.out
    have hne : b4 ≠ bR := by have := HBE.out; have := HLT0.out; omega
    refine ⟨(HH.out.below HB.out).step hs3 (by have := HI.out.1; omega), grownBy_trans (grownBy_of HB.out) hs3.gr, fun o' h1 h2 => ?_, fun j v hv => ?_, fun j hj => ?_, HC6.out.1, HC6.out.2, there_grown HT4.out hs3.gr hne hb4W⟩
    · rw [(hs3.out o' h1).1, (hs3.out o' h1).2, HB.out.cell (p := ⟨bR, o', none⟩) HLT0.out, HB.out.frozen (p := ⟨bR, o', none⟩) HLT0.out]; exact ⟨rfl, rfl⟩
    · rw [(hs3.out (o + j) (by have := HO.out; omega)).1]; exact HLA.out j v hv
    · rw [(hs3.out (o + j) (by have := HO.out; omega)).1, (hs3.out (o + j) (by have := HO.out; omega)).2]; exact HTL.out j hj)
  have HN := Lib.hid (show bR < w.heap.size ∧ b4 = w.heap.size ∧ b4 < b6 ∧ w.heap.size ≤ b6 ∧ b4 ≠ bR ∧ b6 ≠ bR ∧ b4 ≠ b6 from by
    have h1 := HBE.out
    have h2 := HLT0.out
    have h3 := there_lt HT4.out
    have h4 := H1.out.gr.size
    have h5 := (stepB H2.out H3.out).size
    omega)
  go_wp2_with (first | (go_at_call 49; ((with_reducible refine (p_parts _).mono ?_); rintro x' w5 ⟨rfl, hb5⟩)))
  rw [← hV] at hb5
  have HX5 := Lib.hid (HX0.out.below hb5)
  clear hb5 hV
  rw [← hb6]
  clear hb6 hr1
  go_loopw [18] (fun q wr => ∃ (k : Nat) (s : Pt.Uc) (j : Nat), k ≤ 4 ∧ q = .int .i64 (k : Nat) ∧ Hid (Pt.uks m k ⟨Pt.zc, la, t⟩ = .ok s ∧ s.b = xs.drop j) ∧ Hid (Cw w bR o b4 b6 xs p cap j s.c s.la wr)) (fun q _ => 4 - (intOf q).toNat)
  case atStart => exact ⟨0, ⟨Pt.zc, la, t⟩, i + 1, by omega, rfl, ⟨rfl, HI.out.2.2⟩, HX5.out⟩
  case round =>
    obtain ⟨k, s, j, hk, rfl, HU, HX⟩ := hrel
    by_cases hlt : k < 4
    · have E1 := eg hlt
      have E2 := eu hlt
      have HLT := Lib.hid hlt
      have hlt' : (k : Int) < 4 := by omega
      obtain ⟨n, hn⟩ : ∃ n, m.testBit k = n := ⟨_, rfl⟩
      obtain ⟨r, hr⟩ : ∃ r, m.testBit (k + 4) = r := ⟨_, rfl⟩
      obtain ⟨e1, e2⟩ := and_bit64 HM.out HLT.out
      rw [hn] at e1
      rw [hr] at e2
      have HBT := Lib.hid (show m.testBit k = n ∧ m.testBit (k + 4) = r from ⟨hn, hr⟩)
      clear hn hr hlt
      cases n with
      | true =>
        cases hvl : Pt.vl k (xs.drop j) with
        | error z =>
          have HE := Lib.hid (show T = .error z by rw [← HT.out, Pt.uks_err4 HLT.out HU.out.1 (Pt.uk_bad HBT.out.1 (by rw [HU.out.2]; exact hvl))]; rfl)
          go_upto_region 8 with (first | (refine ix_part HLT.out (by rfl) _ _ rfl rfl rfl ?_) | ((refine al_part (by rfl) rfl ?_); intro w2' hb2 hs2 ht2; have HB2' := Lib.hid hb2; have HT2 := Lib.hid ht2; have HS2 := Lib.hid hs2; clear hb2 ht2 hs2) | ((refine st_row (cs := PK k) Try.infoPart (pk_one k) (by rfl) _ _ rfl rfl rfl HT2.out ?_); rintro w3' e3; have h3 := World.rangeAt_setCells_same w2' wr.heap.size 0 (PK k) HT2.out; rw [← e3] at h3; have HB3 := Lib.hid (show Below wr.heap.size wr w3' by rw [e3]; exact grown_at HB2'.out (Nat.le_refl _) (by rw [HS2.out]; omega) (grown_setCells _ _ _ _)); have P3 := Lib.hid h3; clear e3 h3))
          have X3 := Lib.hid (HX.out.below HB3.out)
          obtain ⟨q, hq⟩ : ∃ q, q = wr.heap.size := ⟨_, rfl⟩
          rw [← hq] at P3 ⊢
          have HQ := Lib.hid (show q ≠ bR ∧ q < w3'.heap.size from ⟨by have := HX.out.rn.lt; omega, cell_lt (P3.out 0 _ rfl)⟩)
          have HQ6 := Lib.hid (show q ≠ b6 from by have := there_lt HX.out.tc; omega)
          clear hq
          have hg0 := (Below.refl w3'.heap.size w3').drew
          have hgg := keepE (range_below P3.out hg0 HQ.out.2)
          have G := Lib.hid (fun u (hu : Below w3'.heap.size w3' u) => p_value_err (X3.out.below hu).rn (fun b off e => Nat.lt_of_lt_of_le (HP.out b off e) (grownBy_size (X3.out.below hu))) hvl)
          unfold Pn at G
          clear hvl
          refine wp_region_held_drew (S := fun u => u.cell? ⟨q, 0, none⟩ = some (.int .i64 (Pt.num k : Nat)) ∧ u.cell? ⟨q, 3, none⟩ = some (.func (.func (uF k)) #[] #[])) (by kernel_rfl) (hgg) (fun hHeld => ?_)
          refine wpAnyH_take (i := 0) (oi := ?oi0) (v := .pointer (some ⟨q, 3, none⟩)) ?hi0 (by kernel_rfl) (by kernel_rfl) (by kernel_rfl) ?hq0 ?hy0 (by assumption) ?rest0
          case hi0 => (simp only [List.getElem?_toArray, List.getElem?_cons_zero]; rfl)
          case hq0 => exact fun c a w h => h
          case hy0 => exact Or.inl ⟨by rfl, fun w hSw => by (try dsimp only at hSw); go_simp⟩
          case rest0 =>
          simp only [Act.put, List.setIfInBounds_toArray, List.set_cons_zero, List.set_cons_succ]
          refine wpAnyH_take (i := 1) (oi := ?oi1) (v := .func (.func (uF k)) #[] #[]) ?hi1 (by kernel_rfl) (by kernel_rfl) (by kernel_rfl) ?hq1 ?hy1 (by assumption) ?rest1
          case hi1 => (simp only [List.getElem?_toArray, List.getElem?_cons_succ, List.getElem?_cons_zero]; rfl)
          case hq1 => exact fun c a w h => h
          case hy1 => exact Or.inl ⟨by rfl, fun w hSw => by (try dsimp only at hSw); go_simp⟩
          case rest1 =>
          simp only [Act.put, List.setIfInBounds_toArray, List.set_cons_zero, List.set_cons_succ]
          refine wpAnyH_take (i := 2) (oi := ?oi2) (v := .pointer (some ⟨bR, 0, none⟩)) ?hi2 (by kernel_rfl) (by kernel_rfl) (by kernel_rfl) ?hq2 ?hy2 (by assumption) ?rest2
          case hi2 => (simp only [List.getElem?_toArray, List.getElem?_cons_succ, List.getElem?_cons_zero]; rfl)
          case hq2 => exact fun c a w h => h
          case hy2 => exact Or.inl ⟨by rfl, fun w hSw => by (try dsimp only at hSw); go_simp⟩
          case rest2 =>
          simp only [Act.put, List.setIfInBounds_toArray, List.set_cons_zero, List.set_cons_succ]
          refine wpAnyH_take (i := 3) (oi := ?oi3) (v := .pointer (some ⟨q, 0, none⟩)) ?hi3 (by kernel_rfl) (by kernel_rfl) (by kernel_rfl) ?hq3 ?hy3 (by assumption) ?rest3
          case hi3 => (simp only [List.getElem?_toArray, List.getElem?_cons_succ, List.getElem?_cons_zero]; rfl)
          case hq3 => exact fun c a w h => h
          case hy3 => exact Or.inl ⟨by rfl, fun w hSw => by (try dsimp only at hSw); go_simp⟩
          case rest3 =>
          simp only [Act.put, List.setIfInBounds_toArray, List.set_cons_zero, List.set_cons_succ]
          refine wpAnyH_take (i := 4) (oi := ?oi4) (v := .int .i64 (Pt.num k : Nat)) ?hi4 (by kernel_rfl) (by kernel_rfl) (by kernel_rfl) ?hq4 ?hy4 (by assumption) ?rest4
          case hi4 => (simp only [List.getElem?_toArray, List.getElem?_cons_succ, List.getElem?_cons_zero]; rfl)
          case hq4 => exact fun c a w h => h
          case hy4 => exact Or.inl ⟨by rfl, fun w hSw => by (try dsimp only at hSw); go_simp⟩
          case rest4 =>
          simp only [Act.put, List.setIfInBounds_toArray, List.set_cons_zero, List.set_cons_succ]
          refine wpAnyH_ready (rs := [5]) (by kernel_rfl) (by simp) ?_
          refine AllReadyH.cons (o := ?o5) (ho := ?ho5) (fun K' hK' => ?st5) AllReadyH.nil
          case ho5 => (simp only [List.getElem?_toArray, List.getElem?_cons_succ, List.getElem?_cons_zero]; rfl)
          case st5 =>
          go_simp
          (go_at_call 84; with_reducible refine (G.out _ hg0).mono ?_; rintro x' w6 ⟨rfl, hB6⟩)
          refine post_panic (P := Try.prog) (fn := Try.f60) rfl ?_
          rw [HE.out]
          exact ⟨rfl, grownBy_trans X3.out.gr (grownBy_trans (grownBy_of hg0) hB6)⟩
        | ok vt =>
          obtain ⟨v, t'⟩ := vt
          have HV := Lib.hid (Pt.vl_ok hvl)
          have HS := Lib.hid (Pt.uks_succ HU.out.1 (Pt.uk_new HBT.out.1 (by rw [HU.out.2]; exact hvl)))
          go_upto_region 8 with (first | (refine ix_part HLT.out (by rfl) _ _ rfl rfl rfl ?_) | ((refine al_part (by rfl) rfl ?_); intro w2' hb2 hs2 ht2; have HB2' := Lib.hid hb2; have HT2 := Lib.hid ht2; have HS2 := Lib.hid hs2; clear hb2 ht2 hs2) | ((refine st_row (cs := PK k) Try.infoPart (pk_one k) (by rfl) _ _ rfl rfl rfl HT2.out ?_); rintro w3' e3; have h3 := World.rangeAt_setCells_same w2' wr.heap.size 0 (PK k) HT2.out; rw [← e3] at h3; have HB3 := Lib.hid (show Below wr.heap.size wr w3' by rw [e3]; exact grown_at HB2'.out (Nat.le_refl _) (by rw [HS2.out]; omega) (grown_setCells _ _ _ _)); have P3 := Lib.hid h3; clear e3 h3))
          have X3 := Lib.hid (HX.out.below HB3.out)
          obtain ⟨q, hq⟩ : ∃ q, q = wr.heap.size := ⟨_, rfl⟩
          rw [← hq] at P3 ⊢
          have HQ := Lib.hid (show q ≠ bR ∧ q < w3'.heap.size from ⟨by have := HX.out.rn.lt; omega, cell_lt (P3.out 0 _ rfl)⟩)
          have HQ6 := Lib.hid (show q ≠ b6 from by have := there_lt HX.out.tc; omega)
          clear hq
          have hg0 := (Below.refl w3'.heap.size w3').drew
          have hgg := keepE (range_below P3.out hg0 HQ.out.2)
          have G := Lib.hid (fun u (hu : Below w3'.heap.size w3' u) => p_value_ok (X3.out.below hu).rn (fun b off e => Nat.lt_of_lt_of_le (HP.out b off e) (grownBy_size (X3.out.below hu))) hvl)
          have U1 := Lib.hid (fun u hr ht => g_put HLT.out s.c v b6 0 u hr ht)
          clear hvl
          have F6 := Lib.hid (show ∀ (w6 : World) (j' : Nat), S1 w3'.drew bR 1 (.int .i64 (j' : Nat)) w6 → j' ≤ xs.length → Cw w bR o b4 b6 xs p cap j' s.c s.la w6 ∧ w6.rangeAt q 0 (PK k) from fun w6 j' h6 hj6 =>
            ⟨(X3.out.below hg0).read h6 hj6 HO.out HN.out.2.2.2.2.1 HN.out.2.2.2.2.2.1, range_grown (range_below P3.out hg0 HQ.out.2) h6.gr HQ.out.1 (Nat.lt_of_lt_of_le HQ.out.2 hg0.size)⟩)
          have F7 := Lib.hid (show ∀ (j' : Nat) (w6 w7 : World), Cw w bR o b4 b6 xs p cap j' s.c s.la w6 → w6.rangeAt q 0 (PK k) → Put w6 b6 0 (Pt.pw k s.c v) w7 → Cw w bR o b4 b6 xs p cap j' (Pt.pw k s.c v) s.la w7 ∧ w7.rangeAt q 0 (PK k) from fun j' w6 w7 x6 p6 h7 =>
            ⟨x6.putC h7 HN.out.1 HN.out.2.2.2.2.2.2 HN.out.2.2.2.1 HP.out, range_grown p6 h7.gr HQ6.out (cell_lt (p6 0 _ rfl))⟩)
          go_region_held3 (fun u => u.cell? ⟨q, 0, none⟩ = some (.int .i64 (Pt.num k : Nat)) ∧ u.cell? ⟨q, 3, none⟩ = some (.func (.func (uF k)) #[] #[]))
            (first | with_reducible exact hgg | exact keepE X6.out.2 | exact keepE X7.out.2)
            (first | (go_at_call 84; with_reducible refine (G.out _ hg0).mono ?_; rintro x' w6 ⟨j', rfl, ht6, hj6, h6⟩; have X6 := Lib.hid (F6.out w6 j' h6 hj6)) | (go_at_fn (uF k); with_reducible refine (U1.out _ X6.out.1.cel X6.out.1.tc).mono ?_; rintro x' w7 ⟨rfl, h7⟩; have X7 := Lib.hid (F7.out j' w6 w7 X6.out.1 X6.out.2 h7)))
          go_upto_region 9 with fail
          have X8 := Lib.hid X7.out.1
          have P8 := Lib.hid X7.out.2
          have HQ8 := Lib.hid (show q < w7.heap.size from cell_lt (X7.out.2 0 _ rfl))
          obtain ⟨c8, hc8⟩ : ∃ c8, Pt.pw k s.c v = c8 := ⟨_, rfl⟩
          have G9 := Lib.hid (fun u => g_get HLT.out (Pt.pw k s.c v) u)
          rw [Pt.pv_pw HV.out.2.1, hc8, cl_arr] at G9
          have U9 := Lib.hid (fun u hr ht => g_put HLT.out s.la v bR o u hr ht)
          rw [hc8] at X8
          rw [hc8] at HS
          clear hgg hg0
          have hg0 := (Below.refl w7.heap.size w7).drew
          have hgg := keepF (range_below P8.out hg0 HQ8.out) (X8.out.below hg0).cel
          have F9 := Lib.hid (show ∀ (w9 : World), Below w7.drew.heap.size w7.drew w9 → Cw w bR o b4 b6 xs p cap j' c8 s.la w9 ∧ w9.rangeAt q 0 (PK k) from fun w9 h9 =>
            ⟨(X8.out.below hg0).below h9, range_below (range_below P8.out hg0 HQ8.out) h9 (Nat.lt_of_lt_of_le HQ8.out hg0.size)⟩)
          have F10 := Lib.hid (show ∀ (w9 w10 : World), Cw w bR o b4 b6 xs p cap j' c8 s.la w9 → w9.rangeAt q 0 (PK k) → Put w9 bR o (Pt.pw k s.la v) w10 → Cw w bR o b4 b6 xs p cap j' c8 (Pt.pw k s.la v) w10 ∧ w10.rangeAt q 0 (PK k) from fun w9 w10 x9 p9 h10 =>
            ⟨x9.putL h10 HO.out HN.out.2.2.2.2.1 HN.out.2.2.2.2.2.1, range_grown p9 h10.gr HQ.out.1 (cell_lt (p9 0 _ rfl))⟩)
          go_region_held3 (fun u => u.cell? ⟨q, 2, none⟩ = some (.func (.func (gF k)) #[] #[]) ∧ u.cell? ⟨q, 3, none⟩ = some (.func (.func (uF k)) #[] #[]) ∧ u.cell? ⟨b6, 0, none⟩ = some (.int .i64 c8.nt) ∧ u.cell? ⟨b6, 1, none⟩ = some (.int .i64 c8.it) ∧ u.cell? ⟨b6, 2, none⟩ = some (.int .i64 c8.vc) ∧ u.cell? ⟨b6, 3, none⟩ = some (.int .i64 c8.va) ∧ u.cell? ⟨b6, 4, none⟩ = some (.int .i64 c8.ef) ∧ u.cell? ⟨b6, 5, none⟩ = some (.int .i64 c8.pa))
            (first | with_reducible exact hgg | exact keepF X9.out.2 X9.out.1.cel | exact keepF X10.out.2 X10.out.1.cel)
            (first | (go_at_fn (gF k); with_reducible refine (G9.out _).mono ?_; rintro x' w9 ⟨rfl, h9⟩; have X9 := Lib.hid (F9.out w9 h9)) | (go_at_fn (uF k); with_reducible refine (U9.out _ X9.out.1.las X9.out.1.tl).mono ?_; rintro x' w10 ⟨rfl, h10⟩; have X10 := Lib.hid (F10.out w9 w10 X9.out.1 X9.out.2 h10)))
          go_wp2
          go_roundw
          case rel => exact ⟨k + 1, ⟨c8, Pt.pw k s.la v, t'⟩, j', by have := HLT.out; omega, by go_num, ⟨HS.out, ht6⟩, X10.out.1⟩
          case measure => simp [intOf]; have := HLT.out; omega
      | false =>
        cases r with
        | true =>
          have HS := Lib.hid (Pt.uks_succ HU.out.1 (Pt.uk_rep HBT.out.1 HBT.out.2))
          go_upto_region 11 with (first | (refine ix_part HLT.out (by rfl) _ _ rfl rfl rfl ?_) | ((refine al_part (by rfl) rfl ?_); intro w2' hb2 hs2 ht2; have HB2' := Lib.hid hb2; have HT2 := Lib.hid ht2; have HS2 := Lib.hid hs2; clear hb2 ht2 hs2) | ((refine st_row (cs := PK k) Try.infoPart (pk_one k) (by rfl) _ _ rfl rfl rfl HT2.out ?_); rintro w3' e3; have h3 := World.rangeAt_setCells_same w2' wr.heap.size 0 (PK k) HT2.out; rw [← e3] at h3; have HB3 := Lib.hid (show Below wr.heap.size wr w3' by rw [e3]; exact grown_at HB2'.out (Nat.le_refl _) (by rw [HS2.out]; omega) (grown_setCells _ _ _ _)); have P3 := Lib.hid h3; clear e3 h3))
          have X3 := Lib.hid (HX.out.below HB3.out)
          obtain ⟨q, hq⟩ : ∃ q, q = wr.heap.size := ⟨_, rfl⟩
          rw [← hq] at P3 ⊢
          have HQ := Lib.hid (show q ≠ bR ∧ q < w3'.heap.size from ⟨by have := HX.out.rn.lt; omega, cell_lt (P3.out 0 _ rfl)⟩)
          have HQ6 := Lib.hid (show q ≠ b6 from by have := there_lt HX.out.tc; omega)
          clear hq
          have hg0 := (Below.refl w3'.heap.size w3').drew
          have hgg := keepE (range_below P3.out hg0 HQ.out.2)
          have G9 := Lib.hid (fun u => g_get HLT.out s.la u)
          rw [cl_arr] at G9
          have U9 := Lib.hid (fun u hr ht => g_put HLT.out s.c (Pt.pv k s.la) b6 0 u hr ht)
          have hgf := keepF (range_below P3.out hg0 HQ.out.2) (X3.out.below hg0).las
          have F9 := Lib.hid (show ∀ (w9 : World), Below w3'.drew.heap.size w3'.drew w9 → Cw w bR o b4 b6 xs p cap j s.c s.la w9 ∧ w9.rangeAt q 0 (PK k) from fun w9 h9 =>
            ⟨(X3.out.below hg0).below h9, range_below (range_below P3.out hg0 HQ.out.2) h9 (Nat.lt_of_lt_of_le HQ.out.2 hg0.size)⟩)
          have F10 := Lib.hid (show ∀ (w9 w10 : World), Cw w bR o b4 b6 xs p cap j s.c s.la w9 → w9.rangeAt q 0 (PK k) → Put w9 b6 0 (Pt.pw k s.c (Pt.pv k s.la)) w10 → Cw w bR o b4 b6 xs p cap j (Pt.pw k s.c (Pt.pv k s.la)) s.la w10 ∧ w10.rangeAt q 0 (PK k) from fun w9 w10 x9 p9 h10 =>
            ⟨x9.putC h10 HN.out.1 HN.out.2.2.2.2.2.2 HN.out.2.2.2.1 HP.out, range_grown p9 h10.gr HQ6.out (cell_lt (p9 0 _ rfl))⟩)
          go_region_held3 (fun u => u.cell? ⟨q, 2, none⟩ = some (.func (.func (gF k)) #[] #[]) ∧ u.cell? ⟨q, 3, none⟩ = some (.func (.func (uF k)) #[] #[]) ∧ u.cell? ⟨bR, o, none⟩ = some (.int .i64 s.la.nt) ∧ u.cell? ⟨bR, o + 1, none⟩ = some (.int .i64 s.la.it) ∧ u.cell? ⟨bR, o + 2, none⟩ = some (.int .i64 s.la.vc) ∧ u.cell? ⟨bR, o + 3, none⟩ = some (.int .i64 s.la.va) ∧ u.cell? ⟨bR, o + 4, none⟩ = some (.int .i64 s.la.ef) ∧ u.cell? ⟨bR, o + 5, none⟩ = some (.int .i64 s.la.pa))
            (first | with_reducible exact hgf | exact keepF X9.out.2 X9.out.1.las | exact keepF X10.out.2 X10.out.1.las)
            (first | (go_at_fn (gF k); with_reducible refine (G9.out _).mono ?_; rintro x' w9 ⟨rfl, h9⟩; have X9 := Lib.hid (F9.out w9 h9)) | (go_at_fn (uF k); with_reducible refine (U9.out _ X9.out.1.cel X9.out.1.tc).mono ?_; rintro x' w10 ⟨rfl, h10⟩; have X10 := Lib.hid (F10.out w9 w10 X9.out.1 X9.out.2 h10)))
          go_wp2
          go_roundw
          case rel => exact ⟨k + 1, ⟨Pt.pw k s.c (Pt.pv k s.la), s.la, s.b⟩, j, by have := HLT.out; omega, by go_num, ⟨HS.out, HU.out.2⟩, X10.out.1⟩
          case measure => simp [intOf]; have := HLT.out; omega
        | false =>
          have HS := Lib.hid (Pt.uks_succ HU.out.1 (Pt.uk_none HBT.out.1 HBT.out.2))
          go_wp2_with (first | (refine ix_part HLT.out (by rfl) _ _ rfl rfl rfl ?_) | ((refine al_part (by rfl) rfl ?_); intro w2' hb2 hs2 ht2; have HB2' := Lib.hid hb2; have HT2 := Lib.hid ht2; have HS2 := Lib.hid hs2; clear hb2 ht2 hs2) | ((refine st_row (cs := PK k) Try.infoPart (pk_one k) (by rfl) _ _ rfl rfl rfl HT2.out ?_); rintro w3' e3; have HB3 := Lib.hid (show Below wr.heap.size wr w3' by rw [e3]; exact grown_at HB2'.out (Nat.le_refl _) (by rw [HS2.out]; omega) (grown_setCells _ _ _ _)); clear e3))
          go_roundw
          case rel => exact ⟨k + 1, s, j, by have := HLT.out; omega, by go_num, ⟨HS.out, HU.out.2⟩, HX.out.below HB3.out⟩
          case measure => simp [intOf]; have := HLT.out; omega
    · have ek : k = 4 := by omega
      subst ek
      have HTU := Lib.hid (show T = Pt.uend s by rw [← HT.out, HU.out.1]; rfl)
      have C5 := Lib.hid (fun u => p_ValidCell s.c u)
      cases hvc : Pt.vcl s.c with
      | false =>
        rw [hvc] at C5
        have HVC := Lib.hid (show T = .error 9 by rw [HTU.out]; unfold Pt.uend; rw [if_neg (by rw [hvc]; decide)])
        have C6 := Lib.hid (fun u => p_demand_bad 9 u)
        unfold Pn at C6
        clear hvc
        go_wp2_with (first | (refine ld_cell (by rfl) _ rfl rfl HX.out.cel ?_) | (go_at_call 25; ((with_reducible refine (C5.out _).mono ?_); rintro x' w8 ⟨rfl, h8⟩; have H8 := Lib.hid h8; clear h8)) | (go_at_call 59; ((with_reducible refine (C6.out _).mono ?_); rintro x' w9 ⟨rfl, h9⟩)))
        refine post_panic (P := Try.prog) (fn := Try.f60) rfl ?_
        rw [HVC.out]
        exact ⟨rfl, ((HX.out.below H8.out).below h9).gr⟩
      | true =>
        rw [hvc] at C5
        have HVC := Lib.hid (show T = .ok s by rw [HTU.out]; unfold Pt.uend; rw [if_pos hvc])
        clear hvc
        go_wp2_with (first | (refine ld_cell (by rfl) _ rfl rfl HX.out.cel ?_) | (refine ld_cell (by rfl) _ rfl rfl X9.out.cel ?_) | (go_at_call 25; ((with_reducible refine (C5.out _).mono ?_); rintro x' w8 ⟨rfl, h8⟩; have H8 := Lib.hid h8; clear h8)) | (go_at_call 59; ((with_reducible refine (C3.out _).mono ?_); rintro x' w9 ⟨rfl, h9⟩; have X9 := Lib.hid ((HX.out.below H8.out).below h9))) | (refine st_cell (by rfl) _ _ rfl rfl rfl X9.out.t4 ?_; rintro w10 rfl))
        refine bodyPost_ret (res_row (cs := CL s.c) Try.underlying28 rfl (info_cl _) rfl rfl (World.rangeAt_setCells_same w9 b4 0 (CL s.c) X9.out.t4)) rfl ?_
        rw [HVC.out]
        exact ⟨j, b4, b6, rfl, HU.out.2, X9.out.out4 HN.out.1 HN.out.2.2.2.2.2.2 (by have := HN.out; omega) HP.out⟩
end Go.Proofs.Ytfjfnbeegojlbaa

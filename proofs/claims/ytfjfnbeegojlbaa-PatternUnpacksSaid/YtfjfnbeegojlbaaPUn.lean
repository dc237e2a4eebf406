/-
  Package pattern's Unpack.
-/
import Derived.Test.YtfjfnbeegojlbaaPUnA
namespace Go.Proofs.Ytfjfnbeegojlbaa
open Go.RowKit

theorem un_new (w : World) (R C : Int) : ∃ W, W = ((w.alloc (.cells #[.int .i64 R] 3)).alloc (.cells #[.int .i64 C] 3)).alloc (.cells #[.int .i64 0, .slice none 0 0] 24) ∧ Below w.heap.size w W ∧ W.heap.size = w.heap.size + 3 ∧ W.cell? ⟨w.heap.size, 0, none⟩ = some (.int .i64 R) ∧ W.cell? ⟨w.heap.size + 1, 0, none⟩ = some (.int .i64 C) ∧ Pb W (w.heap.size + 2) 0 (.slice none 0 0) := by
  obtain ⟨w1, h1⟩ : ∃ w1, w1 = w.alloc (.cells #[.int .i64 R] 3) := ⟨_, rfl⟩
  obtain ⟨w2, h2⟩ : ∃ w2, w2 = w1.alloc (.cells #[.int .i64 C] 3) := ⟨_, rfl⟩
  have b1 : Below w.heap.size w w1 := by rw [h1]; exact below_box _ _
  have b2 : Below w1.heap.size w1 w2 := by rw [h2]; exact below_box _ _
  have s1 : w1.heap.size = w.heap.size + 1 := by rw [h1]; simp
  have s2 : w2.heap.size = w.heap.size + 2 := by rw [h2]; simp [s1]
  have c1 : w1.rangeAt w.heap.size 0 [.int .i64 R] := by rw [h1]; exact range_box w [_] _
  have c2 : w2.rangeAt w1.heap.size 0 [.int .i64 C] := by rw [h2]; exact range_box w1 [_] _
  refine ⟨w2.alloc (.cells #[.int .i64 0, .slice none 0 0] 24), by rw [h2, h1], stepB (stepB b1 b2) (below_box _ _), by simp [s2], ?_, ?_, ?_⟩
  · exact kept_cell (below_box _ _) (kept_cell b2 (c1 0 _ rfl))
  · rw [← s1]; exact kept_cell (below_box _ _) (c2 0 _ rfl)
  · rw [← s2]; exact pb_box _ _ _ _
set_option maxHeartbeats 1600000 in
theorem p_Unpack_bad (R C : Int) (p : Option Addr) (n cap : Nat) (w : World) {e : Int} (he : Pt.eBlank R C = e) (h0 : e ≠ 0) :
    Calls Try.prog 19 #[.slice p n cap, .int .i64 R, .int .i64 C] w fun x w' => x = .returned (.tuple #[PV 0 none 0 0, .int .i64 0, .int .i64 e]) ∧ Below w.heap.size w w' := by
  obtain ⟨W, hW, hB, hs, k4, k5, hP⟩ := un_new w R C
  have C1 := Lib.hid (p_Blank R C W)
  rw [he] at C1
  unfold Pt.okI Pt.okL at C1
  rw [if_neg h0, if_neg h0] at C1
  have hne : (e != 0) = true := by simpa using h0
  have HB := Lib.hid hB
  have HS := Lib.hid hs
  have HP := Lib.hid hP
  obtain ⟨b4, hb4⟩ : ∃ b4, b4 = w.heap.size := ⟨_, rfl⟩
  obtain ⟨b5, hb5⟩ : ∃ b5, b5 = b4 + 1 := ⟨_, rfl⟩
  obtain ⟨b6, hb6⟩ : ∃ b6, b6 = b5 + 1 := ⟨_, rfl⟩
  rw [← hb4] at k4 k5 HP HS
  rw [← hb5] at k5
  rw [show b4 + 2 = b6 by omega] at HP
  have HBE := Lib.hid (show b4 = w.heap.size ∧ b6 = b4 + 2 from ⟨hb4, by omega⟩)
  clear he h0 hB hs hP
  go_enter Try.func19, Try.ntmps19
  go_upto_region 1 with fail
  rw [← hW, ← hb4, ← hb5, ← hb6]
  clear hW hb4 hb5 hb6
  go_wp2_with (first | (go_at_call 41; ((with_reducible refine (C1.out).mono ?_); rintro x' w1 ⟨⟨q, cp, rfl, hc1, ho1⟩, hb1⟩; have HB1 := Lib.hid hb1; have HP1 := Lib.hid (HP.out.kept hb1); clear hc1 ho1 hb1)) | ((refine st_pat (by rfl) _ _ rfl rfl rfl HP1.out.2 ?_); intro w2 h2 g2; have H2 := Lib.hid h2; have G2 := Lib.hid g2; clear h2 g2) | ((refine st_pat (by rfl) _ _ rfl rfl rfl H2.out.2 ?_); intro w3 h3 g3; have H3 := Lib.hid h3; have G3 := Lib.hid g3; clear h3 g3))
  have e1 := HBE.out
  have e2 := HS.out
  have e3 := HB1.out.size
  have e4 := G2.out.size
  exact bodyPost_ret (res_pne rfl rfl H3.out.1 rfl rfl) rfl ⟨rfl, grown_at (grown_at (stepB HB.out HB1.out) (by omega) (by omega) G2.out) (by omega) (by omega) G3.out⟩
theorem p_Blank_ok {R C : Nat} (h1 : 1 ≤ R) (h2 : R ≤ 64) (h3 : 1 ≤ C) (h4 : C ≤ 16) (w : World) :
    Calls Try.prog 41 #[.int .i64 R, .int .i64 C] w fun x w' => ∃ g cp, x = .returned (.tuple #[PV R (some ⟨g, 0, none⟩) (R * C) cp, .int .i64 0]) ∧ R * C ≤ cp ∧ w.heap.size ≤ g ∧ Kr w' g (List.replicate (R * C) Pt.zc) ∧ Below w.heap.size w w' := by
  have e : Pt.eBlank R C = 0 := by unfold Pt.eBlank; rw [Pt.wth_iff.2 (by omega), Pt.wth_iff.2 (by omega)]; rfl
  have h := p_Blank R C w
  rw [e] at h
  refine h.mono fun x w' ⟨⟨q, cp, hx, hc, ho⟩, hb⟩ => ?_
  have hl : (Pt.okL 0 (List.replicate ((R : Int).toNat * (C : Int).toNat) Pt.zc)) = List.replicate (R * C) Pt.zc := by simp [Pt.okL]
  rw [hl] at hx hc ho
  rw [List.length_replicate] at hx hc
  have hpos : 0 < R * C := Nat.mul_pos h1 h3
  rcases ho with h0 | ⟨g, rfl, hg, hk⟩
  · have := congrArg List.length h0
    simp at this
    omega
  · exact ⟨g, cp, hx, hc, hg, hk, hb⟩
set_option maxHeartbeats 1600000 in
theorem p_Unpack_long {R C : Nat} (h1 : 1 ≤ R) (h2 : R ≤ 64) (h3 : 1 ≤ C) (h4 : C ≤ 16) (p : Option Addr) (n cap : Nat) (hn : 400000 < n) (hm : (n : Int) ≤ 9223372036854775807) (w : World) :
    Calls Try.prog 19 #[.slice p n cap, .int .i64 R, .int .i64 C] w fun x w' => x = .returned (.tuple #[PV 0 none 0 0, .int .i64 0, .int .i64 3]) ∧ Below w.heap.size w w' := by
  obtain ⟨W, hW, hB, hs, k4, k5, hP⟩ := un_new w R C
  have C1 := Lib.hid (p_Blank_ok h1 h2 h3 h4 W)
  have HB := Lib.hid hB
  have HS := Lib.hid hs
  have HP := Lib.hid hP
  have i1 : (400000 : Int) < (n : Int) := by omega
  obtain ⟨b4, hb4⟩ : ∃ b4, b4 = w.heap.size := ⟨_, rfl⟩
  obtain ⟨b5, hb5⟩ : ∃ b5, b5 = b4 + 1 := ⟨_, rfl⟩
  obtain ⟨b6, hb6⟩ : ∃ b6, b6 = b5 + 1 := ⟨_, rfl⟩
  rw [← hb4] at k4 k5 HP HS
  rw [← hb5] at k5
  rw [show b4 + 2 = b6 by omega] at HP
  have HBE := Lib.hid (show b4 = w.heap.size ∧ b6 = b4 + 2 from ⟨hb4, by omega⟩)
  clear h1 h2 h3 h4 hn hB hs hP
  unfold PV at C1
  go_enter Try.func19, Try.ntmps19
  go_upto_region 1 with fail
  rw [← hW, ← hb4, ← hb5, ← hb6]
  clear hW hb4 hb5 hb6
  go_wp2_with (first | (go_at_call 41; ((with_reducible refine (C1.out).mono ?_); rintro x' w1 ⟨g, cp, rfl, hc1, hg1, hk1, hb1⟩; have HB1 := Lib.hid hb1; have HP1 := Lib.hid (HP.out.kept hb1); clear hc1 hg1 hk1 hb1)) | ((refine st_pat (by rfl) _ _ rfl rfl rfl HP1.out.2 ?_); intro w2 h2 g2; have H2 := Lib.hid h2; have G2 := Lib.hid g2; clear h2 g2) | ((refine st_pat (by rfl) _ _ rfl rfl rfl H2.out.2 ?_); intro w3 h3 g3; have H3 := Lib.hid h3; have G3 := Lib.hid g3; clear h3 g3))
  have e1 := HBE.out
  have e2 := HS.out
  have e3 := HB1.out.size
  have e4 := G2.out.size
  exact bodyPost_ret (res_pne rfl rfl H3.out.1 rfl rfl) rfl ⟨rfl, grown_at (grown_at (stepB HB.out HB1.out) (by omega) (by omega) G2.out) (by omega) (by omega) G3.out⟩
theorem Rw.rebase {w : World} {bR bC F : Nat} {xs : List Int} {p : Option Addr} {cap i : Nat} {L row ls : List Pt.Cl} {w1 : World} (h : Rw w bR bC F xs p cap i L row ls w1) : Rw w1 bR bC F xs p cap i L row ls w1 := ⟨h.rn, h.rl, h.tl, h.kc, Fz.refl _ _ _⟩
theorem rl_start {w : World} {bR bC n : Nat} {xs : List Int} {p : Option Addr} {cap : Nat} (hr : w.rangeAt bR 0 (RL (.slice p xs.length cap) 0 (List.replicate 16 Pt.zc))) (ht : w.there bR 0 98) (hi : InB w p xs) (hm : xs.length ≤ 400000) (hy : Pt.bys xs) (hne : ∀ b off, p = some ⟨b, off, none⟩ → b ≠ bR) (hk : Kr w bC (List.replicate n Pt.zc)) : Rw w bR bC 0 xs p cap 0 (List.replicate n Pt.zc) [] (List.replicate 16 Pt.zc) w := by
  refine ⟨⟨hr 0 _ rfl, hr 1 _ rfl, (ht 1 (by decide)).2, hi, Nat.zero_le _, by omega, hy, hne⟩, fun j v hv => ?_, fun j hj => ?_, ?_, Fz.refl _ _ _⟩
  · have := hr (j + 2) v (by simpa [RL] using hv)
    rwa [Nat.zero_add, Nat.add_comm j 2] at this
  · have := ht (2 + j) (by simp at hj; omega)
    rwa [Nat.zero_add] at this
  · simpa [lay] using hk
theorem pb_fz {w w' : World} {a b c : Nat} {r : Int} {v : Value} (h : Pb w c r v) (hf : Fz w a b w') (h1 : c ≠ a) (h2 : c ≠ b) : Pb w' c r v := by
  have e := hf.block c h.lt h1 h2
  exact ⟨fun j u hu => by rw [World.cell?_of_block (a := ⟨c, 0 + j, none⟩) e]; exact h.1 j u hu, fun j hj => by rw [World.cell?_of_block (a := ⟨c, 0 + j, none⟩) e, World.frozen?_of_block (a := ⟨c, 0 + j, none⟩) e]; exact h.2 j hj⟩
theorem below_fz {B : Nat} {w w1 w2 : World} {a b : Nat} (h : Below B w w1) (hf : Fz w1 a b w2) (h1 : B ≤ a) (h2 : B ≤ b) (hB : B ≤ w1.heap.size := by omega) : Below B w w2 :=
  ⟨hf.os.trans h.os, hf.tape.trans h.tape, hf.output.trans h.output, Nat.le_trans h.size hf.size, fun k hk => (hf.block k (by omega) (by omega) (by omega)).trans (h.block k hk)⟩
theorem setCells_size' (b : Nat) : ∀ (vs : List Value) (o : Nat) (w : World), (w.setCells b o vs).heap.size = w.heap.size
  | [], _, _ => rfl
  | v :: r, o, w => by rw [World.setCells, setCells_size' b r (o + 1)]; simp [World.setCell]
set_option maxRecDepth 100000 in
set_option maxHeartbeats 3200000 in
theorem p_Unpack_go {R C : Nat} (h1 : 1 ≤ R) (h2 : R ≤ 64) (h3 : 1 ≤ C) (h4 : C ≤ 16) (p : Option Addr) (xs : List Int) (cap : Nat) (hn : xs.length ≤ 400000) (hy : Pt.bys xs) (w : World) (hin : InB w p xs) (hp : ∀ b off, p = some ⟨b, off, none⟩ → b < w.heap.size) {T : Except Int Pt.Ur} (hT : Pt.upk R C xs = T) :
    Calls Try.prog 19 #[.slice p xs.length cap, .int .i64 R, .int .i64 C] w fun x w' => RetN R (Pt.unE xs.length T) w.heap.size x w' ∧ Below w.heap.size w w' := by
  have hmf : ∀ (fn : Fn) (first cap : Array Value) (w : World), (Instr.makeFunc fn first cap).run Try.prog w = .ok (.func fn first cap) w := fun _ _ _ _ => rfl
  obtain ⟨W, hW, hB, hs, k4, k5, hP⟩ := un_new w R C
  have C1 := Lib.hid (p_Blank_ok h1 h2 h3 h4 W)
  have HB := Lib.hid hB
  have HS := Lib.hid hs
  have HP := Lib.hid hP
  have HN := Lib.hid hn
  have HY := Lib.hid hy
  have HPP := Lib.hid hp
  have HI := Lib.hid hin
  have HRC := Lib.hid (show 1 ≤ R ∧ R ≤ 64 ∧ 1 ≤ C ∧ C ≤ 16 from ⟨h1, h2, h3, h4⟩)
  have HT := Lib.hid hT
  obtain ⟨n, hxn⟩ : ∃ n, xs.length = n := ⟨_, rfl⟩
  have HXN := Lib.hid hxn
  have i1 : ¬ (400000 : Int) < (n : Int) := by omega
  obtain ⟨b4, hb4⟩ : ∃ b4, b4 = w.heap.size := ⟨_, rfl⟩
  obtain ⟨b5, hb5⟩ : ∃ b5, b5 = b4 + 1 := ⟨_, rfl⟩
  obtain ⟨b6, hb6⟩ : ∃ b6, b6 = b5 + 1 := ⟨_, rfl⟩
  rw [← hb4] at k4 k5 HP HS
  rw [← hb5] at k5
  rw [show b4 + 2 = b6 by omega] at HP
  rw [hxn]
  have HBE := Lib.hid (show b4 = w.heap.size ∧ b6 = b4 + 2 ∧ b5 = b4 + 1 from ⟨hb4, by omega, hb5⟩)
  have K45 := Lib.hid (show W.cell? ⟨b4, 0, none⟩ = some (.int .i64 R) ∧ W.cell? ⟨b5, 0, none⟩ = some (.int .i64 C) from ⟨k4, k5⟩)
  clear h1 h2 h3 h4 hn hB hs hP hy hp hin hT hxn
  unfold PV at C1
  go_enter Try.func19, Try.ntmps19
  go_upto_region 1 with fail
  rw [← hW, ← hb4, ← hb5, ← hb6]
  clear hW hb4 hb5 hb6
  go_upto_region 7 with (first | (go_at_call 41; ((with_reducible refine (C1.out).mono ?_); rintro x' w1 ⟨g, cp, rfl, hc1, hg1, hk1, hb1⟩; have HB1 := Lib.hid hb1; have HP1 := Lib.hid (HP.out.kept hb1); have HC1 := Lib.hid hc1; have HG1 := Lib.hid hg1; have HK1 := Lib.hid hk1; clear hc1 hg1 hk1 hb1)) | ((refine st_pat (by rfl) _ _ rfl rfl rfl HP1.out.2 ?_); intro w2 h2 g2; have H2 := Lib.hid h2; have G2 := Lib.hid g2; clear h2 g2) | (refine bd_reader (by rfl) _ rfl rfl ?_) | ((refine al_reader (by rfl) rfl ?_); intro w3 hb3 hs3 ht3; have HB3 := Lib.hid hb3; have HS3 := Lib.hid hs3; have HT3 := Lib.hid ht3; clear hb3 hs3 ht3) | (refine st_row (cs := RL (.slice p n cap) 0 (List.replicate 16 Pt.zc)) (by rw [rl_len _ _ (by simp)]; exact Try.infoReader) (rl_one p n cap 0 _) (by rfl) _ _ rfl rfl rfl (by rw [rl_len _ _ (by simp)]; exact HT3.out) ?_; rintro w5 e5; have E5 := Lib.hid e5; clear e5))
  obtain ⟨bR, hbR⟩ : ∃ bR, bR = w2.heap.size := ⟨_, rfl⟩
  rw [← hbR] at HT3 E5 HS3 ⊢
  have HBR := Lib.hid hbR
  clear hbR k4 k5 i1
  have HZ := Lib.hid (show w.heap.size = b4 ∧ b5 = b4 + 1 ∧ b6 = b4 + 2 ∧ W.heap.size = b4 + 3 ∧ b4 + 3 ≤ g ∧ g < bR ∧ w1.heap.size ≤ bR ∧ bR < w5.heap.size ∧ w3.heap.size = bR + 1 ∧ w.heap.size ≤ w1.heap.size by
    have a1 := HBE.out
    have a2 := HS.out
    have a3 := HG1.out
    have a4 := HK1.out.1
    have a5 := G2.out.size
    have a6 := HBR.out
    have a7 := HS3.out
    have a8 := HB1.out.size
    have a9 : w5.heap.size = w3.heap.size := by
      rw [E5.out]
      exact setCells_size' _ _ _ _
    omega)
  have G5 := Lib.hid (show w3.grownBy w5 (some bR) by rw [E5.out]; exact grown_setCells _ _ _ _)
  have HBW := Lib.hid (show Below w.heap.size w w5 by
    have a := HZ.out
    exact grown_at ((grown_at (stepB HB.out HB1.out) (by omega) (by omega) G2.out).trans (HB3.out.mono (by have := HBR.out; omega))) (by omega) (by omega) G5.out)
  have HCK := Lib.hid (show ∀ (a : Addr) (v : Value), W.cell? a = some v → a.block ≠ b6 → w5.cell? a = some v from fun a v h hne => by
    have h1 := kept_cell HB1.out h
    have h2 := cell_grown G2.out h1 hne
    have h3 := kept_cell HB3.out h2
    exact cell_grown G5.out h3 (by have := cell_lt h2; have := HBR.out; omega))
  have HPB := Lib.hid (show Pb w5 b6 R (.slice (some ⟨g, 0, none⟩) (R * C) cp) from (H2.out.kept HB3.out).grown G5.out (by have := HZ.out; omega))
  have HKR := Lib.hid (show Kr w5 g (List.replicate (R * C) Pt.zc) from ((HK1.out.grown G2.out (by have := HZ.out; omega)).kept HB3.out).grown G5.out (by have := HZ.out; omega))
  have HX5 := Lib.hid (show Rw w5 bR g 0 xs p cap 0 (List.replicate (R * C) Pt.zc) [] (List.replicate 16 Pt.zc) w5 from by
    refine rl_start ?_ ?_ ?_ HN.out HY.out (fun b off e => ?_) HKR.out
    · rw [E5.out, HXN.out]
      exact World.rangeAt_setCells_same w3 bR 0 _ (by rw [rl_len _ _ (by simp)]; exact HT3.out)
    · rw [E5.out]
      exact World.there_setCells HT3.out bR 0 _
    · refine (((HI.out.below (stepB HB.out HB1.out)).grown G2.out fun b off e => ?_).below HB3.out).grown G5.out fun b off e => ?_
      · have := HPP.out b off e; have := HZ.out; omega
      · have := HPP.out b off e; have := HZ.out; omega
    · have := HPP.out b off e; have := HZ.out; omega)
  have HU := Lib.hid (show ∀ u, Below w5.heap.size w5 u → Calls Try.prog 43 #[.pointer (some ⟨b4, 0, none⟩), .pointer (some ⟨bR, 0, none⟩), .pointer (some ⟨b6, 0, none⟩), .pointer (some ⟨b5, 0, none⟩)] u fun x w' => RetU u bR g (R * C) xs p cap T x w' from fun u hu => by
    have h := p_rows (br := b4) (bc := b5) (bP := b6) (cp := cp) (HX5.out.below hu).rebase (fun b off e => by have := HPP.out b off e; have := HZ.out; have := hu.size; omega) (kept_cell hu (HCK.out _ _ K45.out.1 (by have := HZ.out; show b4 ≠ b6; omega))) (kept_cell hu (HCK.out _ _ K45.out.2 (by have := HZ.out; show b5 ≠ b6; omega))) (kept_cell hu (HPB.out.1 1 _ rfl)) HRC.out.1 HRC.out.2.1 HRC.out.2.2.1 HRC.out.2.2.2 (by simp) HC1.out (by have := HZ.out; omega) (by have := HZ.out; omega) (by have := HZ.out; omega)
    have e : Pt.urows C R ⟨[], List.replicate 16 Pt.zc, xs.drop 0⟩ = T := HT.out
    rw [e] at h
    exact h)
  have HLR := Lib.hid (show bR < w5.heap.size ∧ g < w5.heap.size by have := HZ.out; omega)
  cases T with
  | error z =>
    have C7 := Lib.hid (p_outcome_err (w := w5) (bR := bR) (bC := g) (z := z) HLR.out.1 HLR.out.2 (fun u hu => HU.out u hu))
    have hne : (z != 0) = true := by simpa using Pt.upk_er HT.out
    have HP6F := Lib.hid (show ∀ u, Fz w5 bR g u → Pb u b6 R (.slice (some ⟨g, 0, none⟩) (R * C) cp) from fun u hu => pb_fz HPB.out hu (by have := HZ.out; omega) (by have := HZ.out; omega))
    · go_wp2_with (first | (go_at_call 42; ((with_reducible refine (C7.out).mono ?_); rintro x' w6 ⟨rfl, h6⟩; have H6 := Lib.hid h6; have HP6 := Lib.hid (show Pb w6 b6 R (.slice (some ⟨g, 0, none⟩) (R * C) cp) from HP6F.out w6 h6); clear h6)) | ((refine st_pat (by rfl) _ _ rfl rfl rfl HP6.out.2 ?_); intro w7 h7 g7; have H7 := Lib.hid h7; have G7 := Lib.hid g7; clear h7 g7))
      refine bodyPost_ret (res_pne rfl rfl H7.out.1 rfl rfl) rfl ⟨?_, ?_⟩
      · show _ = Ending.returned (.tuple #[PV 0 none 0 0, .int .i64 0, .int .i64 z])
        rfl
      have a := HZ.out
      have a2 := H6.out.size
      exact grown_at (below_fz HBW.out H6.out (by omega) (by omega)) (by omega) (by omega) G7.out
  | ok u =>
    have C7 := Lib.hid (p_outcome_ok (w := w5) (bR := bR) (bC := g) (K := fun w1 => ∃ j, u.b = xs.drop j ∧ u.row.length = R * C ∧ Rw w1 bR g 0 xs p cap j (List.replicate (R * C) Pt.zc) u.row u.ls w1) HLR.out.1 HLR.out.2 (fun v hv => (HU.out v hv).mono fun x w' ⟨j, h1, h2, h3, h4⟩ => ⟨h1, h4.fr, j, h2, h3, h4.rebase⟩))
    have HP6F := Lib.hid (show ∀ v, Fz w5 bR g v → Pb v b6 R (.slice (some ⟨g, 0, none⟩) (R * C) cp) from fun v hv => pb_fz HPB.out hv (by have := HZ.out; omega) (by have := HZ.out; omega))
    go_upto_region 10 with (first | (go_at_call 42; ((with_reducible refine (C7.out).mono ?_); rintro x' w6 ⟨rfl, h6, w5b, ⟨j, hj1, hj2, hj3⟩, hj4⟩; have H6 := Lib.hid h6; have HP6 := Lib.hid (HP6F.out w6 h6); have HJ := Lib.hid (show u.b = xs.drop j ∧ u.row.length = R * C from ⟨hj1, hj2⟩); have HX6 := Lib.hid hj3; have HG6 := Lib.hid hj4; clear h6 hj1 hj2 hj3 hj4)))
    have p1 : w6.cell? ⟨bR, 1, none⟩ = some (.int .i64 (j : Nat)) := cell_grown HG6.out HX6.out.rn.ps (by have := HZ.out; show bR ≠ w5.heap.size; omega)
    have ⟨q0, q1, q2, q3⟩ := HP6.out.cells
    have HP1' := Lib.hid p1
    have hdb : ¬ b6 = bR := by have := HZ.out; omega
    go_region
    obtain ⟨w7, hw7⟩ : ∃ w7, w7 = ((w6.setCell ⟨b6, 0, none⟩ (.int .i64 R)).setCell ⟨b6, 1, none⟩ (.slice (some ⟨g, 0, none⟩) (R * C) cp)).drew := ⟨_, rfl⟩
    rw [← hw7]
    have G7 := Lib.hid (show w6.grownBy w7 (some b6) by
      have h := (grown_set w6 b6 0 (.int .i64 R)).trans (grown_set (w6.setCell ⟨b6, 0, none⟩ (.int .i64 R)) b6 1 (.slice (some ⟨g, 0, none⟩) (R * C) cp))
      rw [hw7]
      exact ⟨h.os, h.tape, h.output, h.size, h.block⟩)
    have H7 := Lib.hid (show Pb w7 b6 R (.slice (some ⟨g, 0, none⟩) (R * C) cp) by
      rw [hw7]
      exact ⟨World.rangeAt_setCells_same w6 b6 0 [.int .i64 R, .slice (some ⟨g, 0, none⟩) (R * C) cp] HP6.out.2, World.there_setCells HP6.out.2 b6 0 [.int .i64 R, .slice (some ⟨g, 0, none⟩) (R * C) cp]⟩)
    clear hw7
    go_wp2
    have a := HZ.out
    have ej : n - u.b.length = j := by rw [HJ.out.1, List.length_drop, HXN.out]; have := HX6.out.rn.hi; rw [HXN.out] at this; omega
    refine bodyPost_ret (res_pne rfl rfl H7.out.1 rfl rfl) rfl ⟨⟨some ⟨g, 0, none⟩, cp, ?_, ?_, .inr ⟨g, rfl, by omega, ?_⟩⟩, ?_⟩
    · rw [HJ.out.2, ej]
      rfl
    · rw [HJ.out.2]
      exact HC1.out
    · have h := HX6.out.kc
      rw [lay_all HJ.out.2] at h
      exact (h.grown HG6.out (by omega)).grown G7.out (by omega)
    · have a2 := H6.out.size
      exact grown_at (below_fz HBW.out H6.out (by omega) (by omega)) (by omega) (by omega) G7.out
theorem p_Unpack (R C : Int) (p : Option Addr) (xs : List Int) (cap : Nat) (hm : (xs.length : Int) ≤ 9223372036854775807) (hy : Pt.bys xs) (w : World) (hin : InB w p xs) (hp : ∀ b off, p = some ⟨b, off, none⟩ → b < w.heap.size) :
    Calls Try.prog 19 #[.slice p xs.length cap, .int .i64 R, .int .i64 C] w fun x w' => RetN R (Pt.unp R C xs) w.heap.size x w' ∧ Below w.heap.size w w' := by
  by_cases h0 : Pt.eBlank R C = 0
  · have hb : (1 ≤ R ∧ R ≤ 64) ∧ (1 ≤ C ∧ C ≤ 16) := by
      unfold Pt.eBlank at h0
      by_cases a : Pt.wth C 1 16 = true
      · by_cases b : Pt.wth R 1 64 = true
        · exact ⟨Pt.wth_iff.1 b, Pt.wth_iff.1 a⟩
        · simp [a, b] at h0
      · simp [a] at h0
    obtain ⟨r, rfl⟩ : ∃ r : Nat, R = (r : Int) := ⟨R.toNat, by omega⟩
    obtain ⟨c, rfl⟩ : ∃ c : Nat, C = (c : Int) := ⟨C.toNat, by omega⟩
    by_cases hn : xs.length ≤ 400000
    · have e : Pt.unp r c xs = Pt.unE xs.length (Pt.upk r c xs) := by simp [Pt.unp, h0, hn]
      rw [e]
      exact p_Unpack_go (by omega) (by omega) (by omega) (by omega) p xs cap hn hy w hin hp rfl
    · have e : Pt.unp r c xs = .error 3 := by simp [Pt.unp, h0, hn]
      rw [e]
      exact p_Unpack_long (by omega) (by omega) (by omega) (by omega) p xs.length cap (by omega) hm w
  · have e : Pt.unp R C xs = .error (Pt.eBlank R C) := by simp [Pt.unp, h0]
    rw [e]
    exact p_Unpack_bad R C p xs.length cap w rfl h0
end Go.Proofs.Ytfjfnbeegojlbaa

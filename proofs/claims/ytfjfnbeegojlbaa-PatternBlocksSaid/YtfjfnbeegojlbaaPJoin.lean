/-
  The library's slices.Grow and slices.Concat at cells; package pattern's Join.
-/
import Derived.Test.YtfjfnbeegojlbaaPPst
import Derived.Lib.AppendZerosOnto
import Derived.Lib.Walk
namespace Go.Proofs.Ytfjfnbeegojlbaa
open Go.RowKit

/-- Grow of no slice: a row of one's own with room for n cells, none of which counts. -/
theorem p_Grow (n : Nat) (w : World) (hn : n ≤ 2048) (h1 : 1 ≤ n) :
    Calls Try.prog 54 #[.slice none 0 0, .int .i64 n] w fun x w' => ∃ g c, x = .returned (.slice (some ⟨g, 0, none⟩) 0 c) ∧ w'.ownsRow w.heap.size 28 6 (.slice (some ⟨g, 0, none⟩) 0 c) 0 (cc []) ∧ Below w.heap.size w w' := by
  obtain ⟨i0, hinf, hz0, hz1, hz2⟩ := info_parts Try.infoCell
  have hold : (Builtin.firstCells i0.size 0 (.slice none 0 0)).run Try.prog w.drew = .ok #[] w.drew := run_firstCells_none w.drew i0.size 0 0 0
  have hrz := fun ty => Lib.run_append_grow_zeros w 22 3 ty 28 i0 _ .i64 .i64 Try.underlying22 Try.underlying3 hinf hz0 none 0 0 [] hold n (by omega) (by omega) (by omega) (by omega) (by rw [hz2]; omega) (growslice_fits (by omega) (by rw [hz2]; omega))
  have hG := grownCap_ge w (0 + n) 0 28
  have hG2 := grownCap_le_maxLen w (0 + n) 0 28 (by unfold maxLen; omega)
  obtain ⟨G, hGe⟩ : ∃ G, G = grownCap w (0 + n) 0 28 := ⟨_, rfl⟩
  rw [← hGe] at hrz hG hG2
  obtain ⟨cs, hcs⟩ : ∃ cs, cs = (#[] : Array Value) ++ Builtin.zeroCells (Value.agg #[.int .i64 0, .int .i64 0, .int .i64 0, .int .i64 0, .int .i64 0, .int .i64 0]).cells n ++ Builtin.zeroCells (Value.agg #[.int .i64 0, .int .i64 0, .int .i64 0, .int .i64 0, .int .i64 0, .int .i64 0]).cells (G - (0 + n)) := ⟨_, rfl⟩
  have hsz : cs.size = G * 6 := by
    rw [hcs]
    simp [Builtin.zeroCells, Value.cells]
    omega
  rw [← hcs] at hrz
  have HR := Lib.hid hrz
  have HZ := Lib.hid (show (w.drew.alloc (.cells cs 28)).ownsRow w.heap.size 28 6 (.slice (some ⟨w.heap.size, 0, none⟩) 0 G) 0 (cc []) from ⟨by simp [cc], .inr ⟨w.heap.size, G, cs, rfl, Nat.le_refl _, by show (w.heap.push (.cells cs _))[w.heap.size]? = _; simp, Nat.zero_le _, hG2, hsz, rfl⟩⟩)
  have hG0 : ¬ G = 0 := by omega
  have hn0 : (0 : Int) < (n : Int) := by omega
  have hn1 : (n : Int) ≤ 2048 := by omega
  have hg1 : (0 : Int) ≤ (G : Int) := by omega
  clear hrz hold hsz hcs hGe hinf hz0 hz1 hz2 hn h1
  go_enter Try.func54, Try.ntmps54
  go_wp2_with (first | (at_builtin; refine Lib.wpList_append_run _ rfl _ _ _ _ rfl _ _ rfl rfl _ _ (HR.out _) ?_))
  go_ret
  exact ⟨w.heap.size, G, rfl, HZ.out, (below_box w _).drew⟩
set_option maxRecDepth 100000 in
set_option maxHeartbeats 3200000 in
theorem p_Concat (l1 l2 : List Pt.Cl) (a1 a2 : Addr) (c1 c2 n1 n2 : Nat) (bs : Nat) (w : World) (hn1 : l1.length = n1) (hn2 : l2.length = n2) (d1 : CellsAt w (some a1) l1) (d2 : CellsAt w (some a2) l2) (b1 : n1 ≤ 1024) (b2 : n2 ≤ 1024) (hp : 1 ≤ n1) (k0 : w.cell? ⟨bs, 0, none⟩ = some (.slice (some a1) n1 c1)) (k1 : w.cell? ⟨bs, 1, none⟩ = some (.slice (some a2) n2 c2)) :
    Calls Try.prog 35 #[.slice (some ⟨bs, 0, none⟩) 2 2] w fun x w' => RetL (l1 ++ l2) w.heap.size x w' ∧ Below w.heap.size w w' := by
  obtain ⟨i0, hinf, hz0, hz1, hz2⟩ := info_parts Try.infoCell
  have CG := Lib.hid (p_Grow (n1 + n2) w (by omega) (by omega))
  have src : ∀ {l : List Pt.Cl} {a : Addr}, CellsAt w (some a) l → ∀ u, Below w.heap.size w u → ∀ j x, (cc l)[j]? = some x → u.cell? (a.add j) = some x := by
    intro l a hd u hu j x hx
    rcases hd.below hu with rfl | ⟨b, off, hp, _, hc⟩
    · simp [cc] at hx
    · obtain rfl : a = ⟨b, off, none⟩ := by simpa using hp
      rw [Addr.add_mid]
      exact hc j x hx
  have S1 := Lib.hid (src d1)
  have S2 := Lib.hid (src d2)
  have K := Lib.hid (show w.cell? ⟨bs, 0, none⟩ = some (.slice (some a1) n1 c1) ∧ w.cell? ⟨bs, 1, none⟩ = some (.slice (some a2) n2 c2) from ⟨k0, k1⟩)
  have m1 : (n1 : Int) ≤ 1024 := by omega
  have m2 : (n2 : Int) ≤ 1024 := by omega
  have HN1 := Lib.hid hn1
  have HN2 := Lib.hid hn2
  have HBD := Lib.hid (show n1 ≤ 1024 ∧ n2 ≤ 1024 from ⟨b1, b2⟩)
  rw [show ((n1 + n2 : Nat) : Int) = (n1 : Int) + (n2 : Int) by omega] at CG
  clear d1 d2 src hn1 hn2 b1 b2
  go_enter Try.func35, Try.ntmps35
  go_wp2
  go_loopw [3, 11] (fun s i wr => wr = w ∧ ((i = .int .i64 0 ∧ s = .int .i64 0) ∨ (i = .int .i64 1 ∧ s = .int .i64 (n1 : Int)) ∨ (i = .int .i64 2 ∧ s = .int .i64 ((n1 : Int) + (n2 : Int))))) (fun _ i _ => 2 - (intOf i).toNat)
  case atStart => exact ⟨rfl, .inl ⟨rfl, rfl⟩⟩
  case round =>
    obtain ⟨rfl, ⟨rfl, rfl⟩ | ⟨rfl, rfl⟩ | ⟨rfl, rfl⟩⟩ := hrel
    · go_wp2
      go_roundw
      case rel => simp
      case measure => simp [intOf]
    · go_wp2
      go_roundw
      case rel => simp
      case measure => simp [intOf]
    · have hm : (0 : Int) ≤ (n1 : Int) + (n2 : Int) := by omega
      go_wp2_with (first | (go_at_call 54; ((with_reducible refine (CG.out).mono ?_); rintro x' w1 ⟨g, c, rfl, ho1, hb1⟩; have HO1 := Lib.hid ho1; have HB1 := Lib.hid hb1; clear ho1 hb1)))
      go_loopw [6, 27] (fun v i u => Hid (Below wr.heap.size wr u) ∧ ((i = .int .i64 0 ∧ Hid (u.ownsRow wr.heap.size 28 6 v 0 (cc []))) ∨ (i = .int .i64 1 ∧ Hid (u.ownsRow wr.heap.size 28 6 v n1 (cc l1))) ∨ (i = .int .i64 2 ∧ Hid (u.ownsRow wr.heap.size 28 6 v (n1 + n2) (cc (l1 ++ l2)))))) (fun _ i _ => 2 - (intOf i).toNat)
      case atStart => exact ⟨HB1.out, .inl ⟨rfl, HO1.out⟩⟩
      case round =>
        obtain ⟨HBw, ⟨rfl, HO⟩ | ⟨rfl, HO⟩ | ⟨rfl, HO⟩⟩ := hrel
        · have q0 := kept_cell HBw.out K.out.1
          go_wp2_with (first | (at_builtin; go_loud (refine wpList_append_own _ rfl (.tmp 31) (.tmp 32) 22 rfl _ 28 i0 (.agg #[.int .i64 0, .int .i64 0, .int .i64 0, .int .i64 0, .int .i64 0, .int .i64 0]) 6 48 Try.underlying22 hinf hz0 hz1 hz2 rfl (by decide) _ 0 (cc []) rfl HO.out a1 n1 c1 (cc l1) rfl (by rw [cc_len, HN1.out]) (S1.out _ HBw.out) (cc_one _) (by have := HBD.out; unfold maxLen; omega) (by have := HBD.out; omega) HBw.out.size ?_; intro v' w3 hown' hgrow _; have hb3 := grown_base hgrow (fun g hg => (World.ownsRow.lt HO.out g hg).1) HBw.out.size; clear hgrow; rw [← cc_app] at hown'; have HO3 := Lib.hid hown'; have HB3 := Lib.hid (HBw.out.trans hb3); clear hown' hb3)))
          go_roundw
          case rel =>
            refine ⟨HB3.out, .inr (.inl ⟨rfl, ?_⟩)⟩
            have := HO3.out
            rwa [List.nil_append, Nat.zero_add] at this
          case measure => simp [intOf]
        · have q1 := kept_cell HBw.out K.out.2
          go_wp2_with (first | (at_builtin; go_loud (refine wpList_append_own _ rfl (.tmp 31) (.tmp 32) 22 rfl _ 28 i0 (.agg #[.int .i64 0, .int .i64 0, .int .i64 0, .int .i64 0, .int .i64 0, .int .i64 0]) 6 48 Try.underlying22 hinf hz0 hz1 hz2 rfl (by decide) _ n1 (cc l1) rfl HO.out a2 n2 c2 (cc l2) rfl (by rw [cc_len, HN2.out]) (S2.out _ HBw.out) (cc_one _) (by have := HBD.out; unfold maxLen; omega) (by have := HBD.out; omega) HBw.out.size ?_; intro v' w3 hown' hgrow _; have hb3 := grown_base hgrow (fun g hg => (World.ownsRow.lt HO.out g hg).1) HBw.out.size; clear hgrow; rw [← cc_app] at hown'; have HO3 := Lib.hid hown'; have HB3 := Lib.hid (HBw.out.trans hb3); clear hown' hb3)))
          go_roundw
          case rel => exact ⟨HB3.out, .inr (.inr ⟨rfl, HO3.out⟩)⟩
          case measure => simp [intOf]
        · go_wp2
          go_ret
          exact ⟨retl_row HO.out (by rw [List.length_append, HN1.out, HN2.out]), HBw.out⟩
theorem res_ppe {fn : Func} {q q' u : Tmp} (hf : fn.results = #[.cell q 24, .cell q' 24, .tmp u]) {tmps : Array Value} {w : World} {b b' : Nat} (hp : tmps.getD q undef = .pointer (some ⟨b, 0, none⟩)) (hp' : tmps.getD q' undef = .pointer (some ⟨b', 0, none⟩)) {r r' : Int} {v v' x : Value} (h : w.rangeAt b 0 [.int .i64 r, v]) (h' : w.rangeAt b' 0 [.int .i64 r', v']) (hv : tmps.getD u undef = x) :
    (results fn tmps).run Try.prog w = .ok (.tuple #[.agg #[.int .i64 r, v], .agg #[.int .i64 r', v'], x]) w := by
  simp only [results, hf]
  have e1 : tmps[q]?.getD undef = .pointer (some ⟨b, 0, none⟩) := by simpa using hp
  have e2 : tmps[q']?.getD undef = .pointer (some ⟨b', 0, none⟩) := by simpa using hp'
  have e3 : tmps[u]?.getD undef = x := by simpa using hv
  simp [e1, e2, e3, asAddr, run_loadVar_mid w b 0 24 [.int .i64 r, v] _ h Try.underlying24 rfl Try.infoPat, run_loadVar_mid w b' 0 24 [.int .i64 r', v'] _ h' Try.underlying24 rfl Try.infoPat]
theorem keepJoin {W : World} {b : Nat} {r : Int} {v : Value} {r' : Int} {v' : Value} (hp : Pb W b r v) (hq : Pb W (b + 1) r' v') {w' : World} (hb : W.grownBy w' (some (b + 2))) :
    W.grownBy w' (some (b + 2)) ∧ w'.cell? ⟨b, 0, none⟩ = some (.int .i64 r) ∧ w'.cell? ⟨b, 1, none⟩ = some v ∧ w'.cell? ⟨b + 1, 0, none⟩ = some (.int .i64 r') ∧ w'.cell? ⟨b + 1, 1, none⟩ = some v' :=
  have n1 : b ≠ b + 2 := by omega
  have n2 : b + 1 ≠ b + 2 := by omega
  ⟨hb, cell_grown hb (hp.1 0 _ rfl) n1, cell_grown hb (hp.1 1 _ rfl) n1, cell_grown hb (hq.1 0 _ rfl) n2, cell_grown hb (hq.1 1 _ rfl) n2⟩
theorem made0 (w : World) (v v' : Value) (t : TypeId) : (w.drew.alloc (.cells #[v, v'] t)).cell? ⟨w.heap.size, 0, none⟩ = some v := by
  show (w.alloc (.cells #[v, v'] t)).cell? ⟨w.heap.size, 0, none⟩ = some v
  simp
theorem made1 (w : World) (v v' : Value) (t : TypeId) : (w.drew.alloc (.cells #[v, v'] t)).cell? ⟨w.heap.size, 1, none⟩ = some v' := by
  show (w.alloc (.cells #[v, v'] t)).cell? ⟨w.heap.size, 1, none⟩ = some v'
  simp
theorem below_made (w : World) (o : Obj) : Below w.heap.size w (w.drew.alloc o) := ((Below.refl w.heap.size w).drew).alloc (Nat.le_refl _) _
set_option maxHeartbeats 1600000 in
theorem p_Join_bad (r : Int) (l : List Pt.Cl) (p : Option Addr) (cap : Nat) (q : Int) (m : List Pt.Cl) (p' : Option Addr) (cap' : Nat) (ch : Int) (w : World) (hd : CellsAt w p l) (hd2 : CellsAt w p' m) {e : Int} (he : Pt.eJoin r l q m ch = e) (h0 : e ≠ 0) :
    Calls Try.prog 13 #[PV r p l.length cap, PV q p' m.length cap', .int .i64 ch] w fun x w' => RetPE 0 [] e w.heap.size x w' ∧ Below w.heap.size w w' := by
  obtain ⟨W, hW, hB, hs, hp, ha, hr⟩ := pats_new w r (.slice p l.length cap) q (.slice p' m.length cap')
  have HB := Lib.hid hB
  have C1 := Lib.hid (p_Valid r l p cap ch W (hd.below hB))
  have C2 := Lib.hid (fun u (hu : Below W.heap.size W u) => p_Valid q m p' cap' ch u ((hd2.below hB).below hu))
  have HR := Lib.hid hr
  have HP := Lib.hid hp
  have HA := Lib.hid ha
  unfold PV at C1 C2 ⊢
  obtain ⟨b, hb⟩ : ∃ b, b = w.heap.size := ⟨_, rfl⟩
  rw [← hb] at hp ha hs HR HP HA
  have HS := Lib.hid hs
  have HBE := Lib.hid hb
  obtain ⟨k0, k1, a0, a1⟩ := four hp ha (Below.refl _ W)
  unfold Pt.eJoin at he
  cases h1 : Pt.vpat r l ch with
  | false =>
    rw [h1] at C1 he
    obtain rfl : e = 1 := he.symm
    clear hd hd2 hp ha hr h0 he hB hs h1 C2
    go_enter Try.func13, Try.ntmps13
    go_upto_region 1 with fail
    rw [← hW, ← hb]
    clear hW hb
    go_wp2_with (first | (go_at_call 7; ((with_reducible refine (C1.out).mono ?_); rintro x' w1 ⟨rfl, hb1⟩; have HB1 := Lib.hid hb1; clear hb1)) | ((refine st_pat (by rfl) _ _ rfl rfl rfl (HR.out.kept HB1.out).2 ?_); intro w2 h2 g2; have H2 := Lib.hid h2; have G2 := Lib.hid g2; clear h2 g2))
    have e1 := HBE.out
    have e2 := HS.out
    have e3 := HB1.out.size
    exact bodyPost_ret (res_pe rfl rfl H2.out.1 rfl) rfl ⟨⟨none, 0, rfl, Nat.le_refl _, .inl rfl⟩, grown_at (stepB HB.out HB1.out) (by omega) (by omega) G2.out⟩
  | true =>
    cases h2 : Pt.vpat q m ch with
    | false =>
      rw [h1] at C1 he
      rw [h2] at C2 he
      obtain rfl : e = 1 := he.symm
      clear hd hd2 hp ha hr h0 he hB hs h1 h2
      go_enter Try.func13, Try.ntmps13
      go_upto_region 1 with fail
      rw [← hW, ← hb]
      clear hW hb
      go_wp2_with (first | (go_at_call 7; ((with_reducible refine (C1.out).mono ?_); rintro x' w1 ⟨rfl, hb1⟩; have HB1 := Lib.hid hb1; clear hb1 k0 k1 a0 a1; obtain ⟨k0, k1, a0, a1⟩ := four HP.out HA.out HB1.out)) | (go_at_call 7; ((with_reducible refine (C2.out _ HB1.out).mono ?_); rintro x' w2 ⟨rfl, hb2⟩; have HB2 := Lib.hid (stepB HB1.out hb2); clear hb2)) | ((refine st_pat (by rfl) _ _ rfl rfl rfl (HR.out.kept HB2.out).2 ?_); intro w2 h2 g2; have H2 := Lib.hid h2; have G2 := Lib.hid g2; clear h2 g2))
      have e1 := HBE.out
      have e2 := HS.out
      have e3 := HB2.out.size
      exact bodyPost_ret (res_pe rfl rfl H2.out.1 rfl) rfl ⟨⟨none, 0, rfl, Nat.le_refl _, .inl rfl⟩, grown_at (stepB HB.out HB2.out) (by omega) (by omega) G2.out⟩
    | true =>
      obtain ⟨-, ⟨x1, x2⟩, -, -⟩ := Pt.vpat_iff.1 h1
      obtain ⟨-, ⟨x3, x4⟩, -, -⟩ := Pt.vpat_iff.1 h2
      have hgt : 64 < r + q := by
        by_cases hc : r + q ≤ 64
        · rw [h1, h2, if_pos (by rfl), if_pos hc] at he; exact absurd he.symm h0
        · omega
      obtain rfl : e = 4 := by
        rw [h1, h2, if_pos (by rfl), if_neg (by omega)] at he; exact he.symm
      rw [h1] at C1
      rw [h2] at C2
      clear hd hd2 hp ha hr h0 he hB hs h1 h2
      go_enter Try.func13, Try.ntmps13
      go_upto_region 1 with fail
      rw [← hW, ← hb]
      clear hW hb
      go_wp2_with (first | (go_at_call 7; ((with_reducible refine (C1.out).mono ?_); rintro x' w1 ⟨rfl, hb1⟩; have HB1 := Lib.hid hb1; clear hb1 k0 k1 a0 a1; obtain ⟨k0, k1, a0, a1⟩ := four HP.out HA.out HB1.out)) | (go_at_call 7; ((with_reducible refine (C2.out _ HB1.out).mono ?_); rintro x' w2 ⟨rfl, hb2⟩; have HB2 := Lib.hid (stepB HB1.out hb2); clear hb2 k0 k1 a0 a1; obtain ⟨k0, k1, a0, a1⟩ := four HP.out HA.out HB2.out)) | ((refine st_pat (by rfl) _ _ rfl rfl rfl (HR.out.kept HB2.out).2 ?_); intro w2 h2 g2; have H2 := Lib.hid h2; have G2 := Lib.hid g2; clear h2 g2))
      have e1 := HBE.out
      have e2 := HS.out
      have e3 := HB2.out.size
      exact bodyPost_ret (res_pe rfl rfl H2.out.1 rfl) rfl ⟨⟨none, 0, rfl, Nat.le_refl _, .inl rfl⟩, grown_at (stepB HB.out HB2.out) (by omega) (by omega) G2.out⟩
set_option maxRecDepth 100000 in
set_option maxHeartbeats 3200000 in
theorem p_Join_ok (R Q C : Nat) (l m : List Pt.Cl) (a1 a2 : Addr) (cap cap' : Nat) (w : World) (hd : CellsAt w (some a1) l) (hd2 : CellsAt w (some a2) m) (h1 : Pt.vpat R l C = true) (h2 : Pt.vpat Q m C = true) (hs : R + Q ≤ 64) (hl : 1 ≤ l.length) (hl2 : l.length ≤ 1024) (hm2 : m.length ≤ 1024) :
    Calls Try.prog 13 #[PV R (some a1) l.length cap, PV Q (some a2) m.length cap', .int .i64 C] w fun x w' => RetPE ((R : Int) + Q) (l ++ m) 0 w.heap.size x w' ∧ Below w.heap.size w w' := by
  obtain ⟨W, hW, hB, hsz, hp, ha, hr⟩ := pats_new w R (.slice (some a1) l.length cap) Q (.slice (some a2) m.length cap')
  have C1 := Lib.hid (p_Valid R l (some a1) cap C W (hd.below hB))
  have C2 := Lib.hid (fun u (hu : Below W.heap.size W u) => p_Valid Q m (some a2) cap' C u ((hd2.below hB).below hu))
  rw [h1] at C1
  rw [h2] at C2
  have HD := Lib.hid (show CellsAt W (some a1) l ∧ CellsAt W (some a2) m from ⟨hd.below hB, hd2.below hB⟩)
  have HB := Lib.hid hB
  have HR := Lib.hid hr
  have HP := Lib.hid hp
  have HA := Lib.hid ha
  obtain ⟨n1, hn1⟩ : ∃ n1, l.length = n1 := ⟨_, rfl⟩
  obtain ⟨n2, hn2⟩ : ∃ n2, m.length = n2 := ⟨_, rfl⟩
  have CC := Lib.hid (fun bs u (hu : Below W.heap.size W u) k0 k1 => p_Concat l m a1 a2 cap cap' n1 n2 bs u hn1 hn2 (HD.out.1.below hu) (HD.out.2.below hu) (by omega) (by omega) (by omega) k0 k1)
  unfold PV at C1 C2 ⊢
  obtain ⟨b, hb⟩ : ∃ b, b = w.heap.size := ⟨_, rfl⟩
  rw [← hb] at hp ha hsz HR HP HA
  have HS := Lib.hid hsz
  have HBE := Lib.hid hb
  obtain ⟨k0, k1, a0', a1'⟩ := four hp ha (Below.refl _ W)
  have HLM := Lib.hid (show (l ++ m).length = n1 + n2 by rw [List.length_append, hn1, hn2])
  rw [hn1] at C1 HP k1 hW
  rw [hn2] at C2 HA a1' hW
  rw [hn1, hn2]
  have i1 : (R : Int) + (Q : Int) ≤ 64 := by omega
  obtain ⟨s, hsum⟩ : ∃ s, (R : Int) + (Q : Int) = s := ⟨_, rfl⟩
  rw [hsum] at i1 ⊢
  have i2 : ¬ (64 < s) := by omega
  have i4 : 0 ≤ s := by omega
  have i3 : IntKind.i64.wrap s = s := by rw [IntKind.wrap_i64]; omega
  clear hd hd2 hp ha hr hB hsz h1 h2 hl hl2 hm2 hn1 hn2 hs
  go_enter Try.func13, Try.ntmps13
  go_upto_region 1 with fail
  rw [← hW, ← hb]
  clear hW hb
  go_upto_region 5 with (first | (go_at_call 7; ((with_reducible refine (C1.out).mono ?_); rintro x' w1 ⟨rfl, hb1⟩; have HB1 := Lib.hid hb1; clear hb1 k0 k1 a0' a1'; obtain ⟨k0, k1, a0', a1'⟩ := four HP.out HA.out HB1.out)) | (go_at_call 7; ((with_reducible refine (C2.out _ HB1.out).mono ?_); rintro x' w2 ⟨rfl, hb2⟩; have HB2 := Lib.hid (stepB HB1.out hb2); clear hb2 k0 k1 a0' a1'; obtain ⟨k0, k1, a0', a1'⟩ := four HP.out HA.out HB2.out)))
  have HP2 := Lib.hid (HP.out.kept HB2.out)
  have HA2 := Lib.hid (HA.out.kept HB2.out)
  have HR2 := Lib.hid (HR.out.kept HB2.out)
  have hg0 : w2.grownBy w2.drew (some (b + 2)) := grownBy_of (Below.refl w2.heap.size w2).drew
  have hg := keepJoin HP2.out HA2.out hg0
  go_region_held3 (fun w' => w2.grownBy w' (some (b + 2)) ∧ w'.cell? ⟨b, 0, none⟩ = some (.int .i64 (R : Int)) ∧ w'.cell? ⟨b, 1, none⟩ = some (.slice (some a1) n1 cap) ∧ w'.cell? ⟨b + 1, 0, none⟩ = some (.int .i64 (Q : Int)) ∧ w'.cell? ⟨b + 1, 1, none⟩ = some (.slice (some a2) n2 cap'))
    (first | with_reducible exact hg | exact keepJoin HP2.out HA2.out (grownBy_of (below_made _ _)) | exact keepJoin HP2.out HA2.out (grownBy_trans (grownBy_of (below_made _ _)) (grownBy_of hB3)) | exact keepJoin HP2.out HA2.out (grownBy_trans (grownBy_trans (grownBy_of (below_made _ _)) (grownBy_of hB3)) (grownBy_trans (grown_set _ _ _ _) (grown_set _ _ _ _))))
    (first | (go_at_call 35; refine (CC.out _ _ (stepB HB2.out (below_made _ _)) (made0 _ _ _ _) (made1 _ _ _ _)).mono ?_; rintro x' w3 ⟨⟨q, c3, rfl, hc3, ho3⟩, hB3⟩; rw [HLM.out] at hc3 ⊢; have HO3 := Lib.hid ho3; have HC3 := Lib.hid hc3; clear ho3 hc3; obtain ⟨y0, y1, y2, y3⟩ := ((HR2.out.kept (below_made _ _)).kept hB3).cells))
  obtain ⟨w4, h4⟩ : ∃ w4, w4 = (w3.setCell ⟨b + 2, 0, none⟩ (.int .i64 s)).setCell ⟨b + 2, 1, none⟩ (.slice q (n1 + n2) c3) := ⟨_, rfl⟩
  have hr4 : w4.rangeAt (b + 2) 0 [.int .i64 s, .slice q (n1 + n2) c3] := by
    rw [h4]
    exact World.rangeAt_setCells_same w3 (b + 2) 0 [.int .i64 s, .slice q (n1 + n2) c3] ((HR2.out.kept (below_made _ _)).kept hB3).2
  have hg4 : w3.grownBy w4 (some (b + 2)) := by rw [h4]; exact grownBy_trans (grown_set _ _ _ _) (grown_set _ _ _ _)
  change Exit.then _ _ _ _ ((w3.setCell ⟨b + 2, 0, none⟩ (.int .i64 s)).setCell ⟨b + 2, 1, none⟩ (.slice q (n1 + n2) c3))
  rw [← h4]
  have HR4 := Lib.hid hr4
  have HG4 := Lib.hid hg4
  have HB3 := Lib.hid hB3
  clear h4 hr4 hg4 hB3 y0 y1 y2 y3 hg hg0
  go_wp2
  have e1 := HBE.out
  have e2 := HS.out
  have e3 := HB2.out.size
  have e4 := HB3.out.size
  have e5 : (w2.drew.alloc (.cells #[.slice (some a1) n1 cap, .slice (some a2) n2 cap'] 22)).heap.size = w2.heap.size + 1 := by
    show (w2.alloc _).heap.size = _
    simp
  refine bodyPost_ret (res_pe rfl rfl HR4.out rfl) rfl ⟨⟨q, c3, ?_, ?_, (HO3.out.grown HG4.out (by omega)).mono (by omega)⟩, grown_at (stepB (stepB HB.out (stepB HB2.out (below_made _ _))) HB3.out) (by omega) (by omega) HG4.out⟩
  · rw [HLM.out]; rfl
  · rw [HLM.out]; exact HC3.out
theorem p_Join (r : Int) (l : List Pt.Cl) (p : Option Addr) (cap : Nat) (q : Int) (m : List Pt.Cl) (p' : Option Addr) (cap' : Nat) (ch : Int) (w : World) (hd : CellsAt w p l) (hd2 : CellsAt w p' m) :
    Calls Try.prog 13 #[PV r p l.length cap, PV q p' m.length cap', .int .i64 ch] w fun x w' => RetPE (Pt.okI (Pt.eJoin r l q m ch) (r + q)) (Pt.okL (Pt.eJoin r l q m ch) (l ++ m)) (Pt.eJoin r l q m ch) w.heap.size x w' ∧ Below w.heap.size w w' := by
  by_cases h : Pt.eJoin r l q m ch = 0
  · have h1 : Pt.vpat r l ch = true ∧ Pt.vpat q m ch = true ∧ r + q ≤ 64 := by
      unfold Pt.eJoin at h
      cases e1 : Pt.vpat r l ch with
      | false => rw [e1] at h; simp at h
      | true =>
        cases e2 : Pt.vpat q m ch with
        | false => rw [e1, e2] at h; simp at h
        | true =>
          by_cases e3 : r + q ≤ 64
          · exact ⟨rfl, rfl, e3⟩
          · rw [e1, e2, if_pos (by rfl), if_neg e3] at h; exact absurd h (by decide)
    obtain ⟨x1, x2, x3⟩ := h1
    rw [h]
    obtain ⟨R, C, rfl, rfl, g1, g2, g3, g4, g5, -⟩ := Pt.vpat_nat x1
    obtain ⟨Q, C', rfl, hC, f1, f2, f3, f4, f5, -⟩ := Pt.vpat_nat x2
    obtain rfl : C = C' := Int.ofNat.inj hC
    have hp1 := Nat.mul_pos (show 0 < R by omega) (show 0 < C by omega)
    have hp2 := Nat.mul_pos (show 0 < Q by omega) (show 0 < C by omega)
    have hq1 := Pt.rc_bound g2 g4
    have hq2 := Pt.rc_bound f2 g4
    rcases hd with rfl | ⟨b1, o1, rfl, hb1, hr1⟩
    · simp at g5; omega
    rcases hd2 with rfl | ⟨b2, o2, rfl, hb2, hr2⟩
    · simp at f5; omega
    exact p_Join_ok R Q C l m _ _ cap cap' w (.inr ⟨b1, o1, rfl, hb1, hr1⟩) (.inr ⟨b2, o2, rfl, hb2, hr2⟩) x1 x2 (by omega) (by omega) (by omega) (by omega)
  · have e1 : Pt.okI (Pt.eJoin r l q m ch) (r + q) = 0 := if_neg h
    have e2 : Pt.okL (Pt.eJoin r l q m ch) (l ++ m) = [] := if_neg h
    rw [e1, e2]
    exact p_Join_bad r l p cap q m p' cap' ch w hd hd2 rfl h
end Go.Proofs.Ytfjfnbeegojlbaa

/-
  The library's slices.Grow and slices.Concat at cells; package pattern's Join. Package pattern's Split. The reference's Split.
-/
import Derived.Test.YtfjfnbeegojlbaaGreatPPst
import Derived.Lib.AppendZerosOnto
import Derived.Lib.Walk
import Derived.Test.YtfjfnbeegojlbaaGreatPPack
import Derived.Test.YtfjfnbeegojlbaaGreatRBadB
import Derived.Test.YtfjfnbeegojlbaaGreatRTr
import Derived.Deep.RegionHeld3
namespace Go.Proofs.YtfjfnbeegojlbaaGreat
open Go.RowKit

/-- Grow of no slice: a row of one's own with room for n cells, none of which counts. -/
theorem p_Grow (n : Nat) (w : World) (hn : n ≤ 2048) (h1 : 1 ≤ n) :
    Calls Tryz.prog 68 #[.slice none 0 0, .int .i64 n] w fun x w' => ∃ g c, x = .returned (.slice (some ⟨g, 0, none⟩) 0 c) ∧ w'.ownsRow w.heap.size 28 6 (.slice (some ⟨g, 0, none⟩) 0 c) 0 (cc []) ∧ Below w.heap.size w w' := by
  obtain ⟨i0, hinf, hz0, hz1, hz2⟩ := info_parts Tryz.infoCell
  have hold : (Builtin.firstCells i0.size 0 (.slice none 0 0)).run Tryz.prog w.drew = .ok #[] w.drew := run_firstCells_none w.drew i0.size 0 0 0
  have hrz := fun ty => Lib.run_append_grow_zeros w 22 3 ty 28 i0 _ .i64 .i64 Tryz.underlying22 Tryz.underlying3 hinf hz0 none 0 0 [] hold n (by omega) (by omega) (by omega) (by omega) (by rw [hz2]; omega) (growslice_fits (by omega) (by rw [hz2]; omega))
  have hG := grownCap_ge w (0 + n) 0 28
  have hG2 := grownCap_le_maxLen w (0 + n) 0 28 (by unfold maxLen; omega)
  obtain ⟨G, hGe⟩ : ∃ G, G = grownCap w (0 + n) 0 28 := ⟨_, rfl⟩
  rw [← hGe] at hrz hG hG2
  obtain ⟨cs, hcs⟩ : ∃ cs, cs = (#[] : Array Value) ++ Builtin.zeroCells (Value.agg #[.int .i64 0, .int .i64 0, .int .i64 0, .int .i64 0, .int .i64 0, .int .i64 0]).cells n ++ Builtin.zeroCells (Value.agg #[.int .i64 0, .int .i64 0, .int .i64 0, .int .i64 0, .int .i64 0, .int .i64 0]).cells (G - (0 + n)) := ⟨_, rfl⟩
  have hsz : cs.size = G * 6 := by
    rw [hcs]
    simp [Builtin.zeroCells, Value.cells]
    omega
  rw [← hcs] at hrz
  have HR := Lib.hid hrz
  have HZ := Lib.hid (show (w.drew.alloc (.cells cs 28)).ownsRow w.heap.size 28 6 (.slice (some ⟨w.heap.size, 0, none⟩) 0 G) 0 (cc []) from ⟨by simp [cc], .inr ⟨w.heap.size, G, cs, rfl, Nat.le_refl _, by show (w.heap.push (.cells cs _))[w.heap.size]? = _; simp, Nat.zero_le _, hG2, hsz, rfl⟩⟩)
  have hG0 : ¬ G = 0 := by omega
  have hn0 : (0 : Int) < (n : Int) := by omega
  have hn1 : (n : Int) ≤ 2048 := by omega
  have hg1 : (0 : Int) ≤ (G : Int) := by omega
  clear hrz hold hsz hcs hGe hinf hz0 hz1 hz2 hn h1
  go_enter Tryz.func68, Tryz.ntmps68
  go_wp2_with (first | (at_builtin; refine Lib.wpList_append_run _ rfl _ _ _ _ rfl _ _ rfl rfl _ _ (HR.out _) ?_))
  go_ret
  exact ⟨w.heap.size, G, rfl, HZ.out, (below_box w _).drew⟩
set_option maxRecDepth 100000 in
set_option maxHeartbeats 3200000 in
theorem p_Concat (l1 l2 : List Pt.Cl) (a1 a2 : Addr) (c1 c2 n1 n2 : Nat) (bs : Nat) (w : World) (hn1 : l1.length = n1) (hn2 : l2.length = n2) (d1 : CellsAt w (some a1) l1) (d2 : CellsAt w (some a2) l2) (b1 : n1 ≤ 1024) (b2 : n2 ≤ 1024) (hp : 1 ≤ n1) (k0 : w.cell? ⟨bs, 0, none⟩ = some (.slice (some a1) n1 c1)) (k1 : w.cell? ⟨bs, 1, none⟩ = some (.slice (some a2) n2 c2)) :
    Calls Tryz.prog 57 #[.slice (some ⟨bs, 0, none⟩) 2 2] w fun x w' => RetL (l1 ++ l2) w.heap.size x w' ∧ Below w.heap.size w w' := by
  obtain ⟨i0, hinf, hz0, hz1, hz2⟩ := info_parts Tryz.infoCell
  have CG := Lib.hid (p_Grow (n1 + n2) w (by omega) (by omega))
  have src : ∀ {l : List Pt.Cl} {a : Addr}, CellsAt w (some a) l → ∀ u, Below w.heap.size w u → ∀ j x, (cc l)[j]? = some x → u.cell? (a.add j) = some x := by
    intro l a hd u hu j x hx
    rcases hd.below hu with rfl | ⟨b, off, hp, _, hc⟩
    · simp [cc] at hx
    · obtain rfl : a = ⟨b, off, none⟩ := by simpa using hp
      rw [Addr.add_mid]
      exact hc j x hx
  have S1 := Lib.hid (src d1)
  have S2 := Lib.hid (src d2)
  have K := Lib.hid (show w.cell? ⟨bs, 0, none⟩ = some (.slice (some a1) n1 c1) ∧ w.cell? ⟨bs, 1, none⟩ = some (.slice (some a2) n2 c2) from ⟨k0, k1⟩)
  have m1 : (n1 : Int) ≤ 1024 := by omega
  have m2 : (n2 : Int) ≤ 1024 := by omega
  have HN1 := Lib.hid hn1
  have HN2 := Lib.hid hn2
  have HBD := Lib.hid (show n1 ≤ 1024 ∧ n2 ≤ 1024 from ⟨b1, b2⟩)
  rw [show ((n1 + n2 : Nat) : Int) = (n1 : Int) + (n2 : Int) by omega] at CG
  clear d1 d2 src hn1 hn2 b1 b2
  go_enter Tryz.func57, Tryz.ntmps57
  go_wp2
  go_loopw [3, 11] (fun s i wr => wr = w ∧ ((i = .int .i64 0 ∧ s = .int .i64 0) ∨ (i = .int .i64 1 ∧ s = .int .i64 (n1 : Int)) ∨ (i = .int .i64 2 ∧ s = .int .i64 ((n1 : Int) + (n2 : Int))))) (fun _ i _ => 2 - (intOf i).toNat)
  case atStart => exact ⟨rfl, .inl ⟨rfl, rfl⟩⟩
  case round =>
    obtain ⟨rfl, ⟨rfl, rfl⟩ | ⟨rfl, rfl⟩ | ⟨rfl, rfl⟩⟩ := hrel
    · go_wp2
      go_roundw
      case rel => simp
      case measure => simp [intOf]
    · go_wp2
      go_roundw
      case rel => simp
      case measure => simp [intOf]
    · have hm : (0 : Int) ≤ (n1 : Int) + (n2 : Int) := by omega
      go_wp2_with (first | (go_at_call 68; ((with_reducible refine (CG.out).mono ?_); rintro x' w1 ⟨g, c, rfl, ho1, hb1⟩; have HO1 := Lib.hid ho1; have HB1 := Lib.hid hb1; clear ho1 hb1)))
      go_loopw [6, 27] (fun v i u => Hid (Below wr.heap.size wr u) ∧ ((i = .int .i64 0 ∧ Hid (u.ownsRow wr.heap.size 28 6 v 0 (cc []))) ∨ (i = .int .i64 1 ∧ Hid (u.ownsRow wr.heap.size 28 6 v n1 (cc l1))) ∨ (i = .int .i64 2 ∧ Hid (u.ownsRow wr.heap.size 28 6 v (n1 + n2) (cc (l1 ++ l2)))))) (fun _ i _ => 2 - (intOf i).toNat)
      case atStart => exact ⟨HB1.out, .inl ⟨rfl, HO1.out⟩⟩
      case round =>
        obtain ⟨HBw, ⟨rfl, HO⟩ | ⟨rfl, HO⟩ | ⟨rfl, HO⟩⟩ := hrel
        · have q0 := kept_cell HBw.out K.out.1
          go_wp2_with (first | (at_builtin; go_loud (refine wpList_append_own _ rfl (.tmp 31) (.tmp 32) 22 rfl _ 28 i0 (.agg #[.int .i64 0, .int .i64 0, .int .i64 0, .int .i64 0, .int .i64 0, .int .i64 0]) 6 48 Tryz.underlying22 hinf hz0 hz1 hz2 rfl (by decide) _ 0 (cc []) rfl HO.out a1 n1 c1 (cc l1) rfl (by rw [cc_len, HN1.out]) (S1.out _ HBw.out) (cc_one _) (by have := HBD.out; unfold maxLen; omega) (by have := HBD.out; omega) HBw.out.size ?_; intro v' w3 hown' hgrow _; have hb3 := grown_base hgrow (fun g hg => (World.ownsRow.lt HO.out g hg).1) HBw.out.size; clear hgrow; rw [← cc_app] at hown'; have HO3 := Lib.hid hown'; have HB3 := Lib.hid (HBw.out.trans hb3); clear hown' hb3)))
          go_roundw
          case rel =>
            refine ⟨HB3.out, .inr (.inl ⟨rfl, ?_⟩)⟩
            have := HO3.out
            rwa [List.nil_append, Nat.zero_add] at this
          case measure => simp [intOf]
        · have q1 := kept_cell HBw.out K.out.2
          go_wp2_with (first | (at_builtin; go_loud (refine wpList_append_own _ rfl (.tmp 31) (.tmp 32) 22 rfl _ 28 i0 (.agg #[.int .i64 0, .int .i64 0, .int .i64 0, .int .i64 0, .int .i64 0, .int .i64 0]) 6 48 Tryz.underlying22 hinf hz0 hz1 hz2 rfl (by decide) _ n1 (cc l1) rfl HO.out a2 n2 c2 (cc l2) rfl (by rw [cc_len, HN2.out]) (S2.out _ HBw.out) (cc_one _) (by have := HBD.out; unfold maxLen; omega) (by have := HBD.out; omega) HBw.out.size ?_; intro v' w3 hown' hgrow _; have hb3 := grown_base hgrow (fun g hg => (World.ownsRow.lt HO.out g hg).1) HBw.out.size; clear hgrow; rw [← cc_app] at hown'; have HO3 := Lib.hid hown'; have HB3 := Lib.hid (HBw.out.trans hb3); clear hown' hb3)))
          go_roundw
          case rel => exact ⟨HB3.out, .inr (.inr ⟨rfl, HO3.out⟩)⟩
          case measure => simp [intOf]
        · go_wp2
          go_ret
          exact ⟨retl_row HO.out (by rw [List.length_append, HN1.out, HN2.out]), HBw.out⟩
theorem res_ppe {fn : Func} {q q' u : Tmp} (hf : fn.results = #[.cell q 24, .cell q' 24, .tmp u]) {tmps : Array Value} {w : World} {b b' : Nat} (hp : tmps.getD q undef = .pointer (some ⟨b, 0, none⟩)) (hp' : tmps.getD q' undef = .pointer (some ⟨b', 0, none⟩)) {r r' : Int} {v v' x : Value} (h : w.rangeAt b 0 [.int .i64 r, v]) (h' : w.rangeAt b' 0 [.int .i64 r', v']) (hv : tmps.getD u undef = x) :
    (results fn tmps).run Tryz.prog w = .ok (.tuple #[.agg #[.int .i64 r, v], .agg #[.int .i64 r', v'], x]) w := by
  simp only [results, hf]
  have e1 : tmps[q]?.getD undef = .pointer (some ⟨b, 0, none⟩) := by simpa using hp
  have e2 : tmps[q']?.getD undef = .pointer (some ⟨b', 0, none⟩) := by simpa using hp'
  have e3 : tmps[u]?.getD undef = x := by simpa using hv
  simp [e1, e2, e3, asAddr, run_loadVar_mid w b 0 24 [.int .i64 r, v] _ h Tryz.underlying24 rfl Tryz.infoPat, run_loadVar_mid w b' 0 24 [.int .i64 r', v'] _ h' Tryz.underlying24 rfl Tryz.infoPat]
theorem keepJoin {W : World} {b : Nat} {r : Int} {v : Value} {r' : Int} {v' : Value} (hp : Pb W b r v) (hq : Pb W (b + 1) r' v') {w' : World} (hb : W.grownBy w' (some (b + 2))) :
    W.grownBy w' (some (b + 2)) ∧ w'.cell? ⟨b, 0, none⟩ = some (.int .i64 r) ∧ w'.cell? ⟨b, 1, none⟩ = some v ∧ w'.cell? ⟨b + 1, 0, none⟩ = some (.int .i64 r') ∧ w'.cell? ⟨b + 1, 1, none⟩ = some v' :=
  have n1 : b ≠ b + 2 := by omega
  have n2 : b + 1 ≠ b + 2 := by omega
  ⟨hb, cell_grown hb (hp.1 0 _ rfl) n1, cell_grown hb (hp.1 1 _ rfl) n1, cell_grown hb (hq.1 0 _ rfl) n2, cell_grown hb (hq.1 1 _ rfl) n2⟩
theorem made0 (w : World) (v v' : Value) (t : TypeId) : (w.drew.alloc (.cells #[v, v'] t)).cell? ⟨w.heap.size, 0, none⟩ = some v := by
  show (w.alloc (.cells #[v, v'] t)).cell? ⟨w.heap.size, 0, none⟩ = some v
  simp
theorem made1 (w : World) (v v' : Value) (t : TypeId) : (w.drew.alloc (.cells #[v, v'] t)).cell? ⟨w.heap.size, 1, none⟩ = some v' := by
  show (w.alloc (.cells #[v, v'] t)).cell? ⟨w.heap.size, 1, none⟩ = some v'
  simp
theorem below_made (w : World) (o : Obj) : Below w.heap.size w (w.drew.alloc o) := ((Below.refl w.heap.size w).drew).alloc (Nat.le_refl _) _
set_option maxHeartbeats 1600000 in
theorem p_Join_bad (r : Int) (l : List Pt.Cl) (p : Option Addr) (cap : Nat) (q : Int) (m : List Pt.Cl) (p' : Option Addr) (cap' : Nat) (ch : Int) (w : World) (hd : CellsAt w p l) (hd2 : CellsAt w p' m) {e : Int} (he : Pt.eJoin r l q m ch = e) (h0 : e ≠ 0) :
    Calls Tryz.prog 27 #[PV r p l.length cap, PV q p' m.length cap', .int .i64 ch] w fun x w' => RetPE 0 [] e w.heap.size x w' ∧ Below w.heap.size w w' := by
  obtain ⟨W, hW, hB, hs, hp, ha, hr⟩ := pats_new w r (.slice p l.length cap) q (.slice p' m.length cap')
  have HB := Lib.hid hB
  have C1 := Lib.hid (p_Valid r l p cap ch W (hd.below hB))
  have C2 := Lib.hid (fun u (hu : Below W.heap.size W u) => p_Valid q m p' cap' ch u ((hd2.below hB).below hu))
  have HR := Lib.hid hr
  have HP := Lib.hid hp
  have HA := Lib.hid ha
  unfold PV at C1 C2 ⊢
  obtain ⟨b, hb⟩ : ∃ b, b = w.heap.size := ⟨_, rfl⟩
  rw [← hb] at hp ha hs HR HP HA
  have HS := Lib.hid hs
  have HBE := Lib.hid hb
  obtain ⟨k0, k1, a0, a1⟩ := four hp ha (Below.refl _ W)
  unfold Pt.eJoin at he
  cases h1 : Pt.vpat r l ch with
  | false =>
    rw [h1] at C1 he
    obtain rfl : e = 1 := he.symm
    clear hd hd2 hp ha hr h0 he hB hs h1 C2
    go_enter Tryz.func27, Tryz.ntmps27
    go_upto_region 1 with fail
    rw [← hW, ← hb]
    clear hW hb
    go_wp2_with (first | (go_at_call 9; ((with_reducible refine (C1.out).mono ?_); rintro x' w1 ⟨rfl, hb1⟩; have HB1 := Lib.hid hb1; clear hb1)) | ((refine st_pat (by rfl) _ _ rfl rfl rfl (HR.out.kept HB1.out).2 ?_); intro w2 h2 g2; have H2 := Lib.hid h2; have G2 := Lib.hid g2; clear h2 g2))
    have e1 := HBE.out
    have e2 := HS.out
    have e3 := HB1.out.size
    exact bodyPost_ret (res_pe rfl rfl H2.out.1 rfl) rfl ⟨⟨none, 0, rfl, Nat.le_refl _, .inl rfl⟩, grown_at (stepB HB.out HB1.out) (by omega) (by omega) G2.out⟩
  | true =>
    cases h2 : Pt.vpat q m ch with
    | false =>
      rw [h1] at C1 he
      rw [h2] at C2 he
      obtain rfl : e = 1 := he.symm
      clear hd hd2 hp ha hr h0 he hB hs h1 h2
      go_enter Tryz.func27, Tryz.ntmps27
      go_upto_region 1 with fail
      rw [← hW, ← hb]
      clear hW hb
      go_wp2_with (first | (go_at_call 9; ((with_reducible refine (C1.out).mono ?_); rintro x' w1 ⟨rfl, hb1⟩; have HB1 := Lib.hid hb1; clear hb1 k0 k1 a0 a1; obtain ⟨k0, k1, a0, a1⟩ := four HP.out HA.out HB1.out)) | (go_at_call 9; ((with_reducible refine (C2.out _ HB1.out).mono ?_); rintro x' w2 ⟨rfl, hb2⟩; have HB2 := Lib.hid (stepB HB1.out hb2); clear hb2)) | ((refine st_pat (by rfl) _ _ rfl rfl rfl (HR.out.kept HB2.out).2 ?_); intro w2 h2 g2; have H2 := Lib.hid h2; have G2 := Lib.hid g2; clear h2 g2))
      have e1 := HBE.out
      have e2 := HS.out
      have e3 := HB2.out.size
      exact bodyPost_ret (res_pe rfl rfl H2.out.1 rfl) rfl ⟨⟨none, 0, rfl, Nat.le_refl _, .inl rfl⟩, grown_at (stepB HB.out HB2.out) (by omega) (by omega) G2.out⟩
    | true =>
      obtain ⟨-, ⟨x1, x2⟩, -, -⟩ := Pt.vpat_iff.1 h1
      obtain ⟨-, ⟨x3, x4⟩, -, -⟩ := Pt.vpat_iff.1 h2
      have hgt : 64 < r + q := by
        by_cases hc : r + q ≤ 64
        · rw [h1, h2, if_pos (by rfl), if_pos hc] at he; exact absurd he.symm h0
        · omega
      obtain rfl : e = 4 := by
        rw [h1, h2, if_pos (by rfl), if_neg (by omega)] at he; exact he.symm
      rw [h1] at C1
      rw [h2] at C2
      clear hd hd2 hp ha hr h0 he hB hs h1 h2
      go_enter Tryz.func27, Tryz.ntmps27
      go_upto_region 1 with fail
      rw [← hW, ← hb]
      clear hW hb
      go_wp2_with (first | (go_at_call 9; ((with_reducible refine (C1.out).mono ?_); rintro x' w1 ⟨rfl, hb1⟩; have HB1 := Lib.hid hb1; clear hb1 k0 k1 a0 a1; obtain ⟨k0, k1, a0, a1⟩ := four HP.out HA.out HB1.out)) | (go_at_call 9; ((with_reducible refine (C2.out _ HB1.out).mono ?_); rintro x' w2 ⟨rfl, hb2⟩; have HB2 := Lib.hid (stepB HB1.out hb2); clear hb2 k0 k1 a0 a1; obtain ⟨k0, k1, a0, a1⟩ := four HP.out HA.out HB2.out)) | ((refine st_pat (by rfl) _ _ rfl rfl rfl (HR.out.kept HB2.out).2 ?_); intro w2 h2 g2; have H2 := Lib.hid h2; have G2 := Lib.hid g2; clear h2 g2))
      have e1 := HBE.out
      have e2 := HS.out
      have e3 := HB2.out.size
      exact bodyPost_ret (res_pe rfl rfl H2.out.1 rfl) rfl ⟨⟨none, 0, rfl, Nat.le_refl _, .inl rfl⟩, grown_at (stepB HB.out HB2.out) (by omega) (by omega) G2.out⟩
set_option maxRecDepth 100000 in
set_option maxHeartbeats 3200000 in
theorem p_Join_ok (R Q C : Nat) (l m : List Pt.Cl) (a1 a2 : Addr) (cap cap' : Nat) (w : World) (hd : CellsAt w (some a1) l) (hd2 : CellsAt w (some a2) m) (h1 : Pt.vpat R l C = true) (h2 : Pt.vpat Q m C = true) (hs : R + Q ≤ 64) (hl : 1 ≤ l.length) (hl2 : l.length ≤ 1024) (hm2 : m.length ≤ 1024) :
    Calls Tryz.prog 27 #[PV R (some a1) l.length cap, PV Q (some a2) m.length cap', .int .i64 C] w fun x w' => RetPE ((R : Int) + Q) (l ++ m) 0 w.heap.size x w' ∧ Below w.heap.size w w' := by
  obtain ⟨W, hW, hB, hsz, hp, ha, hr⟩ := pats_new w R (.slice (some a1) l.length cap) Q (.slice (some a2) m.length cap')
  have C1 := Lib.hid (p_Valid R l (some a1) cap C W (hd.below hB))
  have C2 := Lib.hid (fun u (hu : Below W.heap.size W u) => p_Valid Q m (some a2) cap' C u ((hd2.below hB).below hu))
  rw [h1] at C1
  rw [h2] at C2
  have HD := Lib.hid (show CellsAt W (some a1) l ∧ CellsAt W (some a2) m from ⟨hd.below hB, hd2.below hB⟩)
  have HB := Lib.hid hB
  have HR := Lib.hid hr
  have HP := Lib.hid hp
  have HA := Lib.hid ha
  obtain ⟨n1, hn1⟩ : ∃ n1, l.length = n1 := ⟨_, rfl⟩
  obtain ⟨n2, hn2⟩ : ∃ n2, m.length = n2 := ⟨_, rfl⟩
  have CC := Lib.hid (fun bs u (hu : Below W.heap.size W u) k0 k1 => p_Concat l m a1 a2 cap cap' n1 n2 bs u hn1 hn2 (HD.out.1.below hu) (HD.out.2.below hu) (by omega) (by omega) (by omega) k0 k1)
  unfold PV at C1 C2 ⊢
  obtain ⟨b, hb⟩ : ∃ b, b = w.heap.size := ⟨_, rfl⟩
  rw [← hb] at hp ha hsz HR HP HA
  have HS := Lib.hid hsz
  have HBE := Lib.hid hb
  obtain ⟨k0, k1, a0', a1'⟩ := four hp ha (Below.refl _ W)
  have HLM := Lib.hid (show (l ++ m).length = n1 + n2 by rw [List.length_append, hn1, hn2])
  rw [hn1] at C1 HP k1 hW
  rw [hn2] at C2 HA a1' hW
  rw [hn1, hn2]
  have i1 : (R : Int) + (Q : Int) ≤ 64 := by omega
  obtain ⟨s, hsum⟩ : ∃ s, (R : Int) + (Q : Int) = s := ⟨_, rfl⟩
  rw [hsum] at i1 ⊢
  have i2 : ¬ (64 < s) := by omega
  have i4 : 0 ≤ s := by omega
  have i3 : IntKind.i64.wrap s = s := by rw [IntKind.wrap_i64]; omega
  clear hd hd2 hp ha hr hB hsz h1 h2 hl hl2 hm2 hn1 hn2 hs
  go_enter Tryz.func27, Tryz.ntmps27
  go_upto_region 1 with fail
  rw [← hW, ← hb]
  clear hW hb
  go_upto_region 5 with (first | (go_at_call 9; ((with_reducible refine (C1.out).mono ?_); rintro x' w1 ⟨rfl, hb1⟩; have HB1 := Lib.hid hb1; clear hb1 k0 k1 a0' a1'; obtain ⟨k0, k1, a0', a1'⟩ := four HP.out HA.out HB1.out)) | (go_at_call 9; ((with_reducible refine (C2.out _ HB1.out).mono ?_); rintro x' w2 ⟨rfl, hb2⟩; have HB2 := Lib.hid (stepB HB1.out hb2); clear hb2 k0 k1 a0' a1'; obtain ⟨k0, k1, a0', a1'⟩ := four HP.out HA.out HB2.out)))
  have HP2 := Lib.hid (HP.out.kept HB2.out)
  have HA2 := Lib.hid (HA.out.kept HB2.out)
  have HR2 := Lib.hid (HR.out.kept HB2.out)
  have hg0 : w2.grownBy w2.drew (some (b + 2)) := grownBy_of (Below.refl w2.heap.size w2).drew
  have hg := keepJoin HP2.out HA2.out hg0
  go_region_held3 (fun w' => w2.grownBy w' (some (b + 2)) ∧ w'.cell? ⟨b, 0, none⟩ = some (.int .i64 (R : Int)) ∧ w'.cell? ⟨b, 1, none⟩ = some (.slice (some a1) n1 cap) ∧ w'.cell? ⟨b + 1, 0, none⟩ = some (.int .i64 (Q : Int)) ∧ w'.cell? ⟨b + 1, 1, none⟩ = some (.slice (some a2) n2 cap'))
    (first | with_reducible exact hg | exact keepJoin HP2.out HA2.out (grownBy_of (below_made _ _)) | exact keepJoin HP2.out HA2.out (grownBy_trans (grownBy_of (below_made _ _)) (grownBy_of hB3)) | exact keepJoin HP2.out HA2.out (grownBy_trans (grownBy_trans (grownBy_of (below_made _ _)) (grownBy_of hB3)) (grownBy_trans (grown_set _ _ _ _) (grown_set _ _ _ _))))
    (first | (go_at_call 57; refine (CC.out _ _ (stepB HB2.out (below_made _ _)) (made0 _ _ _ _) (made1 _ _ _ _)).mono ?_; rintro x' w3 ⟨⟨q, c3, rfl, hc3, ho3⟩, hB3⟩; rw [HLM.out] at hc3 ⊢; have HO3 := Lib.hid ho3; have HC3 := Lib.hid hc3; clear ho3 hc3; obtain ⟨y0, y1, y2, y3⟩ := ((HR2.out.kept (below_made _ _)).kept hB3).cells))
  obtain ⟨w4, h4⟩ : ∃ w4, w4 = (w3.setCell ⟨b + 2, 0, none⟩ (.int .i64 s)).setCell ⟨b + 2, 1, none⟩ (.slice q (n1 + n2) c3) := ⟨_, rfl⟩
  have hr4 : w4.rangeAt (b + 2) 0 [.int .i64 s, .slice q (n1 + n2) c3] := by
    rw [h4]
    exact World.rangeAt_setCells_same w3 (b + 2) 0 [.int .i64 s, .slice q (n1 + n2) c3] ((HR2.out.kept (below_made _ _)).kept hB3).2
  have hg4 : w3.grownBy w4 (some (b + 2)) := by rw [h4]; exact grownBy_trans (grown_set _ _ _ _) (grown_set _ _ _ _)
  change Exit.then _ _ _ _ ((w3.setCell ⟨b + 2, 0, none⟩ (.int .i64 s)).setCell ⟨b + 2, 1, none⟩ (.slice q (n1 + n2) c3))
  rw [← h4]
  have HR4 := Lib.hid hr4
  have HG4 := Lib.hid hg4
  have HB3 := Lib.hid hB3
  clear h4 hr4 hg4 hB3 y0 y1 y2 y3 hg hg0
  go_wp2
  have e1 := HBE.out
  have e2 := HS.out
  have e3 := HB2.out.size
  have e4 := HB3.out.size
  have e5 : (w2.drew.alloc (.cells #[.slice (some a1) n1 cap, .slice (some a2) n2 cap'] 22)).heap.size = w2.heap.size + 1 := by
    show (w2.alloc _).heap.size = _
    simp
  refine bodyPost_ret (res_pe rfl rfl HR4.out rfl) rfl ⟨⟨q, c3, ?_, ?_, (HO3.out.grown HG4.out (by omega)).mono (by omega)⟩, grown_at (stepB (stepB HB.out (stepB HB2.out (below_made _ _))) HB3.out) (by omega) (by omega) HG4.out⟩
  · rw [HLM.out]; rfl
  · rw [HLM.out]; exact HC3.out
theorem p_Join (r : Int) (l : List Pt.Cl) (p : Option Addr) (cap : Nat) (q : Int) (m : List Pt.Cl) (p' : Option Addr) (cap' : Nat) (ch : Int) (w : World) (hd : CellsAt w p l) (hd2 : CellsAt w p' m) :
    Calls Tryz.prog 27 #[PV r p l.length cap, PV q p' m.length cap', .int .i64 ch] w fun x w' => RetPE (Pt.okI (Pt.eJoin r l q m ch) (r + q)) (Pt.okL (Pt.eJoin r l q m ch) (l ++ m)) (Pt.eJoin r l q m ch) w.heap.size x w' ∧ Below w.heap.size w w' := by
  by_cases h : Pt.eJoin r l q m ch = 0
  · have h1 : Pt.vpat r l ch = true ∧ Pt.vpat q m ch = true ∧ r + q ≤ 64 := by
      unfold Pt.eJoin at h
      cases e1 : Pt.vpat r l ch with
      | false => rw [e1] at h; simp at h
      | true =>
        cases e2 : Pt.vpat q m ch with
        | false => rw [e1, e2] at h; simp at h
        | true =>
          by_cases e3 : r + q ≤ 64
          · exact ⟨rfl, rfl, e3⟩
          · rw [e1, e2, if_pos (by rfl), if_neg e3] at h; exact absurd h (by decide)
    obtain ⟨x1, x2, x3⟩ := h1
    rw [h]
    obtain ⟨R, C, rfl, rfl, g1, g2, g3, g4, g5, -⟩ := Pt.vpat_nat x1
    obtain ⟨Q, C', rfl, hC, f1, f2, f3, f4, f5, -⟩ := Pt.vpat_nat x2
    obtain rfl : C = C' := Int.ofNat.inj hC
    have hp1 := Nat.mul_pos (show 0 < R by omega) (show 0 < C by omega)
    have hp2 := Nat.mul_pos (show 0 < Q by omega) (show 0 < C by omega)
    have hq1 := Pt.rc_bound g2 g4
    have hq2 := Pt.rc_bound f2 g4
    rcases hd with rfl | ⟨b1, o1, rfl, hb1, hr1⟩
    · simp at g5; omega
    rcases hd2 with rfl | ⟨b2, o2, rfl, hb2, hr2⟩
    · simp at f5; omega
    exact p_Join_ok R Q C l m _ _ cap cap' w (.inr ⟨b1, o1, rfl, hb1, hr1⟩) (.inr ⟨b2, o2, rfl, hb2, hr2⟩) x1 x2 (by omega) (by omega) (by omega) (by omega)
  · have e1 : Pt.okI (Pt.eJoin r l q m ch) (r + q) = 0 := if_neg h
    have e2 : Pt.okL (Pt.eJoin r l q m ch) (l ++ m) = [] := if_neg h
    rw [e1, e2]
    exact p_Join_bad r l p cap q m p' cap' ch w hd hd2 rfl h

/-- What Split hands back: two patterns, each in memory of its own. -/
def RetPPE (r1 : Int) (l1 : List Pt.Cl) (r2 : Int) (l2 : List Pt.Cl) (e : Int) (B : Nat) (x : Ending) (w' : World) : Prop :=
  ∃ p1 c1 p2 c2 D, x = .returned (.tuple #[PV r1 p1 l1.length c1, PV r2 p2 l2.length c2, .int .i64 e]) ∧ l1.length ≤ c1 ∧ l2.length ≤ c2 ∧ B ≤ D ∧ (l1 = [] ∨ ∃ g, p1 = some ⟨g, 0, none⟩ ∧ B ≤ g ∧ g < D ∧ Kr w' g l1) ∧ Own w' D p2 l2
theorem split_new (w : World) (r : Int) (v : Value) : ∃ W, W = ((w.alloc (.cells #[.int .i64 r, v] 24)).alloc (.cells #[.int .i64 0, .slice none 0 0] 24)).alloc (.cells #[.int .i64 0, .slice none 0 0] 24) ∧
    Below w.heap.size w W ∧ W.heap.size = w.heap.size + 3 ∧ Pb W w.heap.size r v ∧ Pb W (w.heap.size + 1) 0 (.slice none 0 0) ∧ Pb W (w.heap.size + 2) 0 (.slice none 0 0) := pats_new w r v 0 (.slice none 0 0)
set_option maxHeartbeats 1600000 in
theorem p_Split_bad (r : Int) (l : List Pt.Cl) (p : Option Addr) (cap : Nat) (ch row : Int) (w : World) (hd : CellsAt w p l) {e : Int} (he : Pt.eSplit r l ch row = e) (h0 : e ≠ 0) :
    Calls Tryz.prog 29 #[PV r p l.length cap, .int .i64 ch, .int .i64 row] w fun x w' => RetPPE 0 [] 0 [] e w.heap.size x w' ∧ Below w.heap.size w w' := by
  obtain ⟨W, hW, hB, hs, hp, ha, hr⟩ := split_new w r (.slice p l.length cap)
  have HB := Lib.hid hB
  have C1 := Lib.hid (p_Valid r l p cap ch W (hd.below hB))
  have HR := Lib.hid hr
  have HP := Lib.hid hp
  have HA := Lib.hid ha
  unfold PV at C1 ⊢
  obtain ⟨b, hb⟩ : ∃ b, b = w.heap.size := ⟨_, rfl⟩
  rw [← hb] at hp ha hs HR HP HA
  have HS := Lib.hid hs
  have HBE := Lib.hid hb
  obtain ⟨k0, k1⟩ := two_cells hp (Below.refl _ W)
  unfold Pt.eSplit at he
  have hfin : ∀ {w1 w2 w3 : World}, Below W.heap.size W w1 → w1.grownBy w2 (some (b + 1)) → w2.grownBy w3 (some (b + 2)) → Below w.heap.size w w3 := by
    intro w1 w2 w3 h1 g1 g2
    have e2 := HS.out
    have e3 := h1.size
    have e4 := g1.size
    exact grown_at (grown_at (stepB HB.out h1) (by omega) (by omega) g1) (by omega) (by omega) g2
  have HF := Lib.hid (fun (w1 w2 w3 : World) h1 g1 g2 => @hfin w1 w2 w3 h1 g1 g2)
  cases h1 : Pt.vpat r l ch with
  | false =>
    rw [h1] at C1 he
    obtain rfl : e = 1 := he.symm
    clear hd hp ha hr h0 he hB hs h1 hfin
    go_enter Tryz.func29, Tryz.ntmps29
    go_upto_region 1 with fail
    rw [← hW, ← hb]
    clear hW hb
    go_wp2_with (first | (go_at_call 9; ((with_reducible refine (C1.out).mono ?_); rintro x' w1 ⟨rfl, hb1⟩; have HB1 := Lib.hid hb1; clear hb1)) | ((refine st_pat (by rfl) _ _ rfl rfl rfl (HA.out.kept HB1.out).2 ?_); intro w2 h2 g2; have H2 := Lib.hid h2; have G2 := Lib.hid g2; clear h2 g2) | ((refine st_pat (by rfl) _ _ rfl rfl rfl ((HR.out.kept HB1.out).grown G2.out (by omega)).2 ?_); intro w3 h3 g3; have H3 := Lib.hid h3; have G3 := Lib.hid g3; clear h3 g3))
    exact bodyPost_ret (res_ppe rfl rfl rfl (H2.out.grown G3.out (by omega)).1 H3.out.1 rfl) rfl ⟨⟨none, 0, none, 0, _, rfl, Nat.le_refl _, Nat.le_refl _, Nat.le_refl _, .inl rfl, .inl rfl⟩, HF.out _ _ _ HB1.out G2.out G3.out⟩
  | true =>
    obtain ⟨-, ⟨x1, x2⟩, -, -⟩ := Pt.vpat_iff.1 h1
    have hbad : ¬ (1 ≤ row ∧ row < r) := by
      intro hc
      rw [h1, if_pos rfl, if_pos hc] at he
      exact h0 he.symm
    obtain rfl : e = 5 := by
      rw [h1, if_pos rfl, if_neg hbad] at he
      exact he.symm
    have C2 := Lib.hid (fun u => p_within_v row 1 (r - 1) u (v := false) (by unfold Pt.wth; exact decide_eq_false (by omega)))
    rw [h1] at C1
    clear hd hp ha hr h0 he hB hs h1 hfin hbad
    go_enter Tryz.func29, Tryz.ntmps29
    go_upto_region 1 with fail
    rw [← hW, ← hb]
    clear hW hb
    go_wp2_with (first | (go_at_call 9; ((with_reducible refine (C1.out).mono ?_); rintro x' w1 ⟨rfl, hb1⟩; have HB1 := Lib.hid hb1; clear hb1 k0 k1; obtain ⟨k0, k1⟩ := two_cells HP.out HB1.out)) | (go_at_call 53; ((with_reducible refine (C2.out _).mono ?_); rintro x' w2 ⟨rfl, rfl⟩)) | ((refine st_pat (by rfl) _ _ rfl rfl rfl (HA.out.kept HB1.out).2 ?_); intro w2 h2 g2; have H2 := Lib.hid h2; have G2 := Lib.hid g2; clear h2 g2) | ((refine st_pat (by rfl) _ _ rfl rfl rfl ((HR.out.kept HB1.out).grown G2.out (by omega)).2 ?_); intro w3 h3 g3; have H3 := Lib.hid h3; have G3 := Lib.hid g3; clear h3 g3))
    exact bodyPost_ret (res_ppe rfl rfl rfl (H2.out.grown G3.out (by omega)).1 H3.out.1 rfl) rfl ⟨⟨none, 0, none, 0, _, rfl, Nat.le_refl _, Nat.le_refl _, Nat.le_refl _, .inl rfl, .inl rfl⟩, HF.out _ _ _ HB1.out G2.out G3.out⟩
theorem rng_head {w : World} {b off : Nat} {l : List Pt.Cl} (h : w.rangeAt b off (cc l)) (n : Nat) (hn : n ≤ l.length) : w.rangeAt b off (cc (l.take n)) := by
  have := rng_sub h 0 n (by omega)
  simpa using this
theorem rng_tail {w : World} {b off : Nat} {l : List Pt.Cl} (h : w.rangeAt b off (cc l)) (n : Nat) (hn : n ≤ l.length) : w.rangeAt b (off + n * 6) (cc (l.drop n)) := by
  have := rng_sub h n (l.length - n) (by omega)
  rwa [List.take_of_length_le (by simp)] at this
set_option maxRecDepth 100000 in
set_option maxHeartbeats 3200000 in
theorem p_Split_ok (R C k : Nat) (l : List Pt.Cl) (b0 off : Nat) (cap : Nat) (w : World) (hb0 : b0 < w.heap.size) (hr0 : w.rangeAt b0 off (cc l)) (hcap : l.length ≤ cap) (h1 : Pt.vpat R l C = true) (g2 : R ≤ 64) (g4 : C ≤ 16) (g3 : 1 ≤ C) (hl : l.length = R * C) (hk1 : 1 ≤ k) (hk2 : k < R) :
    Calls Tryz.prog 29 #[PV R (some ⟨b0, off, none⟩) l.length cap, .int .i64 C, .int .i64 k] w fun x w' => RetPPE k (l.take (k * C)) ((R : Int) - k) (l.drop (k * C)) 0 w.heap.size x w' ∧ Below w.heap.size w w' := by
  obtain ⟨W, hW, hB, hs, hp, ha, hr⟩ := split_new w R (.slice (some ⟨b0, off, none⟩) l.length cap)
  have C1 := Lib.hid (p_Valid R l (some ⟨b0, off, none⟩) cap C W (.inr ⟨b0, off, rfl, Nat.lt_of_lt_of_le hb0 hB.size, range_below hr0 hB hb0⟩))
  rw [h1] at C1
  have C2 := Lib.hid (fun u => p_within_v k 1 ((R : Int) - 1) u (v := true) (by unfold Pt.wth; exact decide_eq_true (by omega)))
  have hn1 : R * C ≤ 1024 := Pt.rc_bound g2 g4
  obtain ⟨N, hN⟩ : ∃ N, k * C = N := ⟨_, rfl⟩
  have hNl : N + C ≤ l.length := by
    have := Nat.mul_le_mul_right C (show k + 1 ≤ R by omega)
    rw [Nat.add_mul, Nat.one_mul, hN] at this
    rw [hl]; exact this
  have hN1 : 1 ≤ N := by rw [← hN]; exact Nat.mul_pos (by omega) (by omega)
  have hN' : (k : Int) * (C : Int) = (N : Int) := by rw [← hN, Int.natCast_mul]
  have hR0 : W.rangeAt b0 off (cc l) := range_below hr0 hB hb0
  have hlW : b0 < W.heap.size := Nat.lt_of_lt_of_le hb0 hB.size
  have e1 : (l.take N).length = N := by rw [List.length_take]; omega
  have e2 : (l.drop N).length = l.length - N := by rw [List.length_drop]
  have D1 := Lib.hid (fun u (hu : Below W.heap.size W u) => p_Clone (l.take N) (some ⟨b0, off, none⟩) cap u (.inr ⟨b0, off, rfl, Nat.lt_of_lt_of_le hlW hu.size, range_below (rng_head hR0 N (by omega)) hu hlW⟩) (by rw [e1]; omega))
  have D2 := Lib.hid (fun u (hu : Below W.heap.size W u) => p_Clone (l.drop N) (some ⟨b0, off + N * 6, none⟩) (cap - N) u (.inr ⟨b0, off + N * 6, rfl, Nat.lt_of_lt_of_le hlW hu.size, range_below (rng_tail hR0 N (by omega)) hu hlW⟩) (by rw [e2]; omega))
  rw [hN]
  obtain ⟨l1, hl1⟩ : ∃ l1, l.take N = l1 := ⟨_, rfl⟩
  obtain ⟨l2, hl2⟩ : ∃ l2, l.drop N = l2 := ⟨_, rfl⟩
  rw [hl1] at D1 e1 ⊢
  rw [hl2] at D2 e2 ⊢
  obtain ⟨n, hn⟩ : ∃ n, l.length = n := ⟨_, rfl⟩
  rw [hn] at e2
  rw [e1] at D1
  rw [e2] at D2
  have HE := Lib.hid (show l1.length = N ∧ l2.length = n - N from ⟨e1, e2⟩)
  have HNP := Lib.hid (show 0 < N from hN1)
  have HB := Lib.hid hB
  have HR := Lib.hid hr
  have HP := Lib.hid hp
  have HA := Lib.hid ha
  unfold PV at C1 ⊢
  obtain ⟨b, hb⟩ : ∃ b, b = w.heap.size := ⟨_, rfl⟩
  rw [← hb] at hp ha hs HR HP HA
  have HS := Lib.hid hs
  have HBE := Lib.hid hb
  obtain ⟨k0, k1⟩ := two_cells hp (Below.refl _ W)
  rw [hn] at C1 HP k1 hW hcap hNl ⊢
  have j1 : (N : Int) ≤ (cap : Int) := by omega
  have j2 : (0 : Int) ≤ (N : Int) := by omega
  have j3 : ¬ cap = 0 := by omega
  have j4 : ¬ cap = N := by omega
  have j5 : (N : Int) ≤ (n : Int) := by omega
  have j6 : (N : Int) ≤ 1024 := by omega
  have j0 : IntKind.i64.wrap (N : Int) = (N : Int) := by rw [IntKind.wrap_i64]; omega
  obtain ⟨d, hd⟩ : ∃ d, (R : Int) - (k : Int) = d := ⟨_, rfl⟩
  have i0 : 0 ≤ d := by omega
  have i1 : d ≤ 64 := by omega
  have i2 : IntKind.i64.wrap d = d := by rw [IntKind.wrap_i64]; omega
  rw [hd]
  have i3 : (R : Int) ≤ 64 := by omega
  clear hp ha hr hB hs h1 hb0 hr0 g2 g4 g3 hl hn1 hN hNl hN1 hR0 hlW e1 e2 hl1 hl2 hn hcap
  go_enter Tryz.func29, Tryz.ntmps29
  go_upto_region 1 with fail
  rw [← hW, ← hb]
  clear hW hb
  go_upto_region 6 with (first | (go_at_call 9; ((with_reducible refine (C1.out).mono ?_); rintro x' w1 ⟨rfl, hb1⟩; have HB1 := Lib.hid hb1; clear hb1 k0 k1; obtain ⟨k0, k1⟩ := two_cells HP.out HB1.out)) | (go_at_call 53; ((with_reducible refine (C2.out _).mono ?_); rintro x' w2 ⟨rfl, rfl⟩)) | (go_at_call 58; ((with_reducible refine (D1.out _ HB1.out).mono ?_); rintro x' w2 ⟨⟨q, c2, rfl, hc2, ho2⟩, hb2⟩; rw [HE.out.1] at hc2 ⊢; have HB2 := Lib.hid (stepB HB1.out hb2); have HO2 := Lib.hid ho2; have HC2 := Lib.hid hc2; clear hb2 ho2 hc2 k0 k1)) | ((refine st_pat (by rfl) _ _ rfl rfl rfl (pb_box _ _ _ _).2 ?_); intro w3 h3 g3; have H3 := Lib.hid h3; have G3 := Lib.hid g3; have HB3 := Lib.hid (grown_at (stepB HB2.out (below_box _ (.cells #[.int .i64 0, .slice none 0 0] 24))) HB2.out.size (by simp; exact Nat.le_succ_of_le HB2.out.size) g3); clear h3 g3; obtain ⟨k0, k1⟩ := two_cells HP.out HB3.out))
  have HP3 := Lib.hid (HP.out.kept HB3.out)
  obtain ⟨b9, hb9⟩ : ∃ b9, b9 = w2.heap.size := ⟨_, rfl⟩
  have HGE := Lib.hid (show W.heap.size ≤ b9 ∧ b9 < w3.heap.size from ⟨by rw [hb9]; exact HB2.out.size, by rw [hb9]; exact H3.out.lt⟩)
  obtain ⟨g1, rfl, hg1, hg2⟩ := own_some HO2.out (by rw [HE.out.1]; exact HNP.out)
  have HK3 := Lib.hid (show w.heap.size ≤ g1 ∧ g1 < b9 ∧ Kr w3 g1 l1 from ⟨Nat.le_trans HB.out.size (Nat.le_trans HB1.out.size hg1), by rw [hb9]; exact hg2.1, (hg2.kept (below_box _ _)).grown G3.out (by have := hg2.1; omega)⟩)
  have HWG := Lib.hid (show W.heap.size ≤ g1 from Nat.le_trans HB1.out.size hg1)
  clear hg1 hg2 HO2
  rw [← hb9] at H3 G3 ⊢
  have hg0 := (Below.refl w3.heap.size w3).drew
  have hg := two_cells HP3.out hg0
  have hgg : Below w3.heap.size w3 w3.drew ∧ w3.drew.cell? ⟨b, 0, none⟩ = some (.int .i64 (R : Int)) ∧ w3.drew.cell? ⟨b, 1, none⟩ = some (.slice (some ⟨b0, off, none⟩) n cap) := ⟨hg0, hg⟩
  have KS := Lib.hid (fun u (hu : Below w3.heap.size w3 u) => show Below w3.heap.size w3 u ∧ u.cell? ⟨b, 0, none⟩ = some (.int .i64 (R : Int)) ∧ u.cell? ⟨b, 1, none⟩ = some (.slice (some ⟨b0, off, none⟩) n cap) from ⟨hu, two_cells HP3.out hu⟩)
  have D2' := Lib.hid (fun u (hu : Below w3.heap.size w3 u) => D2.out u (stepB HB3.out hu))
  have hgA : Below w3.heap.size w3 (w3.alloc (.cells #[.int .i64 0, .slice none 0 0] 24)).drew := (below_box _ _).drew
  obtain ⟨b10, hb10⟩ : ∃ b10, b10 = w3.heap.size := ⟨_, rfl⟩
  have HX := Lib.hid (show Pb (w3.alloc (.cells #[.int .i64 0, .slice none 0 0] 24)).drew b10 0 (.slice none 0 0) from ⟨by rw [hb10]; exact (pb_box w3 0 (.slice none 0 0) _).1, by rw [hb10]; exact (pb_box w3 0 (.slice none 0 0) _).2⟩)
  have HBX := Lib.hid hb10
  have HXA := Lib.hid hgA
  clear hg hb9 hb10
  go_region_held3 (fun w' => Below w3.heap.size w3 w' ∧ w'.cell? ⟨b, 0, none⟩ = some (.int .i64 (R : Int)) ∧ w'.cell? ⟨b, 1, none⟩ = some (.slice (some ⟨b0, off, none⟩) n cap))
    (first | with_reducible exact hgg | exact KS.out _ HXA.out | exact KS.out _ (stepB HXA.out hB4) | exact KS.out _ (((stepB HXA.out hB4).setCell (Nat.le_refl _) _).setCell (Nat.le_refl _) _) | exact KS.out _ (stepB hg0 hB4) | exact KS.out _ (stepB (stepB hg0 hB4) (below_box _ _)))
    (first | (go_at_call 58; refine (D2'.out _ HXA.out).mono ?_; rintro x' w4 ⟨⟨q4, c4, rfl, hc4, ho4⟩, hB4⟩; rw [HE.out.2] at hc4 ⊢; have HO4 := Lib.hid ho4; have HC4 := Lib.hid hc4; clear ho4 hc4; have h4 := HX.out.kept hB4; rw [HBX.out] at h4; have H4 := Lib.hid h4; obtain ⟨y0, y1, y2, y3⟩ := h4.cells) | (go_at_call 58; refine (D2'.out _ hg0).mono ?_; rintro x' w4 ⟨⟨q4, c4, rfl, hc4, ho4⟩, hB4⟩; rw [HE.out.2] at hc4 ⊢; have HO4 := Lib.hid ho4; have HC4 := Lib.hid hc4; clear ho4 hc4))
  · obtain ⟨w5, h⟩ : ∃ w5, w5 = w4.alloc (.cells #[.int .i64 d, .slice q4 (n - N) c4] 24) := ⟨_, rfl⟩
    obtain ⟨bx, hbx⟩ : ∃ bx, bx = w4.heap.size := ⟨_, rfl⟩
    have hb5 : Below w3.heap.size w3 w5 := by rw [h]; exact stepB (stepB hg0 hB4) (below_box _ _)
    have h5 : Pb w5 bx d (.slice q4 (n - N) c4) := by rw [h, hbx]; exact pb_box _ _ _ _
    have ho5 : Own w5 w3.heap.size q4 l2 := by rw [h]; exact HO4.out.kept (below_box _ _)
    have HGX := Lib.hid (show w3.heap.size ≤ bx by rw [hbx]; exact hB4.size)
    rw [← h, ← hbx]
    clear h hbx hB4
    have HRX := Lib.hid ((HA.out.kept HB3.out).low hb5 (by have := HS.out; have := HB3.out.size; omega))
    have HRY := Lib.hid ((HR.out.kept HB3.out).low hb5 (by have := HS.out; have := HB3.out.size; omega))
    have HR9 := Lib.hid (H3.out.low hb5 HGE.out.2)
    have HR10 := Lib.hid h5
    have HB5 := Lib.hid hb5
    have HO5 := Lib.hid ho5
    obtain ⟨p0, p1, -, -⟩ := HR9.out.cells
    obtain ⟨q0, q1, -, -⟩ := HR10.out.cells
    obtain ⟨r0, r1, r2, r3⟩ := HRX.out.cells
    obtain ⟨t0, t1, t2, t3⟩ := HRY.out.cells
    have n1 : ¬ bx = b + 1 := by have := HGX.out; have := HGE.out; have := HS.out; omega
    have n2 : ¬ bx = b + 1 + 1 := by have := HGX.out; have := HGE.out; have := HS.out; omega
    have n3 : ¬ b9 = b + 1 := by have := HGE.out; have := HS.out; omega
    have n4 : ¬ b9 = b + 1 + 1 := by have := HGE.out; have := HS.out; omega
    have n5 : ¬ b + 1 = bx := fun h => n1 h.symm
    have n6 : ¬ b + 1 + 1 = bx := fun h => n2 h.symm
    have n7 : ¬ b + 1 = b9 := fun h => n3 h.symm
    have n8 : ¬ b + 1 + 1 = b9 := fun h => n4 h.symm
    rw [show b + 2 = b + 1 + 1 from rfl] at t0 t1 t2 t3
    clear h5 hb5 ho5 hgg hg0 hgA k0 k1
    go_wp2
    go_region
    obtain ⟨v5, h5v⟩ : ∃ v5, v5 = w5.setCells (b + 1) 0 [.int .i64 (k : Int), .slice (some ⟨g1, 0, none⟩) N c2] := ⟨_, rfl⟩
    obtain ⟨w6, h6⟩ : ∃ w6, w6 = (v5.setCells (b + 1 + 1) 0 [.int .i64 d, .slice q4 (n - N) c4]).drew := ⟨_, rfl⟩
    have gv : w5.grownBy v5 (some (b + 1)) := by rw [h5v]; exact grown_setCells _ _ _ _
    have g6 : v5.grownBy w6 (some (b + 1 + 1)) := by
      rw [h6]
      have := grown_setCells (b + 1 + 1) [.int .i64 d, .slice q4 (n - N) c4] 0 v5
      exact ⟨this.os, this.tape, this.output, this.size, this.block⟩
    have ra : w6.rangeAt (b + 1) 0 [.int .i64 (k : Int), .slice (some ⟨g1, 0, none⟩) N c2] := by
      refine range_grown ?_ g6 (by omega) (by have := HRX.out.lt; have := gv.size; omega)
      rw [h5v]
      exact World.rangeAt_setCells_same w5 _ 0 _ HRX.out.2
    have rb : w6.rangeAt (b + 1 + 1) 0 [.int .i64 d, .slice q4 (n - N) c4] := by
      rw [h6]
      exact World.rangeAt_setCells_same v5 _ 0 _ (there_grown HRY.out.2 gv (by omega) HRY.out.lt)
    change Exit.then _ _ _ _ ((w5.setCells (b + 1) 0 [.int .i64 (k : Int), .slice (some ⟨g1, 0, none⟩) N c2]).setCells (b + 1 + 1) 0 [.int .i64 d, .slice q4 (n - N) c4]).drew
    rw [← h5v, ← h6]
    have RA := Lib.hid ra
    have RB := Lib.hid rb
    have GV := Lib.hid gv
    have G6 := Lib.hid g6
    clear h5v h6 ra rb gv g6 p0 p1 q0 q1 r0 r1 r2 r3 t0 t1 t2 t3
    go_wp2
    have e1 := HBE.out
    have e2 := HS.out
    have e3 := HGE.out
    have e4 := HB5.out.size
    have e5 := GV.out.size
    refine bodyPost_ret (res_ppe rfl rfl rfl RA.out RB.out rfl) rfl ⟨⟨_, c2, q4, c4, b9, ?_, ?_, ?_, ?_, .inr ⟨g1, rfl, HK3.out.1, HK3.out.2.1, ?_⟩, ?_⟩, ?_⟩
    · rw [HE.out.1, HE.out.2]; rfl
    · rw [HE.out.1]; exact HC2.out
    · rw [HE.out.2]; exact HC4.out
    · omega
    · have hk := HK3.out.2.1
      have hz := HB1.out.size
      have hg1 : W.heap.size ≤ g1 := HWG.out
      exact (((HK3.out.2.2.low HB5.out (by omega) HB5.out.size).grown GV.out (by omega)).grown G6.out (by omega))
    · exact ((HO5.out.grown GV.out (by omega)).grown G6.out (by omega)).mono (by omega)
    · exact grown_at (grown_at (stepB HB.out (stepB HB3.out HB5.out)) (by omega) (by have := HB3.out.size; omega) GV.out) (by omega) (by have := HB3.out.size; omega) G6.out
  · obtain ⟨w5, h⟩ : ∃ w5, w5 = w4.setCells w3.heap.size 0 [.int .i64 d, .slice q4 (n - N) c4] := ⟨_, rfl⟩
    have hb5 : Below w3.heap.size w3 w5 := by rw [h]; exact grown_at (stepB hgA hB4) (Nat.le_refl _) (stepB hgA hB4).size (grown_setCells _ _ _ _)
    have h5 : Pb w5 w3.heap.size d (.slice q4 (n - N) c4) := by
      rw [h]
      exact ⟨World.rangeAt_setCells_same w4 _ 0 _ H4.out.2, World.there_setCells H4.out.2 _ 0 _⟩
    have ho5 : Own w5 w3.heap.size q4 l2 := by
      rw [h]
      have hs : (w3.alloc (.cells #[.int .i64 0, .slice none 0 0] 24)).drew.heap.size = w3.heap.size + 1 := by
        show (w3.alloc _).heap.size = _
        simp
      exact (HO4.out.grown (grown_setCells _ _ _ _) (by rw [hs]; omega)).mono (by rw [hs]; omega)
    change Exit.then _ _ _ _ (w4.setCells w3.heap.size 0 [.int .i64 d, .slice q4 (n - N) c4])
    rw [← h]
    obtain ⟨bx, hbx⟩ : ∃ bx, bx = w3.heap.size := ⟨_, rfl⟩
    have HGX := Lib.hid (show w3.heap.size ≤ bx by rw [hbx]; exact Nat.le_refl _)
    rw [← hbx] at h5 ⊢
    clear h hbx hB4 y0 y1 y2 y3
    have HRX := Lib.hid ((HA.out.kept HB3.out).low hb5 (by have := HS.out; have := HB3.out.size; omega))
    have HRY := Lib.hid ((HR.out.kept HB3.out).low hb5 (by have := HS.out; have := HB3.out.size; omega))
    have HR9 := Lib.hid (H3.out.low hb5 HGE.out.2)
    have HR10 := Lib.hid h5
    have HB5 := Lib.hid hb5
    have HO5 := Lib.hid ho5
    obtain ⟨p0, p1, -, -⟩ := HR9.out.cells
    obtain ⟨q0, q1, -, -⟩ := HR10.out.cells
    obtain ⟨r0, r1, r2, r3⟩ := HRX.out.cells
    obtain ⟨t0, t1, t2, t3⟩ := HRY.out.cells
    have n1 : ¬ bx = b + 1 := by have := HGX.out; have := HGE.out; have := HS.out; omega
    have n2 : ¬ bx = b + 1 + 1 := by have := HGX.out; have := HGE.out; have := HS.out; omega
    have n3 : ¬ b9 = b + 1 := by have := HGE.out; have := HS.out; omega
    have n4 : ¬ b9 = b + 1 + 1 := by have := HGE.out; have := HS.out; omega
    have n5 : ¬ b + 1 = bx := fun h => n1 h.symm
    have n6 : ¬ b + 1 + 1 = bx := fun h => n2 h.symm
    have n7 : ¬ b + 1 = b9 := fun h => n3 h.symm
    have n8 : ¬ b + 1 + 1 = b9 := fun h => n4 h.symm
    rw [show b + 2 = b + 1 + 1 from rfl] at t0 t1 t2 t3
    clear h5 hb5 ho5 hgg hg0 hgA k0 k1
    go_wp2
    go_region
    obtain ⟨v5, h5v⟩ : ∃ v5, v5 = w5.setCells (b + 1) 0 [.int .i64 (k : Int), .slice (some ⟨g1, 0, none⟩) N c2] := ⟨_, rfl⟩
    obtain ⟨w6, h6⟩ : ∃ w6, w6 = (v5.setCells (b + 1 + 1) 0 [.int .i64 d, .slice q4 (n - N) c4]).drew := ⟨_, rfl⟩
    have gv : w5.grownBy v5 (some (b + 1)) := by rw [h5v]; exact grown_setCells _ _ _ _
    have g6 : v5.grownBy w6 (some (b + 1 + 1)) := by
      rw [h6]
      have := grown_setCells (b + 1 + 1) [.int .i64 d, .slice q4 (n - N) c4] 0 v5
      exact ⟨this.os, this.tape, this.output, this.size, this.block⟩
    have ra : w6.rangeAt (b + 1) 0 [.int .i64 (k : Int), .slice (some ⟨g1, 0, none⟩) N c2] := by
      refine range_grown ?_ g6 (by omega) (by have := HRX.out.lt; have := gv.size; omega)
      rw [h5v]
      exact World.rangeAt_setCells_same w5 _ 0 _ HRX.out.2
    have rb : w6.rangeAt (b + 1 + 1) 0 [.int .i64 d, .slice q4 (n - N) c4] := by
      rw [h6]
      exact World.rangeAt_setCells_same v5 _ 0 _ (there_grown HRY.out.2 gv (by omega) HRY.out.lt)
    change Exit.then _ _ _ _ ((w5.setCells (b + 1) 0 [.int .i64 (k : Int), .slice (some ⟨g1, 0, none⟩) N c2]).setCells (b + 1 + 1) 0 [.int .i64 d, .slice q4 (n - N) c4]).drew
    rw [← h5v, ← h6]
    have RA := Lib.hid ra
    have RB := Lib.hid rb
    have GV := Lib.hid gv
    have G6 := Lib.hid g6
    clear h5v h6 ra rb gv g6 p0 p1 q0 q1 r0 r1 r2 r3 t0 t1 t2 t3
    go_wp2
    have e1 := HBE.out
    have e2 := HS.out
    have e3 := HGE.out
    have e4 := HB5.out.size
    have e5 := GV.out.size
    refine bodyPost_ret (res_ppe rfl rfl rfl RA.out RB.out rfl) rfl ⟨⟨_, c2, q4, c4, b9, ?_, ?_, ?_, ?_, .inr ⟨g1, rfl, HK3.out.1, HK3.out.2.1, ?_⟩, ?_⟩, ?_⟩
    · rw [HE.out.1, HE.out.2]; rfl
    · rw [HE.out.1]; exact HC2.out
    · rw [HE.out.2]; exact HC4.out
    · omega
    · have hk := HK3.out.2.1
      have hz := HB1.out.size
      have hg1 : W.heap.size ≤ g1 := HWG.out
      exact (((HK3.out.2.2.low HB5.out (by omega) HB5.out.size).grown GV.out (by omega)).grown G6.out (by omega))
    · exact ((HO5.out.grown GV.out (by omega)).grown G6.out (by omega)).mono (by omega)
    · exact grown_at (grown_at (stepB HB.out (stepB HB3.out HB5.out)) (by omega) (by have := HB3.out.size; omega) GV.out) (by omega) (by have := HB3.out.size; omega) G6.out
theorem p_Split (r : Int) (l : List Pt.Cl) (p : Option Addr) (cap : Nat) (ch row : Int) (w : World) (hd : CellsAt w p l) (hcap : l.length ≤ cap) :
    Calls Tryz.prog 29 #[PV r p l.length cap, .int .i64 ch, .int .i64 row] w fun x w' => RetPPE (Pt.okI (Pt.eSplit r l ch row) row) (Pt.okL (Pt.eSplit r l ch row) (l.take (row.toNat * ch.toNat))) (Pt.okI (Pt.eSplit r l ch row) (r - row)) (Pt.okL (Pt.eSplit r l ch row) (l.drop (row.toNat * ch.toNat))) (Pt.eSplit r l ch row) w.heap.size x w' ∧ Below w.heap.size w w' := by
  by_cases h : Pt.eSplit r l ch row = 0
  · have h1 : Pt.vpat r l ch = true ∧ 1 ≤ row ∧ row < r := by
      unfold Pt.eSplit at h
      cases e1 : Pt.vpat r l ch with
      | false => rw [e1] at h; simp at h
      | true =>
        by_cases e3 : 1 ≤ row ∧ row < r
        · exact ⟨rfl, e3⟩
        · rw [e1, if_pos rfl, if_neg e3] at h; exact absurd h (by decide)
    obtain ⟨x1, x2, x3⟩ := h1
    rw [h]
    obtain ⟨R, C, rfl, rfl, g1, g2, g3, g4, g5, -⟩ := Pt.vpat_nat x1
    obtain ⟨k, rfl⟩ : ∃ k : Nat, row = k := ⟨row.toNat, by omega⟩
    have hp1 := Nat.mul_pos (show 0 < R by omega) (show 0 < C by omega)
    rcases hd with rfl | ⟨b1, o1, rfl, hb1, hr1⟩
    · simp at g5; omega
    exact p_Split_ok R C k l b1 o1 cap w hb1 hr1 hcap x1 g2 g4 g3 g5 (by omega) (by omega)
  · have e1 : Pt.okI (Pt.eSplit r l ch row) row = 0 := if_neg h
    have e2 : Pt.okL (Pt.eSplit r l ch row) (l.take (row.toNat * ch.toNat)) = [] := if_neg h
    have e3 : Pt.okI (Pt.eSplit r l ch row) (r - row) = 0 := if_neg h
    have e4 : Pt.okL (Pt.eSplit r l ch row) (l.drop (row.toNat * ch.toNat)) = [] := if_neg h
    rw [e1, e2, e3, e4]
    exact p_Split_bad r l p cap ch row w hd rfl h

set_option maxRecDepth 100000 in
set_option maxHeartbeats 1600000 in
theorem r_Split_bad (r : Int) (l : List Pt.Cl) (p : Option Addr) (cap : Nat) (ch row : Int) (w : World) (hd : CellsAt w p l) {e : Int} (he : Pt.eSplit r l ch row = e) (h0 : e ≠ 0) :
    Calls Tryz.prog 30 #[PV r p l.length cap, .int .i64 ch, .int .i64 row] w fun x w' => RetPPE 0 [] 0 [] e w.heap.size x w' ∧ Below w.heap.size w w' := by
  obtain ⟨W, hW, hB, hs, hp, ha, hr⟩ := split_new w r (.slice p l.length cap)
  have HB := Lib.hid hB
  have C1 := Lib.hid (r_Valid r l p cap ch W (hd.below hB))
  have HR := Lib.hid hr
  have HP := Lib.hid hp
  have HA := Lib.hid ha
  unfold PV at C1 ⊢
  obtain ⟨b, hb⟩ : ∃ b, b = w.heap.size := ⟨_, rfl⟩
  rw [← hb] at hp ha hs HR HP HA
  have HS := Lib.hid hs
  have HBE := Lib.hid hb
  obtain ⟨k0, k1⟩ := two_cells hp (Below.refl _ W)
  unfold Pt.eSplit at he
  have hfin : ∀ {w1 w2 w3 : World}, Below W.heap.size W w1 → w1.grownBy w2 (some (b + 1)) → w2.grownBy w3 (some (b + 2)) → Below w.heap.size w w3 := by
    intro w1 w2 w3 h1 g1 g2
    have e2 := HS.out
    have e3 := h1.size
    have e4 := g1.size
    exact grown_at (grown_at (stepB HB.out h1) (by omega) (by omega) g1) (by omega) (by omega) g2
  have HF := Lib.hid (fun (w1 w2 w3 : World) h1 g1 g2 => @hfin w1 w2 w3 h1 g1 g2)
  cases h1 : Pt.vpat r l ch with
  | false =>
    rw [h1] at C1 he
    obtain rfl : e = 1 := he.symm
    clear hd hp ha hr h0 he hB hs h1 hfin
    go_enter Tryz.func30, Tryz.ntmps30
    go_upto_region 1 with fail
    rw [← hW, ← hb]
    clear hW hb
    go_wp2_with (first | (refine ld_pat (by rfl) (.tmp 3) rfl rfl HP.out.1 ?_) | (go_at_call 10; ((with_reducible refine (C1.out).mono ?_); rintro x' w1 ⟨rfl, hb1⟩; have HB1 := Lib.hid hb1; clear hb1)) | ((refine st_pat (by rfl) (.tmp 6) _ rfl rfl rfl (HA.out.kept HB1.out).2 ?_); intro w2 h2 g2; have H2 := Lib.hid h2; have G2 := Lib.hid g2; clear h2 g2) | ((refine st_pat (by rfl) (.tmp 7) _ rfl rfl rfl ((HR.out.kept HB1.out).grown G2.out (by omega)).2 ?_); intro w3 h3 g3; have H3 := Lib.hid h3; have G3 := Lib.hid g3; clear h3 g3))
    exact bodyPost_ret (res_ppe rfl rfl rfl (H2.out.grown G3.out (by omega)).1 H3.out.1 rfl) rfl ⟨⟨none, 0, none, 0, _, rfl, Nat.le_refl _, Nat.le_refl _, Nat.le_refl _, .inl rfl, .inl rfl⟩, HF.out _ _ _ HB1.out G2.out G3.out⟩
  | true =>
    have hbad : ¬ (1 ≤ row ∧ row < r) := by
      intro hc
      rw [h1, if_pos rfl, if_pos hc] at he
      exact h0 he.symm
    obtain rfl : e = 5 := by
      rw [h1, if_pos rfl, if_neg hbad] at he
      exact he.symm
    rw [h1] at C1
    by_cases q1 : row < 1
    · have q1' : decide (row < 1) = true := decide_eq_true q1
      clear hd hp ha hr h0 he hB hs h1 hfin hbad q1
      go_enter Tryz.func30, Tryz.ntmps30
      go_upto_region 1 with fail
      rw [← hW, ← hb]
      clear hW hb
      go_wp2_with (first | (refine ld_pat (by rfl) (.tmp 3) rfl rfl HP.out.1 ?_) | (go_at_call 10; ((with_reducible refine (C1.out).mono ?_); rintro x' w1 ⟨rfl, hb1⟩; have HB1 := Lib.hid hb1; clear hb1 k0 k1; obtain ⟨k0, k1⟩ := two_cells HP.out HB1.out)) | ((refine st_pat (by rfl) (.tmp 6) _ rfl rfl rfl (HA.out.kept HB1.out).2 ?_); intro w2 h2 g2; have H2 := Lib.hid h2; have G2 := Lib.hid g2; clear h2 g2) | ((refine st_pat (by rfl) (.tmp 7) _ rfl rfl rfl ((HR.out.kept HB1.out).grown G2.out (by omega)).2 ?_); intro w3 h3 g3; have H3 := Lib.hid h3; have G3 := Lib.hid g3; clear h3 g3))
      exact bodyPost_ret (res_ppe rfl rfl rfl (H2.out.grown G3.out (by omega)).1 H3.out.1 rfl) rfl ⟨⟨none, 0, none, 0, _, rfl, Nat.le_refl _, Nat.le_refl _, Nat.le_refl _, .inl rfl, .inl rfl⟩, HF.out _ _ _ HB1.out G2.out G3.out⟩
    · have q1' : decide (row < 1) = false := decide_eq_false q1
      have q2 : r ≤ row := by omega
      have q2' : decide (r ≤ row) = true := decide_eq_true q2
      clear hd hp ha hr h0 he hB hs h1 hfin hbad q1 q2
      go_enter Tryz.func30, Tryz.ntmps30
      go_upto_region 1 with fail
      rw [← hW, ← hb]
      clear hW hb
      go_wp2_with (first | (refine ld_pat (by rfl) (.tmp 3) rfl rfl HP.out.1 ?_) | (go_at_call 10; ((with_reducible refine (C1.out).mono ?_); rintro x' w1 ⟨rfl, hb1⟩; have HB1 := Lib.hid hb1; clear hb1 k0 k1; obtain ⟨k0, k1⟩ := two_cells HP.out HB1.out)) | ((refine st_pat (by rfl) (.tmp 6) _ rfl rfl rfl (HA.out.kept HB1.out).2 ?_); intro w2 h2 g2; have H2 := Lib.hid h2; have G2 := Lib.hid g2; clear h2 g2) | ((refine st_pat (by rfl) (.tmp 7) _ rfl rfl rfl ((HR.out.kept HB1.out).grown G2.out (by omega)).2 ?_); intro w3 h3 g3; have H3 := Lib.hid h3; have G3 := Lib.hid g3; clear h3 g3))
      exact bodyPost_ret (res_ppe rfl rfl rfl (H2.out.grown G3.out (by omega)).1 H3.out.1 rfl) rfl ⟨⟨none, 0, none, 0, _, rfl, Nat.le_refl _, Nat.le_refl _, Nat.le_refl _, .inl rfl, .inl rfl⟩, HF.out _ _ _ HB1.out G2.out G3.out⟩
set_option maxRecDepth 100000 in
set_option maxHeartbeats 3200000 in
theorem r_Split_ok (R C k : Nat) (l : List Pt.Cl) (b0 off : Nat) (cap : Nat) (w : World) (hb0 : b0 < w.heap.size) (hr0 : w.rangeAt b0 off (cc l)) (hcap : l.length ≤ cap) (h1 : Pt.vpat R l C = true) (g2 : R ≤ 64) (g4 : C ≤ 16) (g3 : 1 ≤ C) (hl : l.length = R * C) (hk1 : 1 ≤ k) (hk2 : k < R) :
    Calls Tryz.prog 30 #[PV R (some ⟨b0, off, none⟩) l.length cap, .int .i64 C, .int .i64 k] w fun x w' => RetPPE k (l.take (k * C)) ((R : Int) - k) (l.drop (k * C)) 0 w.heap.size x w' ∧ Below w.heap.size w w' := by
  obtain ⟨W, hW, hB, hs, hp, ha, hr⟩ := split_new w R (.slice (some ⟨b0, off, none⟩) l.length cap)
  have C1 := Lib.hid (r_Valid R l (some ⟨b0, off, none⟩) cap C W (.inr ⟨b0, off, rfl, Nat.lt_of_lt_of_le hb0 hB.size, range_below hr0 hB hb0⟩))
  rw [h1] at C1
  have q1' : decide ((k : Int) < 1) = false := decide_eq_false (by omega)
  have q2' : decide ((R : Int) ≤ (k : Int)) = false := decide_eq_false (by omega)
  have hn1 : R * C ≤ 1024 := Pt.rc_bound g2 g4
  obtain ⟨N, hN⟩ : ∃ N, k * C = N := ⟨_, rfl⟩
  have hNl : N + C ≤ l.length := by
    have := Nat.mul_le_mul_right C (show k + 1 ≤ R by omega)
    rw [Nat.add_mul, Nat.one_mul, hN] at this
    rw [hl]; exact this
  have hN1 : 1 ≤ N := by rw [← hN]; exact Nat.mul_pos (by omega) (by omega)
  have hN' : (k : Int) * (C : Int) = (N : Int) := by rw [← hN, Int.natCast_mul]
  have hR0 : W.rangeAt b0 off (cc l) := range_below hr0 hB hb0
  have hlW : b0 < W.heap.size := Nat.lt_of_lt_of_le hb0 hB.size
  have e1 : (l.take N).length = N := by rw [List.length_take]; omega
  have e2 : (l.drop N).length = l.length - N := by rw [List.length_drop]
  have D1 := Lib.hid (fun u (hu : Below W.heap.size W u) => r_copied (k : Int) (l.take N) (some ⟨b0, off, none⟩) cap u (.inr ⟨b0, off, rfl, Nat.lt_of_lt_of_le hlW hu.size, range_below (rng_head hR0 N (by omega)) hu hlW⟩) (by rw [e1]; omega))
  have D2 := Lib.hid (fun u (hu : Below W.heap.size W u) => r_copied ((R : Int) - (k : Int)) (l.drop N) (some ⟨b0, off + N * 6, none⟩) (cap - N) u (.inr ⟨b0, off + N * 6, rfl, Nat.lt_of_lt_of_le hlW hu.size, range_below (rng_tail hR0 N (by omega)) hu hlW⟩) (by rw [e2]; omega))
  rw [hN]
  obtain ⟨l1, hl1⟩ : ∃ l1, l.take N = l1 := ⟨_, rfl⟩
  obtain ⟨l2, hl2⟩ : ∃ l2, l.drop N = l2 := ⟨_, rfl⟩
  rw [hl1] at D1 e1 ⊢
  rw [hl2] at D2 e2 ⊢
  obtain ⟨n, hn⟩ : ∃ n, l.length = n := ⟨_, rfl⟩
  rw [hn] at e2
  unfold RetO at D1 D2
  rw [e1] at D1
  rw [e2] at D2
  have HE := Lib.hid (show l1.length = N ∧ l2.length = n - N from ⟨e1, e2⟩)
  have HNP := Lib.hid (show 0 < N from hN1)
  have HB := Lib.hid hB
  have HR := Lib.hid hr
  have HP := Lib.hid hp
  have HA := Lib.hid ha
  unfold PV at C1 D1 D2 ⊢
  obtain ⟨b, hb⟩ : ∃ b, b = w.heap.size := ⟨_, rfl⟩
  rw [← hb] at hp ha hs HR HP HA
  have HS := Lib.hid hs
  have HBE := Lib.hid hb
  obtain ⟨k0, k1⟩ := two_cells hp (Below.refl _ W)
  rw [hn] at C1 HP k1 hW hcap hNl ⊢
  have j1 : (N : Int) ≤ (cap : Int) := by omega
  have j2 : (0 : Int) ≤ (N : Int) := by omega
  have j3 : ¬ cap = 0 := by omega
  have j4 : ¬ cap = N := by omega
  have j5 : (N : Int) ≤ (n : Int) := by omega
  have j6 : (N : Int) ≤ 1024 := by omega
  have j0 : IntKind.i64.wrap (N : Int) = (N : Int) := by rw [IntKind.wrap_i64]; omega
  obtain ⟨d, hd⟩ : ∃ d, (R : Int) - (k : Int) = d := ⟨_, rfl⟩
  have i0 : 0 ≤ d := by omega
  have i1 : d ≤ 64 := by omega
  have i2 : IntKind.i64.wrap d = d := by rw [IntKind.wrap_i64]; omega
  rw [hd] at D2 ⊢
  have i3 : (R : Int) ≤ 64 := by omega
  clear hp ha hr hB hs h1 hb0 hr0 g2 g4 g3 hl hn1 hN hNl hN1 hR0 hlW e1 e2 hl1 hl2 hn hcap
  go_enter Tryz.func30, Tryz.ntmps30
  go_upto_region 1 with fail
  rw [← hW, ← hb]
  clear hW hb
  go_upto_region 6 with (first | (go_at_call 10; ((with_reducible refine (C1.out).mono ?_); rintro x' w1 ⟨rfl, hb1⟩; have HB1 := Lib.hid hb1; clear hb1 k0 k1; obtain ⟨k0, k1⟩ := two_cells HP.out HB1.out)) | (go_at_call 47; ((with_reducible refine (D1.out _ HB1.out).mono ?_); rintro x' w2 ⟨⟨q, c2, rfl, hc2, ho2, -⟩, hb2⟩; have HB2 := Lib.hid (stepB HB1.out hb2); have HO2 := Lib.hid ho2; have HC2 := Lib.hid hc2; clear hb2 ho2 hc2 k0 k1)) | ((refine st_pat (by rfl) _ _ rfl rfl rfl (pb_box _ _ _ _).2 ?_); intro w3 h3 g3; have H3 := Lib.hid h3; have G3 := Lib.hid g3; have HB3 := Lib.hid (grown_at (stepB HB2.out (below_box _ (.cells #[.int .i64 0, .slice none 0 0] 24))) HB2.out.size (by simp; exact Nat.le_succ_of_le HB2.out.size) g3); clear h3 g3; obtain ⟨k0, k1⟩ := two_cells HP.out HB3.out))
  have HP3 := Lib.hid (HP.out.kept HB3.out)
  obtain ⟨b9, hb9⟩ : ∃ b9, b9 = w2.heap.size := ⟨_, rfl⟩
  have HGE := Lib.hid (show W.heap.size ≤ b9 ∧ b9 < w3.heap.size from ⟨by rw [hb9]; exact HB2.out.size, by rw [hb9]; exact H3.out.lt⟩)
  obtain ⟨g1, rfl, hg1, hg2⟩ := own_some HO2.out (by rw [HE.out.1]; exact HNP.out)
  have HK3 := Lib.hid (show w.heap.size ≤ g1 ∧ g1 < b9 ∧ Kr w3 g1 l1 from ⟨Nat.le_trans HB.out.size (Nat.le_trans HB1.out.size hg1), by rw [hb9]; exact hg2.1, (hg2.kept (below_box _ _)).grown G3.out (by have := hg2.1; omega)⟩)
  have HWG := Lib.hid (show W.heap.size ≤ g1 from Nat.le_trans HB1.out.size hg1)
  clear hg1 hg2 HO2
  rw [← hb9] at H3 G3 ⊢
  have hg0 := (Below.refl w3.heap.size w3).drew
  have hg := two_cells HP3.out hg0
  have hgg : Below w3.heap.size w3 w3.drew ∧ w3.drew.cell? ⟨b, 0, none⟩ = some (.int .i64 (R : Int)) ∧ w3.drew.cell? ⟨b, 1, none⟩ = some (.slice (some ⟨b0, off, none⟩) n cap) := ⟨hg0, hg⟩
  have KS := Lib.hid (fun u (hu : Below w3.heap.size w3 u) => show Below w3.heap.size w3 u ∧ u.cell? ⟨b, 0, none⟩ = some (.int .i64 (R : Int)) ∧ u.cell? ⟨b, 1, none⟩ = some (.slice (some ⟨b0, off, none⟩) n cap) from ⟨hu, two_cells HP3.out hu⟩)
  have D2' := Lib.hid (fun u (hu : Below w3.heap.size w3 u) => D2.out u (stepB HB3.out hu))
  have hgA : Below w3.heap.size w3 (w3.alloc (.cells #[.int .i64 0, .slice none 0 0] 24)).drew := (below_box _ _).drew
  obtain ⟨b10, hb10⟩ : ∃ b10, b10 = w3.heap.size := ⟨_, rfl⟩
  have HX := Lib.hid (show Pb (w3.alloc (.cells #[.int .i64 0, .slice none 0 0] 24)).drew b10 0 (.slice none 0 0) from ⟨by rw [hb10]; exact (pb_box w3 0 (.slice none 0 0) _).1, by rw [hb10]; exact (pb_box w3 0 (.slice none 0 0) _).2⟩)
  have HBX := Lib.hid hb10
  have HXA := Lib.hid hgA
  clear hg hb9 hb10
  go_region_held3 (fun w' => Below w3.heap.size w3 w' ∧ w'.cell? ⟨b, 0, none⟩ = some (.int .i64 (R : Int)) ∧ w'.cell? ⟨b, 1, none⟩ = some (.slice (some ⟨b0, off, none⟩) n cap))
    (first | with_reducible exact hgg | exact KS.out _ HXA.out | exact KS.out _ (stepB HXA.out hB4) | exact KS.out _ (((stepB HXA.out hB4).setCell (Nat.le_refl _) _).setCell (Nat.le_refl _) _) | exact KS.out _ (stepB hg0 hB4) | exact KS.out _ (stepB (stepB hg0 hB4) (below_box _ _)))
    (first | (go_at_call 47; refine (D2'.out _ HXA.out).mono ?_; rintro x' w4 ⟨⟨q4, c4, rfl, hc4, ho4, -⟩, hB4⟩; have HO4 := Lib.hid ho4; have HC4 := Lib.hid hc4; clear ho4 hc4; have h4 := HX.out.kept hB4; rw [HBX.out] at h4; have H4 := Lib.hid h4; obtain ⟨y0, y1, y2, y3⟩ := h4.cells) | (go_at_call 47; refine (D2'.out _ hg0).mono ?_; rintro x' w4 ⟨⟨q4, c4, rfl, hc4, ho4, -⟩, hB4⟩; have HO4 := Lib.hid ho4; have HC4 := Lib.hid hc4; clear ho4 hc4))
  · obtain ⟨w5, h⟩ : ∃ w5, w5 = w4.alloc (.cells #[.int .i64 d, .slice q4 (n - N) c4] 24) := ⟨_, rfl⟩
    obtain ⟨bx, hbx⟩ : ∃ bx, bx = w4.heap.size := ⟨_, rfl⟩
    have hb5 : Below w3.heap.size w3 w5 := by rw [h]; exact stepB (stepB hg0 hB4) (below_box _ _)
    have h5 : Pb w5 bx d (.slice q4 (n - N) c4) := by rw [h, hbx]; exact pb_box _ _ _ _
    have ho5 : Own w5 w3.heap.size q4 l2 := by rw [h]; exact HO4.out.kept (below_box _ _)
    have HGX := Lib.hid (show w3.heap.size ≤ bx by rw [hbx]; exact hB4.size)
    rw [← h, ← hbx]
    clear h hbx hB4
    have HRX := Lib.hid ((HA.out.kept HB3.out).low hb5 (by have := HS.out; have := HB3.out.size; omega))
    have HRY := Lib.hid ((HR.out.kept HB3.out).low hb5 (by have := HS.out; have := HB3.out.size; omega))
    have HR9 := Lib.hid (H3.out.low hb5 HGE.out.2)
    have HR10 := Lib.hid h5
    have HB5 := Lib.hid hb5
    have HO5 := Lib.hid ho5
    obtain ⟨p0, p1, -, -⟩ := HR9.out.cells
    obtain ⟨q0, q1, -, -⟩ := HR10.out.cells
    obtain ⟨r0, r1, r2, r3⟩ := HRX.out.cells
    obtain ⟨t0, t1, t2, t3⟩ := HRY.out.cells
    have n1 : ¬ bx = b + 1 := by have := HGX.out; have := HGE.out; have := HS.out; omega
    have n2 : ¬ bx = b + 1 + 1 := by have := HGX.out; have := HGE.out; have := HS.out; omega
    have n3 : ¬ b9 = b + 1 := by have := HGE.out; have := HS.out; omega
    have n4 : ¬ b9 = b + 1 + 1 := by have := HGE.out; have := HS.out; omega
    have n5 : ¬ b + 1 = bx := fun h => n1 h.symm
    have n6 : ¬ b + 1 + 1 = bx := fun h => n2 h.symm
    have n7 : ¬ b + 1 = b9 := fun h => n3 h.symm
    have n8 : ¬ b + 1 + 1 = b9 := fun h => n4 h.symm
    rw [show b + 2 = b + 1 + 1 from rfl] at t0 t1 t2 t3
    clear h5 hb5 ho5 hgg hg0 hgA k0 k1
    go_wp2
    go_region
    obtain ⟨v5, h5v⟩ : ∃ v5, v5 = w5.setCells (b + 1) 0 [.int .i64 (k : Int), .slice (some ⟨g1, 0, none⟩) N c2] := ⟨_, rfl⟩
    obtain ⟨w6, h6⟩ : ∃ w6, w6 = (v5.setCells (b + 1 + 1) 0 [.int .i64 d, .slice q4 (n - N) c4]).drew := ⟨_, rfl⟩
    have gv : w5.grownBy v5 (some (b + 1)) := by rw [h5v]; exact grown_setCells _ _ _ _
    have g6 : v5.grownBy w6 (some (b + 1 + 1)) := by
      rw [h6]
      have := grown_setCells (b + 1 + 1) [.int .i64 d, .slice q4 (n - N) c4] 0 v5
      exact ⟨this.os, this.tape, this.output, this.size, this.block⟩
    have ra : w6.rangeAt (b + 1) 0 [.int .i64 (k : Int), .slice (some ⟨g1, 0, none⟩) N c2] := by
      refine range_grown ?_ g6 (by omega) (by have := HRX.out.lt; have := gv.size; omega)
      rw [h5v]
      exact World.rangeAt_setCells_same w5 _ 0 _ HRX.out.2
    have rb : w6.rangeAt (b + 1 + 1) 0 [.int .i64 d, .slice q4 (n - N) c4] := by
      rw [h6]
      exact World.rangeAt_setCells_same v5 _ 0 _ (there_grown HRY.out.2 gv (by omega) HRY.out.lt)
    change Exit.then _ _ _ _ ((w5.setCells (b + 1) 0 [.int .i64 (k : Int), .slice (some ⟨g1, 0, none⟩) N c2]).setCells (b + 1 + 1) 0 [.int .i64 d, .slice q4 (n - N) c4]).drew
    rw [← h5v, ← h6]
    have RA := Lib.hid ra
    have RB := Lib.hid rb
    have GV := Lib.hid gv
    have G6 := Lib.hid g6
    clear h5v h6 ra rb gv g6 p0 p1 q0 q1 r0 r1 r2 r3 t0 t1 t2 t3
    go_wp2
    have e1 := HBE.out
    have e2 := HS.out
    have e3 := HGE.out
    have e4 := HB5.out.size
    have e5 := GV.out.size
    refine bodyPost_ret (res_ppe rfl rfl rfl RA.out RB.out rfl) rfl ⟨⟨_, c2, q4, c4, b9, ?_, ?_, ?_, ?_, .inr ⟨g1, rfl, HK3.out.1, HK3.out.2.1, ?_⟩, ?_⟩, ?_⟩
    · rw [HE.out.1, HE.out.2]; rfl
    · rw [HE.out.1]; exact HC2.out
    · rw [HE.out.2]; exact HC4.out
    · omega
    · have hk := HK3.out.2.1
      have hz := HB1.out.size
      have hg1 : W.heap.size ≤ g1 := HWG.out
      exact (((HK3.out.2.2.low HB5.out (by omega) HB5.out.size).grown GV.out (by omega)).grown G6.out (by omega))
    · exact ((HO5.out.grown GV.out (by omega)).grown G6.out (by omega)).mono (by omega)
    · exact grown_at (grown_at (stepB HB.out (stepB HB3.out HB5.out)) (by omega) (by have := HB3.out.size; omega) GV.out) (by omega) (by have := HB3.out.size; omega) G6.out
  · obtain ⟨w5, h⟩ : ∃ w5, w5 = w4.setCells w3.heap.size 0 [.int .i64 d, .slice q4 (n - N) c4] := ⟨_, rfl⟩
    have hb5 : Below w3.heap.size w3 w5 := by rw [h]; exact grown_at (stepB hgA hB4) (Nat.le_refl _) (stepB hgA hB4).size (grown_setCells _ _ _ _)
    have h5 : Pb w5 w3.heap.size d (.slice q4 (n - N) c4) := by
      rw [h]
      exact ⟨World.rangeAt_setCells_same w4 _ 0 _ H4.out.2, World.there_setCells H4.out.2 _ 0 _⟩
    have ho5 : Own w5 w3.heap.size q4 l2 := by
      rw [h]
      have hs : (w3.alloc (.cells #[.int .i64 0, .slice none 0 0] 24)).drew.heap.size = w3.heap.size + 1 := by
        show (w3.alloc _).heap.size = _
        simp
      exact (HO4.out.grown (grown_setCells _ _ _ _) (by rw [hs]; omega)).mono (by rw [hs]; omega)
    change Exit.then _ _ _ _ (w4.setCells w3.heap.size 0 [.int .i64 d, .slice q4 (n - N) c4])
    rw [← h]
    obtain ⟨bx, hbx⟩ : ∃ bx, bx = w3.heap.size := ⟨_, rfl⟩
    have HGX := Lib.hid (show w3.heap.size ≤ bx by rw [hbx]; exact Nat.le_refl _)
    rw [← hbx] at h5 ⊢
    clear h hbx hB4 y0 y1 y2 y3
    have HRX := Lib.hid ((HA.out.kept HB3.out).low hb5 (by have := HS.out; have := HB3.out.size; omega))
    have HRY := Lib.hid ((HR.out.kept HB3.out).low hb5 (by have := HS.out; have := HB3.out.size; omega))
    have HR9 := Lib.hid (H3.out.low hb5 HGE.out.2)
    have HR10 := Lib.hid h5
    have HB5 := Lib.hid hb5
    have HO5 := Lib.hid ho5
    obtain ⟨p0, p1, -, -⟩ := HR9.out.cells
    obtain ⟨q0, q1, -, -⟩ := HR10.out.cells
    obtain ⟨r0, r1, r2, r3⟩ := HRX.out.cells
    obtain ⟨t0, t1, t2, t3⟩ := HRY.out.cells
    have n1 : ¬ bx = b + 1 := by have := HGX.out; have := HGE.out; have := HS.out; omega
    have n2 : ¬ bx = b + 1 + 1 := by have := HGX.out; have := HGE.out; have := HS.out; omega
    have n3 : ¬ b9 = b + 1 := by have := HGE.out; have := HS.out; omega
    have n4 : ¬ b9 = b + 1 + 1 := by have := HGE.out; have := HS.out; omega
    have n5 : ¬ b + 1 = bx := fun h => n1 h.symm
    have n6 : ¬ b + 1 + 1 = bx := fun h => n2 h.symm
    have n7 : ¬ b + 1 = b9 := fun h => n3 h.symm
    have n8 : ¬ b + 1 + 1 = b9 := fun h => n4 h.symm
    rw [show b + 2 = b + 1 + 1 from rfl] at t0 t1 t2 t3
    clear h5 hb5 ho5 hgg hg0 hgA k0 k1
    go_wp2
    go_region
    obtain ⟨v5, h5v⟩ : ∃ v5, v5 = w5.setCells (b + 1) 0 [.int .i64 (k : Int), .slice (some ⟨g1, 0, none⟩) N c2] := ⟨_, rfl⟩
    obtain ⟨w6, h6⟩ : ∃ w6, w6 = (v5.setCells (b + 1 + 1) 0 [.int .i64 d, .slice q4 (n - N) c4]).drew := ⟨_, rfl⟩
    have gv : w5.grownBy v5 (some (b + 1)) := by rw [h5v]; exact grown_setCells _ _ _ _
    have g6 : v5.grownBy w6 (some (b + 1 + 1)) := by
      rw [h6]
      have := grown_setCells (b + 1 + 1) [.int .i64 d, .slice q4 (n - N) c4] 0 v5
      exact ⟨this.os, this.tape, this.output, this.size, this.block⟩
    have ra : w6.rangeAt (b + 1) 0 [.int .i64 (k : Int), .slice (some ⟨g1, 0, none⟩) N c2] := by
      refine range_grown ?_ g6 (by omega) (by have := HRX.out.lt; have := gv.size; omega)
      rw [h5v]
      exact World.rangeAt_setCells_same w5 _ 0 _ HRX.out.2
    have rb : w6.rangeAt (b + 1 + 1) 0 [.int .i64 d, .slice q4 (n - N) c4] := by
      rw [h6]
      exact World.rangeAt_setCells_same v5 _ 0 _ (there_grown HRY.out.2 gv (by omega) HRY.out.lt)
    change Exit.then _ _ _ _ ((w5.setCells (b + 1) 0 [.int .i64 (k : Int), .slice (some ⟨g1, 0, none⟩) N c2]).setCells (b + 1 + 1) 0 [.int .i64 d, .slice q4 (n - N) c4]).drew
    rw [← h5v, ← h6]
    have RA := Lib.hid ra
    have RB := Lib.hid rb
    have GV := Lib.hid gv
    have G6 := Lib.hid g6
    clear h5v h6 ra rb gv g6 p0 p1 q0 q1 r0 r1 r2 r3 t0 t1 t2 t3
    go_wp2
    have e1 := HBE.out
    have e2 := HS.out
    have e3 := HGE.out
    have e4 := HB5.out.size
    have e5 := GV.out.size
    refine bodyPost_ret (res_ppe rfl rfl rfl RA.out RB.out rfl) rfl ⟨⟨_, c2, q4, c4, b9, ?_, ?_, ?_, ?_, .inr ⟨g1, rfl, HK3.out.1, HK3.out.2.1, ?_⟩, ?_⟩, ?_⟩
    · rw [HE.out.1, HE.out.2]; rfl
    · rw [HE.out.1]; exact HC2.out
    · rw [HE.out.2]; exact HC4.out
    · omega
    · have hk := HK3.out.2.1
      have hz := HB1.out.size
      have hg1 : W.heap.size ≤ g1 := HWG.out
      exact (((HK3.out.2.2.low HB5.out (by omega) HB5.out.size).grown GV.out (by omega)).grown G6.out (by omega))
    · exact ((HO5.out.grown GV.out (by omega)).grown G6.out (by omega)).mono (by omega)
    · exact grown_at (grown_at (stepB HB.out (stepB HB3.out HB5.out)) (by omega) (by have := HB3.out.size; omega) GV.out) (by omega) (by have := HB3.out.size; omega) G6.out
theorem r_Split (r : Int) (l : List Pt.Cl) (p : Option Addr) (cap : Nat) (ch row : Int) (w : World) (hd : CellsAt w p l) (hcap : l.length ≤ cap) :
    Calls Tryz.prog 30 #[PV r p l.length cap, .int .i64 ch, .int .i64 row] w fun x w' => RetPPE (Pt.okI (Pt.eSplit r l ch row) row) (Pt.okL (Pt.eSplit r l ch row) (l.take (row.toNat * ch.toNat))) (Pt.okI (Pt.eSplit r l ch row) (r - row)) (Pt.okL (Pt.eSplit r l ch row) (l.drop (row.toNat * ch.toNat))) (Pt.eSplit r l ch row) w.heap.size x w' ∧ Below w.heap.size w w' := by
  by_cases h : Pt.eSplit r l ch row = 0
  · have h1 : Pt.vpat r l ch = true ∧ 1 ≤ row ∧ row < r := by
      unfold Pt.eSplit at h
      cases e1 : Pt.vpat r l ch with
      | false => rw [e1] at h; simp at h
      | true =>
        by_cases e3 : 1 ≤ row ∧ row < r
        · exact ⟨rfl, e3⟩
        · rw [e1, if_pos rfl, if_neg e3] at h; exact absurd h (by decide)
    obtain ⟨x1, x2, x3⟩ := h1
    rw [h]
    obtain ⟨R, C, rfl, rfl, g1, g2, g3, g4, g5, -⟩ := Pt.vpat_nat x1
    obtain ⟨k, rfl⟩ : ∃ k : Nat, row = k := ⟨row.toNat, by omega⟩
    have hp1 := Nat.mul_pos (show 0 < R by omega) (show 0 < C by omega)
    rcases hd with rfl | ⟨b1, o1, rfl, hb1, hr1⟩
    · simp at g5; omega
    exact r_Split_ok R C k l b1 o1 cap w hb1 hr1 hcap x1 g2 g4 g3 g5 (by omega) (by omega)
  · have e1 : Pt.okI (Pt.eSplit r l ch row) row = 0 := if_neg h
    have e2 : Pt.okL (Pt.eSplit r l ch row) (l.take (row.toNat * ch.toNat)) = [] := if_neg h
    have e3 : Pt.okI (Pt.eSplit r l ch row) (r - row) = 0 := if_neg h
    have e4 : Pt.okL (Pt.eSplit r l ch row) (l.drop (row.toNat * ch.toNat)) = [] := if_neg h
    rw [e1, e2, e3, e4]
    exact r_Split_bad r l p cap ch row w hd rfl h
end Go.Proofs.YtfjfnbeegojlbaaGreat

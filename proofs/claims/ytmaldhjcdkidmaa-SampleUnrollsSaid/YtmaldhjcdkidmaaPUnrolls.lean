/-
  The walk of the law SampleUnrolls: for any sample it returns true; nothing that was there is changed.
-/
import Derived.Test.YtmaldhjcdkidmaaPTurns
import Derived.Test.YtmaldhjcdkidmaaPTapB
namespace Go.Proofs.Ytmaldhjcdkidmaa
open Go.RowKit

theorem DatAt.store {w : World} {g r : Nat} {zs : List Int} (h : DatAt w (some ⟨g, 0, none⟩) zs) (hr : g ≠ r) (j : Nat) (v : Value) : DatAt (w.setCell ⟨r, j, none⟩ v) (some ⟨g, 0, none⟩) zs := by
  rcases h with h | ⟨b, off, hp, hl, hc⟩
  · exact .inl h
  · simp only [Option.some.injEq, Addr.mk.injEq, and_true] at hp
    obtain ⟨rfl, rfl⟩ := hp
    exact .inr ⟨_, _, rfl, by simpa [World.setCell] using hl, fun i hi => by rw [ne_cell hr]; exact hc i hi⟩
theorem AB.kin {W : World} {b : Nat} {x : Ak} {p : Option Addr} {cap : Nat} (h : AB W b x p cap) : (∀ u : Kin W, u.w.cell? ⟨b, 0, none⟩ = some (.string x.s.name)) ∧ (∀ u : Kin W, u.w.cell? ⟨b, 1, none⟩ = some (.slice p x.s.dat.length cap)) ∧ (∀ u : Kin W, u.w.cell? ⟨b, 2, none⟩ = some (.int .i64 x.s.bits)) ∧ (∀ u : Kin W, u.w.cell? ⟨b, 3, none⟩ = some (.int .i64 x.s.rate)) ∧ (∀ u : Kin W, u.w.cell? ⟨b, 4, none⟩ = some (.int .i64 x.s.vol)) ∧ (∀ u : Kin W, u.w.cell? ⟨b, 5, none⟩ = some (.int .i64 x.s.pan)) ∧ (∀ u : Kin W, u.w.cell? ⟨b, 6, none⟩ = some (.int .i64 x.s.fine)) ∧ (∀ u : Kin W, u.w.cell? ⟨b, 7, none⟩ = some (.int .i64 x.s.loop)) ∧ (∀ u : Kin W, u.w.cell? ⟨b, 8, none⟩ = some (.int .i64 x.s.start)) ∧ (∀ u : Kin W, u.w.cell? ⟨b, 9, none⟩ = some (.int .i64 x.s.fin)) ∧ (∀ u : Kin W, u.w.cell? ⟨b, 10, none⟩ = some (.int .i64 x.s.sus)) ∧ (∀ u : Kin W, u.w.cell? ⟨b, 11, none⟩ = some (.int .i64 x.s.sstart)) ∧ (∀ u : Kin W, u.w.cell? ⟨b, 12, none⟩ = some (.int .i64 x.s.sfin)) ∧ (∀ u : Kin W, u.w.cell? ⟨b, 13, none⟩ = some (.int .i64 x.po)) ∧ (∀ u : Kin W, u.w.cell? ⟨b, 14, none⟩ = some (.int .i64 x.fr)) ∧ (∀ u : Kin W, u.w.cell? ⟨b, 15, none⟩ = some (.bool x.bk)) ∧ (∀ u : Kin W, u.w.cell? ⟨b, 16, none⟩ = some (.bool x.dn)) ∧ (∀ u : Kin W, u.w.cell? ⟨b, 17, none⟩ = some (.int .i64 x.step)) ∧ (∀ u : Kin W, u.w.cell? ⟨b, 18, none⟩ = some (.int .i64 x.k)) ∧ (∀ u : Kin W, u.w.cell? ⟨b, 19, none⟩ = some (.int .i64 x.n)) ∧ (∀ u : Kin W, u.w.cell? ⟨b, 20, none⟩ = some (.int .i64 x.off)) ∧ (∀ u : Kin W, u.w.cell? ⟨b, 21, none⟩ = some (.int .i64 x.frm)) ∧ (∀ u : Kin W, u.w.cell? ⟨b, 22, none⟩ = some (.int .i64 x.til)) ∧ (∀ u : Kin W, u.w.cell? ⟨b, 23, none⟩ = some (.int .i64 x.num)) ∧ (∀ u : Kin W, u.w.cell? ⟨b, 24, none⟩ = some (.int .i64 x.den)) ∧ (∀ u : Kin W, u.w.cell? ⟨b, 25, none⟩ = some (.int .i64 x.bits)) ∧ (∀ u : Kin W, u.w.cell? ⟨b, 26, none⟩ = some (.bool x.held)) ∧ (∀ u : Kin W, u.w.cell? ⟨b, 27, none⟩ = some (.bool x.back)) := by
  have e : ∀ (u : Kin W) j, u.w.cell? ⟨b, j, none⟩ = W.cell? ⟨b, j, none⟩ := fun u j => u.below.cell (AB.lt h)
  obtain ⟨⟨x0, x1, x2, x3, x4, x5, x6, x7, x8, x9, x10, x11, x12⟩, y13, y14, y15, y16, y17, y18, y19, y20, y21, y22, y23, y24, y25, y26, y27⟩ := h
  exact ⟨fun u => (e u _).trans x0, fun u => (e u _).trans x1, fun u => (e u _).trans x2, fun u => (e u _).trans x3, fun u => (e u _).trans x4, fun u => (e u _).trans x5, fun u => (e u _).trans x6, fun u => (e u _).trans x7, fun u => (e u _).trans x8, fun u => (e u _).trans x9, fun u => (e u _).trans x10, fun u => (e u _).trans x11, fun u => (e u _).trans x12, fun u => (e u _).trans y13, fun u => (e u _).trans y14, fun u => (e u _).trans y15, fun u => (e u _).trans y16, fun u => (e u _).trans y17, fun u => (e u _).trans y18, fun u => (e u _).trans y19, fun u => (e u _).trans y20, fun u => (e u _).trans y21, fun u => (e u _).trans y22, fun u => (e u _).trans y23, fun u => (e u _).trans y24, fun u => (e u _).trans y25, fun u => (e u _).trans y26, fun u => (e u _).trans y27⟩
theorem CA.kin {W : World} {b : Nat} {po fr : Int} {bk dn : Bool} (h : CA W b po fr bk dn) : (∀ u : Kin W, u.w.cell? ⟨b, 0, none⟩ = some (.int .i64 po)) ∧ (∀ u : Kin W, u.w.cell? ⟨b, 1, none⟩ = some (.int .i64 fr)) ∧ (∀ u : Kin W, u.w.cell? ⟨b, 2, none⟩ = some (.bool bk)) ∧ (∀ u : Kin W, u.w.cell? ⟨b, 3, none⟩ = some (.bool dn)) := by
  have e : ∀ (u : Kin W) j, u.w.cell? ⟨b, j, none⟩ = W.cell? ⟨b, j, none⟩ := fun u j => u.below.cell (show b < W.heap.size from cell_lt h.1)
  obtain ⟨c0, c1, c2, c3⟩ := h
  exact ⟨fun u => (e u _).trans c0, fun u => (e u _).trans c1, fun u => (e u _).trans c2, fun u => (e u _).trans c3⟩
theorem cell_kin {W : World} {a : Addr} {v : Value} (h : W.cell? a = some v) : ∀ u : Kin W, u.w.cell? a = some v := fun u => (u.below.cell (cell_lt h)).trans h
theorem tap_zero {s : Sm.Smp} (hv : Sm.vld s = true) (h : Bool) {c : Sm.Cur} (hc : Okc s.dat.length c) : tap s h c 0 = orz c.done (hrd s c.pos) := by
  unfold tap
  rw [if_pos ⟨hv, hc, by omega, by omega⟩]
  unfold tpd orz
  rw [if_neg (show ¬ (0 : Int) < 0 by omega), show c.pos - 0 = c.pos by omega, show c.pos + 0 = c.pos by omega]
  split
  · rfl
  · split <;> rfl
theorem uval_tap {s : Sm.Smp} (hv : Sm.vld s = true) (h : Bool) (k : Nat) : tap s h (ucur s h k) 0 = uval s h k := tap_zero hv h (okc_ucur hv h k)
set_option maxHeartbeats 3200000 in
theorem unrolls_bad (x : Ak) (p : Option Addr) (cap : Nat) (w : World) (hm : x.s.name.size ≤ maxLen) (hd : DatAt w p x.s.dat) (hl : (x.s.dat.length : Int) ≤ 9223372036854775807) (hv : Sm.vld x.s = false) :
    Calls Try.prog 8 #[AV x p cap] w fun z w' => z = .returned (.bool true) ∧ Below w.heap.size w w' := by
  have _u := hl
  clear _u hl
  obtain ⟨m, hm0⟩ : ∃ m : Nat, x.n % 512 = (m : Int) := ⟨(x.n % 512).toNat, by omega⟩
  have hand : bits .and .i64 x.n 511 = (m : Int) := (Tm.and511 x.n).trans hm0
  have m1 : (m : Int) ≤ 511 := by omega
  clear hm0
  have HUn := Lib.hid (p_unroll_bad x.s p cap (m : Int) x.held (w.alloc (.cells #[.string x.s.name, .slice p x.s.dat.length cap, .int .i64 x.s.bits, .int .i64 x.s.rate, .int .i64 x.s.vol, .int .i64 x.s.pan, .int .i64 x.s.fine, .int .i64 x.s.loop, .int .i64 x.s.start, .int .i64 x.s.fin, .int .i64 x.s.sus, .int .i64 x.s.sstart, .int .i64 x.s.sfin, .int .i64 x.po, .int .i64 x.fr, .bool x.bk, .bool x.dn, .int .i64 x.step, .int .i64 x.k, .int .i64 x.n, .int .i64 x.off, .int .i64 x.frm, .int .i64 x.til, .int .i64 x.num, .int .i64 x.den, .int .i64 x.bits, .bool x.held, .bool x.back] 28)) hm (hd.below (below_box _ _)) hv)
  have HVd := Lib.hid (fun w hd => p_valid_v x.s p cap w hm hd hv)
  clear hv
  unfold SV at HUn HVd
  unfold AV
  go_enter Try.func8, Try.ntmps8
  go_wp2_with (first | (go_at_call 23; ((with_reducible refine (HUn.out).mono ?_); rintro z w1 ⟨rfl, hb1⟩; have HB1 := Lib.hid (stepB (below_box _ _) hb1); have HA1 := Lib.hid ((ab_new w x p cap).kept hb1); obtain ⟨⟨x0, x1, x2, x3, x4, x5, x6, x7, x8, x9, x10, x11, x12⟩, y13, y14, y15, y16, y17, y18, y19, y20, y21, y22, y23, y24, y25, y26, y27⟩ := HA1.out)) | (go_at_call 13; ((with_reducible refine (HVd.out _ (hd.below HB1.out)).mono ?_); rintro z w2 ⟨rfl, hb2⟩)) | (go_at_call 22; ((with_reducible refine (p_awake _).mono ?_); rintro z w3 ⟨rfl, hb3⟩)))
  go_ret
  exact ⟨rfl, stepB (stepB HB1.out hb2) hb3⟩
theorem uval_eq (s : Sm.Smp) (h : Bool) (j : Nat) : orz (ucur s h j).done (hrd s (ucur s h j).pos) = uval s h j := rfl
theorem retUnr_n {l : List Int} {e : Ending} {w' : World} {m : Nat} (h : RetUnr l e w') (hl : l.length = m) : ∃ g, e = .returned (.tuple #[.slice (some ⟨g, 0, none⟩) m m, .int .i64 0]) ∧ DatAt w' (some ⟨g, 0, none⟩) l := by
  obtain ⟨g, he, hd⟩ := h
  rw [hl] at he
  exact ⟨g, he, hd⟩
theorem orz_true (a : Int) : orz true a = 0 := rfl
set_option maxHeartbeats 3200000 in
theorem unrolls_ok (x : Ak) (p : Option Addr) (cap : Nat) (w : World) (hm : x.s.name.size ≤ maxLen) (hd : DatAt w p x.s.dat) (hl : (x.s.dat.length : Int) ≤ 9223372036854775807) (hv : Sm.vld x.s = true) :
    Calls Try.prog 8 #[AV x p cap] w fun z w' => z = .returned (.bool true) ∧ Below w.heap.size w w' := by
  have _u := hl
  clear _u hl
  obtain ⟨m, hm0⟩ : ∃ m : Nat, x.n % 512 = (m : Int) := ⟨(x.n % 512).toNat, by omega⟩
  have hand : bits .and .i64 x.n 511 = (m : Int) := (Tm.and511 x.n).trans hm0
  have m1 : (m : Int) ≤ 511 := by omega
  clear hm0
  have hl : (x.s.dat.length : Int) ≤ 4096 := vld_len hv
  have HUn := Lib.hid (p_unroll x.s p cap m x.held (w.alloc (.cells #[.string x.s.name, .slice p x.s.dat.length cap, .int .i64 x.s.bits, .int .i64 x.s.rate, .int .i64 x.s.vol, .int .i64 x.s.pan, .int .i64 x.s.fine, .int .i64 x.s.loop, .int .i64 x.s.start, .int .i64 x.s.fin, .int .i64 x.s.sus, .int .i64 x.s.sstart, .int .i64 x.s.sfin, .int .i64 x.po, .int .i64 x.fr, .bool x.bk, .bool x.dn, .int .i64 x.step, .int .i64 x.k, .int .i64 x.n, .int .i64 x.off, .int .i64 x.frm, .int .i64 x.til, .int .i64 x.num, .int .i64 x.den, .int .i64 x.bits, .bool x.held, .bool x.back] 28)) hm (hd.below (below_box _ _)) hv (by omega))
  have HLn := Lib.hid (unr_length x.s x.held m)
  obtain ⟨l, hll⟩ : ∃ l, unr x.s x.held m = l := ⟨_, rfl⟩
  have HLg := Lib.hid (show ∀ i, i < m → l.getD i 0 = uval x.s x.held i from fun i hi => by rw [← hll]; exact unr_getD _ _ hi)
  rw [hll] at HUn HLn
  obtain ⟨c, hc⟩ : ∃ c, bgn x.s 0 false = c := ⟨_, rfl⟩
  have HBg := Lib.hid (fun w hd => p_Begin_to x.s p cap 0 false c w hm hd (by omega) hc)
  have HC0 := Lib.hid (show ucur x.s x.held 0 = c from hc)
  have HMv := Lib.hid (fun j w hd => p_Move_to x.s p cap (ucur x.s x.held j) (ucur x.s x.held (j + 1)) 65536 x.held w hm hd hv (okc_ucur hv x.held j) (by omega) (by omega) rfl)
  have HTv := Lib.hid (fun j w (hd : DatAt w p x.s.dat) => p_Tap x.s p cap (ucur x.s x.held j).pos (ucur x.s x.held j).frac 0 (ucur x.s x.held j).back (ucur x.s x.held j).done x.held w hm hd)
  have HUV := Lib.hid (fun j => uval_tap hv x.held j)
  obtain ⟨cp, cf, cb, cd⟩ := c
  dsimp only at HBg
  clear hc hll hv
  unfold SV at HUn HBg HMv HTv
  unfold AV
  go_enter Try.func8, Try.ntmps8
  go_wp2_with (first | (go_at_call 23; ((with_reducible refine (HUn.out).mono ?_); rintro z w1 ⟨hr, hb1⟩; obtain ⟨g, rfl, hdat⟩ := retUnr_n hr HLn.out; have HDT := Lib.hid hdat; have HB1 := Lib.hid (stepB (below_box _ _) hb1); have HA1 := Lib.hid ((ab_new w x p cap).kept hb1); obtain ⟨⟨x0, x1, x2, x3, x4, x5, x6, x7, x8, x9, x10, x11, x12⟩, y13, y14, y15, y16, y17, y18, y19, y20, y21, y22, y23, y24, y25, y26, y27⟩ := HA1.out; clear hdat)) | (go_at_call 15; ((with_reducible refine (HBg.out _ (hd.below HB1.out)).mono ?_); rintro z w2 ⟨rfl, hb2⟩)))
  have HWB := Lib.hid (stepB (stepB HB1.out hb2) (below_box w2 (.cells #[.int .i64 cp, .int .i64 cf, .bool cb, .bool cd] 26)))
  have HAB := Lib.hid ((HA1.out.kept hb2).kept (below_box w2 (.cells #[.int .i64 cp, .int .i64 cf, .bool cb, .bool cd] 26)))
  have HCF := Lib.hid (cf_new w2 cp cf cb cd)
  have HDD := Lib.hid ((HDT.out.below hb2).below (below_box w2 (.cells #[.int .i64 cp, .int .i64 cf, .bool cb, .bool cd] 26)))
  have ngd : ∀ g', g' < w1.heap.size → g' < w2.heap.size := fun g' hg' => by have := hb2.size; omega
  have z1 : w.heap.size + 1 ≤ w1.heap.size := by have := hb1.size; simp at this; omega
  have z2 := hb2.size
  obtain ⟨W, hW⟩ : ∃ W, W = w2.alloc (.cells #[.int .i64 cp, .int .i64 cf, .bool cb, .bool cd] 26) := ⟨_, rfl⟩
  obtain ⟨dd, hde⟩ : ∃ dd, dd = w2.heap.size := ⟨_, rfl⟩
  obtain ⟨b, hbe⟩ : ∃ b, b = w.heap.size := ⟨_, rfl⟩
  have nb : b ≠ dd := by omega
  have ng : m = 0 ∨ g ≠ dd := by
    by_cases h0 : m = 0
    · exact .inl h0
    · right
      rcases HDT.out with hz | ⟨b', off, hp, hlt, _⟩
      · have := HLn.out; rw [hz] at this; simp at this; omega
      · simp only [Option.some.injEq, Addr.mk.injEq, and_true] at hp
        omega
  have ld : w.heap.size ≤ dd := by omega
  rw [← hW] at HWB HAB HCF HDD
  rw [← hbe] at HAB
  rw [← hde] at HCF
  rw [← hW, ← hde, ← hbe]
  clear x0 x1 x2 x3 x4 x5 x6 x7 x8 x9 x10 x11 x12 y13 y14 y15 y16 y17 y18 y19 y20 y21 y22 y23 y24 y25 y26 y27 hand hW hde hbe HA1 HB1 hb1 hb2 z1 z2 ngd HDT hr
  go_loopw [7] (fun i wr => ∃ j : Nat, (j : Int) ≤ m ∧ i = .int .i64 j ∧ Hid (∃ po' fr' bk' dn', ucur x.s x.held j = ⟨po', fr', bk', dn'⟩ ∧ CF wr dd po' fr' bk' dn') ∧ Hid (AB wr b x p cap ∧ DatAt wr (some ⟨g, 0, none⟩) l) ∧ Hid (Below w.heap.size w wr)) (fun i _ => m - (intOf i).toNat)
  case atStart => exact ⟨0, by omega, rfl, ⟨_, _, _, _, HC0.out, HCF.out⟩, ⟨HAB.out, HDD.out⟩, HWB.out⟩
  case round =>
    clear HWB HAB HCF HDD
    obtain ⟨j, hj, rfl, HF, HH, hbw⟩ := hrel
    obtain ⟨po, fr, bk, dn, hDj, hcf⟩ := HF.out
    have HCF := Lib.hid hcf
    have HAB := Lib.hid HH.out.1
    have HDT := Lib.hid HH.out.2
    have HD := Lib.hid (hd.below hbw.out)
    by_cases hlt : (j : Int) < m
    · have ng : g ≠ dd := by rcases ng with h | h; omega; exact h
      have hM := HMv.out j
      have hT := fun w hd => HTv.out j w hd
      have hu := HUV.out j
      have huo := uval_eq x.s x.held j
      obtain ⟨q, hq⟩ : ∃ q, ucur x.s x.held (j + 1) = q := ⟨_, rfl⟩
      obtain ⟨v, hv⟩ : ∃ v, uval x.s x.held j = v := ⟨_, rfl⟩
      rw [hDj, hq] at hM
      rw [hDj] at hT hu huo
      dsimp only at hT huo
      rw [hu] at hT
      rw [hv] at hT huo
      obtain ⟨qp, qf, qb, qd⟩ := q
      dsimp only at hM
      obtain ⟨b1, o1, hp1, hc1⟩ := HDT.out.at (k := j) (by rw [HLn.out]; omega)
      rw [HLg.out j (by omega), hv] at hc1
      simp only [Option.some.injEq, Addr.mk.injEq, and_true] at hp1
      obtain ⟨rfl, rfl⟩ := hp1
      rw [Nat.zero_add] at hc1
      have HCELL := Lib.hid hc1
      have HM := Lib.hid hM
      have HTap := Lib.hid hT
      have HQ := Lib.hid hq
      have HTP := Lib.hid huo
      clear hM hT hu huo hDj hq hv hcf HF HH hc1
      obtain ⟨⟨x0, x1, x2, x3, x4, x5, x6, x7, x8, x9, x10, x11, x12⟩, y13, y14, y15, y16, y17, y18, y19, y20, y21, y22, y23, y24, y25, y26, y27⟩ := HAB.out
      obtain ⟨⟨c0, c1, c2, c3⟩, f0, f1, f2, f3⟩ := HCF.out
      have cc := HCELL.out
      cases dn
      · clear HTP
        go_wp2
        have hg : Below wr.heap.size wr wr := Below.refl _ _
        have ⟨g0, g1, g2, g3, g4, g5, g6, g7, g8, g9, g10, g11, g12, g13, g14, g15, g16, g17, g18, g19, g20, g21, g22, g23, g24, g25, g26, g27⟩ := (HAB.out).kin
        have ⟨j0, j1, j2, j3⟩ := (HCF.out.1).kin
        have jc := cell_kin HCELL.out
        refine kin_region (W := wr) (by kernel_rfl) (by kernel_rfl) hg ?_
        repeat (go_big_quiet_step (first | (go_at_call 19; exact kinB (HTap.out _ (HD.out.below (Kin.below _))))))
        refine wpQuiet_nil ?_
        intro w' hw
        have HB' := Lib.hid (stepB hbw.out hw)
        have HAB' := Lib.hid (HAB.out.kept hw)
        have HCF' := Lib.hid (HCF.out.kept hw)
        have HDT' := Lib.hid (HDT.out.below hw)
        clear g0 g1 g2 g3 g4 g5 g6 g7 g8 g9 g10 g11 g12 g13 g14 g15 g16 g17 g18 g19 g20 g21 g22 g23 g24 g25 g26 g27 j0 j1 j2 j3 jc
        obtain ⟨⟨x0, x1, x2, x3, x4, x5, x6, x7, x8, x9, x10, x11, x12⟩, y13, y14, y15, y16, y17, y18, y19, y20, y21, y22, y23, y24, y25, y26, y27⟩ := HAB'.out
        obtain ⟨⟨c0, c1, c2, c3⟩, f0, f1, f2, f3⟩ := HCF'.out
        go_wp2_with (first | (go_at_call 17; ((with_reducible refine (HM.out _ (hd.below HB'.out)).mono ?_); rintro z w2 ⟨rfl, hb2⟩; have HF2 := Lib.hid (HCF'.out.kept hb2); obtain ⟨⟨c0, c1, c2, c3⟩, f0, f1, f2, f3⟩ := HF2.out)))
        go_roundw
        case rel => exact ⟨j + 1, by omega, by go_num, ⟨qp, qf, qb, qd, HQ.out, HF2.out.go qp qf qb qd⟩, ⟨((((HAB'.out.kept hb2).store nb _ _).store nb _ _).store nb _ _).store nb _ _, ((((HDT'.out.below hb2).store ng _ _).store ng _ _).store ng _ _).store ng _ _⟩, ((((stepB HB'.out hb2).setCell ld _).setCell ld _).setCell ld _).setCell ld _⟩
        case measure => simp [intOf]; omega
      · obtain rfl : 0 = v := HTP.out
        go_wp2
        have hg : Below wr.heap.size wr wr := Below.refl _ _
        have ⟨g0, g1, g2, g3, g4, g5, g6, g7, g8, g9, g10, g11, g12, g13, g14, g15, g16, g17, g18, g19, g20, g21, g22, g23, g24, g25, g26, g27⟩ := (HAB.out).kin
        have ⟨j0, j1, j2, j3⟩ := (HCF.out.1).kin
        have jc := cell_kin HCELL.out
        refine kin_region (W := wr) (by kernel_rfl) (by kernel_rfl) hg ?_
        repeat (go_big_quiet_step (first | (go_at_call 19; exact kinB (HTap.out _ (HD.out.below (Kin.below _))))))
        refine wpQuiet_nil ?_
        intro w' hw
        have HB' := Lib.hid (stepB hbw.out hw)
        have HAB' := Lib.hid (HAB.out.kept hw)
        have HCF' := Lib.hid (HCF.out.kept hw)
        have HDT' := Lib.hid (HDT.out.below hw)
        clear g0 g1 g2 g3 g4 g5 g6 g7 g8 g9 g10 g11 g12 g13 g14 g15 g16 g17 g18 g19 g20 g21 g22 g23 g24 g25 g26 g27 j0 j1 j2 j3 jc
        obtain ⟨⟨x0, x1, x2, x3, x4, x5, x6, x7, x8, x9, x10, x11, x12⟩, y13, y14, y15, y16, y17, y18, y19, y20, y21, y22, y23, y24, y25, y26, y27⟩ := HAB'.out
        obtain ⟨⟨c0, c1, c2, c3⟩, f0, f1, f2, f3⟩ := HCF'.out
        go_wp2_with (first | (go_at_call 17; ((with_reducible refine (HM.out _ (hd.below HB'.out)).mono ?_); rintro z w2 ⟨rfl, hb2⟩; have HF2 := Lib.hid (HCF'.out.kept hb2); obtain ⟨⟨c0, c1, c2, c3⟩, f0, f1, f2, f3⟩ := HF2.out)))
        go_roundw
        case rel => exact ⟨j + 1, by omega, by go_num, ⟨qp, qf, qb, qd, HQ.out, HF2.out.go qp qf qb qd⟩, ⟨((((HAB'.out.kept hb2).store nb _ _).store nb _ _).store nb _ _).store nb _ _, ((((HDT'.out.below hb2).store ng _ _).store ng _ _).store ng _ _).store ng _ _⟩, ((((stepB HB'.out hb2).setCell ld _).setCell ld _).setCell ld _).setCell ld _⟩
        case measure => simp [intOf]; omega
    · go_wp2_with (first | (go_at_call 22; ((with_reducible refine (p_awake _).mono ?_); rintro z w3 ⟨rfl, hb3⟩)))
      go_ret
      exact ⟨rfl, stepB hbw.out hb3⟩
/-- The law SampleUnrolls' walk. -/
theorem unrolls_any (x : Ak) (p : Option Addr) (cap : Nat) (w : World) (hm : x.s.name.size ≤ maxLen) (hd : DatAt w p x.s.dat) (hl : (x.s.dat.length : Int) ≤ 9223372036854775807) :
    Calls Try.prog 8 #[AV x p cap] w fun z w' => z = .returned (.bool true) ∧ Below w.heap.size w w' := by
  cases hv : Sm.vld x.s
  · exact unrolls_bad x p cap w hm hd hl hv
  · exact unrolls_ok x p cap w hm hd hl hv
end Go.Proofs.Ytmaldhjcdkidmaa

/-
  The contract of the reference's Unroll: the values along a cursor's way.
-/
import Derived.Test.YtmaldhjcdkidmaaRefTapC
import Derived.Test.YtmaldhjcdkidmaaRefBegin
import Derived.Test.YtmaldhjcdkidmaaPTurns
import Derived.Laws.AppendOwn
namespace Go.Proofs.Ytmaldhjcdkidmaa
open Go.RowKit

theorem grown_base {w w' : World} {B : Nat} {v : Value} (h : w.grownBy w' v.ownBlock) (hv : ∀ k, v.ownBlock = some k → B ≤ k) (hB : B ≤ w.heap.size) : Below B w w' :=
  ⟨h.os, h.tape, h.output, h.size, fun k hk => h.block k (Nat.lt_of_lt_of_le hk hB) (fun e => by have := hv k e.symm; omega)⟩
theorem CF.below {w w' : World} {b B : Nat} {po fr : Int} {bk dn : Bool} (h : CF w b po fr bk dn) (hb : Below B w w') (hl : b < B) : CF w' b po fr bk dn := by
  obtain ⟨⟨c0, c1, c2, c3⟩, f0, f1, f2, f3⟩ := h
  have e : ∀ j, w'.cell? ⟨b, j, none⟩ = w.cell? ⟨b, j, none⟩ := fun j => hb.cell hl
  have g : ∀ j, w'.frozen? ⟨b, j, none⟩ = w.frozen? ⟨b, j, none⟩ := fun j => hb.frozen (p := ⟨b, j, none⟩) hl
  exact ⟨⟨(e _).trans c0, (e _).trans c1, (e _).trans c2, (e _).trans c3⟩, (g _).trans f0, (g _).trans f1, (g _).trans f2, (g _).trans f3⟩
theorem Boxed.store {w : World} {b r : Nat} {s : Sm.Smp} {p : Option Addr} {cap : Nat} (h : Boxed w b s p cap) (hr : b ≠ r) (j : Nat) (v : Value) : Boxed (w.setCell ⟨r, j, none⟩ v) b s p cap := by
  unfold Boxed at *
  simp only [cell_set hr]
  exact h
theorem tpd_zero (s : Sm.Smp) (h : Bool) (po fr : Int) (bk dn : Bool) : tpd s h ⟨po, fr, bk, dn⟩ 0 = orz dn (hrd s po) := by
  unfold tpd orz
  cases dn
  · cases bk <;> simp
  · simp
/-- A call has returned these values, in memory of its own, or none. -/
def RetU (l : List Int) (e : Ending) (w' : World) : Prop := ∃ p cap, e = .returned (.tuple #[.slice p l.length cap, .int .i64 0]) ∧ DatAt w' p l
theorem own_dat {w : World} {B n : Nat} {v : Value} {l : List Int} (h : w.ownsRow B 3 1 v n (l.map (Value.int .i64))) (hn : l.length = n) : ∃ p cap, v = .slice p l.length cap ∧ DatAt w p l := by
  rcases h.2 with ⟨rfl, rfl⟩ | ⟨g, cap, cur, rfl, _⟩
  · exact ⟨none, 0, by rw [hn], .inl (List.eq_nil_of_length_eq_zero hn)⟩
  · refine ⟨some ⟨g, 0, none⟩, cap, by rw [hn], .inr ⟨g, 0, rfl, (World.ownsRow.lt h g rfl).2, fun i hi => ?_⟩⟩
    rw [Nat.zero_add, World.ownsRow.cellAt h i (by omega)]
    simp [hi, List.getD_eq_getElem?_getD]
theorem one_new (w : World) (y : Int) : ∀ j u, ([.int .i64 y] : List Value)[j]? = some u → (w.alloc (.cells #[.int .i64 y] 3)).cell? ((⟨w.heap.size, 0, none⟩ : Addr).add j) = some u := by
  intro j u hu
  match j with
  | 0 =>
    have e : Value.int .i64 y = u := by simpa using hu
    subst e
    simp [Addr.add, World.cell?_alloc_new]
  | j + 1 => simp at hu
theorem one_one (y : Int) : ∀ u ∈ ([.int .i64 y] : List Value), u.oneCell' = true := by
  intro u hu
  have e : u = Value.int .i64 y := by simpa using hu
  subst e
  rfl
theorem row_stays {w w' : World} {B n : Nat} {v : Value} {xs : List Value} (h : w.ownsRow B 3 1 v n xs) (hb : Below w.heap.size w w') : w'.ownsRow B 3 1 v n xs := by
  refine World.ownsRow.kept (row := none) h ⟨hb.os, hb.tape, hb.output, hb.size, fun k hk _ => hb.block k hk⟩ ?_
  rcases h.2 with ⟨rfl, _⟩ | ⟨g, cap, cur, rfl, _⟩
  · exact .inl rfl
  · exact .inr (by simp [Value.ownBlock])
theorem row_other {w : World} {B n c : Nat} {v : Value} {xs : List Value} (h : w.ownsRow B 3 1 v n xs) (hc : c < B) (j : Nat) (u : Value) : (w.setCell ⟨c, j, none⟩ u).ownsRow B 3 1 v n xs := by
  refine ownsRow_setCell_other h ?_ u
  intro e
  have := (World.ownsRow.lt h c e).1
  omega
theorem runroll_bad (s : Sm.Smp) (p : Option Addr) (cap : Nat) (n : Int) (h : Bool) (w : World) (hm : s.name.size ≤ maxLen) (hd : DatAt w p s.dat) (hv : Sm.vld s = false) :
    Calls Try.prog 24 #[SV s p cap, .int .i64 n, .bool h] w fun x w' => x = .returned (.tuple #[.slice none 0 0, .int .i64 1]) ∧ Below w.heap.size w w' := by
  have HVd := Lib.hid (hv ▸ rvalid s p cap (w.alloc (.cells #[.string s.name, .slice p s.dat.length cap, .int .i64 s.bits, .int .i64 s.rate, .int .i64 s.vol, .int .i64 s.pan, .int .i64 s.fine, .int .i64 s.loop, .int .i64 s.start, .int .i64 s.fin, .int .i64 s.sus, .int .i64 s.sstart, .int .i64 s.sfin] 24)) hm (hd.below (below_box _ _)))
  have HX0 := Lib.hid (boxed_new w s p cap 24)
  clear hm hd hv
  unfold SV at HVd
  unfold SV
  go_enter Try.func24, Try.ntmps24
  go_wp2_with (first | (go_at_call 14; ((with_reducible refine HVd.out.mono ?_); rintro x w1 ⟨rfl, hb1⟩; have HB1 := Lib.hid (stepB (below_box w (.cells #[.string s.name, .slice p s.dat.length cap, .int .i64 s.bits, .int .i64 s.rate, .int .i64 s.vol, .int .i64 s.pan, .int .i64 s.fine, .int .i64 s.loop, .int .i64 s.start, .int .i64 s.fin, .int .i64 s.sus, .int .i64 s.sstart, .int .i64 s.sfin] 24)) hb1); have HX1 := Lib.hid (HX0.out.below hb1 (cell_lt HX0.out.1)); obtain ⟨x0, x1, x2, x3, x4, x5, x6, x7, x8, x9, x10, x11, x12⟩ := HX1.out)))
  go_ret2
  exact ⟨rfl, HB1.out⟩
theorem runroll_lo (s : Sm.Smp) (p : Option Addr) (cap : Nat) (n : Int) (h : Bool) (w : World) (hm : s.name.size ≤ maxLen) (hd : DatAt w p s.dat) (hv : Sm.vld s = true) (hr : n < 0) :
    Calls Try.prog 24 #[SV s p cap, .int .i64 n, .bool h] w fun x w' => x = .returned (.tuple #[.slice none 0 0, .int .i64 5]) ∧ Below w.heap.size w w' := by
  have HVd := Lib.hid (hv ▸ rvalid s p cap (w.alloc (.cells #[.string s.name, .slice p s.dat.length cap, .int .i64 s.bits, .int .i64 s.rate, .int .i64 s.vol, .int .i64 s.pan, .int .i64 s.fine, .int .i64 s.loop, .int .i64 s.start, .int .i64 s.fin, .int .i64 s.sus, .int .i64 s.sstart, .int .i64 s.sfin] 24)) hm (hd.below (below_box _ _)))
  have HX0 := Lib.hid (boxed_new w s p cap 24)
  clear hm hd hv
  unfold SV at HVd
  unfold SV
  go_enter Try.func24, Try.ntmps24
  go_wp2_with (first | (go_at_call 14; ((with_reducible refine HVd.out.mono ?_); rintro x w1 ⟨rfl, hb1⟩; have HB1 := Lib.hid (stepB (below_box w (.cells #[.string s.name, .slice p s.dat.length cap, .int .i64 s.bits, .int .i64 s.rate, .int .i64 s.vol, .int .i64 s.pan, .int .i64 s.fine, .int .i64 s.loop, .int .i64 s.start, .int .i64 s.fin, .int .i64 s.sus, .int .i64 s.sstart, .int .i64 s.sfin] 24)) hb1); have HX1 := Lib.hid (HX0.out.below hb1 (cell_lt HX0.out.1)); obtain ⟨x0, x1, x2, x3, x4, x5, x6, x7, x8, x9, x10, x11, x12⟩ := HX1.out)))
  go_ret2
  exact ⟨rfl, HB1.out⟩
theorem runroll_hi (s : Sm.Smp) (p : Option Addr) (cap : Nat) (n : Int) (h : Bool) (w : World) (hm : s.name.size ≤ maxLen) (hd : DatAt w p s.dat) (hv : Sm.vld s = true) (hr : ¬ n < 0) (hr2 : 200000 < n) :
    Calls Try.prog 24 #[SV s p cap, .int .i64 n, .bool h] w fun x w' => x = .returned (.tuple #[.slice none 0 0, .int .i64 5]) ∧ Below w.heap.size w w' := by
  have HVd := Lib.hid (hv ▸ rvalid s p cap (w.alloc (.cells #[.string s.name, .slice p s.dat.length cap, .int .i64 s.bits, .int .i64 s.rate, .int .i64 s.vol, .int .i64 s.pan, .int .i64 s.fine, .int .i64 s.loop, .int .i64 s.start, .int .i64 s.fin, .int .i64 s.sus, .int .i64 s.sstart, .int .i64 s.sfin] 24)) hm (hd.below (below_box _ _)))
  have HX0 := Lib.hid (boxed_new w s p cap 24)
  clear hm hd hv
  unfold SV at HVd
  unfold SV
  go_enter Try.func24, Try.ntmps24
  go_wp2_with (first | (go_at_call 14; ((with_reducible refine HVd.out.mono ?_); rintro x w1 ⟨rfl, hb1⟩; have HB1 := Lib.hid (stepB (below_box w (.cells #[.string s.name, .slice p s.dat.length cap, .int .i64 s.bits, .int .i64 s.rate, .int .i64 s.vol, .int .i64 s.pan, .int .i64 s.fine, .int .i64 s.loop, .int .i64 s.start, .int .i64 s.fin, .int .i64 s.sus, .int .i64 s.sstart, .int .i64 s.sfin] 24)) hb1); have HX1 := Lib.hid (HX0.out.below hb1 (cell_lt HX0.out.1)); obtain ⟨x0, x1, x2, x3, x4, x5, x6, x7, x8, x9, x10, x11, x12⟩ := HX1.out)))
  go_ret2
  exact ⟨rfl, HB1.out⟩
/-- What the loop keeps. -/
structure UR (w : World) (s : Sm.Smp) (p : Option Addr) (cap n b c B : Nat) (h : Bool) (v i : Value) (wr : World) : Prop where
  out : ∃ k : Nat, k ≤ n ∧ i = .int .i64 k ∧ Hid (∃ po fr bk dn, ucur s h k = ⟨po, fr, bk, dn⟩ ∧ CF wr c po fr bk dn) ∧ Hid (Boxed wr b s p cap) ∧ Hid (wr.ownsRow B 3 1 v k ((unr s h k).map (Value.int .i64))) ∧ Hid (Below w.heap.size w wr) ∧ B ≤ wr.heap.size
set_option maxHeartbeats 1600000 in
theorem runroll_ok (s : Sm.Smp) (p : Option Addr) (cap : Nat) (n : Nat) (h : Bool) (w : World) (hm : s.name.size ≤ maxLen) (hd : DatAt w p s.dat) (hv : Sm.vld s = true) (n1 : (n : Int) ≤ 200000) :
    Calls Try.prog 24 #[SV s p cap, .int .i64 n, .bool h] w fun x w' => RetU (unr s h n) x w' ∧ Below w.heap.size w w' := by
  have HVd := Lib.hid (hv ▸ rvalid s p cap (w.alloc (.cells #[.string s.name, .slice p s.dat.length cap, .int .i64 s.bits, .int .i64 s.rate, .int .i64 s.vol, .int .i64 s.pan, .int .i64 s.fine, .int .i64 s.loop, .int .i64 s.start, .int .i64 s.fin, .int .i64 s.sus, .int .i64 s.sstart, .int .i64 s.sfin] 24)) hm (hd.below (below_box _ _)))
  have HX0 := Lib.hid (boxed_new w s p cap 24)
  have HBg := Lib.hid (fun w' hd => rbegin s p cap 0 false w' hm hd)
  have hq := ring_ok hv h
  have HTk := Lib.hid (fun w' hd po fr bk dn hc => rtapped s p cap po fr 0 bk dn h w' hv hd hc (by omega) (by omega))
  have HGk := Lib.hid (fun w' po fr bk dn hc => rgone s p cap po fr 65536 bk dn h w' (hk_refl s h) hc hq.1 hq.2.1)
  have HQ := Lib.hid hq
  have HD0 := Lib.hid hd
  have HV := Lib.hid hv
  obtain ⟨i0, hinf, hz0, hz1, hz2⟩ := info_parts Try.infoInt
  clear hm hd hv hq
  unfold SV at HVd HBg HTk HGk
  unfold SV
  go_enter Try.func24, Try.ntmps24
  go_wp2_with (first | (go_at_call 14; ((with_reducible refine HVd.out.mono ?_); rintro x w1 ⟨rfl, hb1⟩; have HB1 := Lib.hid (stepB (below_box w (.cells #[.string s.name, .slice p s.dat.length cap, .int .i64 s.bits, .int .i64 s.rate, .int .i64 s.vol, .int .i64 s.pan, .int .i64 s.fine, .int .i64 s.loop, .int .i64 s.start, .int .i64 s.fin, .int .i64 s.sus, .int .i64 s.sstart, .int .i64 s.sfin] 24)) hb1); have HX1 := Lib.hid (HX0.out.below hb1 (cell_lt HX0.out.1)); obtain ⟨x0, x1, x2, x3, x4, x5, x6, x7, x8, x9, x10, x11, x12⟩ := HX1.out)) | (go_at_call 16; ((with_reducible refine (HBg.out _ (HD0.out.below HB1.out)).mono ?_); rintro x w2 ⟨⟨po0, fr0, bk0, dn0, rfl, HC0⟩, hb2⟩)))
  have z1 : w.heap.size + 1 ≤ w1.heap.size := by have := hb1.size; simp at this; omega
  have z2 := hb2.size
  have HBW := Lib.hid (stepB (stepB HB1.out hb2) (below_box w2 (.cells #[.int .i64 po0, .int .i64 fr0, .bool bk0, .bool dn0] 26)))
  have HXW := Lib.hid ((HX1.out.below hb2 (cell_lt HX1.out.1)).below (below_box w2 (.cells #[.int .i64 po0, .int .i64 fr0, .bool bk0, .bool dn0] 26)) (by have := cell_lt HX1.out.1; omega))
  have HFW := Lib.hid (cf_new w2 po0 fr0 bk0 dn0)
  obtain ⟨W, hW⟩ : ∃ W, W = w2.alloc (.cells #[.int .i64 po0, .int .i64 fr0, .bool bk0, .bool dn0] 26) := ⟨_, rfl⟩
  obtain ⟨B, hBe⟩ : ∃ B, B = (w2.alloc (.cells #[.int .i64 po0, .int .i64 fr0, .bool bk0, .bool dn0] 26)).heap.size := ⟨_, rfl⟩
  have hB2 : B = w2.heap.size + 1 := by rw [hBe]; simp
  obtain ⟨c, hce⟩ : ∃ c, c = w2.heap.size := ⟨_, rfl⟩
  obtain ⟨b, hbe⟩ : ∃ b, b = w.heap.size := ⟨_, rfl⟩
  have hbB : b < B := by omega
  have hcB : c < B := by omega
  have nbc : b ≠ c := by omega
  have hwB : w.heap.size ≤ B := by omega
  have hwc : w.heap.size ≤ c := by omega
  have hBW : B ≤ W.heap.size := by rw [hW, hBe]; exact Nat.le_refl _
  rw [← hW] at HBW HXW HFW ⊢
  rw [← hce] at HFW ⊢
  rw [← hbe] at HXW ⊢
  have HC0' := Lib.hid HC0
  clear HC0 hW hBe hce hbe hB2 z1 z2
  clear HB1 HX1 HX0 hb2 hb1 HVd HBg x0 x1 x2 x3 x4 x5 x6 x7 x8 x9 x10 x11 x12
  go_loopw [8, 10] (fun v i wr => UR w s p cap n b c B h v i wr) (fun _ i _ => n - (intOf i).toNat)
  case atStart => exact ⟨⟨0, by omega, rfl, ⟨_, _, _, _, HC0'.out, HFW.out⟩, HXW.out, ⟨rfl, .inl ⟨rfl, rfl⟩⟩, HBW.out, hBW⟩⟩
  case round =>
    clear HBW HXW HFW HC0' hBW
    obtain ⟨k, hk, rfl, HU, HX, HRow, hbw, hsz⟩ := hrel.out
    clear hrel
    by_cases hlt : k < n
    · obtain ⟨po, fr, bk, dn, hcur, hcf⟩ := HU.out
      have hok := okc_ucur HV.out h k
      rw [hcur] at hok
      obtain ⟨y, hy⟩ : ∃ y, uval s h k = y := ⟨_, rfl⟩
      have HY := Lib.hid hy
      have HTp := Lib.hid (show ∀ w' (hd : DatAt w' p s.dat), _ from fun w' hd => (show tpd s h ⟨po, fr, bk, dn⟩ 0 = y by rw [tpd_zero, ← hy]; unfold uval; rw [hcur]) ▸ HTk.out w' hd po fr bk dn hok)
      have HGn := Lib.hid (fun w' => HGk.out w' po fr bk dn (stand_ok hok (by omega) (by omega) HQ.out.2.2.1 HQ.out.2.2.2.1 HQ.out.2.2.2.2.1 HQ.out.2.2.2.2.2))
      have HNX := Lib.hid (show ucur s h (k + 1) = mvS s h ⟨po, fr, bk, dn⟩ 65536 by rw [← hcur]; rfl)
      have HCF := Lib.hid hcf
      have HD := Lib.hid (HD0.out.below hbw.out)
      clear hcur hok hy HU hcf
      obtain ⟨x0, x1, x2, x3, x4, x5, x6, x7, x8, x9, x10, x11, x12⟩ := HX.out
      obtain ⟨⟨c0, c1, c2, c3⟩, f0, f1, f2, f3⟩ := HCF.out
      go_wp2_with (first | (go_at_call 56; ((with_reducible refine (HTp.out _ HD.out).mono ?_); rintro x w1 ⟨rfl, hb1⟩; have HX1 := Lib.hid ((HX.out.below hb1 (cell_lt HX.out.1)).below (below_box w1 (.cells #[.int .i64 y] 3)) (by have := cell_lt HX.out.1; have := hb1.size; simp at *; omega)); have HF1 := Lib.hid ((HCF.out.kept hb1).kept (below_box w1 (.cells #[.int .i64 y] 3))); have HR1 := Lib.hid (row_stays (row_stays HRow.out hb1) (below_box w1 (.cells #[.int .i64 y] 3))); have HB1 := Lib.hid (stepB (stepB hbw.out hb1) (below_box w1 (.cells #[.int .i64 y] 3))); have hs1 : B ≤ (w1.alloc (.cells #[.int .i64 y] 3)).heap.size := by have := hb1.size; simp; omega)) | (at_builtin; go_loud (refine wpList_append_own _ rfl (.tmp 29) (.tmp 34) 22 rfl B 3 i0 (.int .i64 0) 1 8 Try.underlying22 hinf hz0 hz1 hz2 rfl (by decide) u8 k ((unr s h k).map (Value.int .i64)) rfl HR1.out ⟨w1.heap.size, 0, none⟩ 1 1 [.int .i64 y] rfl rfl (one_new w1 y) (one_one y) (by unfold maxLen; omega) (by omega) hs1 ?_; intro v' w2 hown' hgrow _; have hb2 := grown_base hgrow (fun g hg => (World.ownsRow.lt HR1.out g hg).1) hs1; clear hgrow; have HX2 := Lib.hid (HX1.out.below hb2 hbB); have HF2 := Lib.hid (HF1.out.below hb2 hcB); have HR2 := Lib.hid (show w2.ownsRow B 3 1 v' (k + 1) ((unr s h (k + 1)).map (Value.int .i64)) by rw [unr_snoc, HY.out]; simpa using hown'); have HB2 := Lib.hid (HB1.out.trans (hb2.mono hwB)); have hs2 := hb2.size; clear hown'; obtain ⟨x0, x1, x2, x3, x4, x5, x6, x7, x8, x9, x10, x11, x12⟩ := HX2.out; obtain ⟨⟨c0, c1, c2, c3⟩, f0, f1, f2, f3⟩ := HF2.out)) | (go_at_call 53; ((with_reducible refine (HGn.out _).mono ?_); rintro x w3 ⟨⟨qp, qf, qb, qd, rfl, HC⟩, hb3⟩; have HX3 := Lib.hid (HX2.out.below hb3 (cell_lt HX2.out.1)); have HF3 := Lib.hid (HF2.out.kept hb3); have HR3 := Lib.hid (row_stays HR2.out hb3); have HB3 := Lib.hid (stepB HB2.out hb3); have hs3 := hb3.size; obtain ⟨x0, x1, x2, x3, x4, x5, x6, x7, x8, x9, x10, x11, x12⟩ := HX3.out; obtain ⟨⟨c0, c1, c2, c3⟩, f0, f1, f2, f3⟩ := HF3.out)))
      go_roundw
      case rel => exact ⟨⟨k + 1, by omega, by go_num, ⟨qp, qf, qb, qd, by rw [HNX.out]; exact HC, HF3.out.go qp qf qb qd⟩, (((HX3.out.store nbc _ _).store nbc _ _).store nbc _ _).store nbc _ _, row_other (row_other (row_other (row_other HR3.out hcB _ _) hcB _ _) hcB _ _) hcB _ _, (((HB3.out.setCell hwc _).setCell hwc _).setCell hwc _).setCell hwc _, by simp [World.setCell]; omega⟩⟩
      case measure => simp [intOf]; omega
    · obtain rfl : k = n := by omega
      obtain ⟨pp, cc, hv', hdat⟩ := own_dat HRow.out (unr_length s h k)
      rw [unr_length] at hv'
      subst hv'
      have HDT := Lib.hid hdat
      clear hdat
      go_wp2
      go_ret2
      exact ⟨⟨pp, cc, by rw [unr_length]; rfl, HDT.out⟩, hbw.out⟩
end Go.Proofs.Ytmaldhjcdkidmaa

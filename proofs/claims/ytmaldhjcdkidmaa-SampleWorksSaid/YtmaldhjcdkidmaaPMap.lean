/-
  The contract of package sample's mapFrames with the function literals of Convert and Amplify.
-/
import Derived.Test.YtmaldhjcdkidmaaPChgB
import Derived.Test.YtmaldhjcdkidmaaRow
import Derived.Test.YtmaldhjcdkidmaaPAmp
import Derived.Test.YtmaldhjcdkidmaaPUnroll
namespace Go.Proofs.Ytmaldhjcdkidmaa
open Go.RowKit

/-- A call has returned this sample, its frames in memory of their own. -/
def RetM (s : Sm.Smp) (B : Nat) (e : Ending) (w' : World) : Prop := ∃ g, e = .returned (SV s (some ⟨g, 0, none⟩) s.dat.length) ∧ OwnS w' B g s.dat
/-- A bundle that a loop keeps: the sample's block, the result's, a row of its own. -/
def MB (w : World) (b g n : Nat) (s : Sm.Smp) (p : Option Addr) (cap B : Nat) (xs : List Value) : Prop := Two w b s p cap ∧ w.ownsRow B 3 1 (.slice (some ⟨g, 0, none⟩) n n) n xs
theorem MB.kept {w w' : World} {b g n : Nat} {s : Sm.Smp} {p : Option Addr} {cap B : Nat} {xs : List Value} (h : MB w b g n s p cap B xs) (hb : Below w.heap.size w w') : MB w' b g n s p cap B xs :=
  ⟨h.1.kept hb (cell_lt h.1.2.1.1), row_kept h.2 hb⟩
theorem MB.put {w : World} {b g n : Nat} {s : Sm.Smp} {p : Option Addr} {cap B : Nat} {xs : List Value} (h : MB w b g n s p cap B xs) (h1 : b ≠ g) (h2 : b + 1 ≠ g) (j : Nat) (v : Value) : MB (w.setCell ⟨g, j, none⟩ v) b g n s p cap B (xs.set j v) :=
  ⟨h.1.store h1 h2 j v, (h.2.stored j v).1⟩
theorem OwnS.of {w : World} {B g n : Nat} {l : List Int} (h : w.ownsRow B 3 1 (.slice (some ⟨g, 0, none⟩) n n) n (l.map (Value.int .i64))) (hn : l.length = n) : OwnS w B g l := by subst hn; exact h
set_option maxHeartbeats 1600000 in
theorem p_map_cvt (s : Sm.Smp) (p : Option Addr) (cap : Nat) (b o : Int) (c d : Nat) (w : World) (hc : w.cell? ⟨c, 0, none⟩ = some (.int .i64 b)) (hd : w.cell? ⟨d, 0, none⟩ = some (.int .i64 o)) (hdt : DatAt w p s.dat) (hsm : Small s) (hl : (s.dat.length : Int) ≤ 4096) :
    Calls Try.prog 62 #[SV s p cap, .func (.func 68) #[] #[.pointer (some ⟨c, 0, none⟩), .pointer (some ⟨d, 0, none⟩)]] w fun x w' => RetM { s with dat := s.dat.map (Sm.cvtF o b) } w.heap.size x w' ∧ Below w.heap.size w w' := by
  have HC0 := Lib.hid hc
  have HC1 := Lib.hid hd
  have HT0 := Lib.hid (two_new w s p cap)
  have HB0 := Lib.hid (((Below.refl w.heap.size w).alloc (Nat.le_refl _) (.cells #[.string s.name, .slice p s.dat.length cap, .int .i64 s.bits, .int .i64 s.rate, .int .i64 s.vol, .int .i64 s.pan, .int .i64 s.fine, .int .i64 s.loop, .int .i64 s.start, .int .i64 s.fin, .int .i64 s.sus, .int .i64 s.sstart, .int .i64 s.sfin] 24)).alloc (by simp) (.cells #[.string ByteArray.empty, .slice none 0 0, .int .i64 0, .int .i64 0, .int .i64 0, .int .i64 0, .int .i64 0, .int .i64 0, .int .i64 0, .int .i64 0, .int .i64 0, .int .i64 0, .int .i64 0] 24))
  have HD0 := Lib.hid hdt
  have HSM := Lib.hid hsm
  obtain ⟨i0, hinf, hz0, hz1, hz2⟩ := info_parts Try.infoInt
  clear hc hd hdt hsm
  unfold SV
  go_enter Try.func62, Try.ntmps62
  go_wp2_with (first | (at_make; refine wpList_make_full _ rfl _ _ 22 rfl w.heap.size 3 i0 (.int .i64 0) 1 Try.underlying22 hinf hz0 hz1 .i64 .i64 _ _ s.dat.length rfl rfl rfl rfl (by rw [hz2]; omega) (by unfold maxLen; omega) (by simp; omega) ?_; intro w3 hown3 hgrow3; have HOWN := Lib.hid hown3; have hb3 := grown_below hgrow3; clear hown3 hgrow3; have HT3 := Lib.hid (HT0.out.kept hb3 (by simp)); obtain ⟨⟨x0, x1, x2, x3, x4, x5, x6, x7, x8, x9, x10, x11, x12⟩, ⟨z0, z1, z2, z3, z4, z5, z6, z7, z8, z9, z10, z11, z12⟩, fz1, fz2⟩ := HT3.out))
  have HWB := Lib.hid (stepB HB0.out hb3)
  have HOW : w3.ownsRow w.heap.size 3 1 (.slice (some ⟨w.heap.size + 2, 0, none⟩) s.dat.length s.dat.length) s.dat.length (frow (fun i => (Sm.cvtF o b) (s.dat.getD i 0)) s.dat.length 0) := by
    have e : (madeCells (Value.int .i64 0).cells (s.dat.length * 1)).toList = frow (fun i => (Sm.cvtF o b) (s.dat.getD i 0)) s.dat.length 0 := by rw [frow_zero, Nat.mul_one]; exact toList_madeCells_one _ s.dat.length
    have := HOWN.out
    rw [e] at this
    simpa using this
  have HST := Lib.hid (show MB w3 w.heap.size (w.heap.size + 2) s.dat.length s p cap w.heap.size (frow (fun i => (Sm.cvtF o b) (s.dat.getD i 0)) s.dat.length 0) from ⟨HT3.out, HOW⟩)
  obtain ⟨g, hge⟩ : ∃ g, g = w.heap.size + 2 := ⟨_, rfl⟩
  obtain ⟨b', hbe⟩ : ∃ b', b' = w.heap.size := ⟨_, rfl⟩
  obtain ⟨b1', hbe1⟩ : ∃ b1', b1' = w.heap.size + 1 := ⟨_, rfl⟩
  have hlg : w.heap.size ≤ g := by omega
  have nbg : w.heap.size ≠ g := by omega
  have nbg1 : w.heap.size + 1 ≠ g := by omega
  rw [← hge] at HST ⊢
  clear HOW HOWN HT3 HT0 hb3 hge HB0 x0 x1 x2 x3 x4 x5 x6 x7 x8 x9 x10 x11 x12 z0 z1 z2 z3 z4 z5 z6 z7 z8 z9 z10 z11 z12 fz1 fz2 hbe hbe1 b' b1'
  go_loopw [15] (fun i wr => ∃ k : Nat, k ≤ s.dat.length ∧ i = .int .i64 k ∧ Hid (MB wr w.heap.size g s.dat.length s p cap w.heap.size (frow (fun i => (Sm.cvtF o b) (s.dat.getD i 0)) s.dat.length k)) ∧ Hid (Below w.heap.size w wr)) (fun i _ => s.dat.length - (intOf i).toNat)
  case atStart => exact ⟨0, by omega, rfl, HST.out, HWB.out⟩
  case round =>
    clear HST HWB
    obtain ⟨k, hk, rfl, HU, hbw⟩ := hrel
    by_cases hlt : k < s.dat.length
    · have HD := Lib.hid (HD0.out.below hbw.out)
      obtain ⟨bd, od, hp1, hc1⟩ := HD.out.at (k := k) hlt
      obtain ⟨y, hy⟩ : ∃ y, s.dat.getD k 0 = y := ⟨_, rfl⟩
      have hq := HSM.out k hlt
      rw [hy] at hc1 hq
      have HY := Lib.hid hy
      clear hy
      subst hp1
      have HV := Lib.hid (show (Sm.cvtF o b) y = (fun i => (Sm.cvtF o b) (s.dat.getD i 0)) k by rw [← HY.out])
      have HCALL := Lib.hid (show ∀ w1, w1 = wr → Calls Try.prog 68 #[.int .i64 y, .pointer (some ⟨c, 0, none⟩), .pointer (some ⟨d, 0, none⟩)] w1 fun x w' => x = .returned (.int .i64 ((Sm.cvtF o b) y)) ∧ Below w1.heap.size w1 w' from fun w1 e => by
        subst e
        exact (c_cvt y b o c d _ (kept_cell hbw.out HC0.out) (kept_cell hbw.out HC1.out) (by omega) (by omega)).mono fun _ _ ⟨h1, h2⟩ => ⟨h1, h2 ▸ Below.refl _ _⟩)
      obtain ⟨v, hv⟩ : ∃ v, (Sm.cvtF o b) y = v := ⟨_, rfl⟩
      have HV2 := Lib.hid (hv.symm.trans HV.out)
      have HCALL2 := Lib.hid (show ∀ w1, w1 = wr → Calls Try.prog 68 #[.int .i64 y, .pointer (some ⟨c, 0, none⟩), .pointer (some ⟨d, 0, none⟩)] w1 fun x w' => x = .returned (.int .i64 v) ∧ Below w1.heap.size w1 w' from fun w1 e => by
        rw [← hv]; exact HCALL.out w1 e)
      clear hv HV HCALL hq
      have HPUT := Lib.hid (fun w1 hb1 => (congrArg _ (frow_set (fun i => (Sm.cvtF o b) (s.dat.getD i 0)) hlt HV2.out)).mp ((HU.out.kept (w' := w1) hb1).put nbg nbg1 k (.int .i64 v)))
      obtain ⟨⟨⟨x0, x1, x2, x3, x4, x5, x6, x7, x8, x9, x10, x11, x12⟩, ⟨z0, z1, z2, z3, z4, z5, z6, z7, z8, z9, z10, z11, z12⟩, fz1, fz2⟩, ho⟩ := HU.out
      clear ho
      go_wp2_with (first | (go_at_call 68; ((with_reducible refine (HCALL2.out _ rfl).mono ?_); rintro x w1 ⟨rfl, hb1⟩; have HU1 := Lib.hid (HPUT.out w1 hb1); have a0 := ((HU.out.kept hb1).2.cellAt k (by omega)).trans (frow_at (fun i => (Sm.cvtF o b) (s.dat.getD i 0)) hlt); have a1 := (HU.out.kept hb1).2.frozenAt k; obtain ⟨⟨⟨x0, x1, x2, x3, x4, x5, x6, x7, x8, x9, x10, x11, x12⟩, ⟨z0, z1, z2, z3, z4, z5, z6, z7, z8, z9, z10, z11, z12⟩, fz1, fz2⟩, ho⟩ := HU1.out; clear ho)))
      go_roundw
      case rel => exact ⟨k + 1, by omega, by go_num, HU1.out, (stepB hbw.out hb1).setCell hlg _⟩
      case measure => simp [intOf]; omega
    · have HE := Lib.hid (show frow (fun i => (Sm.cvtF o b) (s.dat.getD i 0)) s.dat.length k = (s.dat.map (Sm.cvtF o b)).map (Value.int .i64) by
        rw [show k = s.dat.length by omega]
        exact frow_full _ (by simp) fun i hi => by simp [List.getD_eq_getElem?_getD, hi])
      have HO := Lib.hid (OwnS.of (l := s.dat.map (Sm.cvtF o b)) (HE.out ▸ HU.out.2) (by simp))
      obtain ⟨⟨⟨x0, x1, x2, x3, x4, x5, x6, x7, x8, x9, x10, x11, x12⟩, ⟨z0, z1, z2, z3, z4, z5, z6, z7, z8, z9, z10, z11, z12⟩, fz1, fz2⟩, ho⟩ := HU.out
      clear ho
      go_wp2
      refine bodyPost_ret (v := SV { s with dat := s.dat.map (Sm.cvtF o b) } (some ⟨g, 0, none⟩) s.dat.length) ?_ rfl ⟨⟨g, by simp, ?_⟩, ?_⟩
      · simp [results, Try.results62, go_sem, SV, z0, z1, z2, z3, z4, z5, z6, z7, z8, z9, z10, z11, z12]
      · iterate 14 (refine OwnS.store ?_ (by omega) _ _)
        exact HO.out
      · iterate 14 (refine Below.setCell ?_ (by first | exact Nat.le_refl _ | exact Nat.le_succ _) _)
        exact hbw.out
set_option maxHeartbeats 1600000 in
theorem p_map_amp (s : Sm.Smp) (p : Option Addr) (cap : Nat) (num den lo hi : Int) (a b c d : Nat) (w : World) (ha : w.cell? ⟨a, 0, none⟩ = some (.int .i64 lo)) (hb : w.cell? ⟨b, 0, none⟩ = some (.int .i64 hi)) (hc : w.cell? ⟨c, 0, none⟩ = some (.int .i64 num)) (hd : w.cell? ⟨d, 0, none⟩ = some (.int .i64 den)) (hdt : DatAt w p s.dat) (hsm : Small s) (hl : (s.dat.length : Int) ≤ 4096) (n1 : -10000 ≤ num) (n2 : num ≤ 10000) (d1 : 0 < den) (d2 : den ≤ 10000) (hlh : lo < hi) :
    Calls Try.prog 62 #[SV s p cap, .func (.func 63) #[] #[.pointer (some ⟨a, 0, none⟩), .pointer (some ⟨b, 0, none⟩), .pointer (some ⟨c, 0, none⟩), .pointer (some ⟨d, 0, none⟩)]] w fun x w' => RetM { s with dat := s.dat.map (fun x => Sm.clp lo hi (Sm.rnd (x * num) den)) } w.heap.size x w' ∧ Below w.heap.size w w' := by
  have HC0 := Lib.hid ha
  have HC1 := Lib.hid hb
  have HC2 := Lib.hid hc
  have HC3 := Lib.hid hd
  have HT0 := Lib.hid (two_new w s p cap)
  have HB0 := Lib.hid (((Below.refl w.heap.size w).alloc (Nat.le_refl _) (.cells #[.string s.name, .slice p s.dat.length cap, .int .i64 s.bits, .int .i64 s.rate, .int .i64 s.vol, .int .i64 s.pan, .int .i64 s.fine, .int .i64 s.loop, .int .i64 s.start, .int .i64 s.fin, .int .i64 s.sus, .int .i64 s.sstart, .int .i64 s.sfin] 24)).alloc (by simp) (.cells #[.string ByteArray.empty, .slice none 0 0, .int .i64 0, .int .i64 0, .int .i64 0, .int .i64 0, .int .i64 0, .int .i64 0, .int .i64 0, .int .i64 0, .int .i64 0, .int .i64 0, .int .i64 0] 24))
  have HD0 := Lib.hid hdt
  have HSM := Lib.hid hsm
  obtain ⟨i0, hinf, hz0, hz1, hz2⟩ := info_parts Try.infoInt
  clear ha hb hc hd hdt hsm
  unfold SV
  go_enter Try.func62, Try.ntmps62
  go_wp2_with (first | (at_make; refine wpList_make_full _ rfl _ _ 22 rfl w.heap.size 3 i0 (.int .i64 0) 1 Try.underlying22 hinf hz0 hz1 .i64 .i64 _ _ s.dat.length rfl rfl rfl rfl (by rw [hz2]; omega) (by unfold maxLen; omega) (by simp; omega) ?_; intro w3 hown3 hgrow3; have HOWN := Lib.hid hown3; have hb3 := grown_below hgrow3; clear hown3 hgrow3; have HT3 := Lib.hid (HT0.out.kept hb3 (by simp)); obtain ⟨⟨x0, x1, x2, x3, x4, x5, x6, x7, x8, x9, x10, x11, x12⟩, ⟨z0, z1, z2, z3, z4, z5, z6, z7, z8, z9, z10, z11, z12⟩, fz1, fz2⟩ := HT3.out))
  have HWB := Lib.hid (stepB HB0.out hb3)
  have HOW : w3.ownsRow w.heap.size 3 1 (.slice (some ⟨w.heap.size + 2, 0, none⟩) s.dat.length s.dat.length) s.dat.length (frow (fun i => (fun x => Sm.clp lo hi (Sm.rnd (x * num) den)) (s.dat.getD i 0)) s.dat.length 0) := by
    have e : (madeCells (Value.int .i64 0).cells (s.dat.length * 1)).toList = frow (fun i => (fun x => Sm.clp lo hi (Sm.rnd (x * num) den)) (s.dat.getD i 0)) s.dat.length 0 := by rw [frow_zero, Nat.mul_one]; exact toList_madeCells_one _ s.dat.length
    have := HOWN.out
    rw [e] at this
    simpa using this
  have HST := Lib.hid (show MB w3 w.heap.size (w.heap.size + 2) s.dat.length s p cap w.heap.size (frow (fun i => (fun x => Sm.clp lo hi (Sm.rnd (x * num) den)) (s.dat.getD i 0)) s.dat.length 0) from ⟨HT3.out, HOW⟩)
  obtain ⟨g, hge⟩ : ∃ g, g = w.heap.size + 2 := ⟨_, rfl⟩
  obtain ⟨b', hbe⟩ : ∃ b', b' = w.heap.size := ⟨_, rfl⟩
  obtain ⟨b1', hbe1⟩ : ∃ b1', b1' = w.heap.size + 1 := ⟨_, rfl⟩
  have hlg : w.heap.size ≤ g := by omega
  have nbg : w.heap.size ≠ g := by omega
  have nbg1 : w.heap.size + 1 ≠ g := by omega
  rw [← hge] at HST ⊢
  clear HOW HOWN HT3 HT0 hb3 hge HB0 x0 x1 x2 x3 x4 x5 x6 x7 x8 x9 x10 x11 x12 z0 z1 z2 z3 z4 z5 z6 z7 z8 z9 z10 z11 z12 fz1 fz2 hbe hbe1 b' b1'
  go_loopw [15] (fun i wr => ∃ k : Nat, k ≤ s.dat.length ∧ i = .int .i64 k ∧ Hid (MB wr w.heap.size g s.dat.length s p cap w.heap.size (frow (fun i => (fun x => Sm.clp lo hi (Sm.rnd (x * num) den)) (s.dat.getD i 0)) s.dat.length k)) ∧ Hid (Below w.heap.size w wr)) (fun i _ => s.dat.length - (intOf i).toNat)
  case atStart => exact ⟨0, by omega, rfl, HST.out, HWB.out⟩
  case round =>
    clear HST HWB
    obtain ⟨k, hk, rfl, HU, hbw⟩ := hrel
    by_cases hlt : k < s.dat.length
    · have HD := Lib.hid (HD0.out.below hbw.out)
      obtain ⟨bd, od, hp1, hc1⟩ := HD.out.at (k := k) hlt
      obtain ⟨y, hy⟩ : ∃ y, s.dat.getD k 0 = y := ⟨_, rfl⟩
      have hq := HSM.out k hlt
      rw [hy] at hc1 hq
      have HY := Lib.hid hy
      clear hy
      subst hp1
      have HV := Lib.hid (show (fun x => Sm.clp lo hi (Sm.rnd (x * num) den)) y = (fun i => (fun x => Sm.clp lo hi (Sm.rnd (x * num) den)) (s.dat.getD i 0)) k by rw [← HY.out])
      have HCALL := Lib.hid (show ∀ w1, w1 = wr → Calls Try.prog 63 #[.int .i64 y, .pointer (some ⟨a, 0, none⟩), .pointer (some ⟨b, 0, none⟩), .pointer (some ⟨c, 0, none⟩), .pointer (some ⟨d, 0, none⟩)] w1 fun x w' => x = .returned (.int .i64 ((fun x => Sm.clp lo hi (Sm.rnd (x * num) den)) y)) ∧ Below w1.heap.size w1 w' from fun w1 e => by
        subst e
        exact (c_amp y num den lo hi a b c d _ (kept_cell hbw.out HC0.out) (kept_cell hbw.out HC1.out) (kept_cell hbw.out HC2.out) (kept_cell hbw.out HC3.out) (by omega) (by omega) n1 n2 d1 d2 hlh))
      obtain ⟨v, hv⟩ : ∃ v, (fun x => Sm.clp lo hi (Sm.rnd (x * num) den)) y = v := ⟨_, rfl⟩
      have HV2 := Lib.hid (hv.symm.trans HV.out)
      have HCALL2 := Lib.hid (show ∀ w1, w1 = wr → Calls Try.prog 63 #[.int .i64 y, .pointer (some ⟨a, 0, none⟩), .pointer (some ⟨b, 0, none⟩), .pointer (some ⟨c, 0, none⟩), .pointer (some ⟨d, 0, none⟩)] w1 fun x w' => x = .returned (.int .i64 v) ∧ Below w1.heap.size w1 w' from fun w1 e => by
        rw [← hv]; exact HCALL.out w1 e)
      clear hv HV HCALL hq
      have HPUT := Lib.hid (fun w1 hb1 => (congrArg _ (frow_set (fun i => (fun x => Sm.clp lo hi (Sm.rnd (x * num) den)) (s.dat.getD i 0)) hlt HV2.out)).mp ((HU.out.kept (w' := w1) hb1).put nbg nbg1 k (.int .i64 v)))
      obtain ⟨⟨⟨x0, x1, x2, x3, x4, x5, x6, x7, x8, x9, x10, x11, x12⟩, ⟨z0, z1, z2, z3, z4, z5, z6, z7, z8, z9, z10, z11, z12⟩, fz1, fz2⟩, ho⟩ := HU.out
      clear ho
      go_wp2_with (first | (go_at_call 63; ((with_reducible refine (HCALL2.out _ rfl).mono ?_); rintro x w1 ⟨rfl, hb1⟩; have HU1 := Lib.hid (HPUT.out w1 hb1); have a0 := ((HU.out.kept hb1).2.cellAt k (by omega)).trans (frow_at (fun i => (fun x => Sm.clp lo hi (Sm.rnd (x * num) den)) (s.dat.getD i 0)) hlt); have a1 := (HU.out.kept hb1).2.frozenAt k; obtain ⟨⟨⟨x0, x1, x2, x3, x4, x5, x6, x7, x8, x9, x10, x11, x12⟩, ⟨z0, z1, z2, z3, z4, z5, z6, z7, z8, z9, z10, z11, z12⟩, fz1, fz2⟩, ho⟩ := HU1.out; clear ho)))
      go_roundw
      case rel => exact ⟨k + 1, by omega, by go_num, HU1.out, (stepB hbw.out hb1).setCell hlg _⟩
      case measure => simp [intOf]; omega
    · have HE := Lib.hid (show frow (fun i => (fun x => Sm.clp lo hi (Sm.rnd (x * num) den)) (s.dat.getD i 0)) s.dat.length k = (s.dat.map (fun x => Sm.clp lo hi (Sm.rnd (x * num) den))).map (Value.int .i64) by
        rw [show k = s.dat.length by omega]
        exact frow_full _ (by simp) fun i hi => by simp [List.getD_eq_getElem?_getD, hi])
      have HO := Lib.hid (OwnS.of (l := s.dat.map (fun x => Sm.clp lo hi (Sm.rnd (x * num) den))) (HE.out ▸ HU.out.2) (by simp))
      obtain ⟨⟨⟨x0, x1, x2, x3, x4, x5, x6, x7, x8, x9, x10, x11, x12⟩, ⟨z0, z1, z2, z3, z4, z5, z6, z7, z8, z9, z10, z11, z12⟩, fz1, fz2⟩, ho⟩ := HU.out
      clear ho
      go_wp2
      refine bodyPost_ret (v := SV { s with dat := s.dat.map (fun x => Sm.clp lo hi (Sm.rnd (x * num) den)) } (some ⟨g, 0, none⟩) s.dat.length) ?_ rfl ⟨⟨g, by simp, ?_⟩, ?_⟩
      · simp [results, Try.results62, go_sem, SV, z0, z1, z2, z3, z4, z5, z6, z7, z8, z9, z10, z11, z12]
      · iterate 14 (refine OwnS.store ?_ (by omega) _ _)
        exact HO.out
      · iterate 14 (refine Below.setCell ?_ (by first | exact Nat.le_refl _ | exact Nat.le_succ _) _)
        exact hbw.out
end Go.Proofs.Ytmaldhjcdkidmaa

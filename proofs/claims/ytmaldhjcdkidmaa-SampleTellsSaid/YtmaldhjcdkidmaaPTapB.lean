/-
  Contracts of package sample's Tap: for any sample, cursor, number and key, what the call returns; nothing that was there is changed.
-/
import Derived.Test.YtmaldhjcdkidmaaPAsk
import Derived.Test.YtmaldhjcdkidmaaPTap
namespace Go.Proofs.Ytmaldhjcdkidmaa
open Go.RowKit

theorem own2K {W : World} {b : Nat} {s : Sm.Smp} {p : Option Addr} {cap : Nat} {po fr : Int} {bk dn : Bool} (hb : b + 1 < W.heap.size) (hc : Hid (Own2 W b s p cap po fr bk dn)) : (∀ u : Kin W, u.w.cell? ⟨b, 0, none⟩ = some (.string s.name)) ∧ (∀ u : Kin W, u.w.cell? ⟨b, 1, none⟩ = some (.slice p s.dat.length cap)) ∧ (∀ u : Kin W, u.w.cell? ⟨b, 2, none⟩ = some (.int .i64 s.bits)) ∧ (∀ u : Kin W, u.w.cell? ⟨b, 3, none⟩ = some (.int .i64 s.rate)) ∧ (∀ u : Kin W, u.w.cell? ⟨b, 4, none⟩ = some (.int .i64 s.vol)) ∧ (∀ u : Kin W, u.w.cell? ⟨b, 5, none⟩ = some (.int .i64 s.pan)) ∧ (∀ u : Kin W, u.w.cell? ⟨b, 6, none⟩ = some (.int .i64 s.fine)) ∧ (∀ u : Kin W, u.w.cell? ⟨b, 7, none⟩ = some (.int .i64 s.loop)) ∧ (∀ u : Kin W, u.w.cell? ⟨b, 8, none⟩ = some (.int .i64 s.start)) ∧ (∀ u : Kin W, u.w.cell? ⟨b, 9, none⟩ = some (.int .i64 s.fin)) ∧ (∀ u : Kin W, u.w.cell? ⟨b, 10, none⟩ = some (.int .i64 s.sus)) ∧ (∀ u : Kin W, u.w.cell? ⟨b, 11, none⟩ = some (.int .i64 s.sstart)) ∧ (∀ u : Kin W, u.w.cell? ⟨b, 12, none⟩ = some (.int .i64 s.sfin)) ∧ (∀ u : Kin W, u.w.cell? ⟨b + 1, 0, none⟩ = some (.int .i64 po)) ∧ (∀ u : Kin W, u.w.cell? ⟨b + 1, 1, none⟩ = some (.int .i64 fr)) ∧ (∀ u : Kin W, u.w.cell? ⟨b + 1, 2, none⟩ = some (.bool bk)) ∧ (∀ u : Kin W, u.w.cell? ⟨b + 1, 3, none⟩ = some (.bool dn)) := by
  have h1 : ∀ (u : Kin W) j, u.w.cell? ⟨b, j, none⟩ = W.cell? ⟨b, j, none⟩ := fun u j => u.below.cell (Nat.lt_of_succ_lt hb)
  have h2 : ∀ (u : Kin W) j, u.w.cell? ⟨b + 1, j, none⟩ = W.cell? ⟨b + 1, j, none⟩ := fun u j => u.below.cell hb
  obtain ⟨⟨x0, x1, x2, x3, x4, x5, x6, x7, x8, x9, x10, x11, x12⟩, y0, y1, y2, y3⟩ := hc.out
  refine ⟨fun u => (h1 u _).trans x0, fun u => (h1 u _).trans x1, fun u => (h1 u _).trans x2, fun u => (h1 u _).trans x3, fun u => (h1 u _).trans x4, fun u => (h1 u _).trans x5, fun u => (h1 u _).trans x6, fun u => (h1 u _).trans x7, fun u => (h1 u _).trans x8, fun u => (h1 u _).trans x9, fun u => (h1 u _).trans x10, fun u => (h1 u _).trans x11, fun u => (h1 u _).trans x12, fun u => (h2 u _).trans y0, fun u => (h2 u _).trans y1, fun u => (h2 u _).trans y2, fun u => (h2 u _).trans y3⟩
theorem retM {P : Program} {f : FuncId} {args : Array Value} {w : World} {c : Sm.Cur} {gp gf : Int} {gb gd : Bool} (h : Calls P f args w fun x w' => RetCur c x ∧ Below w.heap.size w w') (hc : c = ⟨gp, gf, gb, gd⟩) :
    Calls P f args w fun x w' => x = .returned (.agg #[.int .i64 gp, .int .i64 gf, .bool gb, .bool gd]) ∧ Below w.heap.size w w' :=
  h.mono fun _ _ ⟨he, hb⟩ => ⟨by have := retC he; rw [hc] at this; exact this, hb⟩
theorem cf_box (w : World) (o : Obj) (po fr : Int) (bk dn : Bool) : (∀ j, ((w.alloc o).alloc (.cells #[.int .i64 po, .int .i64 fr, .bool bk, .bool dn] 26)).frozen? ⟨w.heap.size + 1, j, none⟩ = false) := fun j =>
  World.frozen?_alloc_at _ _ _ _ (by simp)
theorem own2_frac {w : World} {b : Nat} {s : Sm.Smp} {p : Option Addr} {cap : Nat} {po fr : Int} {bk dn : Bool} (h : Own2 w b s p cap po fr bk dn) : Own2 (w.setCell ⟨b + 1, 1, none⟩ (.int .i64 0)) b s p cap po 0 bk dn := by
  obtain ⟨hx, c0, c1, c2, c3⟩ := h
  have e1 : ∀ i, (w.setCell ⟨b + 1, 1, none⟩ (.int .i64 0)).cell? ⟨b, i, none⟩ = w.cell? ⟨b, i, none⟩ := fun i => World.cell?_setCell_other _ _ _ _ (fun h => by have := congrArg Addr.block h; simp at this)
  have ne : ∀ y, y ≠ 1 → (⟨b + 1, 1, none⟩ : Addr) ≠ ⟨b + 1, y, none⟩ := fun y hy e => hy (congrArg Addr.off e).symm
  refine ⟨?_, ?_, ?_, ?_, ?_⟩
  · unfold Boxed at *
    simp only [e1]
    exact hx
  · rw [World.cell?_setCell_other _ _ _ _ (ne 0 (by omega))]; exact c0
  · exact World.cell?_setCell_same _ _ _ c1
  · rw [World.cell?_setCell_other _ _ _ _ (ne 2 (by omega))]; exact c2
  · rw [World.cell?_setCell_other _ _ _ _ (ne 3 (by omega))]; exact c3
set_option maxHeartbeats 1000000 in
theorem p_Tap_k (s : Sm.Smp) (p : Option Addr) (cap : Nat) (po fr k : Int) (bk dn h : Bool) (w : World) (hk : k < -8 ∨ 8 < k) :
    Calls Try.prog 19 #[SV s p cap, .agg #[.int .i64 po, .int .i64 fr, .bool bk, .bool dn], .int .i64 k, .bool h] w fun x w' => x = .returned (.int .i64 (0)) ∧ Below w.heap.size w w' := by
  have HI := Lib.hid hk
  clear hk
  unfold SV
  go_enter Try.func19, Try.ntmps19
  go_wp2_with (first | (go_at_call 39; ((with_reducible refine (p_within_no _ _ _ _ HI.out).mono ?_); rintro z w' ⟨rfl, rfl⟩)))
  go_ret
  exact ⟨rfl, ((Below.refl _ _).alloc (Nat.le_refl _) _).alloc (by simp) _⟩
set_option maxHeartbeats 1000000 in
theorem p_Tap_v (s : Sm.Smp) (p : Option Addr) (cap : Nat) (po fr k : Int) (bk dn h : Bool) (w : World) (hm : s.name.size ≤ maxLen) (hd : DatAt w p s.dat) (k1 : -8 ≤ k) (k2 : k ≤ 8) (hv : Sm.vld s = false) :
    Calls Try.prog 19 #[SV s p cap, .agg #[.int .i64 po, .int .i64 fr, .bool bk, .bool dn], .int .i64 k, .bool h] w fun x w' => x = .returned (.int .i64 (0)) ∧ Below w.heap.size w w' := by
  have HVd := Lib.hid (p_valid_v s p cap ((w.alloc (.cells #[.string s.name, .slice p s.dat.length cap, .int .i64 s.bits, .int .i64 s.rate, .int .i64 s.vol, .int .i64 s.pan, .int .i64 s.fine, .int .i64 s.loop, .int .i64 s.start, .int .i64 s.fin, .int .i64 s.sus, .int .i64 s.sstart, .int .i64 s.sfin] 24)).alloc (.cells #[.int .i64 po, .int .i64 fr, .bool bk, .bool dn] 26)) hm ((hd.below (below_box _ _)).below (below_box _ _)) hv)
  clear hv
  unfold SV at HVd
  unfold SV
  go_enter Try.func19, Try.ntmps19
  go_wp2_with (first | (go_at_call 39; ((with_reducible refine (p_within_yes _ _ _ _ k1 k2).mono ?_); rintro z w' ⟨rfl, rfl⟩)) | (go_at_call 13; ((with_reducible refine (HVd.out).mono ?_); rintro z w1 ⟨rfl, hb1⟩; have HO1 := Lib.hid ((own2_new w s p cap po fr bk dn).kept hb1); obtain ⟨⟨x0, x1, x2, x3, x4, x5, x6, x7, x8, x9, x10, x11, x12⟩, c2, c3, c4, c5⟩ := HO1.out; have fz : ∀ j, w1.frozen? ⟨w.heap.size + 1, j, none⟩ = false := fun j => by rw [hb1.frozen (by simp)]; exact cf_box w _ po fr bk dn j)))
  go_ret
  exact ⟨rfl, (((Below.refl _ _).alloc (Nat.le_refl _) _).alloc (by simp) _).trans (hb1.mono (by simp; omega))⟩
set_option maxHeartbeats 1000000 in
theorem p_Tap_c (s : Sm.Smp) (p : Option Addr) (cap : Nat) (po fr k : Int) (bk dn h : Bool) (w : World) (hm : s.name.size ≤ maxLen) (hd : DatAt w p s.dat) (k1 : -8 ≤ k) (k2 : k ≤ 8) (hv : Sm.vld s = true) (hs : std s.dat.length po fr bk dn = false) :
    Calls Try.prog 19 #[SV s p cap, .agg #[.int .i64 po, .int .i64 fr, .bool bk, .bool dn], .int .i64 k, .bool h] w fun x w' => x = .returned (.int .i64 (0)) ∧ Below w.heap.size w w' := by
  have hl : (s.dat.length : Int) ≤ 4096 := vld_len hv
  have HVd := Lib.hid (p_valid_v s p cap ((w.alloc (.cells #[.string s.name, .slice p s.dat.length cap, .int .i64 s.bits, .int .i64 s.rate, .int .i64 s.vol, .int .i64 s.pan, .int .i64 s.fine, .int .i64 s.loop, .int .i64 s.start, .int .i64 s.fin, .int .i64 s.sus, .int .i64 s.sstart, .int .i64 s.sfin] 24)).alloc (.cells #[.int .i64 po, .int .i64 fr, .bool bk, .bool dn] 26)) hm ((hd.below (below_box _ _)).below (below_box _ _)) hv)
  have HVc := Lib.hid (fun w => p_vcur_v s.dat.length po fr bk dn w (by omega) (by omega) hs)
  clear hv hs
  unfold SV at HVd
  unfold SV
  go_enter Try.func19, Try.ntmps19
  go_wp2_with (first | (go_at_call 39; ((with_reducible refine (p_within_yes _ _ _ _ k1 k2).mono ?_); rintro z w' ⟨rfl, rfl⟩)) | (go_at_call 13; ((with_reducible refine (HVd.out).mono ?_); rintro z w1 ⟨rfl, hb1⟩; have HO1 := Lib.hid ((own2_new w s p cap po fr bk dn).kept hb1); obtain ⟨⟨x0, x1, x2, x3, x4, x5, x6, x7, x8, x9, x10, x11, x12⟩, c2, c3, c4, c5⟩ := HO1.out; have fz : ∀ j, w1.frozen? ⟨w.heap.size + 1, j, none⟩ = false := fun j => by rw [hb1.frozen (by simp)]; exact cf_box w _ po fr bk dn j)) | (go_at_call 49; ((with_reducible refine (HVc.out _).mono ?_); rintro z w2 ⟨rfl, hb2⟩; have HO2 := Lib.hid (HO1.out.kept hb2); obtain ⟨⟨x0, x1, x2, x3, x4, x5, x6, x7, x8, x9, x10, x11, x12⟩, c2, c3, c4, c5⟩ := HO2.out; have fz2 : ∀ j, w2.frozen? ⟨w.heap.size + 1, j, none⟩ = false := fun j => by rw [hb2.frozen (by have := hb1.size; simp at this ⊢; omega)]; exact fz j)))
  go_ret
  exact ⟨rfl, (((((Below.refl _ _).alloc (Nat.le_refl _) _).alloc (by simp) _ : Below w.heap.size w ((w.alloc (.cells #[.string s.name, .slice p s.dat.length cap, .int .i64 s.bits, .int .i64 s.rate, .int .i64 s.vol, .int .i64 s.pan, .int .i64 s.fine, .int .i64 s.loop, .int .i64 s.start, .int .i64 s.fin, .int .i64 s.sus, .int .i64 s.sstart, .int .i64 s.sfin] 24)).alloc (.cells #[.int .i64 po, .int .i64 fr, .bool bk, .bool dn] 26))).trans (hb1.mono (by simp; omega))).trans (hb2.mono (by have := hb1.size; simp at this; omega)))⟩
set_option maxHeartbeats 1000000 in
theorem p_Tap_low (s : Sm.Smp) (p : Option Addr) (cap : Nat) (po fr k : Int) (bk dn h : Bool) (w : World) (hm : s.name.size ≤ maxLen) (hd : DatAt w p s.dat) (k1 : -8 ≤ k) (k2 : k ≤ 8) (k3 : k ≤ 0) (hv : Sm.vld s = true) (hs : std s.dat.length po fr bk dn = true) :
    Calls Try.prog 19 #[SV s p cap, .agg #[.int .i64 po, .int .i64 fr, .bool bk, .bool dn], .int .i64 k, .bool h] w fun x w' => x = .returned (.int .i64 (tpd s h ⟨po, fr, bk, dn⟩ k)) ∧ Below w.heap.size w w' := by
  have hl : (s.dat.length : Int) ≤ 4096 := vld_len hv
  have hc := okc_fields (n := s.dat.length) (show Okc s.dat.length ⟨po, fr, bk, dn⟩ from hs)
  have hz : dn = true → po = 0 := fun e => by subst e; unfold std at hs; rw [if_pos rfl] at hs; exact (of_decide_eq_true hs).1
  have hp1 : -100000 ≤ po := by cases dn <;> simp at hc hz <;> omega
  have hp2 : po ≤ 100000 := by cases dn <;> simp at hc hz <;> omega
  have HVd := Lib.hid (p_valid_v s p cap ((w.alloc (.cells #[.string s.name, .slice p s.dat.length cap, .int .i64 s.bits, .int .i64 s.rate, .int .i64 s.vol, .int .i64 s.pan, .int .i64 s.fine, .int .i64 s.loop, .int .i64 s.start, .int .i64 s.fin, .int .i64 s.sus, .int .i64 s.sstart, .int .i64 s.sfin] 24)).alloc (.cells #[.int .i64 po, .int .i64 fr, .bool bk, .bool dn] 26)) hm ((hd.below (below_box _ _)).below (below_box _ _)) hv)
  have HVc := Lib.hid (fun w => p_vcur_v s.dat.length po fr bk dn w (by omega) (by omega) hs)
  have HBh := Lib.hid (fun w hd => p_behind s p cap po fr (-k) bk dn w hd (vld_small hv) hl hp1 hp2 (by omega) (by omega))
  have HE := Lib.hid (show orz dn (alt bk (hrd s (po + -k)) (hrd s (po + k))) = tpd s h ⟨po, fr, bk, dn⟩ k by
    unfold orz alt tpd
    rw [if_neg (show ¬ 0 < k by omega), show po + -k = po - k by omega])
  clear hv hs hc hz
  unfold SV at HVd HBh
  unfold SV
  go_enter Try.func19, Try.ntmps19
  go_wp2_with (first | (go_at_call 39; ((with_reducible refine (p_within_yes _ _ _ _ k1 k2).mono ?_); rintro z w' ⟨rfl, rfl⟩)) | (go_at_call 13; ((with_reducible refine (HVd.out).mono ?_); rintro z w1 ⟨rfl, hb1⟩; have HO1 := Lib.hid ((own2_new w s p cap po fr bk dn).kept hb1); obtain ⟨⟨x0, x1, x2, x3, x4, x5, x6, x7, x8, x9, x10, x11, x12⟩, c2, c3, c4, c5⟩ := HO1.out; have fz : ∀ j, w1.frozen? ⟨w.heap.size + 1, j, none⟩ = false := fun j => by rw [hb1.frozen (by simp)]; exact cf_box w _ po fr bk dn j)) | (go_at_call 49; ((with_reducible refine (HVc.out _).mono ?_); rintro z w2 ⟨rfl, hb2⟩; have HO2 := Lib.hid (HO1.out.kept hb2); obtain ⟨⟨x0, x1, x2, x3, x4, x5, x6, x7, x8, x9, x10, x11, x12⟩, c2, c3, c4, c5⟩ := HO2.out; have fz2 : ∀ j, w2.frozen? ⟨w.heap.size + 1, j, none⟩ = false := fun j => by rw [hb2.frozen (by have := hb1.size; simp at this ⊢; omega)]; exact fz j)) | (go_at_call 54; ((with_reducible refine (HBh.out _ ((((hd.below (below_box _ _)).below (below_box _ _)).below hb1).below hb2)).mono ?_); rintro z w3 ⟨rfl, hb3⟩)))
  go_ret
  exact ⟨ret_int HE.out, stepB (((((Below.refl _ _).alloc (Nat.le_refl _) _).alloc (by simp) _ : Below w.heap.size w ((w.alloc (.cells #[.string s.name, .slice p s.dat.length cap, .int .i64 s.bits, .int .i64 s.rate, .int .i64 s.vol, .int .i64 s.pan, .int .i64 s.fine, .int .i64 s.loop, .int .i64 s.start, .int .i64 s.fin, .int .i64 s.sus, .int .i64 s.sstart, .int .i64 s.sfin] 24)).alloc (.cells #[.int .i64 po, .int .i64 fr, .bool bk, .bool dn] 26))).trans (hb1.mono (by simp; omega))).trans (hb2.mono (by have := hb1.size; simp at this; omega))) hb3⟩
set_option maxHeartbeats 1000000 in
theorem p_Tap_up0 (s : Sm.Smp) (p : Option Addr) (cap : Nat) (po fr k : Int) (bk dn h : Bool) (w : World) (hm : s.name.size ≤ maxLen) (hd : DatAt w p s.dat) (k2 : k ≤ 8) (k3 : 0 < k) (hv : Sm.vld s = true) (hs : std s.dat.length po fr bk dn = true) {s0 e0 : Int} (HK : Hid (Sm.rk s h = 0 ∧ Sm.rs s h = s0 ∧ Sm.re s h = e0)) :
    Calls Try.prog 19 #[SV s p cap, .agg #[.int .i64 po, .int .i64 fr, .bool bk, .bool dn], .int .i64 k, .bool h] w fun x w' => x = .returned (.int .i64 (tpd s h ⟨po, fr, bk, dn⟩ k)) ∧ Below w.heap.size w w' := by
  have hl : (s.dat.length : Int) ≤ 4096 := vld_len hv
  have k1 : -8 ≤ k := by omega
  have hq := ring_ok hv h
  rw [HK.out.1, HK.out.2.1, HK.out.2.2] at hq
  obtain ⟨_, hk, q1, q2, q3, q4⟩ := hq
  have hrr : Sm.Ring 0 (65536 * s0) (65536 * e0) (65536 * s.dat.length) := ⟨by omega, by omega, by omega⟩
  have hc := okc_fields (n := s.dat.length) (show Okc s.dat.length ⟨po, fr, bk, dn⟩ from hs)
  obtain ⟨G, hG⟩ : ∃ G, Sm.gone 0 (65536 * s0) (65536 * e0) (65536 * s.dat.length) ⟨po, 0, bk, dn⟩ (k * 65536) = G := ⟨_, rfl⟩
  have hG' : mvS s h ⟨po, 0, bk, dn⟩ (k * 65536) = G := by
    rw [← hG]; unfold mvS; rw [HK.out.1, HK.out.2.1, HK.out.2.2, Int.mul_comm s0, Int.mul_comm e0, Int.mul_comm (s.dat.length : Int)]
  have hok0 : Okc s.dat.length ⟨po, 0, bk, dn⟩ := by
    cases dn
    · show std s.dat.length po 0 bk false = true
      unfold std at hs ⊢
      rw [if_neg (by simp)] at hs ⊢
      have := of_decide_eq_true hs
      exact decide_eq_true ⟨this.1, this.2.1, by omega, by omega⟩
    · show std s.dat.length po 0 bk true = true
      unfold std at hs ⊢
      rw [if_pos rfl] at hs ⊢
      have := of_decide_eq_true hs
      exact decide_eq_true ⟨this.1, rfl, this.2.2⟩
  have hokG : Okc s.dat.length G := hG' ▸ okc_move hv h hok0 (by omega)
  have HE := Lib.hid (show orz G.done (hrd s G.pos) = tpd s h ⟨po, fr, bk, dn⟩ k by
    unfold tpd
    cases dn
    · simp only [Bool.false_eq_true, if_false]
      rw [if_pos k3]
      have e : Sm.gone (Sm.rk s h) (Sm.rs s h * 65536) (Sm.re s h * 65536) (s.dat.length * 65536) ⟨po, 0, bk, false⟩ (65536 * k) = G := by rw [← hG', show (65536 : Int) * k = k * 65536 from Int.mul_comm _ _]; rfl
      rw [e]
      rfl
    · have : G = ⟨po, 0, bk, true⟩ := by rw [← hG]; rfl
      rw [this]
      rfl)
  have HRt := Lib.hid (fun w => p_route_0 s p cap h w HK hl q1 (by omega) (by omega) (by omega))
  have HMv := Lib.hid (fun (w : World) => p_mv0 (65536 * s.dat.length) (65536 * s0) (65536 * e0) po 0 (k * 65536) bk dn w hrr (by omega) (hc.imp id fun h => ⟨h.1, by have := h.2.1; omega, by omega, by omega, by have := h.2.1; omega⟩) (by omega) (by omega))
  have HVl := Lib.hid (fun w hd => p_value s p cap G.pos G.frac G.back G.done w hd (vld_small hv) ((okc_fields (n := s.dat.length) (show Okc s.dat.length ⟨G.pos, G.frac, G.back, G.done⟩ from hokG)).imp id fun h => ⟨h.1, h.2.1⟩))
  have HGG := Lib.hid hG
  obtain ⟨gp, gf, gb, gd⟩ := G
  dsimp only at HVl HE
  have HVd := Lib.hid (p_valid_v s p cap ((w.alloc (.cells #[.string s.name, .slice p s.dat.length cap, .int .i64 s.bits, .int .i64 s.rate, .int .i64 s.vol, .int .i64 s.pan, .int .i64 s.fine, .int .i64 s.loop, .int .i64 s.start, .int .i64 s.fin, .int .i64 s.sus, .int .i64 s.sstart, .int .i64 s.sfin] 24)).alloc (.cells #[.int .i64 po, .int .i64 fr, .bool bk, .bool dn] 26)) hm ((hd.below (below_box _ _)).below (below_box _ _)) hv)
  have HVc := Lib.hid (fun w => p_vcur_v s.dat.length po fr bk dn w (by omega) (by omega) hs)
  clear hv hs hc hG hG' hok0 hokG hrr hk
  unfold SV at HVd HRt HVl
  unfold SV
  go_enter Try.func19, Try.ntmps19
  go_wp2_with (first | (go_at_call 39; ((with_reducible refine (p_within_yes _ _ _ _ k1 k2).mono ?_); rintro z w' ⟨rfl, rfl⟩)) | (go_at_call 13; ((with_reducible refine (HVd.out).mono ?_); rintro z w1 ⟨rfl, hb1⟩; have HO1 := Lib.hid ((own2_new w s p cap po fr bk dn).kept hb1); obtain ⟨⟨x0, x1, x2, x3, x4, x5, x6, x7, x8, x9, x10, x11, x12⟩, c2, c3, c4, c5⟩ := HO1.out; have fz : ∀ j, w1.frozen? ⟨w.heap.size + 1, j, none⟩ = false := fun j => by rw [hb1.frozen (by simp)]; exact cf_box w _ po fr bk dn j)) | (go_at_call 49; ((with_reducible refine (HVc.out _).mono ?_); rintro z w2 ⟨rfl, hb2⟩; have HO2 := Lib.hid (HO1.out.kept hb2); obtain ⟨⟨x0, x1, x2, x3, x4, x5, x6, x7, x8, x9, x10, x11, x12⟩, c2, c3, c4, c5⟩ := HO2.out; have fz2 : ∀ j, w2.frozen? ⟨w.heap.size + 1, j, none⟩ = false := fun j => by rw [hb2.frozen (by have := hb1.size; simp at this ⊢; omega)]; exact fz j)))
  have HWb := Lib.hid ((((((Below.refl _ _).alloc (Nat.le_refl _) _).alloc (by simp) _ : Below w.heap.size w ((w.alloc (.cells #[.string s.name, .slice p s.dat.length cap, .int .i64 s.bits, .int .i64 s.rate, .int .i64 s.vol, .int .i64 s.pan, .int .i64 s.fine, .int .i64 s.loop, .int .i64 s.start, .int .i64 s.fin, .int .i64 s.sus, .int .i64 s.sstart, .int .i64 s.sfin] 24)).alloc (.cells #[.int .i64 po, .int .i64 fr, .bool bk, .bool dn] 26))).trans (hb1.mono (by simp; omega))).trans (hb2.mono (by have := hb1.size; simp at this; omega))).setCell (p := ⟨w.heap.size + 1, 1, none⟩) (by simp) (.int .i64 0))
  have HO := Lib.hid (own2_frac HO2.out)
  have HD := Lib.hid (hd.below HWb.out)
  obtain ⟨W, hW⟩ : ∃ W, W = w2.setCell ⟨w.heap.size + 1, 1, none⟩ (.int .i64 0) := ⟨_, rfl⟩
  obtain ⟨b, hbe⟩ : ∃ b, b = w.heap.size := ⟨_, rfl⟩
  have hb : b + 1 < W.heap.size := by have := hb1.size; have := hb2.size; rw [hW, hbe]; simp at *; omega
  rw [← hW] at HWb HD HO
  rw [← hbe] at HO
  rw [← hW, ← hbe]
  clear hW hbe HO1 HO2 fz fz2 x0 x1 x2 x3 x4 x5 x6 x7 x8 x9 x10 x11 x12 c2 c3 c4 c5 hb1 hb2
  have hg : Below W.heap.size W W := Below.refl _ _
  have ⟨j0, j1, j2, j3, j4, j5, j6, j7, j8, j9, j10, j11, j12, j13, j14, j15, j16⟩ := own2K hb HO
  refine kin_region (W := W) (by kernel_rfl) (by kernel_rfl) hg ?_
  repeat (go_big_quiet_step (first | (go_at_call 50; exact kinB (HRt.out _)) | (go_at_call 51; exact kinB (retM (HMv.out _) HGG.out)) | (go_at_call 55; exact kinB (HVl.out _ (HD.out.below (Kin.below _))))))
  refine wpQuiet_nil ?_
  intro w' hw
  go_wp2
  go_ret
  exact ⟨ret_int HE.out, HWb.out.trans (hw.mono HWb.out.size)⟩
set_option maxHeartbeats 1000000 in
theorem p_Tap_up1 (s : Sm.Smp) (p : Option Addr) (cap : Nat) (po fr k : Int) (bk dn h : Bool) (w : World) (hm : s.name.size ≤ maxLen) (hd : DatAt w p s.dat) (k2 : k ≤ 8) (k3 : 0 < k) (hv : Sm.vld s = true) (hs : std s.dat.length po fr bk dn = true) {s0 e0 : Int} (HK : Hid (Sm.rk s h = 1 ∧ Sm.rs s h = s0 ∧ Sm.re s h = e0)) :
    Calls Try.prog 19 #[SV s p cap, .agg #[.int .i64 po, .int .i64 fr, .bool bk, .bool dn], .int .i64 k, .bool h] w fun x w' => x = .returned (.int .i64 (tpd s h ⟨po, fr, bk, dn⟩ k)) ∧ Below w.heap.size w w' := by
  have hl : (s.dat.length : Int) ≤ 4096 := vld_len hv
  have k1 : -8 ≤ k := by omega
  have hq := ring_ok hv h
  rw [HK.out.1, HK.out.2.1, HK.out.2.2] at hq
  obtain ⟨_, hk, q1, q2, q3, q4⟩ := hq
  have hrr : Sm.Ring 1 (65536 * s0) (65536 * e0) (65536 * s.dat.length) := ⟨by omega, by omega, by omega⟩
  have hc := okc_fields (n := s.dat.length) (show Okc s.dat.length ⟨po, fr, bk, dn⟩ from hs)
  obtain ⟨G, hG⟩ : ∃ G, Sm.gone 1 (65536 * s0) (65536 * e0) (65536 * s.dat.length) ⟨po, 0, bk, dn⟩ (k * 65536) = G := ⟨_, rfl⟩
  have hG' : mvS s h ⟨po, 0, bk, dn⟩ (k * 65536) = G := by
    rw [← hG]; unfold mvS; rw [HK.out.1, HK.out.2.1, HK.out.2.2, Int.mul_comm s0, Int.mul_comm e0, Int.mul_comm (s.dat.length : Int)]
  have hok0 : Okc s.dat.length ⟨po, 0, bk, dn⟩ := by
    cases dn
    · show std s.dat.length po 0 bk false = true
      unfold std at hs ⊢
      rw [if_neg (by simp)] at hs ⊢
      have := of_decide_eq_true hs
      exact decide_eq_true ⟨this.1, this.2.1, by omega, by omega⟩
    · show std s.dat.length po 0 bk true = true
      unfold std at hs ⊢
      rw [if_pos rfl] at hs ⊢
      have := of_decide_eq_true hs
      exact decide_eq_true ⟨this.1, rfl, this.2.2⟩
  have hokG : Okc s.dat.length G := hG' ▸ okc_move hv h hok0 (by omega)
  have HE := Lib.hid (show orz G.done (hrd s G.pos) = tpd s h ⟨po, fr, bk, dn⟩ k by
    unfold tpd
    cases dn
    · simp only [Bool.false_eq_true, if_false]
      rw [if_pos k3]
      have e : Sm.gone (Sm.rk s h) (Sm.rs s h * 65536) (Sm.re s h * 65536) (s.dat.length * 65536) ⟨po, 0, bk, false⟩ (65536 * k) = G := by rw [← hG', show (65536 : Int) * k = k * 65536 from Int.mul_comm _ _]; rfl
      rw [e]
      rfl
    · have : G = ⟨po, 0, bk, true⟩ := by rw [← hG]; rfl
      rw [this]
      rfl)
  have HRt := Lib.hid (fun w => p_route_1 s p cap h w HK hl q1 (by omega) (by omega) (by omega))
  have HMv := Lib.hid (fun (w : World) => p_mv1 (65536 * s.dat.length) (65536 * s0) (65536 * e0) po 0 (k * 65536) bk dn w hrr (by omega) (hc.imp id fun h => ⟨h.1, by have := h.2.1; omega, by omega, by omega, by have := h.2.1; omega⟩) (by omega) (by omega))
  have HVl := Lib.hid (fun w hd => p_value s p cap G.pos G.frac G.back G.done w hd (vld_small hv) ((okc_fields (n := s.dat.length) (show Okc s.dat.length ⟨G.pos, G.frac, G.back, G.done⟩ from hokG)).imp id fun h => ⟨h.1, h.2.1⟩))
  have HGG := Lib.hid hG
  obtain ⟨gp, gf, gb, gd⟩ := G
  dsimp only at HVl HE
  have HVd := Lib.hid (p_valid_v s p cap ((w.alloc (.cells #[.string s.name, .slice p s.dat.length cap, .int .i64 s.bits, .int .i64 s.rate, .int .i64 s.vol, .int .i64 s.pan, .int .i64 s.fine, .int .i64 s.loop, .int .i64 s.start, .int .i64 s.fin, .int .i64 s.sus, .int .i64 s.sstart, .int .i64 s.sfin] 24)).alloc (.cells #[.int .i64 po, .int .i64 fr, .bool bk, .bool dn] 26)) hm ((hd.below (below_box _ _)).below (below_box _ _)) hv)
  have HVc := Lib.hid (fun w => p_vcur_v s.dat.length po fr bk dn w (by omega) (by omega) hs)
  clear hv hs hc hG hG' hok0 hokG hrr hk
  unfold SV at HVd HRt HVl
  unfold SV
  go_enter Try.func19, Try.ntmps19
  go_wp2_with (first | (go_at_call 39; ((with_reducible refine (p_within_yes _ _ _ _ k1 k2).mono ?_); rintro z w' ⟨rfl, rfl⟩)) | (go_at_call 13; ((with_reducible refine (HVd.out).mono ?_); rintro z w1 ⟨rfl, hb1⟩; have HO1 := Lib.hid ((own2_new w s p cap po fr bk dn).kept hb1); obtain ⟨⟨x0, x1, x2, x3, x4, x5, x6, x7, x8, x9, x10, x11, x12⟩, c2, c3, c4, c5⟩ := HO1.out; have fz : ∀ j, w1.frozen? ⟨w.heap.size + 1, j, none⟩ = false := fun j => by rw [hb1.frozen (by simp)]; exact cf_box w _ po fr bk dn j)) | (go_at_call 49; ((with_reducible refine (HVc.out _).mono ?_); rintro z w2 ⟨rfl, hb2⟩; have HO2 := Lib.hid (HO1.out.kept hb2); obtain ⟨⟨x0, x1, x2, x3, x4, x5, x6, x7, x8, x9, x10, x11, x12⟩, c2, c3, c4, c5⟩ := HO2.out; have fz2 : ∀ j, w2.frozen? ⟨w.heap.size + 1, j, none⟩ = false := fun j => by rw [hb2.frozen (by have := hb1.size; simp at this ⊢; omega)]; exact fz j)))
  have HWb := Lib.hid ((((((Below.refl _ _).alloc (Nat.le_refl _) _).alloc (by simp) _ : Below w.heap.size w ((w.alloc (.cells #[.string s.name, .slice p s.dat.length cap, .int .i64 s.bits, .int .i64 s.rate, .int .i64 s.vol, .int .i64 s.pan, .int .i64 s.fine, .int .i64 s.loop, .int .i64 s.start, .int .i64 s.fin, .int .i64 s.sus, .int .i64 s.sstart, .int .i64 s.sfin] 24)).alloc (.cells #[.int .i64 po, .int .i64 fr, .bool bk, .bool dn] 26))).trans (hb1.mono (by simp; omega))).trans (hb2.mono (by have := hb1.size; simp at this; omega))).setCell (p := ⟨w.heap.size + 1, 1, none⟩) (by simp) (.int .i64 0))
  have HO := Lib.hid (own2_frac HO2.out)
  have HD := Lib.hid (hd.below HWb.out)
  obtain ⟨W, hW⟩ : ∃ W, W = w2.setCell ⟨w.heap.size + 1, 1, none⟩ (.int .i64 0) := ⟨_, rfl⟩
  obtain ⟨b, hbe⟩ : ∃ b, b = w.heap.size := ⟨_, rfl⟩
  have hb : b + 1 < W.heap.size := by have := hb1.size; have := hb2.size; rw [hW, hbe]; simp at *; omega
  rw [← hW] at HWb HD HO
  rw [← hbe] at HO
  rw [← hW, ← hbe]
  clear hW hbe HO1 HO2 fz fz2 x0 x1 x2 x3 x4 x5 x6 x7 x8 x9 x10 x11 x12 c2 c3 c4 c5 hb1 hb2
  have hg : Below W.heap.size W W := Below.refl _ _
  have ⟨j0, j1, j2, j3, j4, j5, j6, j7, j8, j9, j10, j11, j12, j13, j14, j15, j16⟩ := own2K hb HO
  refine kin_region (W := W) (by kernel_rfl) (by kernel_rfl) hg ?_
  repeat (go_big_quiet_step (first | (go_at_call 50; exact kinB (HRt.out _)) | (go_at_call 51; exact kinB (retM (HMv.out _) HGG.out)) | (go_at_call 55; exact kinB (HVl.out _ (HD.out.below (Kin.below _))))))
  refine wpQuiet_nil ?_
  intro w' hw
  go_wp2
  go_ret
  exact ⟨ret_int HE.out, HWb.out.trans (hw.mono HWb.out.size)⟩
set_option maxHeartbeats 1000000 in
theorem p_Tap_up2 (s : Sm.Smp) (p : Option Addr) (cap : Nat) (po fr k : Int) (bk dn h : Bool) (w : World) (hm : s.name.size ≤ maxLen) (hd : DatAt w p s.dat) (k2 : k ≤ 8) (k3 : 0 < k) (hv : Sm.vld s = true) (hs : std s.dat.length po fr bk dn = true) {s0 e0 : Int} (HK : Hid (Sm.rk s h = 2 ∧ Sm.rs s h = s0 ∧ Sm.re s h = e0)) :
    Calls Try.prog 19 #[SV s p cap, .agg #[.int .i64 po, .int .i64 fr, .bool bk, .bool dn], .int .i64 k, .bool h] w fun x w' => x = .returned (.int .i64 (tpd s h ⟨po, fr, bk, dn⟩ k)) ∧ Below w.heap.size w w' := by
  have hl : (s.dat.length : Int) ≤ 4096 := vld_len hv
  have k1 : -8 ≤ k := by omega
  have hq := ring_ok hv h
  rw [HK.out.1, HK.out.2.1, HK.out.2.2] at hq
  obtain ⟨_, hk, q1, q2, q3, q4⟩ := hq
  have hrr : Sm.Ring 2 (65536 * s0) (65536 * e0) (65536 * s.dat.length) := ⟨by omega, by omega, by omega⟩
  have hc := okc_fields (n := s.dat.length) (show Okc s.dat.length ⟨po, fr, bk, dn⟩ from hs)
  obtain ⟨G, hG⟩ : ∃ G, Sm.gone 2 (65536 * s0) (65536 * e0) (65536 * s.dat.length) ⟨po, 0, bk, dn⟩ (k * 65536) = G := ⟨_, rfl⟩
  have hG' : mvS s h ⟨po, 0, bk, dn⟩ (k * 65536) = G := by
    rw [← hG]; unfold mvS; rw [HK.out.1, HK.out.2.1, HK.out.2.2, Int.mul_comm s0, Int.mul_comm e0, Int.mul_comm (s.dat.length : Int)]
  have hok0 : Okc s.dat.length ⟨po, 0, bk, dn⟩ := by
    cases dn
    · show std s.dat.length po 0 bk false = true
      unfold std at hs ⊢
      rw [if_neg (by simp)] at hs ⊢
      have := of_decide_eq_true hs
      exact decide_eq_true ⟨this.1, this.2.1, by omega, by omega⟩
    · show std s.dat.length po 0 bk true = true
      unfold std at hs ⊢
      rw [if_pos rfl] at hs ⊢
      have := of_decide_eq_true hs
      exact decide_eq_true ⟨this.1, rfl, this.2.2⟩
  have hokG : Okc s.dat.length G := hG' ▸ okc_move hv h hok0 (by omega)
  have HE := Lib.hid (show orz G.done (hrd s G.pos) = tpd s h ⟨po, fr, bk, dn⟩ k by
    unfold tpd
    cases dn
    · simp only [Bool.false_eq_true, if_false]
      rw [if_pos k3]
      have e : Sm.gone (Sm.rk s h) (Sm.rs s h * 65536) (Sm.re s h * 65536) (s.dat.length * 65536) ⟨po, 0, bk, false⟩ (65536 * k) = G := by rw [← hG', show (65536 : Int) * k = k * 65536 from Int.mul_comm _ _]; rfl
      rw [e]
      rfl
    · have : G = ⟨po, 0, bk, true⟩ := by rw [← hG]; rfl
      rw [this]
      rfl)
  have HRt := Lib.hid (fun w => p_route_2 s p cap h w HK hl q1 (by omega) (by omega) (by omega))
  have HMv := Lib.hid (fun (w : World) => p_mv2 (65536 * s.dat.length) (65536 * s0) (65536 * e0) po 0 (k * 65536) bk dn w hrr (by omega) (hc.imp id fun h => ⟨h.1, by have := h.2.1; omega, by omega, by omega, by have := h.2.1; omega⟩) (by omega) (by omega))
  have HVl := Lib.hid (fun w hd => p_value s p cap G.pos G.frac G.back G.done w hd (vld_small hv) ((okc_fields (n := s.dat.length) (show Okc s.dat.length ⟨G.pos, G.frac, G.back, G.done⟩ from hokG)).imp id fun h => ⟨h.1, h.2.1⟩))
  have HGG := Lib.hid hG
  obtain ⟨gp, gf, gb, gd⟩ := G
  dsimp only at HVl HE
  have HVd := Lib.hid (p_valid_v s p cap ((w.alloc (.cells #[.string s.name, .slice p s.dat.length cap, .int .i64 s.bits, .int .i64 s.rate, .int .i64 s.vol, .int .i64 s.pan, .int .i64 s.fine, .int .i64 s.loop, .int .i64 s.start, .int .i64 s.fin, .int .i64 s.sus, .int .i64 s.sstart, .int .i64 s.sfin] 24)).alloc (.cells #[.int .i64 po, .int .i64 fr, .bool bk, .bool dn] 26)) hm ((hd.below (below_box _ _)).below (below_box _ _)) hv)
  have HVc := Lib.hid (fun w => p_vcur_v s.dat.length po fr bk dn w (by omega) (by omega) hs)
  clear hv hs hc hG hG' hok0 hokG hrr hk
  unfold SV at HVd HRt HVl
  unfold SV
  go_enter Try.func19, Try.ntmps19
  go_wp2_with (first | (go_at_call 39; ((with_reducible refine (p_within_yes _ _ _ _ k1 k2).mono ?_); rintro z w' ⟨rfl, rfl⟩)) | (go_at_call 13; ((with_reducible refine (HVd.out).mono ?_); rintro z w1 ⟨rfl, hb1⟩; have HO1 := Lib.hid ((own2_new w s p cap po fr bk dn).kept hb1); obtain ⟨⟨x0, x1, x2, x3, x4, x5, x6, x7, x8, x9, x10, x11, x12⟩, c2, c3, c4, c5⟩ := HO1.out; have fz : ∀ j, w1.frozen? ⟨w.heap.size + 1, j, none⟩ = false := fun j => by rw [hb1.frozen (by simp)]; exact cf_box w _ po fr bk dn j)) | (go_at_call 49; ((with_reducible refine (HVc.out _).mono ?_); rintro z w2 ⟨rfl, hb2⟩; have HO2 := Lib.hid (HO1.out.kept hb2); obtain ⟨⟨x0, x1, x2, x3, x4, x5, x6, x7, x8, x9, x10, x11, x12⟩, c2, c3, c4, c5⟩ := HO2.out; have fz2 : ∀ j, w2.frozen? ⟨w.heap.size + 1, j, none⟩ = false := fun j => by rw [hb2.frozen (by have := hb1.size; simp at this ⊢; omega)]; exact fz j)))
  have HWb := Lib.hid ((((((Below.refl _ _).alloc (Nat.le_refl _) _).alloc (by simp) _ : Below w.heap.size w ((w.alloc (.cells #[.string s.name, .slice p s.dat.length cap, .int .i64 s.bits, .int .i64 s.rate, .int .i64 s.vol, .int .i64 s.pan, .int .i64 s.fine, .int .i64 s.loop, .int .i64 s.start, .int .i64 s.fin, .int .i64 s.sus, .int .i64 s.sstart, .int .i64 s.sfin] 24)).alloc (.cells #[.int .i64 po, .int .i64 fr, .bool bk, .bool dn] 26))).trans (hb1.mono (by simp; omega))).trans (hb2.mono (by have := hb1.size; simp at this; omega))).setCell (p := ⟨w.heap.size + 1, 1, none⟩) (by simp) (.int .i64 0))
  have HO := Lib.hid (own2_frac HO2.out)
  have HD := Lib.hid (hd.below HWb.out)
  obtain ⟨W, hW⟩ : ∃ W, W = w2.setCell ⟨w.heap.size + 1, 1, none⟩ (.int .i64 0) := ⟨_, rfl⟩
  obtain ⟨b, hbe⟩ : ∃ b, b = w.heap.size := ⟨_, rfl⟩
  have hb : b + 1 < W.heap.size := by have := hb1.size; have := hb2.size; rw [hW, hbe]; simp at *; omega
  rw [← hW] at HWb HD HO
  rw [← hbe] at HO
  rw [← hW, ← hbe]
  clear hW hbe HO1 HO2 fz fz2 x0 x1 x2 x3 x4 x5 x6 x7 x8 x9 x10 x11 x12 c2 c3 c4 c5 hb1 hb2
  have hg : Below W.heap.size W W := Below.refl _ _
  have ⟨j0, j1, j2, j3, j4, j5, j6, j7, j8, j9, j10, j11, j12, j13, j14, j15, j16⟩ := own2K hb HO
  refine kin_region (W := W) (by kernel_rfl) (by kernel_rfl) hg ?_
  repeat (go_big_quiet_step (first | (go_at_call 50; exact kinB (HRt.out _)) | (go_at_call 51; exact kinB (retM (HMv.out _) HGG.out)) | (go_at_call 55; exact kinB (HVl.out _ (HD.out.below (Kin.below _))))))
  refine wpQuiet_nil ?_
  intro w' hw
  go_wp2
  go_ret
  exact ⟨ret_int HE.out, HWb.out.trans (hw.mono HWb.out.size)⟩
/-- The contract of sample.Tap. -/
theorem p_Tap (s : Sm.Smp) (p : Option Addr) (cap : Nat) (po fr k : Int) (bk dn h : Bool) (w : World) (hm : s.name.size ≤ maxLen) (hd : DatAt w p s.dat) :
    Calls Try.prog 19 #[SV s p cap, .agg #[.int .i64 po, .int .i64 fr, .bool bk, .bool dn], .int .i64 k, .bool h] w fun x w' => x = .returned (.int .i64 (tap s h ⟨po, fr, bk, dn⟩ k)) ∧ Below w.heap.size w w' := by
  unfold tap
  by_cases hk : -8 ≤ k ∧ k ≤ 8
  · by_cases hv : Sm.vld s = true
    · by_cases hs : std s.dat.length po fr bk dn = true
      · rw [if_pos ⟨hv, hs, hk.1, hk.2⟩]
        by_cases h0 : 0 < k
        · rcases (ring_ok hv h).1 with hq | hq | hq
          · exact p_Tap_up0 s p cap po fr k bk dn h w hm hd hk.2 h0 hv hs ⟨hq, rfl, rfl⟩
          · exact p_Tap_up1 s p cap po fr k bk dn h w hm hd hk.2 h0 hv hs ⟨hq, rfl, rfl⟩
          · exact p_Tap_up2 s p cap po fr k bk dn h w hm hd hk.2 h0 hv hs ⟨hq, rfl, rfl⟩
        · exact p_Tap_low s p cap po fr k bk dn h w hm hd hk.1 hk.2 (by omega) hv hs
      · rw [if_neg (fun e => hs e.2.1)]
        exact p_Tap_c s p cap po fr k bk dn h w hm hd hk.1 hk.2 hv (by simpa using hs)
    · rw [if_neg (fun e => hv e.1)]
      exact p_Tap_v s p cap po fr k bk dn h w hm hd hk.1 hk.2 (by simpa using hv)
  · rw [if_neg (fun e => hk e.2.2)]
    exact p_Tap_k s p cap po fr k bk dn h w (by omega)
end Go.Proofs.Ytmaldhjcdkidmaa

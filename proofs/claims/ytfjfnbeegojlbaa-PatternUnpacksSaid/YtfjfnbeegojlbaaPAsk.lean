/-
  Package pattern's askPlace and askArea.
-/
import Derived.Test.YtfjfnbeegojlbaaPValB
import Derived.Deep.DeepCutAuto
namespace Go.Proofs.Ytfjfnbeegojlbaa
open Go.RowKit

def AV (a : Pt.Ar) : Value := .agg #[.int .i64 a.r, .int .i64 a.c, .int .i64 a.h, .int .i64 a.w]
set_option maxHeartbeats 1600000 in
theorem p_askPlace (r : Int) (l : List Pt.Cl) (p : Option Addr) (cap : Nat) (ch row c : Int) (w : World) (hd : CellsAt w p l) :
    Calls Try.prog 30 #[PV r p l.length cap, .int .i64 ch, .int .i64 row, .int .i64 c] w fun x w' => x = .returned (.int .i64 (Pt.ePlace r l ch row c)) ∧ Below w.heap.size w w' := by
  have HB0 := Lib.hid (below_box w (.cells #[.int .i64 r, .slice p l.length cap] 24))
  cases h1 : Pt.vpat r l ch with
  | false =>
    have HE := Lib.hid (show Pt.ePlace r l ch row c = 1 by unfold Pt.ePlace; rw [h1]; rfl)
    have C1 := Lib.hid (fun u (hu : Below w.heap.size w u) => p_Valid_v (cap := cap) (hd.below hu) h1)
    unfold PV at C1 ⊢
    clear h1 hd
    go_enter Try.func30, Try.ntmps30
    go_wp2_with (first | (go_at_call 7; ((with_reducible refine (C1.out _ HB0.out).mono ?_); rintro x' w1 ⟨rfl, hb1⟩)))
    go_ret
    exact ⟨ret_int HE.out.symm, stepB HB0.out hb1⟩
  | true =>
    obtain ⟨R, C, rfl, rfl, g1, g2, g3, g4, -, -⟩ := Pt.vpat_nat h1
    have C1 := Lib.hid (fun u (hu : Below w.heap.size w u) => p_Valid_v (cap := cap) (hd.below hu) h1)
    have C2 := Lib.hid (fun u => p_isPlace row R u (by omega) (by omega))
    have C3 := Lib.hid (fun u => p_isPlace c C u (by omega) (by omega))
    have HE := Lib.hid (show Pt.ePlace R l C row c = if Pt.plc row R && Pt.plc c C then 0 else 5 by unfold Pt.ePlace; rw [h1]; rfl)
    have HC := Lib.hid (fun (u : World) (hu : Below w.heap.size (w.alloc (.cells #[.int .i64 (R : Int), .slice p l.length cap] 24)) u) => True.intro)
    unfold PV at C1 ⊢
    obtain ⟨v1, hv1⟩ : ∃ v, Pt.plc row R = v := ⟨_, rfl⟩
    obtain ⟨v2, hv2⟩ : ∃ v, Pt.plc c C = v := ⟨_, rfl⟩
    rw [hv1] at C2 HE
    rw [hv2] at C3 HE
    clear h1 hd hv1 hv2 HC
    have K0 := Lib.hid (show (w.alloc (.cells #[.int .i64 (R : Int), .slice p l.length cap] 24)).cell? ⟨w.heap.size, 0, none⟩ = some (.int .i64 (R : Int)) by simp [World.cell?_alloc_new])
    cases v1 <;> cases v2
    all_goals
      go_enter Try.func30, Try.ntmps30
      go_wp2_with (first | (go_at_call 7; ((with_reducible refine (C1.out _ HB0.out).mono ?_); rintro x' w1 ⟨rfl, hb1⟩; have HB1 := Lib.hid (stepB HB0.out hb1); have k0 := kept_cell hb1 K0.out; clear hb1)) | (go_at_call 53; ((with_reducible refine (C2.out _).mono ?_); rintro x' w2 ⟨rfl, rfl⟩)) | (go_at_call 53; ((with_reducible refine (C3.out _).mono ?_); rintro x' w2 ⟨rfl, rfl⟩)))
      go_ret
      exact ⟨ret_int HE.out.symm, HB1.out⟩
set_option maxHeartbeats 1600000 in
theorem p_areaIn (a : Pt.Ar) (R C : Nat) (w : World) (r1 : 1 ≤ R) (r2 : R ≤ 64) (c1 : 1 ≤ C) (c2 : C ≤ 16) :
    Calls Try.prog 52 #[AV a, .int .i64 R, .int .i64 C] w fun x w' => x = .returned (.bool (Pt.awi a R C)) ∧ Below w.heap.size w w' := by
  unfold AV
  cases h1 : Pt.wth a.h 1 R with
  | false =>
    have HE := Lib.hid (show Pt.awi a R C = false by unfold Pt.awi; rw [h1]; rfl)
    have C1 := Lib.hid (fun u => p_within_v a.h 1 R u h1)
    clear h1
    go_enter Try.func52, Try.ntmps52
    go_wp2_with (first | (go_at_call 33; ((with_reducible refine (C1.out _).mono ?_); rintro x' w1 ⟨rfl, rfl⟩)))
    go_ret
    exact ⟨ret_bool HE.out.symm, below_box _ _⟩
  | true =>
    obtain ⟨b1, b2⟩ := Pt.wth_iff.1 h1
    have C1 := Lib.hid (fun u => p_within_v a.h 1 R u h1)
    cases h2 : Pt.wth a.r 0 (R - a.h) with
    | false =>
      have HE := Lib.hid (show Pt.awi a R C = false by unfold Pt.awi; rw [h1, h2]; rfl)
      have C2 := Lib.hid (fun u => p_within_v a.r 0 (R - a.h) u h2)
      clear h1 h2
      go_enter Try.func52, Try.ntmps52
      go_wp2_with (first | (go_at_call 33; ((with_reducible refine (C1.out _).mono ?_); rintro x' w1 ⟨rfl, rfl⟩)) | (go_at_call 33; ((with_reducible refine (C2.out _).mono ?_); rintro x' w1 ⟨rfl, rfl⟩)))
      go_ret
      exact ⟨ret_bool HE.out.symm, below_box _ _⟩
    | true =>
      have C2 := Lib.hid (fun u => p_within_v a.r 0 (R - a.h) u h2)
      cases h3 : Pt.wth a.w 1 C with
      | false =>
        have HE := Lib.hid (show Pt.awi a R C = false by unfold Pt.awi; rw [h1, h2, h3]; rfl)
        have C3 := Lib.hid (fun u => p_within_v a.w 1 C u h3)
        clear h1 h2 h3
        go_enter Try.func52, Try.ntmps52
        go_wp2_with (first | (go_at_call 33; ((with_reducible refine (C1.out _).mono ?_); rintro x' w1 ⟨rfl, rfl⟩)) | (go_at_call 33; ((with_reducible refine (C2.out _).mono ?_); rintro x' w1 ⟨rfl, rfl⟩)) | (go_at_call 33; ((with_reducible refine (C3.out _).mono ?_); rintro x' w1 ⟨rfl, rfl⟩)))
        go_ret
        exact ⟨ret_bool HE.out.symm, below_box _ _⟩
      | true =>
        obtain ⟨d1, d2⟩ := Pt.wth_iff.1 h3
        have C3 := Lib.hid (fun u => p_within_v a.w 1 C u h3)
        obtain ⟨v, h4⟩ : ∃ v, Pt.wth a.c 0 (C - a.w) = v := ⟨_, rfl⟩
        have HE := Lib.hid (show Pt.awi a R C = v by unfold Pt.awi; rw [h1, h2, h3, h4]; rfl)
        have C4 := Lib.hid (fun u => p_within_v a.c 0 (C - a.w) u h4)
        clear h1 h2 h3 h4
        go_enter Try.func52, Try.ntmps52
        go_wp2_with (first | (go_at_call 33; ((with_reducible refine (C1.out _).mono ?_); rintro x' w1 ⟨rfl, rfl⟩)) | (go_at_call 33; ((with_reducible refine (C2.out _).mono ?_); rintro x' w1 ⟨rfl, rfl⟩)) | (go_at_call 33; ((with_reducible refine (C3.out _).mono ?_); rintro x' w1 ⟨rfl, rfl⟩)) | (go_at_call 33; ((with_reducible refine (C4.out _).mono ?_); rintro x' w1 ⟨rfl, rfl⟩)))
        go_ret
        exact ⟨ret_bool HE.out.symm, below_box _ _⟩
theorem p_areaIn_v {a : Pt.Ar} {R C : Nat} {w : World} (r1 : 1 ≤ R) (r2 : R ≤ 64) (c1 : 1 ≤ C) (c2 : C ≤ 16) {v : Bool} (h : Pt.awi a R C = v) :
    Calls Try.prog 52 #[AV a, .int .i64 R, .int .i64 C] w fun x w' => x = .returned (.bool v) ∧ Below w.heap.size w w' := h ▸ p_areaIn a R C w r1 r2 c1 c2
set_option maxHeartbeats 1600000 in
theorem p_askArea (r : Int) (l : List Pt.Cl) (p : Option Addr) (cap : Nat) (ch : Int) (a : Pt.Ar) (w : World) (hd : CellsAt w p l) :
    Calls Try.prog 27 #[PV r p l.length cap, .int .i64 ch, AV a] w fun x w' => x = .returned (.int .i64 (Pt.eArea r l ch a)) ∧ Below w.heap.size w w' := by
  obtain ⟨W, hW⟩ : ∃ W, W = (w.alloc (.cells #[.int .i64 r, .slice p l.length cap] 24)).alloc (.cells #[.int .i64 a.r, .int .i64 a.c, .int .i64 a.h, .int .i64 a.w] 26) := ⟨_, rfl⟩
  have hB : Below w.heap.size w W := by rw [hW]; exact stepB (below_box _ _) (below_box _ _)
  have HB0 := Lib.hid hB
  have hk : W.cell? ⟨w.heap.size, 0, none⟩ = some (.int .i64 r) ∧ W.cell? ⟨w.heap.size, 1, none⟩ = some (.slice p l.length cap) := by
    rw [hW]
    constructor
    all_goals
      refine kept_cell (below_box _ _) ?_
      simp
  have ha : W.cell? ⟨w.heap.size + 1, 0, none⟩ = some (.int .i64 a.r) ∧ W.cell? ⟨w.heap.size + 1, 1, none⟩ = some (.int .i64 a.c) ∧ W.cell? ⟨w.heap.size + 1, 2, none⟩ = some (.int .i64 a.h) ∧ W.cell? ⟨w.heap.size + 1, 3, none⟩ = some (.int .i64 a.w) := by
    rw [hW]
    have e : (w.alloc (.cells #[.int .i64 r, .slice p l.length cap] 24)).heap.size = w.heap.size + 1 := by simp
    rw [← e]
    refine ⟨?_, ?_, ?_, ?_⟩ <;> simp
  have HK := Lib.hid hk
  have HA := Lib.hid ha
  obtain ⟨b, hb⟩ : ∃ b, b = w.heap.size := ⟨_, rfl⟩
  rw [← hb] at HK HA hk
  obtain ⟨k0, k1⟩ := hk
  clear ha
  cases h1 : Pt.vpat r l ch with
  | false =>
    have HE := Lib.hid (show Pt.eArea r l ch a = 1 by unfold Pt.eArea; rw [h1]; rfl)
    have C1 := Lib.hid (p_Valid_v (cap := cap) (hd.below hB) h1)
    unfold PV at C1 ⊢
    unfold AV
    clear h1 hd hB
    go_enter Try.func27, Try.ntmps27
    go_upto_region 1 with fail
    rw [← hW, ← hb]
    clear hW hb
    go_wp2_with (first | (go_at_call 7; ((with_reducible refine (C1.out).mono ?_); rintro x' w1 ⟨rfl, hb1⟩)))
    go_ret
    exact ⟨ret_int HE.out.symm, stepB HB0.out hb1⟩
  | true =>
    obtain ⟨R, C, rfl, rfl, g1, g2, g3, g4, -, -⟩ := Pt.vpat_nat h1
    obtain ⟨v, hv⟩ : ∃ v, Pt.awi a R C = v := ⟨_, rfl⟩
    have HE := Lib.hid (show Pt.eArea R l C a = if v then 0 else 5 by unfold Pt.eArea; rw [h1, hv]; rfl)
    have C1 := Lib.hid (p_Valid_v (cap := cap) (hd.below hB) h1)
    have C2 := Lib.hid (fun u => p_areaIn_v (w := u) g1 g2 g3 g4 hv)
    unfold PV at C1 ⊢
    unfold AV at C2 ⊢
    clear h1 hd hB hv
    cases v
    all_goals
      go_enter Try.func27, Try.ntmps27
      go_upto_region 1 with fail
      rw [← hW, ← hb]
      clear hW hb
      go_wp2_with (first | (go_at_call 7; ((with_reducible refine (C1.out).mono ?_); rintro x' w1 ⟨rfl, hb1⟩; have HB1 := Lib.hid hb1; clear hb1 k0 k1; obtain ⟨k0, k1⟩ := (show w1.cell? _ = _ ∧ w1.cell? _ = _ from ⟨kept_cell HB1.out HK.out.1, kept_cell HB1.out HK.out.2⟩); obtain ⟨a0, a1, a2, a3⟩ := (show w1.cell? _ = _ ∧ w1.cell? _ = _ ∧ w1.cell? _ = _ ∧ w1.cell? _ = _ from ⟨kept_cell HB1.out HA.out.1, kept_cell HB1.out HA.out.2.1, kept_cell HB1.out HA.out.2.2.1, kept_cell HB1.out HA.out.2.2.2⟩))) | (go_at_call 52; ((with_reducible refine (C2.out _).mono ?_); rintro x' w2 ⟨rfl, hb2⟩)))
      go_ret
      exact ⟨ret_int HE.out.symm, stepB (stepB HB0.out HB1.out) hb2⟩
end Go.Proofs.Ytfjfnbeegojlbaa

/-
  The library's slices.IndexFunc and slices.ContainsFunc at cells, and package pattern's Valid. Package pattern's askPlace and askArea. Cells in memory of one's own: the library's slices.Clone at cells, package pattern's clone and blank, and Area.line. Patterns' blocks: read, stored and returned whole; package pattern's clone, blank and Area.line. The builtins copy and clear at cells, as laws; what is written into a block of one's own.
-/
import Derived.Test.YtfjfnbeegojlbaaGreatPVal
import Derived.Deep.DeepCutAuto
import Derived.Laws.ResultCell
import Derived.Lib.SliceRun
import Derived.Laws.AppendOwnNone
namespace Go.Proofs.YtfjfnbeegojlbaaGreat
open Go.RowKit

theorem p_lit (c : Pt.Cl) (w : World) :
    Calls Tryz.prog 40 #[.agg (CL c).toArray] w fun x w' => x = .returned (.bool (!Pt.vcl c)) ∧ Below w.heap.size w w' := by
  have C := Lib.hid (fun w => p_ValidCell c w)
  obtain ⟨v, hv⟩ : ∃ v, Pt.vcl c = v := ⟨_, rfl⟩
  rw [hv] at C ⊢
  clear hv
  have HR := Lib.hid (fun (w : World) => range_box w (CL c) 28)
  go_enter Tryz.func40, Tryz.ntmps40
  go_wp2_with (first | (refine ld_cell (by rfl) _ rfl rfl (HR.out _) ?_) | (go_at_call 41; ((with_reducible refine (C.out _).mono ?_); rintro x' w1 ⟨rfl, hb1⟩)))
  go_ret
  exact ⟨rfl, stepB (below_box _ _) hb1⟩
set_option maxHeartbeats 1600000 in
theorem p_index (l : List Pt.Cl) (p : Option Addr) (cap : Nat) (w : World) (hd : CellsAt w p l) (hl : (l.length : Int) ≤ 1024) :
    Calls Tryz.prog 64 #[.slice p l.length cap, .func (.func 40) #[] #[]] w fun x w' => (∃ z, x = .returned (.int .i64 z) ∧ Hid (decide (0 ≤ z) = !Pt.all l)) ∧ Below w.heap.size w w' := by
  have HD := Lib.hid hd
  clear hd
  go_enter Tryz.func64, Tryz.ntmps64
  go_wp2
  go_loopw [8] (fun i wr => ∃ k : Nat, k ≤ l.length ∧ i = .int .i64 k ∧ Hid (∀ j, j < k → Pt.vcl (Pt.at' l j) = true) ∧ Hid (Below w.heap.size w wr)) (fun i _ => l.length - (intOf i).toNat)
  case atStart => exact ⟨0, by omega, rfl, fun _ h => by omega, Below.refl _ _⟩
  case round =>
    obtain ⟨k, hk, rfl, HN, HB⟩ := hrel
    by_cases hlt : k < l.length
    · obtain ⟨b, off, hp, _, hr⟩ := (HD.out.below HB.out).at hlt
      subst hp
      have HR := Lib.hid hr
      clear hr
      obtain ⟨c, hc⟩ : ∃ c, Pt.at' l k = c := ⟨_, rfl⟩
      have C := Lib.hid (fun w => p_lit c w)
      rw [hc] at HR
      obtain ⟨v, hv⟩ : ∃ v, Pt.vcl c = v := ⟨_, rfl⟩
      have HV := Lib.hid (show Pt.vcl (Pt.at' l k) = v by rw [hc]; exact hv)
      rw [hv] at C
      clear hv hc
      cases v
      · have HE := Lib.hid (show decide (0 ≤ (k : Int)) = !Pt.all l by rw [Pt.all_bad k hlt HV.out]; exact decide_eq_true (by omega))
        go_wp2_with (first | (refine ld_cell (by rfl) _ rfl rfl HR.out ?_) | (go_at_call 40; ((with_reducible refine (C.out _).mono ?_); rintro x' w1 ⟨rfl, hb1⟩)))
        go_ret
        exact ⟨⟨_, rfl, HE.out⟩, stepB HB.out hb1⟩
      · go_wp2_with (first | (refine ld_cell (by rfl) _ rfl rfl HR.out ?_) | (go_at_call 40; ((with_reducible refine (C.out _).mono ?_); rintro x' w1 ⟨rfl, hb1⟩)))
        go_roundw
        case rel => exact ⟨k + 1, by omega, by go_num, fun j hj => by
          by_cases e : j = k
          · subst e; exact HV.out
          · exact HN.out j (by omega), stepB HB.out hb1⟩
        case measure => simp [intOf]; omega
    · have HE := Lib.hid (show decide ((0 : Int) ≤ -1) = !Pt.all l by rw [Pt.all_mk fun j hj => HN.out j (by omega)]; rfl)
      go_wp2
      go_ret
      exact ⟨⟨_, rfl, HE.out⟩, HB.out⟩
theorem p_anybad (l : List Pt.Cl) (p : Option Addr) (cap : Nat) (w : World) (hd : CellsAt w p l) (hl : (l.length : Int) ≤ 1024) :
    Calls Tryz.prog 39 #[.slice p l.length cap, .func (.func 40) #[] #[]] w fun x w' => x = .returned (.bool (!Pt.all l)) ∧ Below w.heap.size w w' := by
  have C := Lib.hid (p_index l p cap w hd hl)
  clear hd
  obtain ⟨v, hv⟩ : ∃ v, (!Pt.all l) = v := ⟨_, rfl⟩
  rw [hv] at C ⊢
  clear hv
  go_enter Tryz.func39, Tryz.ntmps39
  go_wp2_with (first | (go_at_call 64; ((with_reducible refine (C.out).mono ?_); rintro x' w1 ⟨⟨z, rfl, HZ⟩, hb1⟩)))
  go_ret
  exact ⟨ret_bool HZ.out, hb1⟩
set_option maxHeartbeats 1600000 in
theorem p_Valid (r : Int) (l : List Pt.Cl) (p : Option Addr) (cap : Nat) (ch : Int) (w : World) (hd : CellsAt w p l) :
    Calls Tryz.prog 9 #[PV r p l.length cap, .int .i64 ch] w fun x w' => x = .returned (.bool (Pt.vpat r l ch)) ∧ Below w.heap.size w w' := by
  have C1 := Lib.hid (fun w => p_validChannels ch w)
  have C2 := Lib.hid (fun w => p_validRows r w)
  unfold PV
  cases h1 : Pt.wth ch 1 16 with
  | false =>
    have HE := Lib.hid (show Pt.vpat r l ch = false by unfold Pt.vpat; rw [h1]; rfl)
    rw [h1] at C1
    clear h1 C2 hd
    go_enter Tryz.func9, Tryz.ntmps9
    go_wp2_with (first | (go_at_call 37; ((with_reducible refine (C1.out _).mono ?_); rintro x' w1 ⟨rfl, rfl⟩)))
    go_ret
    exact ⟨ret_bool HE.out.symm, below_box _ _⟩
  | true =>
    cases h2 : Pt.wth r 1 64 with
    | false =>
      have HE := Lib.hid (show Pt.vpat r l ch = false by unfold Pt.vpat; rw [h1, h2]; rfl)
      rw [h1] at C1
      rw [h2] at C2
      clear h1 h2 hd
      go_enter Tryz.func9, Tryz.ntmps9
      go_wp2_with (first | (go_at_call 37; ((with_reducible refine (C1.out _).mono ?_); rintro x' w1 ⟨rfl, rfl⟩)) | (go_at_call 38; ((with_reducible refine (C2.out _).mono ?_); rintro x' w1 ⟨rfl, rfl⟩)))
      go_ret
      exact ⟨ret_bool HE.out.symm, below_box _ _⟩
    | true =>
      have hm : 1 ≤ r * ch ∧ r * ch ≤ 1024 := by
        obtain ⟨a1, a2⟩ := Pt.wth_iff.1 h1
        obtain ⟨b1, b2⟩ := Pt.wth_iff.1 h2
        obtain ⟨R, rfl⟩ : ∃ R : Nat, r = R := ⟨r.toNat, by omega⟩
        obtain ⟨C, rfl⟩ : ∃ C : Nat, ch = C := ⟨ch.toNat, by omega⟩
        have h1 := Pt.rc_bound (R := R) (C := C) (by omega) (by omega)
        have h2 := Nat.mul_le_mul (show 1 ≤ R by omega) (show 1 ≤ C by omega)
        rw [← Int.natCast_mul]
        omega
      by_cases h3 : (l.length : Int) = r * ch
      · have HE := Lib.hid (show Pt.vpat r l ch = Pt.all l by unfold Pt.vpat; rw [h1, h2, decide_eq_true h3]; rfl)
        rw [h1] at C1
        rw [h2] at C2
        have C3 := Lib.hid (fun u (hu : Below w.heap.size w u) => p_anybad l p cap u (hd.below hu) (by omega))
        obtain ⟨v, hv⟩ : ∃ v, Pt.all l = v := ⟨_, rfl⟩
        rw [hv] at C3 HE
        obtain ⟨m, hm0⟩ : ∃ m, r * ch = m := ⟨_, rfl⟩
        obtain ⟨n, hn0⟩ : ∃ n, l.length = n := ⟨_, rfl⟩
        rw [hn0] at C3 h3 ⊢
        rw [hm0] at h3 hm
        have hz : ((n : Int) == m) = true := by rw [h3]; simp
        have HB := Lib.hid (below_box w (.cells #[.int .i64 r, .slice p n cap] 24))
        clear h1 h2 hd hv hn0 h3
        go_enter Tryz.func9, Tryz.ntmps9
        go_wp2_with (first | (go_at_call 37; ((with_reducible refine (C1.out _).mono ?_); rintro x' w1 ⟨rfl, rfl⟩)) | (go_at_call 38; ((with_reducible refine (C2.out _).mono ?_); rintro x' w1 ⟨rfl, rfl⟩)) | (go_at_call 39; ((with_reducible refine (C3.out _ HB.out).mono ?_); rintro x' w1 ⟨rfl, hb1⟩)))
        go_ret
        exact ⟨ret_bool (by rw [HE.out]), stepB HB.out hb1⟩
      · have HE := Lib.hid (show Pt.vpat r l ch = false by unfold Pt.vpat; rw [h1, h2, decide_eq_false h3]; rfl)
        rw [h1] at C1
        rw [h2] at C2
        obtain ⟨m, hm0⟩ : ∃ m, r * ch = m := ⟨_, rfl⟩
        obtain ⟨n, hn0⟩ : ∃ n, l.length = n := ⟨_, rfl⟩
        rw [hn0] at h3 ⊢
        rw [hm0] at h3 hm
        have hz : ((n : Int) == m) = false := beq_eq_false_iff_ne.2 h3
        clear h1 h2 hd hn0 h3
        go_enter Tryz.func9, Tryz.ntmps9
        go_wp2_with (first | (go_at_call 37; ((with_reducible refine (C1.out _).mono ?_); rintro x' w1 ⟨rfl, rfl⟩)) | (go_at_call 38; ((with_reducible refine (C2.out _).mono ?_); rintro x' w1 ⟨rfl, rfl⟩)))
        go_ret
        exact ⟨ret_bool HE.out.symm, below_box _ _⟩
theorem p_Valid_v {r : Int} {l : List Pt.Cl} {p : Option Addr} {cap : Nat} {ch : Int} {w : World} (hd : CellsAt w p l) {v : Bool} (h : Pt.vpat r l ch = v) :
    Calls Tryz.prog 9 #[PV r p l.length cap, .int .i64 ch] w fun x w' => x = .returned (.bool v) ∧ Below w.heap.size w w' := h ▸ p_Valid r l p cap ch w hd

def AV (a : Pt.Ar) : Value := .agg #[.int .i64 a.r, .int .i64 a.c, .int .i64 a.h, .int .i64 a.w]
set_option maxHeartbeats 1600000 in
theorem p_askPlace (r : Int) (l : List Pt.Cl) (p : Option Addr) (cap : Nat) (ch row c : Int) (w : World) (hd : CellsAt w p l) :
    Calls Tryz.prog 35 #[PV r p l.length cap, .int .i64 ch, .int .i64 row, .int .i64 c] w fun x w' => x = .returned (.int .i64 (Pt.ePlace r l ch row c)) ∧ Below w.heap.size w w' := by
  have HB0 := Lib.hid (below_box w (.cells #[.int .i64 r, .slice p l.length cap] 24))
  cases h1 : Pt.vpat r l ch with
  | false =>
    have HE := Lib.hid (show Pt.ePlace r l ch row c = 1 by unfold Pt.ePlace; rw [h1]; rfl)
    have C1 := Lib.hid (fun u (hu : Below w.heap.size w u) => p_Valid_v (cap := cap) (hd.below hu) h1)
    unfold PV at C1 ⊢
    clear h1 hd
    go_enter Tryz.func35, Tryz.ntmps35
    go_wp2_with (first | (go_at_call 9; ((with_reducible refine (C1.out _ HB0.out).mono ?_); rintro x' w1 ⟨rfl, hb1⟩)))
    go_ret
    exact ⟨ret_int HE.out.symm, stepB HB0.out hb1⟩
  | true =>
    obtain ⟨R, C, rfl, rfl, g1, g2, g3, g4, -, -⟩ := Pt.vpat_nat h1
    have C1 := Lib.hid (fun u (hu : Below w.heap.size w u) => p_Valid_v (cap := cap) (hd.below hu) h1)
    have C2 := Lib.hid (fun u => p_isPlace row R u (by omega) (by omega))
    have C3 := Lib.hid (fun u => p_isPlace c C u (by omega) (by omega))
    have HE := Lib.hid (show Pt.ePlace R l C row c = if Pt.plc row R && Pt.plc c C then 0 else 5 by unfold Pt.ePlace; rw [h1]; rfl)
    have HC := Lib.hid (fun (u : World) (hu : Below w.heap.size (w.alloc (.cells #[.int .i64 (R : Int), .slice p l.length cap] 24)) u) => True.intro)
    unfold PV at C1 ⊢
    obtain ⟨v1, hv1⟩ : ∃ v, Pt.plc row R = v := ⟨_, rfl⟩
    obtain ⟨v2, hv2⟩ : ∃ v, Pt.plc c C = v := ⟨_, rfl⟩
    rw [hv1] at C2 HE
    rw [hv2] at C3 HE
    clear h1 hd hv1 hv2 HC
    have K0 := Lib.hid (show (w.alloc (.cells #[.int .i64 (R : Int), .slice p l.length cap] 24)).cell? ⟨w.heap.size, 0, none⟩ = some (.int .i64 (R : Int)) by simp [World.cell?_alloc_new])
    cases v1 <;> cases v2
    all_goals
      go_enter Tryz.func35, Tryz.ntmps35
      go_wp2_with (first | (go_at_call 9; ((with_reducible refine (C1.out _ HB0.out).mono ?_); rintro x' w1 ⟨rfl, hb1⟩; have HB1 := Lib.hid (stepB HB0.out hb1); have k0 := kept_cell hb1 K0.out; clear hb1)) | (go_at_call 63; ((with_reducible refine (C2.out _).mono ?_); rintro x' w2 ⟨rfl, rfl⟩)) | (go_at_call 63; ((with_reducible refine (C3.out _).mono ?_); rintro x' w2 ⟨rfl, rfl⟩)))
      go_ret
      exact ⟨ret_int HE.out.symm, HB1.out⟩
set_option maxHeartbeats 1600000 in
theorem p_areaIn (a : Pt.Ar) (R C : Nat) (w : World) (r1 : 1 ≤ R) (r2 : R ≤ 64) (c1 : 1 ≤ C) (c2 : C ≤ 16) :
    Calls Tryz.prog 66 #[AV a, .int .i64 R, .int .i64 C] w fun x w' => x = .returned (.bool (Pt.awi a R C)) ∧ Below w.heap.size w w' := by
  unfold AV
  cases h1 : Pt.wth a.h 1 R with
  | false =>
    have HE := Lib.hid (show Pt.awi a R C = false by unfold Pt.awi; rw [h1]; rfl)
    have C1 := Lib.hid (fun u => p_within_v a.h 1 R u h1)
    clear h1
    go_enter Tryz.func66, Tryz.ntmps66
    go_wp2_with (first | (go_at_call 53; ((with_reducible refine (C1.out _).mono ?_); rintro x' w1 ⟨rfl, rfl⟩)))
    go_ret
    exact ⟨ret_bool HE.out.symm, below_box _ _⟩
  | true =>
    obtain ⟨b1, b2⟩ := Pt.wth_iff.1 h1
    have C1 := Lib.hid (fun u => p_within_v a.h 1 R u h1)
    cases h2 : Pt.wth a.r 0 (R - a.h) with
    | false =>
      have HE := Lib.hid (show Pt.awi a R C = false by unfold Pt.awi; rw [h1, h2]; rfl)
      have C2 := Lib.hid (fun u => p_within_v a.r 0 (R - a.h) u h2)
      clear h1 h2
      go_enter Tryz.func66, Tryz.ntmps66
      go_wp2_with (first | (go_at_call 53; ((with_reducible refine (C1.out _).mono ?_); rintro x' w1 ⟨rfl, rfl⟩)) | (go_at_call 53; ((with_reducible refine (C2.out _).mono ?_); rintro x' w1 ⟨rfl, rfl⟩)))
      go_ret
      exact ⟨ret_bool HE.out.symm, below_box _ _⟩
    | true =>
      have C2 := Lib.hid (fun u => p_within_v a.r 0 (R - a.h) u h2)
      cases h3 : Pt.wth a.w 1 C with
      | false =>
        have HE := Lib.hid (show Pt.awi a R C = false by unfold Pt.awi; rw [h1, h2, h3]; rfl)
        have C3 := Lib.hid (fun u => p_within_v a.w 1 C u h3)
        clear h1 h2 h3
        go_enter Tryz.func66, Tryz.ntmps66
        go_wp2_with (first | (go_at_call 53; ((with_reducible refine (C1.out _).mono ?_); rintro x' w1 ⟨rfl, rfl⟩)) | (go_at_call 53; ((with_reducible refine (C2.out _).mono ?_); rintro x' w1 ⟨rfl, rfl⟩)) | (go_at_call 53; ((with_reducible refine (C3.out _).mono ?_); rintro x' w1 ⟨rfl, rfl⟩)))
        go_ret
        exact ⟨ret_bool HE.out.symm, below_box _ _⟩
      | true =>
        obtain ⟨d1, d2⟩ := Pt.wth_iff.1 h3
        have C3 := Lib.hid (fun u => p_within_v a.w 1 C u h3)
        obtain ⟨v, h4⟩ : ∃ v, Pt.wth a.c 0 (C - a.w) = v := ⟨_, rfl⟩
        have HE := Lib.hid (show Pt.awi a R C = v by unfold Pt.awi; rw [h1, h2, h3, h4]; rfl)
        have C4 := Lib.hid (fun u => p_within_v a.c 0 (C - a.w) u h4)
        clear h1 h2 h3 h4
        go_enter Tryz.func66, Tryz.ntmps66
        go_wp2_with (first | (go_at_call 53; ((with_reducible refine (C1.out _).mono ?_); rintro x' w1 ⟨rfl, rfl⟩)) | (go_at_call 53; ((with_reducible refine (C2.out _).mono ?_); rintro x' w1 ⟨rfl, rfl⟩)) | (go_at_call 53; ((with_reducible refine (C3.out _).mono ?_); rintro x' w1 ⟨rfl, rfl⟩)) | (go_at_call 53; ((with_reducible refine (C4.out _).mono ?_); rintro x' w1 ⟨rfl, rfl⟩)))
        go_ret
        exact ⟨ret_bool HE.out.symm, below_box _ _⟩
theorem p_areaIn_v {a : Pt.Ar} {R C : Nat} {w : World} (r1 : 1 ≤ R) (r2 : R ≤ 64) (c1 : 1 ≤ C) (c2 : C ≤ 16) {v : Bool} (h : Pt.awi a R C = v) :
    Calls Tryz.prog 66 #[AV a, .int .i64 R, .int .i64 C] w fun x w' => x = .returned (.bool v) ∧ Below w.heap.size w w' := h ▸ p_areaIn a R C w r1 r2 c1 c2
set_option maxHeartbeats 1600000 in
theorem p_askArea (r : Int) (l : List Pt.Cl) (p : Option Addr) (cap : Nat) (ch : Int) (a : Pt.Ar) (w : World) (hd : CellsAt w p l) :
    Calls Tryz.prog 48 #[PV r p l.length cap, .int .i64 ch, AV a] w fun x w' => x = .returned (.int .i64 (Pt.eArea r l ch a)) ∧ Below w.heap.size w w' := by
  obtain ⟨W, hW⟩ : ∃ W, W = (w.alloc (.cells #[.int .i64 r, .slice p l.length cap] 24)).alloc (.cells #[.int .i64 a.r, .int .i64 a.c, .int .i64 a.h, .int .i64 a.w] 26) := ⟨_, rfl⟩
  have hB : Below w.heap.size w W := by rw [hW]; exact stepB (below_box _ _) (below_box _ _)
  have HB0 := Lib.hid hB
  have hk : W.cell? ⟨w.heap.size, 0, none⟩ = some (.int .i64 r) ∧ W.cell? ⟨w.heap.size, 1, none⟩ = some (.slice p l.length cap) := by
    rw [hW]
    constructor
    all_goals
      refine kept_cell (below_box _ _) ?_
      simp
  have ha : W.cell? ⟨w.heap.size + 1, 0, none⟩ = some (.int .i64 a.r) ∧ W.cell? ⟨w.heap.size + 1, 1, none⟩ = some (.int .i64 a.c) ∧ W.cell? ⟨w.heap.size + 1, 2, none⟩ = some (.int .i64 a.h) ∧ W.cell? ⟨w.heap.size + 1, 3, none⟩ = some (.int .i64 a.w) := by
    rw [hW]
    have e : (w.alloc (.cells #[.int .i64 r, .slice p l.length cap] 24)).heap.size = w.heap.size + 1 := by simp
    rw [← e]
    refine ⟨?_, ?_, ?_, ?_⟩ <;> simp
  have HK := Lib.hid hk
  have HA := Lib.hid ha
  obtain ⟨b, hb⟩ : ∃ b, b = w.heap.size := ⟨_, rfl⟩
  rw [← hb] at HK HA hk
  obtain ⟨k0, k1⟩ := hk
  clear ha
  cases h1 : Pt.vpat r l ch with
  | false =>
    have HE := Lib.hid (show Pt.eArea r l ch a = 1 by unfold Pt.eArea; rw [h1]; rfl)
    have C1 := Lib.hid (p_Valid_v (cap := cap) (hd.below hB) h1)
    unfold PV at C1 ⊢
    unfold AV
    clear h1 hd hB
    go_enter Tryz.func48, Tryz.ntmps48
    go_upto_region 1 with fail
    rw [← hW, ← hb]
    clear hW hb
    go_wp2_with (first | (go_at_call 9; ((with_reducible refine (C1.out).mono ?_); rintro x' w1 ⟨rfl, hb1⟩)))
    go_ret
    exact ⟨ret_int HE.out.symm, stepB HB0.out hb1⟩
  | true =>
    obtain ⟨R, C, rfl, rfl, g1, g2, g3, g4, -, -⟩ := Pt.vpat_nat h1
    obtain ⟨v, hv⟩ : ∃ v, Pt.awi a R C = v := ⟨_, rfl⟩
    have HE := Lib.hid (show Pt.eArea R l C a = if v then 0 else 5 by unfold Pt.eArea; rw [h1, hv]; rfl)
    have C1 := Lib.hid (p_Valid_v (cap := cap) (hd.below hB) h1)
    have C2 := Lib.hid (fun u => p_areaIn_v (w := u) g1 g2 g3 g4 hv)
    unfold PV at C1 ⊢
    unfold AV at C2 ⊢
    clear h1 hd hB hv
    cases v
    all_goals
      go_enter Tryz.func48, Tryz.ntmps48
      go_upto_region 1 with fail
      rw [← hW, ← hb]
      clear hW hb
      go_wp2_with (first | (go_at_call 9; ((with_reducible refine (C1.out).mono ?_); rintro x' w1 ⟨rfl, hb1⟩; have HB1 := Lib.hid hb1; clear hb1 k0 k1; obtain ⟨k0, k1⟩ := (show w1.cell? _ = _ ∧ w1.cell? _ = _ from ⟨kept_cell HB1.out HK.out.1, kept_cell HB1.out HK.out.2⟩); obtain ⟨a0, a1, a2, a3⟩ := (show w1.cell? _ = _ ∧ w1.cell? _ = _ ∧ w1.cell? _ = _ ∧ w1.cell? _ = _ from ⟨kept_cell HB1.out HA.out.1, kept_cell HB1.out HA.out.2.1, kept_cell HB1.out HA.out.2.2.1, kept_cell HB1.out HA.out.2.2.2⟩))) | (go_at_call 66; ((with_reducible refine (C2.out _).mono ?_); rintro x' w2 ⟨rfl, hb2⟩)))
      go_ret
      exact ⟨ret_int HE.out.symm, stepB (stepB HB0.out HB1.out) hb2⟩

theorem cc_rep : ∀ n : Nat, cc (List.replicate n Pt.zc) = List.replicate (n * 6) (.int .i64 0)
  | 0 => rfl
  | n + 1 => by rw [List.replicate_succ, cc_cons, cc_rep n, show (n + 1) * 6 = n * 6 + 1 + 1 + 1 + 1 + 1 + 1 by omega]; rfl
theorem made_cells (n : Nat) : (madeCells (Value.agg #[.int .i64 0, .int .i64 0, .int .i64 0, .int .i64 0, .int .i64 0, .int .i64 0]).cells (n * 6)).toList = cc (List.replicate n Pt.zc) := by
  rw [cc_rep]
  apply List.ext_getElem
  · simp [madeCells]
  · intro i h1 h2
    have : i % 6 = 0 ∨ i % 6 = 1 ∨ i % 6 = 2 ∨ i % 6 = 3 ∨ i % 6 = 4 ∨ i % 6 = 5 := by omega
    rcases this with e | e | e | e | e | e <;> simp [madeCells, Value.cells, e]
theorem grown_base {w w' : World} {B : Nat} {v : Value} (h : w.grownBy w' v.ownBlock) (hv : ∀ k, v.ownBlock = some k → B ≤ k) (hB : B ≤ w.heap.size) : Below B w w' :=
  ⟨h.os, h.tape, h.output, h.size, fun k hk => h.block k (Nat.lt_of_lt_of_le hk hB) (fun e => by have := hv k e.symm; omega)⟩
/-- What a row of one's own says: the value, where it lies. -/
theorem rows_own {w : World} {B n : Nat} {e : TypeId} {v : Value} {l : List Pt.Cl} (h : w.ownsRow B e 6 v n (cc l)) (hn : l.length = n) : ∃ p cap, v = .slice p l.length cap ∧ l.length ≤ cap ∧ Own w B p l := by
  rcases h.2 with ⟨rfl, hz⟩ | ⟨g, cap, cur, rfl, hb, hg, h1, h2, h3, h4⟩
  · have : l = [] := List.eq_nil_of_length_eq_zero (by omega)
    subst this
    exact ⟨none, 0, rfl, Nat.le_refl _, .inl rfl⟩
  · refine ⟨_, cap, by rw [hn], by omega, .inr ⟨g, rfl, hb, (Array.getElem?_eq_some_iff.1 hg).1, ?_, ?_⟩⟩
    · intro j u hu
      have := World.ownsRow.cells h (g := g) rfl j u hu
      rwa [Addr.add_mid] at this
    · intro j hj
      obtain ⟨u, hu⟩ : ∃ u, (cc l)[j]? = some u := ⟨_, List.getElem?_eq_getElem (by rw [cc_len]; exact hj)⟩
      have := World.ownsRow.cells h (g := g) rfl j u hu
      rw [Addr.add_mid] at this
      exact ⟨by rw [this]; rfl, by simp [World.frozen?, hg]⟩
/-- What a call hands back: these cells, in memory of their own. -/
def RetL (l : List Pt.Cl) (B : Nat) (x : Ending) (w' : World) : Prop := ∃ p cap, x = .returned (.slice p l.length cap) ∧ l.length ≤ cap ∧ Own w' B p l
def RetP (r : Int) (l : List Pt.Cl) (B : Nat) (x : Ending) (w' : World) : Prop := ∃ p cap, x = .returned (PV r p l.length cap) ∧ l.length ≤ cap ∧ Own w' B p l
theorem retl_row {w : World} {B n : Nat} {e : TypeId} {v : Value} {l : List Pt.Cl} (h : w.ownsRow B e 6 v n (cc l)) (hn : l.length = n) : RetL l B (.returned v) w := by
  obtain ⟨p, cap, rfl, h1, h2⟩ := rows_own h hn
  exact ⟨p, cap, rfl, h1, h2⟩
set_option maxHeartbeats 3200000 in
theorem p_Clone (l : List Pt.Cl) (p : Option Addr) (cap : Nat) (w : World) (hd : CellsAt w p l) (hl : (l.length : Int) ≤ 1024) :
    Calls Tryz.prog 58 #[.slice p l.length cap] w fun x w' => RetL l w.heap.size x w' ∧ Below w.heap.size w w' := by
  have q : ∀ (w : World) (a : Option Addr) (n c n' c' : Nat), (binOp .eql 22 (.slice a n c) (.slice none n' c')).run Tryz.prog w = .ok (.bool a.isNone) w := fun w a n c n' c' => Lib.run_eql_slice_nil w _ _ a n c n' c' Tryz.underlying22
  cases p with
  | none =>
    have h0 : l = [] := by
      rcases hd with h | ⟨b, off, h, _⟩
      · exact h
      · exact absurd h (by simp)
    subst h0
    go_enter Tryz.func58, Tryz.ntmps58
    go_wp2
    go_ret
    exact ⟨⟨none, 0, rfl, Nat.le_refl _, .inl rfl⟩, Below.refl _ _⟩
  | some ad =>
    obtain ⟨i0, hinf, hz0, hz1, hz2⟩ := info_parts Tryz.infoCell
    have HC := Lib.hid (show ∀ j u, (cc l)[j]? = some u → (w.alloc (.cells #[] 28)).cell? (ad.add j) = some u by
      intro j u hu
      rcases hd.below (below_box w (.cells #[] 28)) with rfl | ⟨b, off, hp, _, hc⟩
      · simp [cc] at hu
      · obtain rfl : ad = ⟨b, off, none⟩ := by simpa using hp
        rw [Addr.add_mid]
        exact hc j u hu)
    have hs : w.heap.size ≤ (w.alloc (.cells #[] 28)).heap.size := by simp
    have HS := Lib.hid hs
    have HB := Lib.hid (below_box w (.cells #[] 28))
    have HO := Lib.hid (World.ownsRow_made (base := w.heap.size) (e := 28) (size := 6) w #[] 0 (Nat.le_refl _) (Nat.zero_le _) (by simp))
    have HL := Lib.hid (cc_len l)
    have H1 := Lib.hid (cc_one l)
    clear hd hs
    obtain ⟨n, hn⟩ : ∃ n, l.length = n := ⟨_, rfl⟩
    have HN := Lib.hid hn
    rw [hn] at HL hl ⊢
    clear hn
    go_enter Tryz.func58, Tryz.ntmps58
    go_wp2_with (first | (at_builtin; go_loud (refine wpList_append_own _ rfl (.tmp 5) (.tmp 6) 22 rfl w.heap.size 28 i0 (.agg #[.int .i64 0, .int .i64 0, .int .i64 0, .int .i64 0, .int .i64 0, .int .i64 0]) 6 48 Tryz.underlying22 hinf hz0 hz1 hz2 rfl (by decide) (.slice (some ⟨w.heap.size, 0, none⟩) 0 0) 0 [] rfl HO.out ad n cap (cc l) rfl HL.out HC.out H1.out (by unfold maxLen; omega) (by omega) HS.out ?_; intro v' w3 hown' hgrow _; have hb3 := grown_base hgrow (fun g hg => (World.ownsRow.lt HO.out g hg).1) HS.out; clear hgrow; have HR2 := Lib.hid (show w3.ownsRow w.heap.size 28 6 v' n (cc l) by simpa using hown'); have HB3 := Lib.hid (HB.out.trans hb3); clear hown' hb3)))
    go_ret
    exact ⟨retl_row HR2.out HN.out, HB3.out⟩

/-- A pattern's block, which may be written. -/
def Pb (w : World) (b : Nat) (r : Int) (v : Value) : Prop := w.rangeAt b 0 [.int .i64 r, v] ∧ w.there b 0 2
theorem pb_box (w : World) (r : Int) (v : Value) (t : TypeId) : Pb (w.alloc (.cells #[.int .i64 r, v] t)) w.heap.size r v := ⟨range_box w [.int .i64 r, v] t, there_box w [.int .i64 r, v] t⟩
theorem Pb.lt {w : World} {b : Nat} {r : Int} {v : Value} (h : Pb w b r v) : b < w.heap.size := cell_lt (h.1 0 _ rfl)
theorem Pb.low {w w' : World} {b B : Nat} {r : Int} {v : Value} (h : Pb w b r v) (hb : Below B w w') (hl : b < B) : Pb w' b r v := ⟨range_below h.1 hb hl, there_below h.2 hb hl⟩
theorem Pb.kept {w w' : World} {b : Nat} {r : Int} {v : Value} (h : Pb w b r v) (hb : Below w.heap.size w w') : Pb w' b r v := h.low hb h.lt
theorem Pb.cells {w : World} {b : Nat} {r : Int} {v : Value} (h : Pb w b r v) : w.cell? ⟨b, 0, none⟩ = some (.int .i64 r) ∧ w.cell? ⟨b, 1, none⟩ = some v ∧ w.frozen? ⟨b, 0, none⟩ = false ∧ w.frozen? ⟨b, 1, none⟩ = false := ⟨h.1 0 _ rfl, h.1 1 _ rfl, (h.2 0 (by decide)).2, (h.2 1 (by decide)).2⟩
theorem Pb.set1 {w : World} {b : Nat} {r : Int} {v : Value} (h : Pb w b r v) (u : Value) : Pb (w.setCell ⟨b, 1, none⟩ u) b r u := ⟨by have := range_set_in (p := 1) (v := u) h.1 (by simp); simpa using this, there_set h.2⟩
theorem range_grown {w w' : World} {b c o : Nat} {cs : List Value} (h : w.rangeAt b o cs) (hg : w.grownBy w' (some c)) (hne : b ≠ c) (hl : b < w.heap.size) : w'.rangeAt b o cs := by
  intro j v hv
  rw [World.cell?_of_block (a := ⟨b, o + j, none⟩) (hg.block b hl (by simpa using hne))]
  exact h j v hv
theorem there_grown {w w' : World} {b c o n : Nat} (h : w.there b o n) (hg : w.grownBy w' (some c)) (hne : b ≠ c) (hl : b < w.heap.size) : w'.there b o n := by
  have hb := hg.block b hl (by simpa using hne)
  intro j hj
  rw [World.cell?_of_block (a := ⟨b, o + j, none⟩) hb, World.frozen?_of_block (a := ⟨b, o + j, none⟩) hb]
  exact h j hj
theorem Pb.grown {w w' : World} {b c : Nat} {r : Int} {v : Value} (h : Pb w b r v) (hg : w.grownBy w' (some c)) (hne : b ≠ c) : Pb w' b r v := ⟨range_grown h.1 hg hne h.lt, there_grown h.2 hg hne h.lt⟩
theorem Kr.grown {w w' : World} {g c : Nat} {l : List Pt.Cl} (h : Kr w g l) (hg : w.grownBy w' (some c)) (hne : g ≠ c) : Kr w' g l := ⟨Nat.lt_of_lt_of_le h.1 hg.size, range_grown h.2.1 hg hne h.1, there_grown h.2.2 hg hne h.1⟩
theorem Own.grown {w w' : World} {B c : Nat} {p : Option Addr} {l : List Pt.Cl} (h : Own w B p l) (hg : w.grownBy w' (some c)) (hc : c < B) : Own w' B p l := by
  rcases h with h | ⟨g, hp, hb, h⟩
  · exact .inl h
  · exact .inr ⟨g, hp, hb, h.grown hg (by omega)⟩
theorem pat_one (r : Int) (p : Option Addr) (n cap : Nat) : (#[.int .i64 r, .slice p n cap] : Array Value).all (·.oneCell') = true := by simp [Value.oneCell']
theorem Tryz.infoPat : (Tryz.prog.info? 24).map (·.size) = some 2 := by kernel_rfl
section
variable {ops : Array Oper} {rest : List Oper} {op : Oper} {a : Act} {w : World} {Q : Exit → Act → World → Prop}
/-- A pattern is read whole. -/
theorem ld_pat (hw : Region.wanted op (yielded ops a.tmps) = true) (x : Operand) (ho : op.op = .load 24 x) {b : Nat} (hx : a.eval x = .pointer (some ⟨b, 0, none⟩)) {r : Int} {v : Value} (hr : w.rangeAt b 0 [.int .i64 r, v])
    (h : wpList Tryz.prog ops Q rest (a.put op.dst (.agg #[.int .i64 r, v])) w) : wpList Tryz.prog ops Q (op :: rest) a w := by
  simp only [wpList, hw, if_true]
  exact .inl <| wp_load_mid 24 x ho b 0 hx [.int .i64 r, v] _ hr Tryz.underlying24 rfl Tryz.infoPat h
/-- A pattern is stored whole. -/
theorem st_pat (hw : Region.wanted op (yielded ops a.tmps) = true) (x y : Operand) (ho : op.op = .store 24 x y) {b : Nat} (hx : a.eval x = .pointer (some ⟨b, 0, none⟩)) {r : Int} {p : Option Addr} {n cap : Nat} (hy : a.eval y = .agg #[.int .i64 r, .slice p n cap]) (ht : w.there b 0 2)
    (h : ∀ w', Pb w' b r (.slice p n cap) → w.grownBy w' (some b) → wpList Tryz.prog ops Q rest (a.put op.dst undef) w') : wpList Tryz.prog ops Q (op :: rest) a w := by
  simp only [wpList, hw, if_true]
  refine .inl <| wp_store_mid 24 x y ho b 0 #[.int .i64 r, .slice p n cap] hx hy ht Tryz.infoPat (pat_one r p n cap) ?_
  exact h _ ⟨World.rangeAt_setCells_same w b 0 _ ht, World.there_setCells ht b 0 _⟩ (grown_setCells b _ 0 w)
end
theorem res_p {fn : Func} {q : Tmp} (hf : fn.results = #[.cell q 24]) {tmps : Array Value} {w : World} {b : Nat} (hp : tmps.getD q undef = .pointer (some ⟨b, 0, none⟩)) {r : Int} {v : Value} (h : w.rangeAt b 0 [.int .i64 r, v]) :
    (results fn tmps).run Tryz.prog w = .ok (.agg #[.int .i64 r, v]) w := by
  simp only [results, hf]
  have hp' : tmps[q]?.getD undef = .pointer (some ⟨b, 0, none⟩) := by simpa using hp
  simp [hp', asAddr, run_loadVar_mid w b 0 24 [.int .i64 r, v] _ h Tryz.underlying24 rfl Tryz.infoPat]
theorem res_pe {fn : Func} {q u : Tmp} (hf : fn.results = #[.cell q 24, .tmp u]) {tmps : Array Value} {w : World} {b : Nat} (hp : tmps.getD q undef = .pointer (some ⟨b, 0, none⟩)) {r : Int} {v x : Value} (h : w.rangeAt b 0 [.int .i64 r, v]) (hv : tmps.getD u undef = x) :
    (results fn tmps).run Tryz.prog w = .ok (.tuple #[.agg #[.int .i64 r, v], x]) w := by
  rw [results_cell_tmp hf, hp, hv]
  simp [Result.andThen, asAddr, run_loadVar_mid w b 0 24 [.int .i64 r, v] _ h Tryz.underlying24 rfl Tryz.infoPat]
set_option maxHeartbeats 1600000 in
theorem p_clone (r : Int) (l : List Pt.Cl) (p : Option Addr) (cap : Nat) (w : World) (hd : CellsAt w p l) (hl : (l.length : Int) ≤ 1024) :
    Calls Tryz.prog 46 #[PV r p l.length cap] w fun x w' => RetP r l w.heap.size x w' ∧ Below w.heap.size w w' := by
  obtain ⟨V, hV⟩ : ∃ V, V = w.alloc (.cells #[.int .i64 r, .slice p l.length cap] 24) := ⟨_, rfl⟩
  obtain ⟨W, hW⟩ : ∃ W, W = V.alloc (.cells #[.int .i64 0, .slice none 0 0] 24) := ⟨_, rfl⟩
  have v1 : Below w.heap.size w V := by rw [hV]; exact below_box _ _
  have v2 : Below V.heap.size V W := by rw [hW]; exact below_box _ _
  have s1 : V.heap.size = w.heap.size + 1 := by rw [hV]; simp
  have s2 : W.heap.size = w.heap.size + 2 := by rw [hW]; simp [s1]
  have hk : Pb W w.heap.size r (.slice p l.length cap) := (show Pb V _ _ _ by rw [hV]; exact pb_box _ _ _ _).kept v2
  have hq : Pb W (w.heap.size + 1) 0 (.slice none 0 0) := by rw [hW, ← s1]; exact pb_box _ _ _ _
  have HB := Lib.hid (stepB v1 v2)
  have C1 := Lib.hid (p_Clone l p cap W (hd.below (stepB v1 v2)) hl)
  have HZ := Lib.hid s2
  obtain ⟨b, hb⟩ : ∃ b, b = w.heap.size := ⟨_, rfl⟩
  rw [← hb] at hk hq HZ s1
  have HK := Lib.hid hk
  have HQ := Lib.hid hq
  have HBE := Lib.hid hb
  have ⟨k0, k1, k2, k3⟩ := hk.cells
  unfold PV
  clear hd v1 v2 s2 hk hq
  go_enter Tryz.func46, Tryz.ntmps46
  go_upto_region 1 with fail
  rw [← hV, ← hW, ← hb, ← s1]
  clear hW hV hb
  go_wp2_with (first | (go_at_call 58; ((with_reducible refine (C1.out).mono ?_); rintro x' w1 ⟨⟨q, cap', rfl, hc1, ho1⟩, hb1⟩; have HB1 := Lib.hid hb1; have HO1 := Lib.hid ho1; have HC1 := Lib.hid hc1; have HK1 := Lib.hid (HK.out.kept hb1); have HQ1 := Lib.hid (HQ.out.kept hb1); clear hc1 ho1 hb1 k0 k1 k2 k3; obtain ⟨k0, k1, k2, k3⟩ := HK1.out.cells)) | (refine ld_pat (by rfl) _ rfl rfl (HK1.out.set1 _).1 ?_) | ((refine st_pat (by rfl) _ _ rfl rfl rfl (HQ1.out.grown (grown_set _ _ _ _) (by omega)).2 ?_); intro w2 h2 g2; have H2 := Lib.hid h2; have G2 := Lib.hid g2; clear h2 g2))
  refine bodyPost_ret (res_p rfl rfl H2.out.1) rfl ⟨⟨q, cap', rfl, HC1.out, ?_⟩, ?_⟩
  · have e : w.heap.size ≤ W.heap.size := HB.out.size
    refine ((HO1.out.grown (grown_set _ _ _ _) (c := b) ?_).grown G2.out ?_).mono e
    all_goals
      have := HZ.out
      omega
  · have e1 := HBE.out
    have e2 := HZ.out
    have e3 := HB1.out.size
    refine grown_at ((stepB HB.out HB1.out).setCell (p := ⟨b, 1, none⟩) (by show w.heap.size ≤ b; omega) _) (by omega) (by simp; omega) G2.out
set_option maxHeartbeats 1600000 in
theorem p_blank (R C : Nat) (w : World) (hn : R * C ≤ 1024) :
    Calls Tryz.prog 44 #[.int .i64 R, .int .i64 C] w fun x w' => RetP R (List.replicate (R * C) Pt.zc) w.heap.size x w' ∧ Below w.heap.size w w' := by
  obtain ⟨i0, hinf, hz0, hz1, hz2⟩ := info_parts Tryz.infoCell
  obtain ⟨W, hW⟩ : ∃ W, W = w.alloc (.cells #[.int .i64 0, .slice none 0 0] 24) := ⟨_, rfl⟩
  have HB := Lib.hid (show Below w.heap.size w W by rw [hW]; exact below_box _ _)
  have HZ := Lib.hid (show W.heap.size = w.heap.size + 1 by rw [hW]; simp)
  have HQ := Lib.hid (show Pb W w.heap.size 0 (.slice none 0 0) by rw [hW]; exact pb_box _ _ _ _)
  obtain ⟨n, hn0⟩ : ∃ n, R * C = n := ⟨_, rfl⟩
  have hm : (R : Int) * (C : Int) = (n : Int) := by rw [← hn0, Int.natCast_mul]
  rw [hn0] at hn ⊢
  have hn1 : (n : Int) ≤ 1024 := by omega
  obtain ⟨b, hb⟩ : ∃ b, b = w.heap.size := ⟨_, rfl⟩
  rw [← hb] at HZ HQ
  have HBE := Lib.hid hb
  clear hn0 hn
  go_enter Tryz.func44, Tryz.ntmps44
  go_upto_region 1 with fail
  rw [← hW, ← hb]
  clear hW hb
  go_wp2_with (first | (at_make; go_loud (refine wpList_make_full _ rfl _ _ 22 rfl W.heap.size 28 i0 (.agg #[.int .i64 0, .int .i64 0, .int .i64 0, .int .i64 0, .int .i64 0, .int .i64 0]) 6 Tryz.underlying22 hinf hz0 hz1 .i64 .i64 _ _ n rfl rfl rfl rfl (by rw [hz2]; omega) (by unfold maxLen; omega) (Nat.le_refl _) ?_; intro w3 hown3 hgrow3; have HR3 := Lib.hid (show w3.ownsRow W.heap.size 28 6 (.slice (some ⟨W.heap.size, 0, none⟩) n n) n (cc (List.replicate n Pt.zc)) by rw [← made_cells]; exact hown3); have HB3 := Lib.hid (grown_below hgrow3); clear hown3 hgrow3)) | ((refine st_pat (by rfl) _ _ rfl rfl rfl (HQ.out.kept HB3.out).2 ?_); intro w2 h2 g2; have H2 := Lib.hid h2; have G2 := Lib.hid g2; clear h2 g2))
  obtain ⟨q, cap, e, h1, h2⟩ := rows_own HR3.out (by simp)
  have e1 := HBE.out
  have e2 := HZ.out
  have e3 := HB3.out.size
  have e4 := HB.out.size
  refine bodyPost_ret (res_p rfl rfl H2.out.1) rfl ⟨⟨q, cap, by rw [e]; rfl, h1, (h2.grown G2.out (by omega)).mono e4⟩, grown_at (stepB HB.out HB3.out) (by omega) (by omega) G2.out⟩
set_option maxHeartbeats 1600000 in
theorem p_line (R0 C0 W0 i C F M : Nat) (h r : Int) (b off n cap : Nat) (w : World) (hM : (R0 + i) * C = M) (hF : M + C0 = F) (hr : R0 + i ≤ 1000) (hw : 1 ≤ W0) (hn : F + W0 ≤ n) (hc : n ≤ cap) (hb : n ≤ 1024) :
    Calls Tryz.prog 49 #[.agg #[.int .i64 R0, .int .i64 C0, .int .i64 h, .int .i64 W0], .agg #[.int .i64 r, .slice (some ⟨b, off, none⟩) n cap], .int .i64 C, .int .i64 i] w fun x w' => x = .returned (.slice (some ⟨b, off + F * 6, none⟩) W0 (cap - F)) ∧ Below w.heap.size w w' := by
  have hM' : ((R0 : Int) + (i : Int)) * (C : Int) = (M : Int) := by rw [← hM, Int.natCast_mul, Int.natCast_add]
  have hF' : (M : Int) + (C0 : Int) = (F : Int) := by omega
  have m1 : (M : Int) ≤ 1024 := by omega
  have m2 : (F : Int) ≤ 1024 := by omega
  have m3 : (W0 : Int) ≤ 1024 := by omega
  have m4 : (R0 : Int) + (i : Int) ≤ 1000 := by omega
  have m5 : (C0 : Int) ≤ 1024 := by omega
  have m6 : F ≤ cap := by omega
  have m7 : F + W0 ≤ cap := by omega
  have m8 : ¬ cap = F := by omega
  clear hM hF hr hn hb
  go_enter Tryz.func49, Tryz.ntmps49
  go_wp2
  go_ret
  exact ⟨by show Ending.returned (.slice _ (F + W0 - F) _) = _; rw [Nat.add_sub_cancel_left], stepB (below_box _ _) (below_box _ _)⟩

/-- A list with another one laid over it. -/
def lay (L : List Pt.Cl) (i : Nat) (m : List Pt.Cl) : List Pt.Cl := L.take i ++ (m ++ L.drop (i + m.length))
theorem lay_len {L : List Pt.Cl} {i : Nat} {m : List Pt.Cl} (h : i + m.length ≤ L.length) : (lay L i m).length = L.length := by simp [lay]; omega
theorem lay_at {L : List Pt.Cl} {i : Nat} {m : List Pt.Cl} (h : i + m.length ≤ L.length) (k : Nat) : Pt.at' (lay L i m) k = if i ≤ k ∧ k < i + m.length then Pt.at' m (k - i) else Pt.at' L k := by
  unfold lay
  have e : (L.take i).length = i := by simp; omega
  rw [Pt.at_app, Pt.at_app, e]
  by_cases h1 : k < i
  · rw [if_pos h1, if_neg (by omega), Pt.at_take _ _ _ h1]
  · rw [if_neg h1]
    by_cases h2 : k - i < m.length
    · rw [if_pos h2, if_pos (by omega)]
    · rw [if_neg h2, if_neg (by omega), Pt.at_drop]
      congr 1
      omega
theorem rng_take {w : World} {b o : Nat} {m : List Pt.Cl} (h : w.rangeAt b o (cc m)) : ∀ j v, (cc m)[j]? = some v → w.cell? ((⟨b, o, none⟩ : Addr).add j) = some v := fun j v hv => by rw [Addr.add_mid]; exact h j v hv
theorem Kr.lay {w : World} {g i : Nat} {L m : List Pt.Cl} (h : Kr w g L) (hi : i + m.length ≤ L.length) : Kr (w.setCells g (i * 6) (cc m)) g (lay L i m) := by
  have ht : w.there g (i * 6) (cc m).length := by
    intro j hj
    rw [cc_len] at hj
    have := h.2.2 (i * 6 + j) (by omega)
    rwa [Nat.zero_add] at this
  have hs := World.rangeAt_setCells_same w g (i * 6) (cc m) ht
  refine h.mk' (lay_len hi) (grown_setCells g _ _ w) (fun k hk => ?_) (World.there_setCells h.2.2 g _ _)
  rw [lay_at hi]
  by_cases e : i ≤ k ∧ k < i + m.length
  · rw [if_pos e]
    have := rng_of hs (i := k - i) (by omega)
    rwa [show i * 6 + (k - i) * 6 = k * 6 by omega] at this
  · rw [if_neg e]
    exact World.rangeAt_setCells_apart (h.one hk) g _ (cc m) (.inr (by simp only [cl_len, cc_len]; omega))
theorem Kr.there {w : World} {g i n : Nat} {L : List Pt.Cl} (h : Kr w g L) (hi : i + n ≤ L.length) : w.there g (i * 6) (n * 6) := by
  intro j hj
  have := h.2.2 (i * 6 + j) (by omega)
  rwa [Nat.zero_add] at this
theorem run_copy_cells (w : World) (ty : TypeId) (g o dLen dCap : Nat) (dp sp : Option Addr) (sLen sCap : Nat) (m : List Pt.Cl) (hn : m.length = Nat.min sLen dLen)
    (hpos : 0 < m.length → dp = some ⟨g, o, none⟩ ∧ w.there g o (m.length * 6) ∧ ∃ b off, sp = some ⟨b, off, none⟩ ∧ w.rangeAt b off (cc m)) :
    (Builtin.copy_ #[22, 22] ty #[.slice dp dLen dCap, .slice sp sLen sCap]).run Tryz.prog w = .ok (goInt m.length) (w.setCells g o (cc m)) := by
  have hs := Tryz.infoCellSize
  cases hq : Tryz.prog.info? 28 with
  | none => simp [hq] at hs
  | some i =>
    have hsz : i.size = 6 := by simpa [hq] using hs
    by_cases h0 : m.length = 0
    · obtain rfl : m = [] := List.eq_nil_of_length_eq_zero h0
      have hz : Nat.min sLen dLen = 0 := by rw [← hn]; rfl
      have hl : ∀ (x : Addr), (loadCells x 0).run Tryz.prog w = .ok #[] w := fun x => by simpa using run_loadCells_list (P := Tryz.prog) w x [] (by simp)
      cases dp <;> cases sp <;> simp [Builtin.copy_, run_underlying Tryz.underlying22, Builtin.lenOf, Builtin.firstCells, sizeOf, typeInfo, hq, hz, storeCells, hl, cc, World.setCells]
    · obtain ⟨rfl, ht, b, off, rfl, hr⟩ := hpos (by omega)
      have hl := run_loadCells_list (P := Tryz.prog) w ⟨b, off, none⟩ (cc m) (rng_take hr)
      have hst := run_storeCells_cells (P := Tryz.prog) g o (cc m) 0 w (fun j hj => (ht j (by rw [cc_len] at hj; exact hj)).1) (fun j hj => (ht j (by rw [cc_len] at hj; exact hj)).2) (cc_one m)
      rw [cc_len] at hl
      simp [Builtin.copy_, run_underlying Tryz.underlying22, Builtin.lenOf, Builtin.firstCells, sizeOf, typeInfo, hq, hsz, ← hn, hl, hst, Result.andThen]
theorem run_clear_cells (w : World) (ty : TypeId) (g o n cap : Nat) (ht : w.there g o (n * 6)) :
    (Builtin.clear_ #[22] ty #[.slice (some ⟨g, o, none⟩) n cap]).run Tryz.prog w = .ok (.tuple #[]) (w.setCells g o (cc (List.replicate n Pt.zc))) := by
  have hz := made_cells n
  have e : (Builtin.zeroCells (Value.agg #[.int .i64 0, .int .i64 0, .int .i64 0, .int .i64 0, .int .i64 0, .int .i64 0]).cells n).toList = cc (List.replicate n Pt.zc) := hz
  obtain ⟨i0, hinf, hz0, -, -⟩ := info_parts Tryz.infoCell
  have ht' : ∀ j, j < (cc (List.replicate n Pt.zc)).length → (w.cell? ⟨g, o + 0 + j, none⟩).isSome = true ∧ w.frozen? ⟨g, o + 0 + j, none⟩ = false := fun j hj => by
    rw [cc_len, List.length_replicate] at hj
    exact ht j hj
  have hst := run_storeCells_cells (P := Tryz.prog) g o (cc (List.replicate n Pt.zc)) 0 w (fun j hj => (ht' j hj).1) (fun j hj => (ht' j hj).2) (cc_one _)
  cases n with
  | zero => simp [Builtin.clear_, run_underlying Tryz.underlying22, cc, World.setCells]
  | succ n => simp [Builtin.clear_, run_underlying Tryz.underlying22, zeroValue, typeInfo, hinf, hz0, e, hst, Result.andThen]
section
variable {ops : Array Oper} {rest : List Oper} {o : Oper} {a : Act} {w : World} {Q : Exit → Act → World → Prop} {K : Act → World → Prop}
/-- The builtin copy at cells, as one step. -/
theorem wp_copy_cells (x y : Operand) (ho : o.op = .call { callee := .builtin .copy, args := #[x, y], argTypes := #[22, 22] })
    (g off dLen dCap : Nat) (dp sp : Option Addr) (sLen sCap : Nat) (hd : a.eval x = .slice dp dLen dCap) (hs : a.eval y = .slice sp sLen sCap) (m : List Pt.Cl) (hn : m.length = Nat.min sLen dLen)
    (hpos : 0 < m.length → dp = some ⟨g, off, none⟩ ∧ w.there g off (m.length * 6) ∧ ∃ b f, sp = some ⟨b, f, none⟩ ∧ w.rangeAt b f (cc m))
    (h : ∀ w', w' = w.setCells g off (cc m) → K (a.put o.dst (goInt m.length)) w') : o.wp Tryz.prog a w K Q := by
  have hrun := run_copy_cells w o.type g off dLen dCap dp sp sLen sCap m hn hpos
  unfold Oper.wp execOp
  simp [ho, resolve, invoke, builtin, hd, hs, hrun, Result.andThen]
  exact h _ rfl
theorem wpList_copy_cells (hgd : o.guard = none) (x y : Operand) (ho : o.op = .call { callee := .builtin .copy, args := #[x, y], argTypes := #[22, 22] })
    (g off dLen dCap : Nat) (dp sp : Option Addr) (sLen sCap : Nat) (hd : a.eval x = .slice dp dLen dCap) (hs : a.eval y = .slice sp sLen sCap) (m : List Pt.Cl) (hn : m.length = Nat.min sLen dLen)
    (hpos : 0 < m.length → dp = some ⟨g, off, none⟩ ∧ w.there g off (m.length * 6) ∧ ∃ b f, sp = some ⟨b, f, none⟩ ∧ w.rangeAt b f (cc m))
    (h : ∀ w', w' = w.setCells g off (cc m) → wpList Tryz.prog ops Q rest (a.put o.dst (goInt m.length)) w') : wpList Tryz.prog ops Q (o :: rest) a w :=
  wpList_plain hgd fun _ hK => wp_copy_cells x y ho g off dLen dCap dp sp sLen sCap hd hs m hn hpos fun w' e => hK _ _ (h w' e)
end
theorem grownBy_trans {w w1 w2 : World} {g : Option Nat} (h1 : w.grownBy w1 g) (h2 : w1.grownBy w2 g) : w.grownBy w2 g :=
  ⟨h2.os.trans h1.os, h2.tape.trans h1.tape, h2.output.trans h1.output, Nat.le_trans h1.size h2.size, fun k hk hne => (h2.block k (Nat.lt_of_lt_of_le hk h1.size) hne).trans (h1.block k hk hne)⟩
theorem grownBy_of {w w1 : World} {g : Option Nat} (h : Below w.heap.size w w1) : w.grownBy w1 g := ⟨h.os, h.tape, h.output, h.size, fun k hk _ => h.block k hk⟩
theorem grownBy_refl (w : World) (g : Option Nat) : w.grownBy w g := ⟨rfl, rfl, rfl, Nat.le_refl _, fun _ _ _ => rfl⟩
/-- What is kept where only block g is written. -/
theorem cell_grown {w w' : World} {g : Nat} {a : Addr} {v : Value} (hg : w.grownBy w' (some g)) (h : w.cell? a = some v) (hne : a.block ≠ g) : w'.cell? a = some v := by
  rw [World.cell?_of_block (hg.block a.block (cell_lt h) (by simpa using hne))]
  exact h
end Go.Proofs.YtfjfnbeegojlbaaGreat

/-
  The law InstCircles where the envelope counts: it returns true; nothing that was there is changed.
-/
import Derived.Test.YtcchfahdgmcpbaaPCircA
import Derived.Test.YtcchfahdgmcpbaaPCrv
import Derived.Test.YtcchfahdgmcpbaaLex
import Derived.Test.YtcchfahdgmcpbaaBits
import Derived.Deep.DeepCutAuto
import Derived.Deep.CutBlock
namespace Go.Proofs.Ytcchfahdgmcpbaa
open Go.RowKit

theorem row_slice {w : World} {B n : Nat} {e : TypeId} {v : Value} {xs : List Value} (h : w.ownsRow B e 1 v n xs) : ∃ p cap, v = .slice p n cap := by
  rcases h.2 with ⟨rfl, rfl⟩ | ⟨g, cap, cur, rfl, _⟩
  · exact ⟨_, _, rfl⟩
  · exact ⟨_, _, rfl⟩
theorem row_at {w : World} {B n cap : Nat} {e : TypeId} {p : Option Addr} {xs : List Value} (h : w.ownsRow B e 1 (.slice p n cap) n xs) (hn : 0 < n) : ∃ g, p = some ⟨g, 0, none⟩ := by
  rcases h.2 with ⟨he, rfl⟩ | ⟨g, cap, cur, he, _⟩
  · exact absurd hn (by omega)
  · exact ⟨g, by injection he⟩
theorem row_cell {w : World} {B n g cap : Nat} {e : TypeId} {l : List Int} (h : w.ownsRow B e 1 (.slice (some ⟨g, 0, none⟩) n cap) l.length (l.map (Value.int .i64))) {k : Nat} (hk : k < l.length) : w.cell? ⟨g, k, none⟩ = some (.int .i64 (l.getD k 0)) := by
  rcases h.2 with ⟨he, _⟩ | ⟨g', cap', cur, he, _⟩
  · cases he
  · obtain rfl : n = l.length := by injection he
    have := h.cellAt k (by omega)
    rw [this]
    simp [List.getD_eq_getElem?_getD, hk]
theorem ix_of {e : In.Env} (hv : In.lv e = true) : (e.sus = true → ∃ j : Nat, e.se = (j : Int) ∧ j < e.pts.length) ∧ (e.lp = true → ∃ j : Nat, e.le = (j : Int) ∧ j < e.pts.length) := by
  simp only [In.lv, Bool.and_eq_true] at hv
  obtain ⟨_, _, _, h4, h5⟩ := In.vld_parts hv.2
  refine ⟨fun hs => ?_, fun hs => ?_⟩
  · rw [hs] at h4
    simp only [In.cok, if_true, decide_eq_true_eq] at h4
    exact ⟨e.se.toNat, by omega, by omega⟩
  · rw [hs] at h5
    simp only [In.cok, if_true, decide_eq_true_eq] at h5
    exact ⟨e.le.toNat, by omega, by omega⟩
theorem circle_parts (h s l : Bool) : (h = true ∧ s = true) ∨ (h = false ∧ l = true) ∨ (h = true ∧ s = false ∧ l = true) ∨ (h = false ∧ l = false) ∨ (h = true ∧ s = false ∧ l = false) := by
  cases h <;> cases s <;> cases l <;> simp
theorem ovr_circle (l t : Int) : In.ovr true l t = false := rfl
theorem keepT {W w' : World} {b : Nat} {x : In.Ask} {p : Option Addr} {cap : Nat} (h : Hid (Two W b x p cap)) (hb : Below W.heap.size W w') : Below W.heap.size W w' ∧ w'.cell? ⟨b + 1, 0, none⟩ = some (.bool x.e.on) ∧ w'.cell? ⟨b + 1, 1, none⟩ = some (.slice p x.e.pts.length cap) ∧ w'.cell? ⟨b + 1, 2, none⟩ = some (.bool x.e.sus) ∧ w'.cell? ⟨b + 1, 3, none⟩ = some (.int .i64 x.e.ss) ∧ w'.cell? ⟨b + 1, 4, none⟩ = some (.int .i64 x.e.se) ∧ w'.cell? ⟨b + 1, 5, none⟩ = some (.bool x.e.lp) ∧ w'.cell? ⟨b + 1, 6, none⟩ = some (.int .i64 x.e.ls) ∧ w'.cell? ⟨b + 1, 7, none⟩ = some (.int .i64 x.e.le) ∧ w'.cell? ⟨b, 12, none⟩ = some (.int .i64 x.r) ∧ w'.cell? ⟨b, 13, none⟩ = some (.int .i64 x.o) := by
  obtain ⟨⟨y0, y1, y2, y3, y4, y5, y6, y7, y8, y9, y10, y11, y12, y13, y14⟩, ⟨x0, x1, x2, x3, x4, x5, x6, x7⟩, _⟩ := h.out.kept hb
  exact ⟨hb, x0, x1, x2, x3, x4, x5, x6, x7, y12, y13⟩
theorem row_base {w : World} {B C n : Nat} {e : TypeId} {v : Value} {xs : List Value} (h : w.ownsRow B e 1 v n xs) (hc : C ≤ B) : w.ownsRow C e 1 v n xs := by
  refine ⟨h.1, ?_⟩
  rcases h.2 with h | ⟨g, cap, cur, hv, hb, hr⟩
  · exact .inl h
  · exact .inr ⟨g, cap, cur, hv, Nat.le_trans hc hb, hr⟩
theorem row_cellm {w : World} {B n g cap : Nat} {e : TypeId} {l : List Int} (h : w.ownsRow B e 1 (.slice (some ⟨g, 0, none⟩) n cap) n (l.map (Value.int .i64))) (hl : l.length = n) {k : Nat} (hk : k < n) : w.cell? ⟨g, k, none⟩ = some (.int .i64 (l.getD k 0)) := by
  subst hl
  exact row_cell h hk
theorem reti_open {l : List Int} {B : Nat} {e : Ending} {w' : World} (h : RetI l B e w') {m : Nat} (hm : l.length = m) : ∃ p cap, e = .returned (.slice p m cap) ∧ w'.ownsRow B 3 1 (.slice p m cap) m (l.map (Value.int .i64)) := by
  obtain ⟨v, rfl, h⟩ := h
  obtain ⟨p, cap, rfl⟩ := row_slice h
  subst hm
  exact ⟨p, cap, rfl, h⟩
set_option maxRecDepth 100000 in
set_option maxHeartbeats 3200000 in
theorem circles_live (on : Bool) (pts : List (Int × Int)) (sus : Bool) (ss se : Int) (lp : Bool) (ls le : Int) (lo hi t n r o : Int) (h : Bool) (p : Option Addr) (cap : Nat) (w : World) (hd : PtsAt w p pts) (hc : pts.length ≤ cap) (hon : on = true) (hv : In.lv (⟨on, pts, sus, ss, se, lp, ls, le⟩ : In.Env) = true) :
    Calls Try.prog 4 #[AV (⟨⟨on, pts, sus, ss, se, lp, ls, le⟩, lo, hi, t, n, r, o, h⟩ : In.Ask) p cap] w fun z w' => z = .returned (.bool true) ∧ Below w.heap.size w w' := by
  obtain ⟨W, hW⟩ : ∃ W, W = ((w.alloc (.cells #[.bool on, .slice p pts.length cap, .bool sus, .int .i64 ss, .int .i64 se, .bool lp, .int .i64 ls, .int .i64 le, .int .i64 lo, .int .i64 hi, .int .i64 t, .int .i64 n, .int .i64 r, .int .i64 o, .bool h] 26)).alloc (.cells #[.bool on, .slice p pts.length cap, .bool sus, .int .i64 ss, .int .i64 se, .bool lp, .int .i64 ls, .int .i64 le] 24)) := ⟨_, rfl⟩
  have hWb : Below w.heap.size w W := by rw [hW]; exact stepB (below_box _ _) (below_box _ _)
  obtain ⟨b, hbe⟩ : ∃ b, b = w.heap.size := ⟨_, rfl⟩
  have HT := Lib.hid (show Two W b (⟨⟨on, pts, sus, ss, se, lp, ls, le⟩, lo, hi, t, n, r, o, h⟩ : In.Ask) p cap by rw [hW, hbe]; exact two_new w (⟨⟨on, pts, sus, ss, se, lp, ls, le⟩, lo, hi, t, n, r, o, h⟩ : In.Ask) p cap hd)
  have HWb := Lib.hid hWb
  have HB0 := Lib.hid (Below.refl W.heap.size W)
  have ha := In.lv_asc hv
  have h16 := In.lv_len hv
  have hp := ha.pos
  dsimp only at hp h16
  have C1 := Lib.hid (fun u (hu : Below W.heap.size W u) => onW hu (p_venv_v (⟨on, pts, sus, ss, se, lp, ls, le⟩ : In.Env) p cap (-64) 64 u (HT.out.kept hu).pts (show In.vld (⟨on, pts, sus, ss, se, lp, ls, le⟩ : In.Env) (-64) 64 = true by have := hv; unfold In.lv at this; rw [hon] at this ⊢; simpa using this)))
  have C2 := Lib.hid (fun u (hu : Below W.heap.size W u) => onW hu (p_Value_v (⟨on, pts, sus, ss, se, lp, ls, le⟩ : In.Env) p cap t u (HT.out.kept hu).pts hc (show In.valueOf (⟨on, pts, sus, ss, se, lp, ls, le⟩ : In.Env) t = In.val pts t by unfold In.valueOf; rw [if_pos hv])))
  have C3 := Lib.hid (fun u (hu : Below W.heap.size W u) => onW hu (p_After_v (⟨on, pts, sus, ss, se, lp, ls, le⟩ : In.Env) p cap t h u (HT.out.kept hu).pts (show In.afterOf (⟨on, pts, sus, ss, se, lp, ls, le⟩ : In.Env) t h = In.after (⟨on, pts, sus, ss, se, lp, ls, le⟩ : In.Env) t h by unfold In.afterOf; rw [if_pos hv])))
  have C4 := Lib.hid (fun u (hu : Below W.heap.size W u) => onW hu (p_Over_v (⟨on, pts, sus, ss, se, lp, ls, le⟩ : In.Env) p cap t h u (HT.out.kept hu).pts (show In.overOf (⟨on, pts, sus, ss, se, lp, ls, le⟩ : In.Env) t h = In.ovr (In.cT (⟨on, pts, sus, ss, se, lp, ls, le⟩ : In.Env) h) (In.lst (⟨on, pts, sus, ss, se, lp, ls, le⟩ : In.Env)) t by unfold In.overOf; rw [hv]; rfl)))
  have C5 := Lib.hid (fun u (hu : Below W.heap.size W u) => onW hu (p_awake u))
  have HV := Lib.hid hv
  have HA := Lib.hid ha
  have HC := Lib.hid hc
  obtain ⟨v, hve⟩ : ∃ v, In.val pts t = v := ⟨_, rfl⟩
  have HVB := Lib.hid (fun k h1 h2 h3 => hve ▸ In.val_between ha (k := k) h1 (t := t) h2 h3)
  rw [hve] at C2
  clear hve hWb hv hd hc ha
  subst hon
  unfold EV at C1 C2 C3 C4
  unfold AV
  dsimp only
  obtain ⟨⟨y0, y1, y2, y3, y4, y5, y6, y7, y8, y9, y10, y11, y12, y13, y14⟩, ⟨x0, x1, x2, x3, x4, x5, x6, x7⟩, _⟩ := HT.out
  go_enter Try.func4, Try.ntmps4
  go_upto_region 2 with fail
  rw [← hW, ← hbe]
  clear hW hbe
  go_wp2_with (first | (go_at_call 7; ((with_reducible refine (C1.out _ HB0.out).mono ?_); rintro x' w1 ⟨rfl, hb1⟩; have HB1 := Lib.hid hb1; clear hb1; obtain ⟨⟨y0, y1, y2, y3, y4, y5, y6, y7, y8, y9, y10, y11, y12, y13, y14⟩, ⟨x0, x1, x2, x3, x4, x5, x6, x7⟩, _⟩ := HT.out.kept HB1.out)) | (go_at_call 9; ((with_reducible refine (C2.out _ HB1.out).mono ?_); rintro x' w2 ⟨rfl, hb2⟩; have HB2 := Lib.hid hb2; clear hb2)))
  have HT2 := Lib.hid (HT.out.kept HB2.out)
  clear y0 y1 y2 y3 y4 y5 y6 y7 y8 y9 y10 y11 y12 y13 y14 x0 x1 x2 x3 x4 x5 x6 x7
  go_loopw [5] (fun i wr => ∃ k : Nat, k + 1 ≤ pts.length ∧ i = .int .i64 ((k : Int) + 1) ∧ Hid (Below W.heap.size W wr)) (fun i _ => pts.length - (intOf i).toNat)
  case atStart => exact ⟨0, by omega, rfl, HB2.out⟩
  case round =>
    obtain ⟨k, hk, rfl, HB⟩ := hrel
    have HTr := Lib.hid (HT.out.kept HB.out)
    by_cases hlt : k + 1 < pts.length
    · obtain ⟨b1, off, hpp, hc1, hc2⟩ := (HTr.out.pts).at (show k < pts.length by omega)
      obtain ⟨b1', off', hpp', hc1', hc2'⟩ := (HTr.out.pts).at hlt
      dsimp only at hc1 hc2 hc1' hc2'
      subst hpp
      simp only [Option.some.injEq, Addr.mk.injEq, and_true] at hpp'
      obtain ⟨e1, e2⟩ := hpp'
      subst e1 e2
      have HVk := Lib.hid (HVB.out k hlt)
      obtain ⟨t1, hx⟩ : ∃ x, In.tk pts k = x := ⟨_, rfl⟩
      obtain ⟨v1, hy⟩ : ∃ y, In.vl pts k = y := ⟨_, rfl⟩
      obtain ⟨t2, hx'⟩ : ∃ x, In.tk pts (k + 1) = x := ⟨_, rfl⟩
      obtain ⟨v2, hy'⟩ : ∃ y, In.vl pts (k + 1) = y := ⟨_, rfl⟩
      rw [hx, hy, hx', hy'] at HVk
      rw [hx] at hc1
      rw [hy] at hc2
      rw [hx'] at hc1'
      rw [hy'] at hc2'
      clear hx hy hx' hy'
      obtain ⟨⟨y0, y1, y2, y3, y4, y5, y6, y7, y8, y9, y10, y11, y12, y13, y14⟩, ⟨x0, x1, x2, x3, x4, x5, x6, x7⟩, _⟩ := HTr.out
      have hlti : (k : Int) + 1 < (pts.length : Int) := by omega
      have hkw : IntKind.i64.wrap (k : Int) = (k : Int) := IntWalk.i64_in _ (by omega)
      have hbl : b + 1 < wr.heap.size := cell_lt x0
      have hbl0 : b < wr.heap.size := cell_lt y0
      have hbl1 : b1 < wr.heap.size := cell_lt hc1
      have HBr := Lib.hid (fun o1 o2 => show Below W.heap.size W ((wr.alloc o1).alloc o2).drew from (stepB (stepB HB.out (below_box wr o1)) (below_box _ o2)).drew)
      go_wp2
      go_region
      all_goals
       as_aux_lemma =>
        by_cases g1 : t1 ≤ t
        · by_cases g2 : t ≤ t2
          · have hbd := HVk.out g1 g2
            by_cases g3 : v1 ≤ v2
            · have hb1 : v1 ≤ v := by omega
              have hb2 : v ≤ v2 := by omega
              clear hbd
              go_wp2
              go_roundw
              case rel => exact ⟨k + 1, by omega, by go_num, HBr.out _ _⟩
              case measure => simp [intOf]; omega
            · have g3' : v2 < v1 := by omega
              have hb1 : v2 ≤ v := by omega
              have hb2 : v ≤ v1 := by omega
              clear hbd g3
              go_wp2
              go_roundw
              case rel => exact ⟨k + 1, by omega, by go_num, HBr.out _ _⟩
              case measure => simp [intOf]; omega
          · have hd2 : decide (t ≤ t2) = false := decide_eq_false g2
            go_wp2
            go_roundw
            case rel => exact ⟨k + 1, by omega, by go_num, HBr.out _ _⟩
            case measure => simp [intOf]; omega
        · have hd1 : decide (t1 ≤ t) = false := decide_eq_false g1
          go_wp2
          go_roundw
          case rel => exact ⟨k + 1, by omega, by go_num, HBr.out _ _⟩
          case measure => simp [intOf]; omega
    · obtain ⟨b1, off, hpp, hc1, _⟩ := (HTr.out.pts).at (show pts.length - 1 < pts.length by omega)
      dsimp only at hc1
      subst hpp
      have HL := Lib.hid (show In.lst (⟨true, pts, sus, ss, se, lp, ls, le⟩ : In.Env) = In.tk pts (pts.length - 1) from rfl)
      rw [← HL.out] at hc1
      obtain ⟨l0, hl0⟩ : ∃ l0, In.lst (⟨true, pts, sus, ss, se, lp, ls, le⟩ : In.Env) = l0 := ⟨_, rfl⟩
      rw [hl0] at hc1 C4
      have HL0 := Lib.hid hl0
      clear hl0
      obtain ⟨⟨y0, y1, y2, y3, y4, y5, y6, y7, y8, y9, y10, y11, y12, y13, y14⟩, ⟨x0, x1, x2, x3, x4, x5, x6, x7⟩, _⟩ := HTr.out
      have HCe := Lib.hid (show ∀ j, j < pts.length → wr.cell? ⟨b1, off + j * 2, none⟩ = some (.int .i64 (In.tk pts j)) from fun j hj => by
        obtain ⟨b1', off', hpp', hc1', _⟩ := (HTr.out.pts).at hj
        simp only [Option.some.injEq, Addr.mk.injEq, and_true] at hpp'
        obtain ⟨rfl, rfl⟩ := hpp'
        exact hc1')
      have HIX := Lib.hid (ix_of HV.out)
      have HAL := Lib.hid (In.after_lim HV.out h t)
      go_upto_block 2 with fail
      go_cut [8, 9] (fun t8 t9 wx => t8 = .int .i64 (In.lim (⟨true, pts, sus, ss, se, lp, ls, le⟩ : In.Env) h) ∧ t9 = .bool (In.cT (⟨true, pts, sus, ss, se, lp, ls, le⟩ : In.Env) h) ∧ wx = wr)
      case first =>
        rcases circle_parts h sus lp with ⟨rfl, rfl⟩ | ⟨rfl, rfl⟩ | ⟨rfl, rfl, rfl⟩ | ⟨rfl, rfl⟩ | ⟨rfl, rfl, rfl⟩
        · obtain ⟨j, ej, hj⟩ := HIX.out.1 rfl
          dsimp only at ej hj
          subst ej
          have hcj := HCe.out j hj
          have hji : (j : Int) < (pts.length : Int) := by omega
          go_wp2_with fail
          go_meet
          exact ⟨by simp [In.lim, In.cT, In.cE], by simp [In.cT], rfl⟩
        · obtain ⟨j, ej, hj⟩ := HIX.out.2 rfl
          dsimp only at ej hj
          subst ej
          have hcj := HCe.out j hj
          have hji : (j : Int) < (pts.length : Int) := by omega
          go_wp2_with fail
          go_meet
          exact ⟨by simp [In.lim, In.cT, In.cE], by simp [In.cT], rfl⟩
        · obtain ⟨j, ej, hj⟩ := HIX.out.2 rfl
          dsimp only at ej hj
          subst ej
          have hcj := HCe.out j hj
          have hji : (j : Int) < (pts.length : Int) := by omega
          go_wp2_with fail
          go_meet
          exact ⟨by simp [In.lim, In.cT, In.cE], by simp [In.cT], rfl⟩
        · have HE := Lib.hid (show In.lim (⟨true, pts, sus, ss, se, false, ls, le⟩ : In.Env) false = l0 by rw [← HL0.out]; simp [In.lim, In.cT])
          go_wp2_with fail
          go_meet
          exact ⟨by rw [HE.out], by simp [In.cT], rfl⟩
        · have HE := Lib.hid (show In.lim (⟨true, pts, false, ss, se, false, ls, le⟩ : In.Env) true = l0 by rw [← HL0.out]; simp [In.lim, In.cT])
          go_wp2_with fail
          go_meet
          exact ⟨by rw [HE.out], by simp [In.cT], rfl⟩
      case rest =>
        obtain ⟨rfl, rfl, rfl⟩ := hcut
        obtain ⟨A, hA⟩ : ∃ A, In.lim (⟨true, pts, sus, ss, se, lp, ls, le⟩ : In.Env) h = A := ⟨_, rfl⟩
        obtain ⟨a1, ha1⟩ : ∃ a, In.after (⟨true, pts, sus, ss, se, lp, ls, le⟩ : In.Env) t h = a := ⟨_, rfl⟩
        obtain ⟨c, hcc⟩ : ∃ c, In.cT (⟨true, pts, sus, ss, se, lp, ls, le⟩ : In.Env) h = c := ⟨_, rfl⟩
        rw [hA, ha1] at HAL
        rw [ha1] at C3
        rw [hcc] at C4
        rw [hA, hcc]
        clear hA ha1 hcc HCe HIX hc1
        have hal := HAL.out
        have HAL2 := Lib.hid (show decide (A < a1) = false from decide_eq_false (by omega))
        go_upto_region 16 with fail
        go_cut [159] (fun t wx => t = .bool false ∧ Hid (Below W.heap.size W wx))
        case first =>
          obtain ⟨⟨y0, y1, y2, y3, y4, y5, y6, y7, y8, y9, y10, y11, y12, y13, y14⟩, ⟨x0, x1, x2, x3, x4, x5, x6, x7⟩, _⟩ := HTr.out
          by_cases g1 : t ≤ A
          · have hal3 := HAL2.out
            cases c
            · go_wp2_with (first | (go_at_call 11; ((with_reducible refine (C3.out _ HB.out).mono ?_); rintro x' w3 ⟨rfl, hb3⟩; have HB3 := Lib.hid hb3; clear hb3; obtain ⟨⟨y0, y1, y2, y3, y4, y5, y6, y7, y8, y9, y10, y11, y12, y13, y14⟩, ⟨x0, x1, x2, x3, x4, x5, x6, x7⟩, _⟩ := HT.out.kept HB3.out)))
              go_meet
              exact ⟨rfl, HB3⟩
            · rw [ovr_circle] at C4
              go_wp2_with (first | (go_at_call 11; ((with_reducible refine (C3.out _ HB.out).mono ?_); rintro x' w3 ⟨rfl, hb3⟩; have HB3 := Lib.hid hb3; clear hb3; obtain ⟨⟨y0, y1, y2, y3, y4, y5, y6, y7, y8, y9, y10, y11, y12, y13, y14⟩, ⟨x0, x1, x2, x3, x4, x5, x6, x7⟩, _⟩ := HT.out.kept HB3.out)) | (go_at_call 13; ((with_reducible refine (C4.out _ HB3.out).mono ?_); rintro x' w4 ⟨rfl, hb4⟩; have HB4 := Lib.hid hb4; clear hb4; obtain ⟨⟨y0, y1, y2, y3, y4, y5, y6, y7, y8, y9, y10, y11, y12, y13, y14⟩, ⟨x0, x1, x2, x3, x4, x5, x6, x7⟩, _⟩ := HT.out.kept HB4.out)))
              go_meet
              exact ⟨rfl, HB4⟩
          · have hd : decide (t ≤ A) = false := decide_eq_false g1
            cases c
            · go_wp2_with fail
              go_meet
              exact ⟨rfl, HB⟩
            · rw [ovr_circle] at C4
              go_wp2_with (first | (go_at_call 13; ((with_reducible refine (C4.out _ HB.out).mono ?_); rintro x' w4 ⟨rfl, hb4⟩; have HB4 := Lib.hid hb4; clear hb4; obtain ⟨⟨y0, y1, y2, y3, y4, y5, y6, y7, y8, y9, y10, y11, y12, y13, y14⟩, ⟨x0, x1, x2, x3, x4, x5, x6, x7⟩, _⟩ := HT.out.kept HB4.out)))
              go_meet
              exact ⟨rfl, HB4⟩
        case rest =>
         as_aux_lemma =>
          obtain ⟨rfl, HBc⟩ := hcut
          clear HTr HB y0 y1 y2 y3 y4 y5 y6 y7 y8 y9 y10 y11 y12 y13 y14 x0 x1 x2 x3 x4 x5 x6 x7
          obtain ⟨⟨y0, y1, y2, y3, y4, y5, y6, y7, y8, y9, y10, y11, y12, y13, y14⟩, ⟨x0, x1, x2, x3, x4, x5, x6, x7⟩, _⟩ := HT.out.kept HBc.out
          obtain ⟨m, hm0⟩ : ∃ m : Nat, n % 256 = (m : Int) := ⟨(n % 256).toNat, by omega⟩
          have hand : bits .and .i64 n 255 = (m : Int) := (In.and255 n).trans hm0
          have m1 : (m : Int) ≤ 255 := by omega
          clear hm0
          have HLr := Lib.hid (show (In.crv (⟨true, pts, sus, ss, se, lp, ls, le⟩ : In.Env) m r).length = m by rw [In.crv_length (by omega)]; omega)
          have HLo := Lib.hid (show (In.crv (⟨true, pts, sus, ss, se, lp, ls, le⟩ : In.Env) m o).length = m by rw [In.crv_length (by omega)]; omega)
          have HSM := Lib.hid (fun i (hi : i < m) (h1 : (i : Int) < r) (h2 : (i : Int) < o) => In.crv_same (e := (⟨true, pts, sus, ss, se, lp, ls, le⟩ : In.Env)) (n := m) (r := r) (o := o) (by omega) hi h1 h2)
          have D1 := Lib.hid (fun u (hu : Below W.heap.size W u) => (p_Curve (⟨true, pts, sus, ss, se, lp, ls, le⟩ : In.Env) (some ⟨b1, off, none⟩) cap m r u (HT.out.kept hu).pts HC.out).mono (R' := fun x u' => (∃ p cap, x = .returned (.slice p m cap) ∧ u'.ownsRow W.heap.size 3 1 (.slice p m cap) m ((In.crv (⟨true, pts, sus, ss, se, lp, ls, le⟩ : In.Env) m r).map (Value.int .i64))) ∧ Below W.heap.size W u' ∧ Below u.heap.size u u') fun x u' h => ⟨(reti_open h.1 HLr.out).imp fun _ h => h.imp fun _ h => ⟨h.1, row_base h.2 hu.size⟩, stepB hu h.2, h.2⟩)
          have D2 := Lib.hid (fun u (hu : Below W.heap.size W u) => (p_Curve (⟨true, pts, sus, ss, se, lp, ls, le⟩ : In.Env) (some ⟨b1, off, none⟩) cap m o u (HT.out.kept hu).pts HC.out).mono (R' := fun x u' => (∃ p cap, x = .returned (.slice p m cap) ∧ u'.ownsRow W.heap.size 3 1 (.slice p m cap) m ((In.crv (⟨true, pts, sus, ss, se, lp, ls, le⟩ : In.Env) m o).map (Value.int .i64))) ∧ Below W.heap.size W u' ∧ Below u.heap.size u u') fun x u' h => ⟨(reti_open h.1 HLo.out).imp fun _ h => h.imp fun _ h => ⟨h.1, row_base h.2 hu.size⟩, stepB hu h.2, h.2⟩)
          obtain ⟨la, hla⟩ : ∃ la, In.crv (⟨true, pts, sus, ss, se, lp, ls, le⟩ : In.Env) m r = la := ⟨_, rfl⟩
          obtain ⟨lb, hlb⟩ : ∃ lb, In.crv (⟨true, pts, sus, ss, se, lp, ls, le⟩ : In.Env) m o = lb := ⟨_, rfl⟩
          rw [hla] at HLr D1 HSM
          rw [hlb] at HLo D2 HSM
          clear hla hlb
          unfold EV at D1 D2
          dsimp only at D1 D2
          have hg0 := HBc.out.drew
          have hg := keepT HT hg0
          go_upto_region 19 with fail
          go_region_held3 (fun w' => Below W.heap.size W w' ∧ w'.cell? ⟨b + 1, 0, none⟩ = some (.bool true) ∧ w'.cell? ⟨b + 1, 1, none⟩ = some (.slice (some ⟨b1, off, none⟩) pts.length cap) ∧ w'.cell? ⟨b + 1, 2, none⟩ = some (.bool sus) ∧ w'.cell? ⟨b + 1, 3, none⟩ = some (.int .i64 ss) ∧ w'.cell? ⟨b + 1, 4, none⟩ = some (.int .i64 se) ∧ w'.cell? ⟨b + 1, 5, none⟩ = some (.bool lp) ∧ w'.cell? ⟨b + 1, 6, none⟩ = some (.int .i64 ls) ∧ w'.cell? ⟨b + 1, 7, none⟩ = some (.int .i64 le) ∧ w'.cell? ⟨b, 12, none⟩ = some (.int .i64 r) ∧ w'.cell? ⟨b, 13, none⟩ = some (.int .i64 o))
            (first | with_reducible exact hg | (with_reducible apply keepT HT; with_reducible assumption))
            (first | (go_at_call 16; with_reducible refine (D1.out _ ?_).mono ?_; with_reducible assumption; rintro x' w1 ⟨⟨pa, ca, rfl, hra⟩, hB1, hb1⟩) | (go_at_call 16; with_reducible refine (D2.out _ ?_).mono ?_; with_reducible assumption; rintro x' w2 ⟨⟨pb, cb, rfl, hrb⟩, hB2, hb2⟩))
          have HRa := Lib.hid (row_stays hra hb2)
          have HRb := Lib.hid hrb
          have HB2c := Lib.hid hB2
          clear hra hrb hb1 hB1 hb2 hB2 hg hg0
          go_wp2
          go_loopw [13] (fun i wr => ∃ j : Nat, j ≤ m ∧ i = .int .i64 j ∧ Hid (Below W.heap.size W wr) ∧ Hid (wr.ownsRow W.heap.size 3 1 (.slice pa m ca) m (la.map (Value.int .i64))) ∧ Hid (wr.ownsRow W.heap.size 3 1 (.slice pb m cb) m (lb.map (Value.int .i64)))) (fun i _ => m - (intOf i).toNat)
          case atStart => exact ⟨0, by omega, rfl, HB2c, HRa, HRb⟩
          case round =>
            clear HB2c HRa HRb
            obtain ⟨j, hj, rfl, HBj, HRa, HRb⟩ := hrel
            have CAj := Lib.hid (C5.out _ HBj.out)
            have HTj := Lib.hid (HT.out.kept HBj.out)
            obtain ⟨⟨y0, y1, y2, y3, y4, y5, y6, y7, y8, y9, y10, y11, y12, y13, y14⟩, ⟨x0, x1, x2, x3, x4, x5, x6, x7⟩, _⟩ := HTj.out
            by_cases hlt : j < m
            · by_cases g1 : (j : Int) < r
              · by_cases g2 : (j : Int) < o
                · obtain ⟨ga, rfl⟩ := row_at HRa.out (by omega)
                  obtain ⟨gb, rfl⟩ := row_at HRb.out (by omega)
                  have hca := row_cellm HRa.out HLr.out hlt
                  have hcb := row_cellm HRb.out HLo.out hlt
                  have hsm := HSM.out j hlt g1 g2
                  obtain ⟨va, hva⟩ : ∃ v, lb.getD j 0 = v := ⟨_, rfl⟩
                  rw [hsm, hva] at hca
                  rw [hva] at hcb
                  clear hsm hva
                  have hji : (j : Int) < (m : Int) := by omega
                  go_upto_region 23 with fail
                  go_quiet (fail)
                  go_wp2
                  go_roundw
                  case rel => exact ⟨j + 1, by omega, by go_num, below_drewN' HBj.out _, HRa.out, HRb.out⟩
                  case measure => simp [intOf]; omega
                · have hd : decide ((j : Int) < o) = false := decide_eq_false g2
                  go_wp2_with (first | (go_at_call 6; ((with_reducible refine CAj.out.mono ?_); rintro x' w9 ⟨rfl, hb9⟩)))
                  go_ret
                  exact ⟨rfl, HWb.out.trans (hb9.mono HWb.out.size)⟩
              · have hd : decide ((j : Int) < r) = false := decide_eq_false g1
                go_wp2_with (first | (go_at_call 6; ((with_reducible refine CAj.out.mono ?_); rintro x' w9 ⟨rfl, hb9⟩)))
                go_ret
                exact ⟨rfl, HWb.out.trans (hb9.mono HWb.out.size)⟩
            · have hd : decide ((j : Int) < (m : Int)) = false := decide_eq_false (by omega)
              go_wp2_with (first | (go_at_call 6; ((with_reducible refine CAj.out.mono ?_); rintro x' w9 ⟨rfl, hb9⟩)))
              go_ret
              exact ⟨rfl, HWb.out.trans (hb9.mono HWb.out.size)⟩
/-- The law InstCircles' walk. -/
theorem circles_any (x : In.Ask) (p : Option Addr) (cap : Nat) (w : World) (hd : PtsAt w p x.e.pts) (hc : x.e.pts.length ≤ cap) :
    Calls Try.prog 4 #[AV x p cap] w fun z w' => z = .returned (.bool true) ∧ Below w.heap.size w w' := by
  obtain ⟨⟨on, pts, sus, ss, se, lp, ls, le⟩, lo, hi, t, n, r, o, h⟩ := x
  cases on
  · exact circles_off false pts sus ss se lp ls le lo hi t n r o h p cap w hd hc rfl rfl
  · cases hv : In.lv (⟨true, pts, sus, ss, se, lp, ls, le⟩ : In.Env)
    · exact circles_bad true pts sus ss se lp ls le lo hi t n r o h p cap w hd hc rfl hv
    · exact circles_live true pts sus ss se lp ls le lo hi t n r o h p cap w hd hc rfl hv
end Go.Proofs.Ytcchfahdgmcpbaa

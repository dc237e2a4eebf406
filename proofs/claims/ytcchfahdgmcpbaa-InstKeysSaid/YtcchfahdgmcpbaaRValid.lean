/-
  The contracts of the reference's Named and Valid: for any instrument.
-/
import Derived.Test.YtcchfahdgmcpbaaPBig
import Derived.Test.YtcchfahdgmcpbaaRVenv
import Derived.Test.YtcchfahdgmcpbaaLex
import Derived.Test.YtcchfahdgmcpbaaCutL
import Derived.Deep.DeepCutAuto
namespace Go.Proofs.Ytcchfahdgmcpbaa
open Go.RowKit

theorem r_named (s : ByteArray) (w : World) (hm : s.size ≤ maxLen) :
    Calls Try.prog 46 #[.string s] w fun x w' => x = .returned (.bool (In.nmd s)) ∧ w = w' := by
  unfold maxLen at hm
  by_cases h : 22 < (s.size : Int)
  · rw [In.nmd_long h]
    go_enter Try.func46, Try.ntmps46
    go_wp2
    go_ret
    exact ⟨rfl, rfl⟩
  · go_enter Try.func46, Try.ntmps46
    go_wp2
    go_loop [3] (fun i => ∃ k : Nat, (k : Int) ≤ s.size ∧ i = .int .i64 k ∧ Hid (∀ j (hj : j < s.size), j < k → 32 ≤ (s[j].toNat : Int) ∧ (s[j].toNat : Int) ≤ 126)) (fun i => s.size - (intOf i).toNat)
    case atStart => exact ⟨0, by omega, rfl, fun _ _ h => by omega⟩
    case round =>
      obtain ⟨k, hk, rfl, HN⟩ := hrel
      by_cases hlt : k < s.size
      · by_cases h1 : (s[k].toNat : Int) < 32
        · have HB := Lib.hid (In.nmd_bad k hlt (.inl h1))
          go_wp2
          go_ret
          exact ⟨ret_bool HB.out.symm, rfl⟩
        · by_cases h2 : 126 < (s[k].toNat : Int)
          · have HB := Lib.hid (In.nmd_bad k hlt (.inr h2))
            go_wp2
            go_ret
            exact ⟨ret_bool HB.out.symm, rfl⟩
          · have h1' : 32 ≤ (s[k].toNat : Int) := by omega
            have h2' : (s[k].toNat : Int) ≤ 126 := by omega
            go_wp2
            go_round
            case rel => exact ⟨k + 1, by omega, by go_num, fun j hj hjk => by
              by_cases e : j = k
              · subst e; exact ⟨h1', h2'⟩
              · exact HN.out j hj (by omega)⟩
            case measure => simp [intOf]; omega
      · have HB := Lib.hid (In.nmd_mk (by omega) (fun i hi => HN.out i hi (by omega)))
        go_wp2
        go_ret
        exact ⟨ret_bool HB.out.symm, rfl⟩
theorem kall_no {i : In.Ins} (k : Nat) (hk : k < i.keys.length) (h : In.kok i.keys k = false) : In.ivld i = false := by
  have h1 := In.kall_bad k hk h
  have h2 : i.keys ≠ [] := by intro e; rw [e] at hk; simp at hk
  unfold In.ivld In.kys
  rw [h1, decide_eq_false h2]
  simp
set_option maxRecDepth 100000 in
set_option maxHeartbeats 12800000 in
theorem r_Valid (i : In.Ins) (a : In.Loc) (w : World) (hd : IPts w i a) (hm : i.name.size ≤ maxLen) (h5 : (i.keys.length : Int) ≤ 500) :
    Calls Try.prog 21 #[.agg (IL i a).toArray] w fun x w' => x = .returned (.bool (In.ivld i)) ∧ Below w.heap.size w w' := by
  obtain ⟨W, hW⟩ : ∃ W, W = w.alloc (.cells (IL i a).toArray 40) := ⟨_, rfl⟩
  obtain ⟨b, hbe⟩ : ∃ b, b = w.heap.size := ⟨_, rfl⟩
  have HX := Lib.hid (show Bx W b i a by rw [hW, hbe]; exact bx_new w i a hd)
  have HWb := Lib.hid (show Below w.heap.size w W by rw [hW]; exact below_box _ _)
  have HB0 := Lib.hid (Below.refl W.heap.size W)
  have CN := Lib.hid (fun u => r_named i.name u hm)
  have C1 := Lib.hid (fun u (hu : Below W.heap.size W u) => onB hu (r_venv i.vol a.v a.cv 0 64 u (HX.out.kept hu).pts.2.1))
  have C2 := Lib.hid (fun u (hu : Below W.heap.size W u) => onB hu (r_venv i.pan a.p a.cp (-32) 32 u (HX.out.kept hu).pts.2.2.1))
  have C3 := Lib.hid (fun u (hu : Below W.heap.size W u) => onB hu (r_venv i.pit a.t a.ct (-32) 32 u (HX.out.kept hu).pts.2.2.2))
  clear hd hm
  unfold EV at C1 C2 C3
  go_enter Try.func21, Try.ntmps21
  go_upto_region 1 with fail
  rw [← hW, ← hbe]
  clear hW hbe
  go_wp2
  go_loopw [3] (fun j wr => ∃ k : Nat, k ≤ i.keys.length ∧ j = .int .i64 k ∧ Hid (∀ m, m < k → In.kok i.keys m = true) ∧ Hid (Below W.heap.size W wr)) (fun j _ => i.keys.length - (intOf j).toNat)
  case atStart => exact ⟨0, by omega, rfl, fun m hm => absurd hm (by omega), HB0.out⟩
  case round =>
    obtain ⟨k, hk, rfl, HN, HB⟩ := hrel
    have HXr := Lib.hid (HX.out.kept HB.out)
    by_cases hlt : k < i.keys.length
    · have x1 := (range_ib HXr.out.rng).2.1
      obtain ⟨bk, off, hp, hc1, hc2⟩ := HXr.out.pts.1.at hlt
      rw [hp] at x1
      have hbl := range_lt HXr.out.rng
      have HKO := Lib.hid (show In.kok i.keys k = (In.wth (In.tk i.keys k) 0 119 && In.wth (In.vl i.keys k) 0 31) from rfl)
      obtain ⟨x, hx⟩ : ∃ x, In.tk i.keys k = x := ⟨_, rfl⟩
      obtain ⟨y, hy⟩ : ∃ y, In.vl i.keys k = y := ⟨_, rfl⟩
      rw [hx] at hc1 HKO
      rw [hy] at hc2 HKO
      clear hx hy hp
      have hki : (k : Int) < (i.keys.length : Int) := by omega
      have HBk := Lib.hid (HWb.out.trans ((stepB HB.out (below_box wr (.cells #[.int .i64 x, .int .i64 y] 52))).mono HWb.out.size))
      by_cases g1 : x < 0
      · have HBAD := Lib.hid (kall_no k hlt (show In.kok i.keys k = false by rw [HKO.out]; simp [In.wth]; omega))
        go_wp2
        go_ret
        exact ⟨ret_bool HBAD.out.symm, HBk.out⟩
      · have d1 : decide (x < 0) = false := decide_eq_false g1
        by_cases g2 : 119 < x
        · have HBAD := Lib.hid (kall_no k hlt (show In.kok i.keys k = false by rw [HKO.out]; simp [In.wth]; omega))
          go_wp2
          go_ret
          exact ⟨ret_bool HBAD.out.symm, HBk.out⟩
        · have d2 : decide (119 < x) = false := decide_eq_false g2
          by_cases g3 : y < 0
          · have HBAD := Lib.hid (kall_no k hlt (show In.kok i.keys k = false by rw [HKO.out]; simp [In.wth]; omega))
            go_wp2
            go_ret
            exact ⟨ret_bool HBAD.out.symm, HBk.out⟩
          · have d3 : decide (y < 0) = false := decide_eq_false g3
            by_cases g4 : 31 < y
            · have HBAD := Lib.hid (kall_no k hlt (show In.kok i.keys k = false by rw [HKO.out]; simp [In.wth]; omega))
              go_wp2
              go_ret
              exact ⟨ret_bool HBAD.out.symm, HBk.out⟩
            · have d4 : decide (31 < y) = false := decide_eq_false g4
              have HOK := Lib.hid (show In.kok i.keys k = true by rw [HKO.out]; simp [In.wth]; omega)
              have HNX := Lib.hid (fun m (hm : m < k + 1) => (show In.kok i.keys m = true by
                by_cases e : m = k
                · subst e; exact HOK.out
                · exact HN.out m (by omega)))
              go_wp2
              go_roundw
              case rel => exact ⟨k + 1, by omega, by go_num, HNX.out, stepB HB.out (below_box wr _)⟩
              case measure => simp [intOf]; omega
    · have HKA := Lib.hid (show In.kall i.keys = true from In.kall_mk fun m hm => HN.out m (by omega))
      have HKY := Lib.hid (show In.kys i.keys = (decide ((i.keys.length : Int) = 0) || decide ((i.keys.length : Int) = 120)) by
        unfold In.kys
        rw [HKA.out, Bool.and_true]
        congr 1
        rw [decide_eq_decide]
        constructor
        · intro h; rw [h]; rfl
        · intro h; exact List.eq_nil_of_length_eq_zero (by omega))
      obtain ⟨v1, hv1⟩ : ∃ v, In.nmd i.name = v := ⟨_, rfl⟩
      obtain ⟨v2, hv2⟩ : ∃ v, In.vld i.vol 0 64 = v := ⟨_, rfl⟩
      obtain ⟨v3, hv3⟩ : ∃ v, In.vld i.pan (-32) 32 = v := ⟨_, rfl⟩
      obtain ⟨v4, hv4⟩ : ∃ v, In.vld i.pit (-32) 32 = v := ⟨_, rfl⟩
      have HE := Lib.hid (show In.ivld i = (v1 && ((decide ((i.keys.length : Int) = 0) || decide ((i.keys.length : Int) = 120)) && (v2 && (v3 && (v4 && (In.wth i.fade 0 1024 && (In.wth i.nn 0 3 && (In.wth i.dup 0 3 && (In.wth i.dd 0 2 && (In.wth i.glo 0 64 && (In.wth i.cut (-1) 127 && In.wth i.res (-1) 127))))))))))) by unfold In.ivld; rw [HKY.out, hv1, hv2, hv3, hv4])
      rw [hv1] at CN
      rw [hv2] at C1
      rw [hv3] at C2
      rw [hv4] at C3
      have x1 := (range_ib (HX.out.kept HB.out).rng).2.1
      go_upto_region 7 with fail
      clear hv1 hv2 hv3 hv4 HKY HKA hk hlt HN x1
      refine wp_region_lit ?_
      have HX0 := Lib.hid (fun u (hu : Below W.heap.size W u) => range_ib (HX.out.kept hu).rng)
      clear HXr
      generalize Value.slice a.k i.keys.length a.ck = s7
      generalize Value.int .i64 ↑i.keys.length = s8
      obtain ⟨K1, hK1⟩ : ∃ q, (decide ((i.keys.length : Int) = 0) || decide ((i.keys.length : Int) = 120)) = q := ⟨_, rfl⟩
      have HK1 := Lib.hid hK1
      rw [hK1] at HE
      clear hK1
      refine wpl_cut15 (fun a' w' => Hid (Below W.heap.size W w') ∧ ∃ c35 c36 c37 c38 c39 c40 c41 c42 c43 c44 c45 c46 c47 c48 c49 : Value, c49 = .bool (v1 && K1) ∧ a' = (⟨#[.agg (IL i a).toArray, .pointer (some ⟨b, 0, none⟩), u2, .int .i64 k, u4, .int .i64 k, .pointer (some ⟨b, 1, none⟩), s7, s8, .bool false, u10, u11, u12, u13, u14, u15, u16, u17, u18, u19, u20, u21, u22, u23, u24, u25, u26, u27, u28, u29, u30, u31, u32, u33, u34, c35, c36, c37, c38, c39, c40, c41, c42, c43, c44, c45, c46, c47, c48, c49, undef, undef, undef, undef, undef, undef, undef, undef, undef, undef, undef, undef, undef, undef, undef, undef, undef, undef, undef, undef, undef, undef, undef, undef, undef, undef, undef, undef, undef, undef, undef, undef, undef, undef, undef, undef, undef, undef, undef, undef, undef, undef, undef, undef, undef, undef, undef, undef, undef, undef, undef, undef, undef, undef, undef, undef, undef, undef, undef, undef, undef, undef, undef, undef, undef, undef, undef, undef, undef, undef, undef, undef, undef, undef, undef, undef, undef, undef, undef, undef, undef, undef, undef, undef, undef], []⟩ : Act)) ?_ ?_
      · intro J K' hJ hK
        have x0 := (HX0.out _ HB.out).1
        have x1 := (HX0.out _ HB.out).2.1
        cases v1
        all_goals
          go_wp2_with (first | (go_at_call 46; ((with_reducible refine (CN.out _).mono ?_); rintro x' w' ⟨rfl, rfl⟩)))
          all_goals
            refine Met.intro (hJ _ _ ⟨HB, _, _, _, _, _, _, _, _, _, _, _, _, _, _, _, congrArg Value.bool (by rw [← HK1.out]; first | rfl | (simp [*]; done) | (simp only [*, Bool.true_and]; rfl)), rfl⟩)
      rintro _ w1 ⟨HB1, c35, c36, c37, c38, c39, c40, c41, c42, c43, c44, c45, c46, c47, c48, c49, rfl, rfl⟩
      obtain ⟨P1, hP1⟩ : ∃ q, (v1 && K1) = q := ⟨_, rfl⟩
      have HP1 := Lib.hid hP1
      rw [hP1]
      clear hP1
      refine wpl_cut5 (fun a' w' => Hid (Below W.heap.size W w') ∧ ∃ c50 c51 c52 c53 c54 : Value, c54 = .bool (P1 && v2) ∧ a' = (⟨#[.agg (IL i a).toArray, .pointer (some ⟨b, 0, none⟩), u2, .int .i64 k, u4, .int .i64 k, .pointer (some ⟨b, 1, none⟩), s7, s8, .bool false, u10, u11, u12, u13, u14, u15, u16, u17, u18, u19, u20, u21, u22, u23, u24, u25, u26, u27, u28, u29, u30, u31, u32, u33, u34, c35, c36, c37, c38, c39, c40, c41, c42, c43, c44, c45, c46, c47, c48, .bool P1, c50, c51, c52, c53, c54, undef, undef, undef, undef, undef, undef, undef, undef, undef, undef, undef, undef, undef, undef, undef, undef, undef, undef, undef, undef, undef, undef, undef, undef, undef, undef, undef, undef, undef, undef, undef, undef, undef, undef, undef, undef, undef, undef, undef, undef, undef, undef, undef, undef, undef, undef, undef, undef, undef, undef, undef, undef, undef, undef, undef, undef, undef, undef, undef, undef, undef, undef, undef, undef, undef, undef, undef, undef, undef, undef, undef, undef, undef, undef, undef, undef, undef, undef, undef, undef], []⟩ : Act)) ?_ ?_
      · intro J K' hJ hK
        have x2 := (HX0.out _ HB1.out).2.2.1
        have x3 := (HX0.out _ HB1.out).2.2.2.1
        have x4 := (HX0.out _ HB1.out).2.2.2.2.1
        have x5 := (HX0.out _ HB1.out).2.2.2.2.2.1
        have x6 := (HX0.out _ HB1.out).2.2.2.2.2.2.1
        have x7 := (HX0.out _ HB1.out).2.2.2.2.2.2.2.1
        have x8 := (HX0.out _ HB1.out).2.2.2.2.2.2.2.2.1
        have x9 := (HX0.out _ HB1.out).2.2.2.2.2.2.2.2.2.1
        cases P1
        · go_wp2_with fail
          refine Met.intro (hJ _ _ ⟨HB1, _, _, _, _, _, congrArg Value.bool (by first | rfl | simp [*]), rfl⟩)
        · go_wp2_with (first | (go_at_call 8; ((with_reducible refine (C1.out _ HB1.out).mono ?_); rintro x' wy ⟨rfl, hby⟩; have HBy := Lib.hid hby; clear hby)))
          refine Met.intro (hJ _ _ ⟨HBy, _, _, _, _, _, congrArg Value.bool (by first | rfl | simp [*]), rfl⟩)
      rintro _ w2 ⟨HB2, c50, c51, c52, c53, c54, rfl, rfl⟩
      obtain ⟨P2, hP2⟩ : ∃ q, (P1 && v2) = q := ⟨_, rfl⟩
      have HP2 := Lib.hid hP2
      rw [hP2]
      clear hP2
      refine wpl_cut5 (fun a' w' => Hid (Below W.heap.size W w') ∧ ∃ c55 c56 c57 c58 c59 : Value, c59 = .bool (P2 && v3) ∧ a' = (⟨#[.agg (IL i a).toArray, .pointer (some ⟨b, 0, none⟩), u2, .int .i64 k, u4, .int .i64 k, .pointer (some ⟨b, 1, none⟩), s7, s8, .bool false, u10, u11, u12, u13, u14, u15, u16, u17, u18, u19, u20, u21, u22, u23, u24, u25, u26, u27, u28, u29, u30, u31, u32, u33, u34, c35, c36, c37, c38, c39, c40, c41, c42, c43, c44, c45, c46, c47, c48, .bool P1, c50, c51, c52, c53, .bool P2, c55, c56, c57, c58, c59, undef, undef, undef, undef, undef, undef, undef, undef, undef, undef, undef, undef, undef, undef, undef, undef, undef, undef, undef, undef, undef, undef, undef, undef, undef, undef, undef, undef, undef, undef, undef, undef, undef, undef, undef, undef, undef, undef, undef, undef, undef, undef, undef, undef, undef, undef, undef, undef, undef, undef, undef, undef, undef, undef, undef, undef, undef, undef, undef, undef, undef, undef, undef, undef, undef, undef, undef, undef, undef, undef, undef, undef, undef, undef, undef], []⟩ : Act)) ?_ ?_
      · intro J K' hJ hK
        have x10 := (HX0.out _ HB2.out).2.2.2.2.2.2.2.2.2.2.1
        have x11 := (HX0.out _ HB2.out).2.2.2.2.2.2.2.2.2.2.2.1
        have x12 := (HX0.out _ HB2.out).2.2.2.2.2.2.2.2.2.2.2.2.1
        have x13 := (HX0.out _ HB2.out).2.2.2.2.2.2.2.2.2.2.2.2.2.1
        have x14 := (HX0.out _ HB2.out).2.2.2.2.2.2.2.2.2.2.2.2.2.2.1
        have x15 := (HX0.out _ HB2.out).2.2.2.2.2.2.2.2.2.2.2.2.2.2.2.1
        have x16 := (HX0.out _ HB2.out).2.2.2.2.2.2.2.2.2.2.2.2.2.2.2.2.1
        have x17 := (HX0.out _ HB2.out).2.2.2.2.2.2.2.2.2.2.2.2.2.2.2.2.2.1
        cases P2
        · go_wp2_with fail
          refine Met.intro (hJ _ _ ⟨HB2, _, _, _, _, _, congrArg Value.bool (by first | rfl | simp [*]), rfl⟩)
        · go_wp2_with (first | (go_at_call 8; ((with_reducible refine (C2.out _ HB2.out).mono ?_); rintro x' wy ⟨rfl, hby⟩; have HBy := Lib.hid hby; clear hby)))
          refine Met.intro (hJ _ _ ⟨HBy, _, _, _, _, _, congrArg Value.bool (by first | rfl | simp [*]), rfl⟩)
      rintro _ w3 ⟨HB3, c55, c56, c57, c58, c59, rfl, rfl⟩
      obtain ⟨P3, hP3⟩ : ∃ q, (P2 && v3) = q := ⟨_, rfl⟩
      have HP3 := Lib.hid hP3
      rw [hP3]
      clear hP3
      refine wpl_cut5 (fun a' w' => Hid (Below W.heap.size W w') ∧ ∃ c60 c61 c62 c63 c64 : Value, c64 = .bool (P3 && v4) ∧ a' = (⟨#[.agg (IL i a).toArray, .pointer (some ⟨b, 0, none⟩), u2, .int .i64 k, u4, .int .i64 k, .pointer (some ⟨b, 1, none⟩), s7, s8, .bool false, u10, u11, u12, u13, u14, u15, u16, u17, u18, u19, u20, u21, u22, u23, u24, u25, u26, u27, u28, u29, u30, u31, u32, u33, u34, c35, c36, c37, c38, c39, c40, c41, c42, c43, c44, c45, c46, c47, c48, .bool P1, c50, c51, c52, c53, .bool P2, c55, c56, c57, c58, .bool P3, c60, c61, c62, c63, c64, undef, undef, undef, undef, undef, undef, undef, undef, undef, undef, undef, undef, undef, undef, undef, undef, undef, undef, undef, undef, undef, undef, undef, undef, undef, undef, undef, undef, undef, undef, undef, undef, undef, undef, undef, undef, undef, undef, undef, undef, undef, undef, undef, undef, undef, undef, undef, undef, undef, undef, undef, undef, undef, undef, undef, undef, undef, undef, undef, undef, undef, undef, undef, undef, undef, undef, undef, undef, undef, undef], []⟩ : Act)) ?_ ?_
      · intro J K' hJ hK
        have x18 := (HX0.out _ HB3.out).2.2.2.2.2.2.2.2.2.2.2.2.2.2.2.2.2.2.1
        have x19 := (HX0.out _ HB3.out).2.2.2.2.2.2.2.2.2.2.2.2.2.2.2.2.2.2.2.1
        have x20 := (HX0.out _ HB3.out).2.2.2.2.2.2.2.2.2.2.2.2.2.2.2.2.2.2.2.2.1
        have x21 := (HX0.out _ HB3.out).2.2.2.2.2.2.2.2.2.2.2.2.2.2.2.2.2.2.2.2.2.1
        have x22 := (HX0.out _ HB3.out).2.2.2.2.2.2.2.2.2.2.2.2.2.2.2.2.2.2.2.2.2.2.1
        have x23 := (HX0.out _ HB3.out).2.2.2.2.2.2.2.2.2.2.2.2.2.2.2.2.2.2.2.2.2.2.2.1
        have x24 := (HX0.out _ HB3.out).2.2.2.2.2.2.2.2.2.2.2.2.2.2.2.2.2.2.2.2.2.2.2.2.1
        have x25 := (HX0.out _ HB3.out).2.2.2.2.2.2.2.2.2.2.2.2.2.2.2.2.2.2.2.2.2.2.2.2.2.1
        cases P3
        · go_wp2_with fail
          refine Met.intro (hJ _ _ ⟨HB3, _, _, _, _, _, congrArg Value.bool (by first | rfl | simp [*]), rfl⟩)
        · go_wp2_with (first | (go_at_call 8; ((with_reducible refine (C3.out _ HB3.out).mono ?_); rintro x' wy ⟨rfl, hby⟩; have HBy := Lib.hid hby; clear hby)))
          refine Met.intro (hJ _ _ ⟨HBy, _, _, _, _, _, congrArg Value.bool (by first | rfl | simp [*]), rfl⟩)
      rintro _ w4 ⟨HB4, c60, c61, c62, c63, c64, rfl, rfl⟩
      obtain ⟨P4, hP4⟩ : ∃ q, (P3 && v4) = q := ⟨_, rfl⟩
      have HP4 := Lib.hid hP4
      rw [hP4]
      clear hP4
      refine wpl_cut5 (fun a' w' => Hid (Below W.heap.size W w') ∧ ∃ c65 c66 c67 c68 c69 : Value, c69 = .bool (P4 && decide (0 ≤ i.fade)) ∧ a' = (⟨#[.agg (IL i a).toArray, .pointer (some ⟨b, 0, none⟩), u2, .int .i64 k, u4, .int .i64 k, .pointer (some ⟨b, 1, none⟩), s7, s8, .bool false, u10, u11, u12, u13, u14, u15, u16, u17, u18, u19, u20, u21, u22, u23, u24, u25, u26, u27, u28, u29, u30, u31, u32, u33, u34, c35, c36, c37, c38, c39, c40, c41, c42, c43, c44, c45, c46, c47, c48, .bool P1, c50, c51, c52, c53, .bool P2, c55, c56, c57, c58, .bool P3, c60, c61, c62, c63, .bool P4, c65, c66, c67, c68, c69, undef, undef, undef, undef, undef, undef, undef, undef, undef, undef, undef, undef, undef, undef, undef, undef, undef, undef, undef, undef, undef, undef, undef, undef, undef, undef, undef, undef, undef, undef, undef, undef, undef, undef, undef, undef, undef, undef, undef, undef, undef, undef, undef, undef, undef, undef, undef, undef, undef, undef, undef, undef, undef, undef, undef, undef, undef, undef, undef, undef, undef, undef, undef, undef, undef], []⟩ : Act)) ?_ ?_
      · intro J K' hJ hK
        have x26 := (HX0.out _ HB4.out).2.2.2.2.2.2.2.2.2.2.2.2.2.2.2.2.2.2.2.2.2.2.2.2.2.2.1
        cases P4
        all_goals
          go_wp2_with fail
          refine Met.intro (hJ _ _ ⟨HB4, _, _, _, _, _, congrArg Value.bool (by first | rfl | simp [*]), rfl⟩)
      rintro _ w5 ⟨HB5, c65, c66, c67, c68, c69, rfl, rfl⟩
      obtain ⟨P5, hP5⟩ : ∃ q, (P4 && decide (0 ≤ i.fade)) = q := ⟨_, rfl⟩
      have HP5 := Lib.hid hP5
      rw [hP5]
      clear hP5
      refine wpl_cut5 (fun a' w' => Hid (Below W.heap.size W w') ∧ ∃ c70 c71 c72 c73 c74 : Value, c74 = .bool (P5 && decide (i.fade ≤ 1024)) ∧ a' = (⟨#[.agg (IL i a).toArray, .pointer (some ⟨b, 0, none⟩), u2, .int .i64 k, u4, .int .i64 k, .pointer (some ⟨b, 1, none⟩), s7, s8, .bool false, u10, u11, u12, u13, u14, u15, u16, u17, u18, u19, u20, u21, u22, u23, u24, u25, u26, u27, u28, u29, u30, u31, u32, u33, u34, c35, c36, c37, c38, c39, c40, c41, c42, c43, c44, c45, c46, c47, c48, .bool P1, c50, c51, c52, c53, .bool P2, c55, c56, c57, c58, .bool P3, c60, c61, c62, c63, .bool P4, c65, c66, c67, c68, .bool P5, c70, c71, c72, c73, c74, undef, undef, undef, undef, undef, undef, undef, undef, undef, undef, undef, undef, undef, undef, undef, undef, undef, undef, undef, undef, undef, undef, undef, undef, undef, undef, undef, undef, undef, undef, undef, undef, undef, undef, undef, undef, undef, undef, undef, undef, undef, undef, undef, undef, undef, undef, undef, undef, undef, undef, undef, undef, undef, undef, undef, undef, undef, undef, undef, undef], []⟩ : Act)) ?_ ?_
      · intro J K' hJ hK
        have x26 := (HX0.out _ HB5.out).2.2.2.2.2.2.2.2.2.2.2.2.2.2.2.2.2.2.2.2.2.2.2.2.2.2.1
        cases P5
        all_goals
          go_wp2_with fail
          refine Met.intro (hJ _ _ ⟨HB5, _, _, _, _, _, congrArg Value.bool (by first | rfl | simp [*]), rfl⟩)
      rintro _ w6 ⟨HB6, c70, c71, c72, c73, c74, rfl, rfl⟩
      obtain ⟨P6, hP6⟩ : ∃ q, (P5 && decide (i.fade ≤ 1024)) = q := ⟨_, rfl⟩
      have HP6 := Lib.hid hP6
      rw [hP6]
      clear hP6
      refine wpl_cut5 (fun a' w' => Hid (Below W.heap.size W w') ∧ ∃ c75 c76 c77 c78 c79 : Value, c79 = .bool (P6 && decide (0 ≤ i.nn)) ∧ a' = (⟨#[.agg (IL i a).toArray, .pointer (some ⟨b, 0, none⟩), u2, .int .i64 k, u4, .int .i64 k, .pointer (some ⟨b, 1, none⟩), s7, s8, .bool false, u10, u11, u12, u13, u14, u15, u16, u17, u18, u19, u20, u21, u22, u23, u24, u25, u26, u27, u28, u29, u30, u31, u32, u33, u34, c35, c36, c37, c38, c39, c40, c41, c42, c43, c44, c45, c46, c47, c48, .bool P1, c50, c51, c52, c53, .bool P2, c55, c56, c57, c58, .bool P3, c60, c61, c62, c63, .bool P4, c65, c66, c67, c68, .bool P5, c70, c71, c72, c73, .bool P6, c75, c76, c77, c78, c79, undef, undef, undef, undef, undef, undef, undef, undef, undef, undef, undef, undef, undef, undef, undef, undef, undef, undef, undef, undef, undef, undef, undef, undef, undef, undef, undef, undef, undef, undef, undef, undef, undef, undef, undef, undef, undef, undef, undef, undef, undef, undef, undef, undef, undef, undef, undef, undef, undef, undef, undef, undef, undef, undef, undef], []⟩ : Act)) ?_ ?_
      · intro J K' hJ hK
        have x27 := (HX0.out _ HB6.out).2.2.2.2.2.2.2.2.2.2.2.2.2.2.2.2.2.2.2.2.2.2.2.2.2.2.2.1
        cases P6
        all_goals
          go_wp2_with fail
          refine Met.intro (hJ _ _ ⟨HB6, _, _, _, _, _, congrArg Value.bool (by first | rfl | simp [*]), rfl⟩)
      rintro _ w7 ⟨HB7, c75, c76, c77, c78, c79, rfl, rfl⟩
      obtain ⟨P7, hP7⟩ : ∃ q, (P6 && decide (0 ≤ i.nn)) = q := ⟨_, rfl⟩
      have HP7 := Lib.hid hP7
      rw [hP7]
      clear hP7
      refine wpl_cut5 (fun a' w' => Hid (Below W.heap.size W w') ∧ ∃ c80 c81 c82 c83 c84 : Value, c84 = .bool (P7 && decide (i.nn ≤ 3)) ∧ a' = (⟨#[.agg (IL i a).toArray, .pointer (some ⟨b, 0, none⟩), u2, .int .i64 k, u4, .int .i64 k, .pointer (some ⟨b, 1, none⟩), s7, s8, .bool false, u10, u11, u12, u13, u14, u15, u16, u17, u18, u19, u20, u21, u22, u23, u24, u25, u26, u27, u28, u29, u30, u31, u32, u33, u34, c35, c36, c37, c38, c39, c40, c41, c42, c43, c44, c45, c46, c47, c48, .bool P1, c50, c51, c52, c53, .bool P2, c55, c56, c57, c58, .bool P3, c60, c61, c62, c63, .bool P4, c65, c66, c67, c68, .bool P5, c70, c71, c72, c73, .bool P6, c75, c76, c77, c78, .bool P7, c80, c81, c82, c83, c84, undef, undef, undef, undef, undef, undef, undef, undef, undef, undef, undef, undef, undef, undef, undef, undef, undef, undef, undef, undef, undef, undef, undef, undef, undef, undef, undef, undef, undef, undef, undef, undef, undef, undef, undef, undef, undef, undef, undef, undef, undef, undef, undef, undef, undef, undef, undef, undef, undef, undef], []⟩ : Act)) ?_ ?_
      · intro J K' hJ hK
        have x27 := (HX0.out _ HB7.out).2.2.2.2.2.2.2.2.2.2.2.2.2.2.2.2.2.2.2.2.2.2.2.2.2.2.2.1
        cases P7
        all_goals
          go_wp2_with fail
          refine Met.intro (hJ _ _ ⟨HB7, _, _, _, _, _, congrArg Value.bool (by first | rfl | simp [*]), rfl⟩)
      rintro _ w8 ⟨HB8, c80, c81, c82, c83, c84, rfl, rfl⟩
      obtain ⟨P8, hP8⟩ : ∃ q, (P7 && decide (i.nn ≤ 3)) = q := ⟨_, rfl⟩
      have HP8 := Lib.hid hP8
      rw [hP8]
      clear hP8
      refine wpl_cut5 (fun a' w' => Hid (Below W.heap.size W w') ∧ ∃ c85 c86 c87 c88 c89 : Value, c89 = .bool (P8 && decide (0 ≤ i.dup)) ∧ a' = (⟨#[.agg (IL i a).toArray, .pointer (some ⟨b, 0, none⟩), u2, .int .i64 k, u4, .int .i64 k, .pointer (some ⟨b, 1, none⟩), s7, s8, .bool false, u10, u11, u12, u13, u14, u15, u16, u17, u18, u19, u20, u21, u22, u23, u24, u25, u26, u27, u28, u29, u30, u31, u32, u33, u34, c35, c36, c37, c38, c39, c40, c41, c42, c43, c44, c45, c46, c47, c48, .bool P1, c50, c51, c52, c53, .bool P2, c55, c56, c57, c58, .bool P3, c60, c61, c62, c63, .bool P4, c65, c66, c67, c68, .bool P5, c70, c71, c72, c73, .bool P6, c75, c76, c77, c78, .bool P7, c80, c81, c82, c83, .bool P8, c85, c86, c87, c88, c89, undef, undef, undef, undef, undef, undef, undef, undef, undef, undef, undef, undef, undef, undef, undef, undef, undef, undef, undef, undef, undef, undef, undef, undef, undef, undef, undef, undef, undef, undef, undef, undef, undef, undef, undef, undef, undef, undef, undef, undef, undef, undef, undef, undef, undef], []⟩ : Act)) ?_ ?_
      · intro J K' hJ hK
        have x28 := (HX0.out _ HB8.out).2.2.2.2.2.2.2.2.2.2.2.2.2.2.2.2.2.2.2.2.2.2.2.2.2.2.2.2.1
        cases P8
        all_goals
          go_wp2_with fail
          refine Met.intro (hJ _ _ ⟨HB8, _, _, _, _, _, congrArg Value.bool (by first | rfl | simp [*]), rfl⟩)
      rintro _ w9 ⟨HB9, c85, c86, c87, c88, c89, rfl, rfl⟩
      obtain ⟨P9, hP9⟩ : ∃ q, (P8 && decide (0 ≤ i.dup)) = q := ⟨_, rfl⟩
      have HP9 := Lib.hid hP9
      rw [hP9]
      clear hP9
      refine wpl_cut5 (fun a' w' => Hid (Below W.heap.size W w') ∧ ∃ c90 c91 c92 c93 c94 : Value, c94 = .bool (P9 && decide (i.dup ≤ 3)) ∧ a' = (⟨#[.agg (IL i a).toArray, .pointer (some ⟨b, 0, none⟩), u2, .int .i64 k, u4, .int .i64 k, .pointer (some ⟨b, 1, none⟩), s7, s8, .bool false, u10, u11, u12, u13, u14, u15, u16, u17, u18, u19, u20, u21, u22, u23, u24, u25, u26, u27, u28, u29, u30, u31, u32, u33, u34, c35, c36, c37, c38, c39, c40, c41, c42, c43, c44, c45, c46, c47, c48, .bool P1, c50, c51, c52, c53, .bool P2, c55, c56, c57, c58, .bool P3, c60, c61, c62, c63, .bool P4, c65, c66, c67, c68, .bool P5, c70, c71, c72, c73, .bool P6, c75, c76, c77, c78, .bool P7, c80, c81, c82, c83, .bool P8, c85, c86, c87, c88, .bool P9, c90, c91, c92, c93, c94, undef, undef, undef, undef, undef, undef, undef, undef, undef, undef, undef, undef, undef, undef, undef, undef, undef, undef, undef, undef, undef, undef, undef, undef, undef, undef, undef, undef, undef, undef, undef, undef, undef, undef, undef, undef, undef, undef, undef, undef], []⟩ : Act)) ?_ ?_
      · intro J K' hJ hK
        have x28 := (HX0.out _ HB9.out).2.2.2.2.2.2.2.2.2.2.2.2.2.2.2.2.2.2.2.2.2.2.2.2.2.2.2.2.1
        cases P9
        all_goals
          go_wp2_with fail
          refine Met.intro (hJ _ _ ⟨HB9, _, _, _, _, _, congrArg Value.bool (by first | rfl | simp [*]), rfl⟩)
      rintro _ w10 ⟨HB10, c90, c91, c92, c93, c94, rfl, rfl⟩
      obtain ⟨P10, hP10⟩ : ∃ q, (P9 && decide (i.dup ≤ 3)) = q := ⟨_, rfl⟩
      have HP10 := Lib.hid hP10
      rw [hP10]
      clear hP10
      refine wpl_cut5 (fun a' w' => Hid (Below W.heap.size W w') ∧ ∃ c95 c96 c97 c98 c99 : Value, c99 = .bool (P10 && decide (0 ≤ i.dd)) ∧ a' = (⟨#[.agg (IL i a).toArray, .pointer (some ⟨b, 0, none⟩), u2, .int .i64 k, u4, .int .i64 k, .pointer (some ⟨b, 1, none⟩), s7, s8, .bool false, u10, u11, u12, u13, u14, u15, u16, u17, u18, u19, u20, u21, u22, u23, u24, u25, u26, u27, u28, u29, u30, u31, u32, u33, u34, c35, c36, c37, c38, c39, c40, c41, c42, c43, c44, c45, c46, c47, c48, .bool P1, c50, c51, c52, c53, .bool P2, c55, c56, c57, c58, .bool P3, c60, c61, c62, c63, .bool P4, c65, c66, c67, c68, .bool P5, c70, c71, c72, c73, .bool P6, c75, c76, c77, c78, .bool P7, c80, c81, c82, c83, .bool P8, c85, c86, c87, c88, .bool P9, c90, c91, c92, c93, .bool P10, c95, c96, c97, c98, c99, undef, undef, undef, undef, undef, undef, undef, undef, undef, undef, undef, undef, undef, undef, undef, undef, undef, undef, undef, undef, undef, undef, undef, undef, undef, undef, undef, undef, undef, undef, undef, undef, undef, undef, undef], []⟩ : Act)) ?_ ?_
      · intro J K' hJ hK
        have x29 := (HX0.out _ HB10.out).2.2.2.2.2.2.2.2.2.2.2.2.2.2.2.2.2.2.2.2.2.2.2.2.2.2.2.2.2.1
        cases P10
        all_goals
          go_wp2_with fail
          refine Met.intro (hJ _ _ ⟨HB10, _, _, _, _, _, congrArg Value.bool (by first | rfl | simp [*]), rfl⟩)
      rintro _ w11 ⟨HB11, c95, c96, c97, c98, c99, rfl, rfl⟩
      obtain ⟨P11, hP11⟩ : ∃ q, (P10 && decide (0 ≤ i.dd)) = q := ⟨_, rfl⟩
      have HP11 := Lib.hid hP11
      rw [hP11]
      clear hP11
      refine wpl_cut5 (fun a' w' => Hid (Below W.heap.size W w') ∧ ∃ c100 c101 c102 c103 c104 : Value, c104 = .bool (P11 && decide (i.dd ≤ 2)) ∧ a' = (⟨#[.agg (IL i a).toArray, .pointer (some ⟨b, 0, none⟩), u2, .int .i64 k, u4, .int .i64 k, .pointer (some ⟨b, 1, none⟩), s7, s8, .bool false, u10, u11, u12, u13, u14, u15, u16, u17, u18, u19, u20, u21, u22, u23, u24, u25, u26, u27, u28, u29, u30, u31, u32, u33, u34, c35, c36, c37, c38, c39, c40, c41, c42, c43, c44, c45, c46, c47, c48, .bool P1, c50, c51, c52, c53, .bool P2, c55, c56, c57, c58, .bool P3, c60, c61, c62, c63, .bool P4, c65, c66, c67, c68, .bool P5, c70, c71, c72, c73, .bool P6, c75, c76, c77, c78, .bool P7, c80, c81, c82, c83, .bool P8, c85, c86, c87, c88, .bool P9, c90, c91, c92, c93, .bool P10, c95, c96, c97, c98, .bool P11, c100, c101, c102, c103, c104, undef, undef, undef, undef, undef, undef, undef, undef, undef, undef, undef, undef, undef, undef, undef, undef, undef, undef, undef, undef, undef, undef, undef, undef, undef, undef, undef, undef, undef, undef], []⟩ : Act)) ?_ ?_
      · intro J K' hJ hK
        have x29 := (HX0.out _ HB11.out).2.2.2.2.2.2.2.2.2.2.2.2.2.2.2.2.2.2.2.2.2.2.2.2.2.2.2.2.2.1
        cases P11
        all_goals
          go_wp2_with fail
          refine Met.intro (hJ _ _ ⟨HB11, _, _, _, _, _, congrArg Value.bool (by first | rfl | simp [*]), rfl⟩)
      rintro _ w12 ⟨HB12, c100, c101, c102, c103, c104, rfl, rfl⟩
      obtain ⟨P12, hP12⟩ : ∃ q, (P11 && decide (i.dd ≤ 2)) = q := ⟨_, rfl⟩
      have HP12 := Lib.hid hP12
      rw [hP12]
      clear hP12
      refine wpl_cut5 (fun a' w' => Hid (Below W.heap.size W w') ∧ ∃ c105 c106 c107 c108 c109 : Value, c109 = .bool (P12 && decide (0 ≤ i.glo)) ∧ a' = (⟨#[.agg (IL i a).toArray, .pointer (some ⟨b, 0, none⟩), u2, .int .i64 k, u4, .int .i64 k, .pointer (some ⟨b, 1, none⟩), s7, s8, .bool false, u10, u11, u12, u13, u14, u15, u16, u17, u18, u19, u20, u21, u22, u23, u24, u25, u26, u27, u28, u29, u30, u31, u32, u33, u34, c35, c36, c37, c38, c39, c40, c41, c42, c43, c44, c45, c46, c47, c48, .bool P1, c50, c51, c52, c53, .bool P2, c55, c56, c57, c58, .bool P3, c60, c61, c62, c63, .bool P4, c65, c66, c67, c68, .bool P5, c70, c71, c72, c73, .bool P6, c75, c76, c77, c78, .bool P7, c80, c81, c82, c83, .bool P8, c85, c86, c87, c88, .bool P9, c90, c91, c92, c93, .bool P10, c95, c96, c97, c98, .bool P11, c100, c101, c102, c103, .bool P12, c105, c106, c107, c108, c109, undef, undef, undef, undef, undef, undef, undef, undef, undef, undef, undef, undef, undef, undef, undef, undef, undef, undef, undef, undef, undef, undef, undef, undef, undef], []⟩ : Act)) ?_ ?_
      · intro J K' hJ hK
        have x30 := (HX0.out _ HB12.out).2.2.2.2.2.2.2.2.2.2.2.2.2.2.2.2.2.2.2.2.2.2.2.2.2.2.2.2.2.2.1
        cases P12
        all_goals
          go_wp2_with fail
          refine Met.intro (hJ _ _ ⟨HB12, _, _, _, _, _, congrArg Value.bool (by first | rfl | simp [*]), rfl⟩)
      rintro _ w13 ⟨HB13, c105, c106, c107, c108, c109, rfl, rfl⟩
      obtain ⟨P13, hP13⟩ : ∃ q, (P12 && decide (0 ≤ i.glo)) = q := ⟨_, rfl⟩
      have HP13 := Lib.hid hP13
      rw [hP13]
      clear hP13
      refine wpl_cut5 (fun a' w' => Hid (Below W.heap.size W w') ∧ ∃ c110 c111 c112 c113 c114 : Value, c114 = .bool (P13 && decide (i.glo ≤ 64)) ∧ a' = (⟨#[.agg (IL i a).toArray, .pointer (some ⟨b, 0, none⟩), u2, .int .i64 k, u4, .int .i64 k, .pointer (some ⟨b, 1, none⟩), s7, s8, .bool false, u10, u11, u12, u13, u14, u15, u16, u17, u18, u19, u20, u21, u22, u23, u24, u25, u26, u27, u28, u29, u30, u31, u32, u33, u34, c35, c36, c37, c38, c39, c40, c41, c42, c43, c44, c45, c46, c47, c48, .bool P1, c50, c51, c52, c53, .bool P2, c55, c56, c57, c58, .bool P3, c60, c61, c62, c63, .bool P4, c65, c66, c67, c68, .bool P5, c70, c71, c72, c73, .bool P6, c75, c76, c77, c78, .bool P7, c80, c81, c82, c83, .bool P8, c85, c86, c87, c88, .bool P9, c90, c91, c92, c93, .bool P10, c95, c96, c97, c98, .bool P11, c100, c101, c102, c103, .bool P12, c105, c106, c107, c108, .bool P13, c110, c111, c112, c113, c114, undef, undef, undef, undef, undef, undef, undef, undef, undef, undef, undef, undef, undef, undef, undef, undef, undef, undef, undef, undef], []⟩ : Act)) ?_ ?_
      · intro J K' hJ hK
        have x30 := (HX0.out _ HB13.out).2.2.2.2.2.2.2.2.2.2.2.2.2.2.2.2.2.2.2.2.2.2.2.2.2.2.2.2.2.2.1
        cases P13
        all_goals
          go_wp2_with fail
          refine Met.intro (hJ _ _ ⟨HB13, _, _, _, _, _, congrArg Value.bool (by first | rfl | simp [*]), rfl⟩)
      rintro _ w14 ⟨HB14, c110, c111, c112, c113, c114, rfl, rfl⟩
      obtain ⟨P14, hP14⟩ : ∃ q, (P13 && decide (i.glo ≤ 64)) = q := ⟨_, rfl⟩
      have HP14 := Lib.hid hP14
      rw [hP14]
      clear hP14
      refine wpl_cut5 (fun a' w' => Hid (Below W.heap.size W w') ∧ ∃ c115 c116 c117 c118 c119 : Value, c119 = .bool (P14 && decide ((-1) ≤ i.cut)) ∧ a' = (⟨#[.agg (IL i a).toArray, .pointer (some ⟨b, 0, none⟩), u2, .int .i64 k, u4, .int .i64 k, .pointer (some ⟨b, 1, none⟩), s7, s8, .bool false, u10, u11, u12, u13, u14, u15, u16, u17, u18, u19, u20, u21, u22, u23, u24, u25, u26, u27, u28, u29, u30, u31, u32, u33, u34, c35, c36, c37, c38, c39, c40, c41, c42, c43, c44, c45, c46, c47, c48, .bool P1, c50, c51, c52, c53, .bool P2, c55, c56, c57, c58, .bool P3, c60, c61, c62, c63, .bool P4, c65, c66, c67, c68, .bool P5, c70, c71, c72, c73, .bool P6, c75, c76, c77, c78, .bool P7, c80, c81, c82, c83, .bool P8, c85, c86, c87, c88, .bool P9, c90, c91, c92, c93, .bool P10, c95, c96, c97, c98, .bool P11, c100, c101, c102, c103, .bool P12, c105, c106, c107, c108, .bool P13, c110, c111, c112, c113, .bool P14, c115, c116, c117, c118, c119, undef, undef, undef, undef, undef, undef, undef, undef, undef, undef, undef, undef, undef, undef, undef], []⟩ : Act)) ?_ ?_
      · intro J K' hJ hK
        have x31 := (HX0.out _ HB14.out).2.2.2.2.2.2.2.2.2.2.2.2.2.2.2.2.2.2.2.2.2.2.2.2.2.2.2.2.2.2.2.1
        cases P14
        all_goals
          go_wp2_with fail
          refine Met.intro (hJ _ _ ⟨HB14, _, _, _, _, _, congrArg Value.bool (by first | rfl | simp [*]), rfl⟩)
      rintro _ w15 ⟨HB15, c115, c116, c117, c118, c119, rfl, rfl⟩
      obtain ⟨P15, hP15⟩ : ∃ q, (P14 && decide ((-1) ≤ i.cut)) = q := ⟨_, rfl⟩
      have HP15 := Lib.hid hP15
      rw [hP15]
      clear hP15
      refine wpl_cut5 (fun a' w' => Hid (Below W.heap.size W w') ∧ ∃ c120 c121 c122 c123 c124 : Value, c124 = .bool (P15 && decide (i.cut ≤ 127)) ∧ a' = (⟨#[.agg (IL i a).toArray, .pointer (some ⟨b, 0, none⟩), u2, .int .i64 k, u4, .int .i64 k, .pointer (some ⟨b, 1, none⟩), s7, s8, .bool false, u10, u11, u12, u13, u14, u15, u16, u17, u18, u19, u20, u21, u22, u23, u24, u25, u26, u27, u28, u29, u30, u31, u32, u33, u34, c35, c36, c37, c38, c39, c40, c41, c42, c43, c44, c45, c46, c47, c48, .bool P1, c50, c51, c52, c53, .bool P2, c55, c56, c57, c58, .bool P3, c60, c61, c62, c63, .bool P4, c65, c66, c67, c68, .bool P5, c70, c71, c72, c73, .bool P6, c75, c76, c77, c78, .bool P7, c80, c81, c82, c83, .bool P8, c85, c86, c87, c88, .bool P9, c90, c91, c92, c93, .bool P10, c95, c96, c97, c98, .bool P11, c100, c101, c102, c103, .bool P12, c105, c106, c107, c108, .bool P13, c110, c111, c112, c113, .bool P14, c115, c116, c117, c118, .bool P15, c120, c121, c122, c123, c124, undef, undef, undef, undef, undef, undef, undef, undef, undef, undef], []⟩ : Act)) ?_ ?_
      · intro J K' hJ hK
        have x31 := (HX0.out _ HB15.out).2.2.2.2.2.2.2.2.2.2.2.2.2.2.2.2.2.2.2.2.2.2.2.2.2.2.2.2.2.2.2.1
        cases P15
        all_goals
          go_wp2_with fail
          refine Met.intro (hJ _ _ ⟨HB15, _, _, _, _, _, congrArg Value.bool (by first | rfl | simp [*]), rfl⟩)
      rintro _ w16 ⟨HB16, c120, c121, c122, c123, c124, rfl, rfl⟩
      obtain ⟨P16, hP16⟩ : ∃ q, (P15 && decide (i.cut ≤ 127)) = q := ⟨_, rfl⟩
      have HP16 := Lib.hid hP16
      rw [hP16]
      clear hP16
      refine wpl_cut5 (fun a' w' => Hid (Below W.heap.size W w') ∧ ∃ c125 c126 c127 c128 c129 : Value, c129 = .bool (P16 && decide ((-1) ≤ i.res)) ∧ a' = (⟨#[.agg (IL i a).toArray, .pointer (some ⟨b, 0, none⟩), u2, .int .i64 k, u4, .int .i64 k, .pointer (some ⟨b, 1, none⟩), s7, s8, .bool false, u10, u11, u12, u13, u14, u15, u16, u17, u18, u19, u20, u21, u22, u23, u24, u25, u26, u27, u28, u29, u30, u31, u32, u33, u34, c35, c36, c37, c38, c39, c40, c41, c42, c43, c44, c45, c46, c47, c48, .bool P1, c50, c51, c52, c53, .bool P2, c55, c56, c57, c58, .bool P3, c60, c61, c62, c63, .bool P4, c65, c66, c67, c68, .bool P5, c70, c71, c72, c73, .bool P6, c75, c76, c77, c78, .bool P7, c80, c81, c82, c83, .bool P8, c85, c86, c87, c88, .bool P9, c90, c91, c92, c93, .bool P10, c95, c96, c97, c98, .bool P11, c100, c101, c102, c103, .bool P12, c105, c106, c107, c108, .bool P13, c110, c111, c112, c113, .bool P14, c115, c116, c117, c118, .bool P15, c120, c121, c122, c123, .bool P16, c125, c126, c127, c128, c129, undef, undef, undef, undef, undef], []⟩ : Act)) ?_ ?_
      · intro J K' hJ hK
        have x32 := (HX0.out _ HB16.out).2.2.2.2.2.2.2.2.2.2.2.2.2.2.2.2.2.2.2.2.2.2.2.2.2.2.2.2.2.2.2.2
        cases P16
        all_goals
          go_wp2_with fail
          refine Met.intro (hJ _ _ ⟨HB16, _, _, _, _, _, congrArg Value.bool (by first | rfl | simp [*]), rfl⟩)
      rintro _ w17 ⟨HB17, c125, c126, c127, c128, c129, rfl, rfl⟩
      obtain ⟨P17, hP17⟩ : ∃ q, (P16 && decide ((-1) ≤ i.res)) = q := ⟨_, rfl⟩
      have HP17 := Lib.hid hP17
      rw [hP17]
      clear hP17
      refine wpl_cut5 (fun a' w' => Hid (Below W.heap.size W w') ∧ ∃ c130 c131 c132 c133 c134 : Value, c134 = .bool (P17 && decide (i.res ≤ 127)) ∧ a' = (⟨#[.agg (IL i a).toArray, .pointer (some ⟨b, 0, none⟩), u2, .int .i64 k, u4, .int .i64 k, .pointer (some ⟨b, 1, none⟩), s7, s8, .bool false, u10, u11, u12, u13, u14, u15, u16, u17, u18, u19, u20, u21, u22, u23, u24, u25, u26, u27, u28, u29, u30, u31, u32, u33, u34, c35, c36, c37, c38, c39, c40, c41, c42, c43, c44, c45, c46, c47, c48, .bool P1, c50, c51, c52, c53, .bool P2, c55, c56, c57, c58, .bool P3, c60, c61, c62, c63, .bool P4, c65, c66, c67, c68, .bool P5, c70, c71, c72, c73, .bool P6, c75, c76, c77, c78, .bool P7, c80, c81, c82, c83, .bool P8, c85, c86, c87, c88, .bool P9, c90, c91, c92, c93, .bool P10, c95, c96, c97, c98, .bool P11, c100, c101, c102, c103, .bool P12, c105, c106, c107, c108, .bool P13, c110, c111, c112, c113, .bool P14, c115, c116, c117, c118, .bool P15, c120, c121, c122, c123, .bool P16, c125, c126, c127, c128, .bool P17, c130, c131, c132, c133, c134], []⟩ : Act)) ?_ ?_
      · intro J K' hJ hK
        have x32 := (HX0.out _ HB17.out).2.2.2.2.2.2.2.2.2.2.2.2.2.2.2.2.2.2.2.2.2.2.2.2.2.2.2.2.2.2.2.2
        cases P17
        all_goals
          go_wp2_with fail
          refine Met.intro (hJ _ _ ⟨HB17, _, _, _, _, _, congrArg Value.bool (by first | rfl | simp [*]), rfl⟩)
      rintro _ w18 ⟨HB18, c130, c131, c132, c133, c134, rfl, rfl⟩
      obtain ⟨P18, hP18⟩ : ∃ q, (P17 && decide (i.res ≤ 127)) = q := ⟨_, rfl⟩
      have HP18 := Lib.hid hP18
      rw [hP18]
      clear hP18
      go_wp2_with fail
      go_ret
      refine ⟨ret_bool ?_, HWb.out.trans (HB18.out.mono HWb.out.size)⟩
      rw [HE.out, ← HP18.out, ← HP17.out, ← HP16.out, ← HP15.out, ← HP14.out, ← HP13.out, ← HP12.out, ← HP11.out, ← HP10.out, ← HP9.out, ← HP8.out, ← HP7.out, ← HP6.out, ← HP5.out, ← HP4.out, ← HP3.out, ← HP2.out, ← HP1.out]
      simp [In.wth, Bool.and_assoc]
end Go.Proofs.Ytcchfahdgmcpbaa

/-
  The contract of the law package's instant over an instrument that lies at two places.
-/
import Derived.Test.YtcchfahdgmcpbaaPSame2
import Derived.Deep.DeepCutAuto
namespace Go.Proofs.Ytcchfahdgmcpbaa
open Go.RowKit

/-- An envelope's cells. -/
def EL (e : In.Env) (p : Option Addr) (c : Nat) : List Value := [.bool e.on, .slice p e.pts.length c, .bool e.sus, .int .i64 e.ss, .int .i64 e.se, .bool e.lp, .int .i64 e.ls, .int .i64 e.le]
/-- The cells of the three pairs of envelopes. -/
def TL (i : In.Ins) (a a' : In.Loc) : List Value := EL i.vol a.v a.cv ++ EL i.vol a'.v a'.cv ++ (EL i.pan a.p a.cp ++ EL i.pan a'.p a'.cp ++ (EL i.pit a.t a.ct ++ EL i.pit a'.t a'.ct))
/-- Two envelopes' blocks. -/
def Pq (w : World) (p q : Nat) (e : In.Env) (c c' : Option Addr) (n n' : Nat) : Prop := EB w p e c n ∧ EB w q e c' n'
theorem eb_drew {w : World} {b : Nat} {e : In.Env} {p : Option Addr} {c : Nat} (h : EB w b e p c) : EB w.drew b e p c := h.below (Below.refl w.heap.size w).drew h.lt
theorem pq_a (X : World) (n : Nat) (hn : X.heap.size = n) (e : In.Env) (p q : Option Addr) (c c' : Nat) : Pq ((X.alloc (.cells #[.bool e.on, .slice p e.pts.length c, .bool e.sus, .int .i64 e.ss, .int .i64 e.se, .bool e.lp, .int .i64 e.ls, .int .i64 e.le] 24)).alloc (.cells #[.bool e.on, .slice q e.pts.length c', .bool e.sus, .int .i64 e.ss, .int .i64 e.se, .bool e.lp, .int .i64 e.ls, .int .i64 e.le] 24)).drew n (n + 1) e p q c c' := by
  subst hn
  have h := eb_new (X.alloc (.cells #[.bool e.on, .slice p e.pts.length c, .bool e.sus, .int .i64 e.ss, .int .i64 e.se, .bool e.lp, .int .i64 e.ls, .int .i64 e.le] 24)) e q c' 24
  rw [World.size_alloc] at h
  exact ⟨eb_drew ((eb_new X e p c _).kept (below_box _ _)), eb_drew h⟩
theorem pq_b (X : World) (n : Nat) (hn : X.heap.size = n) (e : In.Env) (p q : Option Addr) (c c' : Nat) : Pq ((X.alloc (.cells #[.bool e.on, .slice q e.pts.length c', .bool e.sus, .int .i64 e.ss, .int .i64 e.se, .bool e.lp, .int .i64 e.ls, .int .i64 e.le] 24)).alloc (.cells #[.bool e.on, .slice p e.pts.length c, .bool e.sus, .int .i64 e.ss, .int .i64 e.se, .bool e.lp, .int .i64 e.ls, .int .i64 e.le] 24)).drew (n + 1) n e p q c c' := by
  subst hn
  have h := eb_new (X.alloc (.cells #[.bool e.on, .slice q e.pts.length c', .bool e.sus, .int .i64 e.ss, .int .i64 e.se, .bool e.lp, .int .i64 e.ls, .int .i64 e.le] 24)) e p c 24
  rw [World.size_alloc] at h
  exact ⟨eb_drew h, eb_drew ((eb_new X e q c' _).kept (below_box _ _))⟩
theorem pq_low (w : World) (o1 o2 o3 : Obj) : Below w.heap.size w (((w.alloc o1).alloc o2).alloc o3).drew := (stepB (stepB (below_box w o1) (below_box _ o2)) (below_box _ o3)).drew
theorem tl_at (i : In.Ins) (a a' : In.Loc) {k : Nat} (hk : k < 3) : ∃ (e : In.Env) (p p' : Option Addr) (c c' : Nat), (k = 0 ∧ e = i.vol ∧ p = a.v ∧ p' = a'.v ∨ k = 1 ∧ e = i.pan ∧ p = a.p ∧ p' = a'.p ∨ k = 2 ∧ e = i.pit ∧ p = a.t ∧ p' = a'.t) ∧ ∀ j v, (EL e p c ++ EL e p' c')[j]? = some v → (TL i a a')[k * 16 + j]? = some v := by
  rcases (show k = 0 ∨ k = 1 ∨ k = 2 by omega) with rfl | rfl | rfl
  · refine ⟨i.vol, a.v, a'.v, a.cv, a'.cv, .inl ⟨rfl, rfl, rfl, rfl⟩, fun j v h => ?_⟩
    have hj : j < 16 := (List.getElem?_eq_some_iff.1 h).1
    unfold TL
    rw [List.getElem?_append_left (show 0 * 16 + j < (EL i.vol a.v a.cv ++ EL i.vol a'.v a'.cv).length by show 0 * 16 + j < 16; omega), show 0 * 16 + j = j by omega]
    exact h
  · refine ⟨i.pan, a.p, a'.p, a.cp, a'.cp, .inr (.inl ⟨rfl, rfl, rfl, rfl⟩), fun j v h => ?_⟩
    have hj : j < 16 := (List.getElem?_eq_some_iff.1 h).1
    unfold TL
    rw [List.getElem?_append_right (show (EL i.vol a.v a.cv ++ EL i.vol a'.v a'.cv).length ≤ 1 * 16 + j by show 16 ≤ 1 * 16 + j; omega), show 1 * 16 + j - (EL i.vol a.v a.cv ++ EL i.vol a'.v a'.cv).length = j by show 1 * 16 + j - 16 = j; omega, List.getElem?_append_left (show j < (EL i.pan a.p a.cp ++ EL i.pan a'.p a'.cp).length from hj)]
    exact h
  · refine ⟨i.pit, a.t, a'.t, a.ct, a'.ct, .inr (.inr ⟨rfl, rfl, rfl, rfl⟩), fun j v h => ?_⟩
    have hj : j < 16 := (List.getElem?_eq_some_iff.1 h).1
    unfold TL
    rw [List.getElem?_append_right (show (EL i.vol a.v a.cv ++ EL i.vol a'.v a'.cv).length ≤ 2 * 16 + j by show 16 ≤ 2 * 16 + j; omega), show 2 * 16 + j - (EL i.vol a.v a.cv ++ EL i.vol a'.v a'.cv).length = 16 + j by show 2 * 16 + j - 16 = 16 + j; omega, List.getElem?_append_right (show (EL i.pan a.p a.cp ++ EL i.pan a'.p a'.cp).length ≤ 16 + j by show 16 ≤ 16 + j; omega), show 16 + j - (EL i.pan a.p a.cp ++ EL i.pan a'.p a'.cp).length = j by show 16 + j - 16 = j; omega]
    exact h
/-- What a round of instant is given: an envelope at two places. -/
theorem inst_round {w : World} {s k : Nat} {i : In.Ins} {a a' : In.Loc} (hk : k < 3) (hT : w.rangeAt s 0 (TL i a a')) (hv : (i.vol.pts.length : Int) ≤ 1000) (hp : (i.pan.pts.length : Int) ≤ 1000) (ht : (i.pit.pts.length : Int) ≤ 1000) :
    ∃ (e : In.Env) (p p' : Option Addr) (c c' : Nat), (e.pts.length : Int) ≤ 1000 ∧ (∀ u, IPts u i a → PtsAt u p e.pts) ∧ (∀ u, IPts u i a' → PtsAt u p' e.pts) ∧ ∀ j v, (EL e p c ++ EL e p' c')[j]? = some v → w.cell? ⟨s, k * 16 + j, none⟩ = some v := by
  obtain ⟨e, p, p', c, c', hc, hx⟩ := tl_at i a a' hk
  refine ⟨e, p, p', c, c', ?_, ?_, ?_, fun j v h => by have := hT _ _ (hx j v h); rwa [Nat.zero_add] at this⟩
  · rcases hc with ⟨_, rfl, _⟩ | ⟨_, rfl, _⟩ | ⟨_, rfl, _⟩ <;> assumption
  · rcases hc with ⟨_, rfl, rfl, _⟩ | ⟨_, rfl, rfl, _⟩ | ⟨_, rfl, rfl, _⟩
    · exact fun u h => h.2.1
    · exact fun u h => h.2.2.1
    · exact fun u h => h.2.2.2
  · rcases hc with ⟨_, rfl, _, rfl⟩ | ⟨_, rfl, _, rfl⟩ | ⟨_, rfl, _, rfl⟩
    · exact fun u h => h.2.1
    · exact fun u h => h.2.2.1
    · exact fun u h => h.2.2.2
set_option maxRecDepth 100000 in
set_option maxHeartbeats 6400000 in
theorem p_instant (i : In.Ins) (a a' : In.Loc) (w : World) (hd : IPts w i a) (hd' : IPts w i a') (hk : (i.keys.length : Int) ≤ 1000) (hv : (i.vol.pts.length : Int) ≤ 1000) (hp : (i.pan.pts.length : Int) ≤ 1000) (ht : (i.pit.pts.length : Int) ≤ 1000) :
    Calls Try.prog 26 #[.agg (IL i a).toArray, .agg (IL i a').toArray] w fun x w' => x = .returned (.bool true) ∧ Below w.heap.size w w' := by
  have Hk := Lib.hid hk
  have Hv := Lib.hid hv
  have Hp := Lib.hid hp
  have Ht := Lib.hid ht
  clear hk hv hp ht
  obtain ⟨W, hW⟩ : ∃ W, W = (w.alloc (.cells (IL i a).toArray 40)).alloc (.cells (IL i a').toArray 40) := ⟨_, rfl⟩
  obtain ⟨b, hbe⟩ : ∃ b, b = w.heap.size := ⟨_, rfl⟩
  obtain ⟨r, hre⟩ : ∃ r, r = b + 1 := ⟨_, rfl⟩
  have HA := Lib.hid (show Bx W b i a by
    rw [hW, hbe]
    exact (bx_new w i a hd).kept (below_box _ _))
  have HB := Lib.hid (show Bx W r i a' by
    have q1 : w.heap.size + 1 = (w.alloc (.cells (IL i a).toArray 40)).heap.size := by simp
    rw [hW, hre, hbe, q1]
    exact bx_new _ i a' ⟨hd'.1.below (below_box _ _), hd'.2.1.below (below_box _ _), hd'.2.2.1.below (below_box _ _), hd'.2.2.2.below (below_box _ _)⟩)
  have HWb := Lib.hid (show Below w.heap.size w W by rw [hW]; exact stepB (below_box _ _) (below_box _ _))
  clear hd hd'
  go_enter Try.func26, Try.ntmps26
  go_upto_region 1 with fail
  rw [← hW, ← hbe, ← hre]
  clear hW hbe hre
  go_cut [24, 25, 26] (fun t24 t25 t26 wx => ∃ s, t24 = .slice (some ⟨s, 0, none⟩) 3 3 ∧ t25 = .int .i64 3 ∧ t26 = .int .i64 0 ∧ Hid (wx.rangeAt s 0 (TL i a a') ∧ s < wx.heap.size) ∧ Hid (Below W.heap.size W wx))
  case first =>
    obtain ⟨-, -, x2, x3, x4, x5, x6, x7, x8, x9, x10, x11, x12, x13, x14, x15, x16, x17, x18, x19, x20, x21, x22, x23, x24, x25, -⟩ := range_ib HA.out.rng
    obtain ⟨-, -, y2, y3, y4, y5, y6, y7, y8, y9, y10, y11, y12, y13, y14, y15, y16, y17, y18, y19, y20, y21, y22, y23, y24, y25, -⟩ := range_ib HB.out.rng
    go_wp2
    go_meet
    exact ⟨_, rfl, rfl, rfl, ⟨range_box W (TL i a a') _, by simp⟩, below_box _ _⟩
  case rest =>
    obtain ⟨s, rfl, rfl, rfl, HT0, HW0⟩ := hcut
    go_wp2
    go_loopw [26] (fun j wr => ∃ k : Nat, k ≤ 3 ∧ j = .int .i64 k ∧ Hid (wr.rangeAt s 0 (TL i a a') ∧ s < wr.heap.size) ∧ Hid (Below W.heap.size W wr)) (fun j _ => 3 - (intOf j).toNat)
    case atStart => exact ⟨0, by omega, rfl, HT0.out, HW0.out⟩
    case round =>
      obtain ⟨k, hk, rfl, HT, HW⟩ := hrel
      by_cases hlt : k < 3
      · obtain ⟨e, p, p', c, c', hle, hq1, hq2, hz⟩ := inst_round hlt HT.out.1 Hv.out Hp.out Ht.out
        have HL := Lib.hid hle
        have HQ1 := Lib.hid hq1
        have HQ2 := Lib.hid hq2
        have z0 := hz 0 _ rfl
        rw [Nat.add_zero] at z0
        have z1 := hz 1 _ rfl
        have z2 := hz 2 _ rfl
        have z3 := hz 3 _ rfl
        have z4 := hz 4 _ rfl
        have z5 := hz 5 _ rfl
        have z6 := hz 6 _ rfl
        have z7 := hz 7 _ rfl
        have z8 := hz 8 _ rfl
        have z9 := hz 9 _ rfl
        have z10 := hz 10 _ rfl
        have z11 := hz 11 _ rfl
        have z12 := hz 12 _ rfl
        have z13 := hz 13 _ rfl
        have z14 := hz 14 _ rfl
        have z15 := hz 15 _ rfl
        clear hz hle hq1 hq2
        have hki : (k : Int) < 3 := by omega
        go_upto_region 4 with fail
        go_cut [7, 8] (fun t7 t8 wx => ∃ x y, t7 = .pointer (some ⟨x, 0, none⟩) ∧ t8 = .pointer (some ⟨y, 0, none⟩) ∧ Hid (Pq wx x y e p p' c c') ∧ Hid (Below wr.heap.size wr wx))
        case first =>
          clear z0 z1 z2 z3 z4 z5 z6 z7 z8 z9 z10 z11 z12 z13 z14 z15
          go_region
          all_goals
            go_wp2
            go_meet
            first | exact ⟨_, _, rfl, rfl, pq_a _ _ (by simp) e p p' c c', pq_low _ _ _ _⟩ | exact ⟨_, _, rfl, rfl, pq_b _ _ (by simp) e p p' c c', pq_low _ _ _ _⟩
        case rest =>
          obtain ⟨x, y, rfl, rfl, HP, HV⟩ := hcut
          clear z0 z1 z2 z3 z4 z5 z6 z7 z8 z9 z10 z11 z12 z13 z14 z15
          have HWc := Lib.hid (HW.out.trans (HV.out.mono HW.out.size))
          have HPA := Lib.hid (HQ1.out _ (HA.out.kept HWc.out).pts)
          have HPB := Lib.hid (HQ2.out _ (HB.out.kept HWc.out).pts)
          have p1 := HP.out.1.2.1
          have q1 := HP.out.2.2.1
          go_wp2_with (first | (go_at_call 52; ((with_reducible refine (p_sameP e.pts p p' c c' wc HPA.out HPB.out HL.out).mono ?_); rintro x' w8 ⟨rfl, hb8⟩; have HB8 := Lib.hid hb8; clear hb8 p1 q1; have ⟨p0, p1, p2, p3, p4, p5, p6, p7⟩ := HP.out.1.kept HB8.out; have ⟨q0, q1, q2, q3, q4, q5, q6, q7⟩ := HP.out.2.kept HB8.out)))
          go_roundw
          case rel => exact ⟨k + 1, by omega, by go_num, ⟨range_below (range_below HT.out.1 HV.out HT.out.2) HB8.out (Nat.lt_of_lt_of_le HT.out.2 HV.out.size), Nat.lt_of_lt_of_le HT.out.2 (Nat.le_trans HV.out.size HB8.out.size)⟩, HWc.out.trans (HB8.out.mono HWc.out.size)⟩
          case measure => simp [intOf]; omega
      · have hlt3 : ¬ ((k : Int) < 3) := by omega
        obtain ⟨x0, x1, -, -, -, -, -, -, -, -, -, -, -, -, -, -, -, -, -, -, -, -, -, -, -, -, x26, x27, x28, x29, x30, x31, x32⟩ := range_ib (HA.out.kept HW.out).rng
        obtain ⟨y0, y1, -, -, -, -, -, -, -, -, -, -, -, -, -, -, -, -, -, -, -, -, -, -, -, -, y26, y27, y28, y29, y30, y31, y32⟩ := range_ib (HB.out.kept HW.out).rng
        have HPA := Lib.hid (HA.out.kept HW.out).pts.1
        have HPB := Lib.hid (HB.out.kept HW.out).pts.1
        go_wp2_with (first | (go_at_call 27; ((with_reducible refine (p_sameK i.keys a.k a'.k a.ck a'.ck wr HPA.out HPB.out Hk.out).mono ?_); rintro x' w8 ⟨rfl, hb8⟩; have HB8 := Lib.hid hb8; clear hb8 x0 y0 x1 y1 x26 y26 x27 y27 x28 y28 x29 y29 x30 y30 x31 y31 x32 y32; have HW8 := Lib.hid (HW.out.trans (HB8.out.mono HW.out.size)); obtain ⟨x0, -, -, -, -, -, -, -, -, -, -, -, -, -, -, -, -, -, -, -, -, -, -, -, -, -, x26, x27, x28, x29, x30, x31, x32⟩ := range_ib (HA.out.kept HW8.out).rng; obtain ⟨y0, -, -, -, -, -, -, -, -, -, -, -, -, -, -, -, -, -, -, -, -, -, -, -, -, -, y26, y27, y28, y29, y30, y31, y32⟩ := range_ib (HB.out.kept HW8.out).rng)))
        go_ret
        exact ⟨rfl, HWb.out.trans (HW8.out.mono HWb.out.size)⟩
end Go.Proofs.Ytcchfahdgmcpbaa

/-
  Package pattern's reader.value.
-/
import Derived.Test.YtfjfnbeegojlbaaPRd
namespace Go.Proofs.Ytfjfnbeegojlbaa
open Go.RowKit

namespace Pt
/-- Behind a part's first number. -/
def vl1 (k : Nat) (v1 : Int) (b : List Int) : Except Int ((Int × Int) × List Int) := if num k = 1 then .ok ((v1, 0), b) else match b with | [] => .error 12 | y :: t => .ok ((v1, y), t)
theorem vl1_nil (k : Nat) (v : Int) : vl1 k v [] = if num k = 1 then .ok ((v, 0), []) else .error 12 := rfl
theorem vl1_cons (k : Nat) (v y : Int) (t : List Int) : vl1 k v (y :: t) = if num k = 1 then .ok ((v, 0), y :: t) else .ok ((v, y), t) := rfl
theorem vl_cons (k : Nat) (x : Int) (t : List Int) : vl k (x :: t) = if x = 0 then .error 9 else vl1 k x t := rfl
end Pt
/-- Where value stands behind j numbers. -/
def Vs (k : Nat) (xs : List Int) (T : Except Int ((Int × Int) × List Int)) (j : Nat) (v : Int × Int) (i : Nat) : Prop :=
  (j = 0 ∧ v = (0, 0) ∧ Pt.vl k (xs.drop i) = T) ∨ (j = 1 ∧ v.1 ≠ 0 ∧ v.2 = 0 ∧ Pt.vl1 k v.1 (xs.drop i) = T) ∨ (j = 2 ∧ Pt.num k = 2 ∧ T = .ok (v, xs.drop i))
def nv (j : Nat) (v : Int × Int) (y : Int) : Int × Int := if j = 0 then (y, 0) else (v.1, y)
theorem Vs.nil {k : Nat} {xs : List Int} {T : Except Int ((Int × Int) × List Int)} {j : Nat} {v : Int × Int} {i : Nat} (h : Vs k xs T j v i) (hj : j < Pt.num k) (e : xs.drop i = []) : T = .error 12 := by
  rcases h with ⟨h1, h2, h3⟩ | ⟨h1, h2, h3, h4⟩ | ⟨h1, h2, h3⟩
  · rw [← h3, e]; rfl
  · rw [← h4, e, Pt.vl1_nil, if_neg (by omega)]
  · omega
theorem Vs.bad {k : Nat} {xs : List Int} {T : Except Int ((Int × Int) × List Int)} {j : Nat} {v : Int × Int} {i : Nat} (h : Vs k xs T j v i) (hj : j < Pt.num k) {y : Int} {t : List Int} (e : xs.drop i = y :: t) (hs : Pt.isSet (nv j v y) = false) : T = .error 9 := by
  rcases h with ⟨h1, h2, h3⟩ | ⟨h1, h2, h3, h4⟩ | ⟨h1, h2, h3⟩
  · have : y = 0 := by simpa [nv, h1, Pt.isSet] using hs
    rw [← h3, e, Pt.vl_cons, if_pos this]
  · simp [nv, h1, Pt.isSet] at hs
    exact absurd hs h2
  · omega
theorem Vs.ok {k : Nat} {xs : List Int} {T : Except Int ((Int × Int) × List Int)} {j : Nat} {v : Int × Int} {i : Nat} (h : Vs k xs T j v i) (hj : j < Pt.num k) {y : Int} {t : List Int} (e : xs.drop i = y :: t) (hs : Pt.isSet (nv j v y) = true) : Vs k xs T (j + 1) (nv j v y) (i + 1) := by
  obtain ⟨-, -, et⟩ := drop_cons' e
  rcases h with ⟨h1, h2, h3⟩ | ⟨h1, h2, h3, h4⟩ | ⟨h1, h2, h3⟩
  · subst h1
    have hy : y ≠ 0 := by simpa [nv, Pt.isSet] using hs
    rw [e, Pt.vl_cons, if_neg hy, et] at h3
    exact .inr (.inl ⟨rfl, hy, rfl, h3⟩)
  · subst h1
    have hn : Pt.num k = 2 := by have := Pt.num_le k; omega
    rw [e, Pt.vl1_cons, if_neg (by omega), et] at h4
    exact .inr (.inr ⟨rfl, hn, h4.symm⟩)
  · omega
theorem Vs.fin {k : Nat} {xs : List Int} {T : Except Int ((Int × Int) × List Int)} {j : Nat} {v : Int × Int} {i : Nat} (h : Vs k xs T j v i) (hj : j = Pt.num k) : T = .ok (v, xs.drop i) := by
  have := Pt.num_le k
  rcases h with ⟨h1, h2, h3⟩ | ⟨h1, h2, h3, h4⟩ | ⟨h1, h2, h3⟩
  · omega
  · rw [← h4]
    unfold Pt.vl1
    rw [if_pos (by omega), ← h3]
  · exact h3
theorem nv_set {j : Nat} (hj : j < 2) (v : Int × Int) (y : Int) (h0 : j = 0 → v.2 = 0) : VL (nv j v y) = (VL v).set j (.int .i64 y) := by
  match j, hj with
  | 0, _ => simp [nv, VL, h0]
  | 1, _ => rfl
/-- Where value stands: the reader, what it has read. -/
structure Vw (w : World) (bR b5 : Nat) (xs : List Int) (p : Option Addr) (cap i : Nat) (v : Int × Int) (w' : World) : Prop where
  rn : Rn w' bR xs p cap i
  s1 : S1 w bR 1 (.int .i64 (i : Nat)) w'
  rv : w'.rangeAt b5 0 (VL v)
  tv : w'.there b5 0 2
  tr : w'.there (w.heap.size) 0 2
theorem Vw.below {w : World} {bR b5 : Nat} {xs : List Int} {p : Option Addr} {cap i : Nat} {v : Int × Int} {w1 w2 : World} (h : Vw w bR b5 xs p cap i v w1) (hb : Below w1.heap.size w1 w2) : Vw w bR b5 xs p cap i v w2 := by
  have h4 : w.heap.size < w1.heap.size := by
    obtain ⟨u, hu⟩ := Option.isSome_iff_exists.1 (h.tr 0 (by decide)).1
    exact cell_lt hu
  exact ⟨h.rn.below hb, h.s1.below hb, range_below h.rv hb (cell_lt (h.rv 0 _ rfl)), there_below h.tv hb (cell_lt (h.rv 0 _ rfl)), there_below h.tr hb h4⟩
theorem Vw.set {w : World} {bR b5 : Nat} {xs : List Int} {p : Option Addr} {cap i j : Nat} {v v' : Int × Int} {y : Int} {w1 : World} (h : Vw w bR b5 xs p cap i v w1) (hj : j < 2) (hv : VL v' = (VL v).set j (.int .i64 y)) (hR : bR < w.heap.size) (h5 : b5 = w.heap.size + 1) (hp : ∀ b off, p = some ⟨b, off, none⟩ → b < w.heap.size) : Vw w bR b5 xs p cap i v' (w1.setCell ⟨b5, j, none⟩ (.int .i64 y)) := by
  have h4 : w.heap.size < w1.heap.size := by
    obtain ⟨u, hu⟩ := Option.isSome_iff_exists.1 (h.tr 0 (by decide)).1
    exact cell_lt hu
  have hg := grown_set w1 b5 j (.int .i64 y)
  refine ⟨h.rn.fresh hg (by omega) (fun b off e => by have := hp b off e; omega), h.s1.fresh hR hg (by omega), ?_, there_set h.tv, there_grown h.tr hg (by omega) h4⟩
  rw [hv]
  have := range_set_in (p := j) (v := .int .i64 y) h.rv (by show j < 2; omega)
  rwa [Nat.zero_add] at this
/-- What value does. -/
def RetV (w : World) (bR : Nat) (xs : List Int) (T : Except Int ((Int × Int) × List Int)) (x : Ending) (w' : World) : Prop :=
  match T with
  | .error e => x = Pn e ∧ w.grownBy w' (some bR)
  | .ok (v, t) => ∃ j, x = .returned (VV v) ∧ t = xs.drop j ∧ j ≤ xs.length ∧ S1 w bR 1 (.int .i64 (j : Nat)) w'
set_option maxRecDepth 100000 in
set_option maxHeartbeats 3200000 in
theorem p_value {k : Nat} {w : World} {bR : Nat} {xs : List Int} {p : Option Addr} {cap i : Nat} (h : Rn w bR xs p cap i) (hp : ∀ b off, p = some ⟨b, off, none⟩ → b < w.heap.size) :
    Calls Try.prog 84 #[.pointer (some ⟨bR, 0, none⟩), .int .i64 (Pt.num k : Nat)] w fun x w' => RetV w bR xs (Pt.vl k (xs.drop i)) x w' := by
  obtain ⟨V, hV⟩ : ∃ V, V = w.alloc (.cells #[.int .i64 0, .int .i64 0] 93) := ⟨_, rfl⟩
  obtain ⟨W, hW⟩ : ∃ W, W = V.alloc (.cells #[.int .i64 0, .int .i64 0] 93) := ⟨_, rfl⟩
  have HB1 := Lib.hid (show Below w.heap.size w V by rw [hV]; exact below_box _ _)
  have HB2 := Lib.hid (show Below V.heap.size V W by rw [hW]; exact below_box _ _)
  have HZ := Lib.hid (show V.heap.size = w.heap.size + 1 ∧ W.heap.size = w.heap.size + 2 from ⟨by rw [hV]; simp, by rw [hW, hV]; simp⟩)
  have HV0 := Lib.hid (show Vw w bR (w.heap.size + 1) xs p cap i (0, 0) W from
    ⟨h.below (stepB HB1.out HB2.out), S1.refl (stepB HB1.out HB2.out) h.ps h.fz, by rw [hW, ← HZ.out.1]; exact range_box V (VL (0, 0)) _, by rw [hW, ← HZ.out.1]; exact there_box V (VL (0, 0)) _, there_below (by rw [hV]; exact there_box w (VL (0, 0)) _) HB2.out (by rw [HZ.out.1]; omega)⟩)
  obtain ⟨T, hT⟩ : ∃ T, Pt.vl k (xs.drop i) = T := ⟨_, rfl⟩
  rw [hT]
  have HT := Lib.hid hT
  have HH := Lib.hid h
  obtain ⟨N, hN⟩ : ∃ N, Pt.num k = N := ⟨_, rfl⟩
  have HN := Lib.hid (show Pt.num k = N ∧ 1 ≤ N ∧ N ≤ 2 from ⟨hN, by have := Pt.num_le k; omega⟩)
  have hN2 : (N : Int) ≤ 2 := by have := HN.out; omega
  rw [hN]
  obtain ⟨b4, hb4⟩ : ∃ b4, b4 = w.heap.size := ⟨_, rfl⟩
  obtain ⟨b5, hb5⟩ : ∃ b5, b5 = b4 + 1 := ⟨_, rfl⟩
  have HB := Lib.hid (show b4 = w.heap.size ∧ b5 = w.heap.size + 1 ∧ bR < w.heap.size from ⟨hb4, by rw [hb5, hb4], h.lt⟩)
  have HVS := Lib.hid (show Vs k xs T 0 (0, 0) i from .inl ⟨rfl, rfl, hT⟩)
  rw [← hb4, ← hb5] at HV0
  have HPP := Lib.hid hp
  clear h hT hN hp
  go_enter Try.func84, Try.ntmps84
  go_upto_region 2 with fail
  rw [← hV, ← hW, ← hb4, ← hb5]
  clear hV hW hb4 hb5
  go_wp2_with (fail)
  go_loopw [8] (fun q wr => ∃ (j : Nat) (v : Int × Int) (i' : Nat), j ≤ N ∧ q = .int .i64 j ∧ (j = 0 → v.2 = 0) ∧ Hid (Vs k xs T j v i') ∧ Hid (Vw w bR b5 xs p cap i' v wr)) (fun q _ => N - (intOf q).toNat)
  case atStart => exact ⟨0, (0, 0), i, by omega, rfl, fun _ => rfl, HVS.out, HV0.out⟩
  case round =>
    obtain ⟨j, v, i', hj, rfl, hj0, HS, HX⟩ := hrel
    by_cases hlt : j < N
    · have HLT := Lib.hid hlt
      have hlt' : (j : Int) < (N : Int) := by omega
      cases e : xs.drop i' with
      | nil =>
        have HE := Lib.hid (HS.out.nil (by rw [HN.out.1]; exact hlt) e)
        have C1 := Lib.hid (p_next_nil HX.out.rn e)
        clear e
        unfold Pn at C1
        go_wp2_with (first | (go_at_call 58; ((with_reducible refine (C1.out).mono ?_); rintro x' w1 ⟨rfl, hb1⟩)))
        refine post_panic rfl ?_
        rw [HE.out]
        exact ⟨rfl, grownBy_trans HX.out.s1.gr (grownBy_of hb1)⟩
      | cons y t =>
        obtain ⟨-, -, et⟩ := drop_cons' e
        have HE := Lib.hid e
        have C1 := Lib.hid (p_next_cons HX.out.rn e)
        obtain ⟨v', hv'⟩ : ∃ v', nv j v y = v' := ⟨_, rfl⟩
        have HV' := Lib.hid (show VL v' = (VL v).set j (.int .i64 y) by rw [← hv']; exact nv_set (by have := HN.out; omega) v y hj0)
        have C2 := Lib.hid (fun u => p_set v' u)
        unfold VV at C2
        have hset : ∃ s, Pt.isSet v' = s := ⟨_, rfl⟩
        obtain ⟨s, hs⟩ := hset
        rw [hs] at C2
        have C3 := Lib.hid (fun u => p_demand_if s 9 u)
        clear e et hj0
        have HA := Lib.hid (show ∀ w1, S1 wr bR 1 (.int .i64 ((i' + 1 : Nat) : Int)) w1 → Vw w bR b5 xs p cap (i' + 1) v w1 from fun w1 h1 => by
          have hb := HB.out
          have hd := drop_cons' HE.out
          have hw5 : b5 < wr.heap.size := cell_lt (HX.out.rv 0 _ rfl)
          have hw4 : w.heap.size < wr.heap.size := by omega
          exact ⟨HX.out.rn.step h1 (by omega), HX.out.s1.trans h1, range_grown HX.out.rv h1.gr (by omega) hw5, there_grown HX.out.tv h1.gr (by omega) hw5, there_grown HX.out.tr h1.gr (by omega) hw4⟩)
        have hj2 : (j : Int) < 2 := by omega
        have HA2 := Lib.hid (show ∀ w1, Vw w bR b5 xs p cap (i' + 1) v w1 → Vw w bR b5 xs p cap (i' + 1) v' (w1.setCell ⟨b5, j, none⟩ (.int .i64 y)) from fun w1 h1 => h1.set (by omega) HV'.out HB.out.2.2 HB.out.2.1 HPP.out)
        cases s with
        | false =>
          have HT9 := Lib.hid (HS.out.bad (by rw [HN.out.1]; exact hlt) HE.out (by rw [hv']; exact hs))
          simp only [Bool.false_eq_true, if_false] at C3
          unfold Pn at C3
          go_wp2_with (first | (go_at_call 58; ((with_reducible refine (C1.out).mono ?_); rintro x' w1 ⟨rfl, h1⟩; have H1 := Lib.hid (HA.out w1 h1); obtain ⟨u0, k0⟩ := Option.isSome_iff_exists.1 (H1.out.tv j (by omega)).1; have k1 := (H1.out.tv j (by omega)).2; rw [Nat.zero_add] at k0 k1)) | (refine ld_row (cs := VL v') Try.underlying93 rfl Try.infoVal (by rfl) _ rfl rfl (HA2.out _ H1.out).rv ?_) | (go_at_call 50; ((with_reducible refine (C2.out _).mono ?_); rintro x' w2 ⟨rfl, h2⟩; have H2 := Lib.hid h2; clear h2)) | (go_at_call 59; ((with_reducible refine (C3.out _).mono ?_); rintro x' w3 ⟨rfl, h3⟩; have H3 := Lib.hid h3; clear h3)))
          refine post_panic rfl ?_
          rw [HT9.out]
          exact ⟨rfl, (((HA2.out w1 H1.out).below H2.out).below H3.out).s1.gr⟩
        | true =>
          simp only [if_true] at C3
          go_wp2_with (first | (go_at_call 58; ((with_reducible refine (C1.out).mono ?_); rintro x' w1 ⟨rfl, h1⟩; have H1 := Lib.hid (HA.out w1 h1); obtain ⟨u0, k0⟩ := Option.isSome_iff_exists.1 (H1.out.tv j (by omega)).1; have k1 := (H1.out.tv j (by omega)).2; rw [Nat.zero_add] at k0 k1)) | (refine ld_row (cs := VL v') Try.underlying93 rfl Try.infoVal (by rfl) _ rfl rfl (HA2.out _ H1.out).rv ?_) | (go_at_call 50; ((with_reducible refine (C2.out _).mono ?_); rintro x' w2 ⟨rfl, h2⟩; have H2 := Lib.hid h2; clear h2)) | (go_at_call 59; ((with_reducible refine (C3.out _).mono ?_); rintro x' w3 ⟨rfl, h3⟩; have H3 := Lib.hid h3; clear h3)))
          go_roundw
          case rel => exact ⟨j + 1, v', i' + 1, by have := HLT.out; omega, by go_num, fun h => absurd h (by omega), by rw [← hv']; exact HS.out.ok (by rw [HN.out.1]; exact HLT.out) HE.out (by rw [hv']; exact hs), ((HA2.out w1 H1.out).below H2.out).below H3.out⟩
          case measure => simp [intOf]; have := HLT.out; omega
    · have ej : j = N := by omega
      have HT2 := Lib.hid (HS.out.fin (by rw [HN.out.1]; exact ej))
      subst ej
      have HTR := Lib.hid (show wr.there b4 0 2 by rw [HB.out.1]; exact HX.out.tr)
      go_wp2_with (first | (refine ld_row (cs := VL v) Try.underlying93 rfl Try.infoVal (by rfl) _ rfl rfl HX.out.rv ?_) | (refine st_row (cs := VL v) Try.infoVal (vl_one v) (by rfl) _ _ rfl rfl rfl HTR.out ?_; rintro w2 rfl))
      refine bodyPost_ret (res_row (cs := VL v) Try.underlying93 rfl Try.infoVal rfl rfl (World.rangeAt_setCells_same wr b4 0 (VL v) HTR.out)) rfl ?_
      rw [HT2.out]
      exact ⟨i', rfl, rfl, HX.out.rn.hi, HX.out.s1.fresh HB.out.2.2 (grown_setCells b4 _ 0 wr) (by have := HB.out; omega)⟩
end Go.Proofs.Ytfjfnbeegojlbaa

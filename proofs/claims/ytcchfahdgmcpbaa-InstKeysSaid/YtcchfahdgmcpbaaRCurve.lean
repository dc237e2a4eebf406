/-
  The contract of the reference's Curve: for any envelope and numbers.
-/
import Derived.Test.YtcchfahdgmcpbaaRCirc
import Derived.Test.YtcchfahdgmcpbaaPCurve
namespace Go.Proofs.Ytcchfahdgmcpbaa
open Go.RowKit

/-- The first k values of a curve. -/
def pre (e : In.Env) (r : Int) (k : Nat) : List Int := (List.range k).map fun i => In.valueOf e (In.tks e r i)
theorem pre_length (e : In.Env) (r : Int) (k : Nat) : (pre e r k).length = k := by simp [pre]
theorem pre_succ (e : In.Env) (r : Int) (k : Nat) : pre e r (k + 1) = pre e r k ++ [In.valueOf e (In.tks e r k)] := by simp [pre, List.range_succ]
theorem crv_pre (e : In.Env) (r : Int) {n : Nat} (h : n ≤ 4000) : In.crv e n r = pre e r n := by
  unfold In.crv pre
  rw [if_pos (by omega)]
  simp
theorem row_low {w : World} {B C n : Nat} {e : TypeId} {v : Value} {xs : List Value} (h : w.ownsRow B e 1 v n xs) (hc : C ≤ B) : w.ownsRow C e 1 v n xs := by
  refine ⟨h.1, ?_⟩
  rcases h.2 with h | ⟨g, cap, cur, hv, hb, hr⟩
  · exact .inl h
  · exact .inr ⟨g, cap, cur, hv, Nat.le_trans hc hb, hr⟩
theorem grown_base {w w' : World} {B : Nat} {v : Value} (h : w.grownBy w' v.ownBlock) (hv : ∀ k, v.ownBlock = some k → B ≤ k) (hB : B ≤ w.heap.size) : Below B w w' :=
  ⟨h.os, h.tape, h.output, h.size, fun k hk => h.block k (Nat.lt_of_lt_of_le hk hB) (fun e => by have := hv k e.symm; omega)⟩
theorem one_new (w : World) (y : Int) : ∀ j u, ([.int .i64 y] : List Value)[j]? = some u → (w.alloc (.cells #[.int .i64 y] 3)).cell? ((⟨w.heap.size, 0, none⟩ : Addr).add j) = some u := by
  intro j u hu
  match j with
  | 0 =>
    have e : Value.int .i64 y = u := by simpa using hu
    subst e
    simp [Addr.add, World.cell?_alloc_new]
  | j + 1 => simp at hu
theorem one_one (y : Int) : ∀ u ∈ ([.int .i64 y] : List Value), u.oneCell' = true := by
  intro u hu
  have e : u = Value.int .i64 y := by simpa using hu
  subst e
  rfl
theorem val_tick {e : In.Env} {T U : Int} (h : In.lv e = true → T = U) : In.valueOf e T = In.valueOf e U := by
  cases hv : In.lv e
  · simp [In.valueOf, hv]
  · rw [h hv]
theorem after_tick {e : In.Env} {r T : Int} {k : Nat} (h : In.lv e = true → T = In.tks e r k) (hv : In.lv e = true) : In.afterOf e T (decide ((k : Int) < r)) = In.tks e r (k + 1) := by
  unfold In.afterOf
  rw [if_pos hv, h hv]
  rfl
set_option maxHeartbeats 3200000 in
theorem r_Curve_long (e : In.Env) (p : Option Addr) (cap : Nat) (n r : Int) (w : World) (h : 4000 < n) :
    Calls Try.prog 17 #[EV e p cap, .int .i64 n, .int .i64 r] w fun x w' => RetI (In.crv e n r) w.heap.size x w' ∧ Below w.heap.size w w' := by
  have HE := Lib.hid (show In.crv e n r = [] by unfold In.crv; rw [if_neg (by omega)])
  rw [HE.out]
  unfold EV
  go_enter Try.func17, Try.ntmps17
  go_wp2
  go_ret
  exact ⟨⟨_, rfl, ⟨rfl, .inl ⟨rfl, rfl⟩⟩⟩, below_box _ _⟩
set_option maxHeartbeats 3200000 in
theorem r_Curve_neg (e : In.Env) (p : Option Addr) (cap : Nat) (n r : Int) (w : World) (h : n ≤ 0) :
    Calls Try.prog 17 #[EV e p cap, .int .i64 n, .int .i64 r] w fun x w' => RetI (In.crv e n r) w.heap.size x w' ∧ Below w.heap.size w w' := by
  have HE := Lib.hid (show In.crv e n r = [] by
    unfold In.crv
    by_cases h0 : n = 0
    · subst h0; rfl
    · rw [if_neg (by omega)])
  rw [HE.out]
  have hg : ¬ (4000 < n) := by omega
  have hl : ¬ (0 < n) := by omega
  unfold EV
  go_enter Try.func17, Try.ntmps17
  go_wp2
  go_loopw [7, 8, 9] (fun v t i wr => v = .slice none 0 0 ∧ i = .int .i64 0 ∧ (∃ z, t = .int .i64 z) ∧ wr = (w.alloc (.cells #[.bool e.on, .slice p e.pts.length cap, .bool e.sus, .int .i64 e.ss, .int .i64 e.se, .bool e.lp, .int .i64 e.ls, .int .i64 e.le] 24))) (fun _ _ _ _ => 0)
  case atStart => exact ⟨rfl, rfl, ⟨_, rfl⟩, rfl⟩
  case round =>
    obtain ⟨rfl, rfl, ⟨z, rfl⟩, rfl⟩ := hrel
    go_wp2
    go_ret
    exact ⟨⟨_, rfl, ⟨rfl, .inl ⟨rfl, rfl⟩⟩⟩, below_box _ _⟩
set_option maxHeartbeats 3200000 in
theorem r_Curve_mid (on : Bool) (pts : List (Int × Int)) (sus : Bool) (ss se : Int) (lp : Bool) (ls le : Int) (p : Option Addr) (cap : Nat) (N : Nat) (r : Int) (w : World) (hd : PtsAt w p pts) (h0 : 0 < N) (hN : N ≤ 4000) :
    Calls Try.prog 17 #[EV (⟨on, pts, sus, ss, se, lp, ls, le⟩ : In.Env) p cap, .int .i64 N, .int .i64 r] w fun x w' => RetI (In.crv (⟨on, pts, sus, ss, se, lp, ls, le⟩ : In.Env) N r) w.heap.size x w' ∧ Below w.heap.size w w' := by
  rw [crv_pre (⟨on, pts, sus, ss, se, lp, ls, le⟩ : In.Env) r hN]
  obtain ⟨i0, hinf, hz0, hz1, hz2⟩ := info_parts Try.infoInt
  obtain ⟨W, hW⟩ : ∃ W, W = (w.alloc (.cells #[.bool on, .slice p pts.length cap, .bool sus, .int .i64 ss, .int .i64 se, .bool lp, .int .i64 ls, .int .i64 le] 24)) := ⟨_, rfl⟩
  obtain ⟨b, hbe⟩ : ∃ b, b = w.heap.size := ⟨_, rfl⟩
  obtain ⟨B, hBe⟩ : ∃ B, B = W.heap.size := ⟨_, rfl⟩
  have hBb : B = b + 1 := by rw [hBe, hW, hbe]; simp
  have hbB : b < B := by omega
  have HWb := Lib.hid (show Below w.heap.size w W by rw [hW]; exact below_box _ _)
  have HEB := Lib.hid (show EB W b (⟨on, pts, sus, ss, se, lp, ls, le⟩ : In.Env) p cap by rw [hW, hbe]; exact eb_new w (⟨on, pts, sus, ss, se, lp, ls, le⟩ : In.Env) p cap _)
  have hwB : w.heap.size ≤ B := by omega
  have HD := Lib.hid (fun u (hu : Below B W u) => hd.below (HWb.out.trans (hu.mono hwB)))
  have HBW := Lib.hid (show Below B W W from Below.refl _ _)
  have hBW : B ≤ W.heap.size := Nat.le_of_eq hBe
  have CV := Lib.hid (fun T u (hu : Below B W u) => r_Value (⟨on, pts, sus, ss, se, lp, ls, le⟩ : In.Env) p cap T u (HD.out u hu))
  have CA := Lib.hid (fun T k u (hu : Below B W u) => r_After (⟨on, pts, sus, ss, se, lp, ls, le⟩ : In.Env) p cap T k u (HD.out u hu))
  have hNi : (N : Int) ≤ 4000 := by omega
  clear hd hBe hBb hN
  obtain ⟨x0, x1, x2, x3, x4, x5, x6, x7⟩ := HEB.out
  unfold EV at CV CA ⊢
  go_enter Try.func17, Try.ntmps17
  go_upto_region 1 with fail
  rw [← hW, ← hbe]
  clear hW hbe
  go_wp2
  clear x0 x1 x2 x3 x4 x5 x6 x7
  go_loopw [7, 8, 9] (fun v t i wr => ∃ k : Nat, k ≤ N ∧ i = .int .i64 k ∧ ∃ T : Int, t = .int .i64 T ∧ Hid (In.lv (⟨on, pts, sus, ss, se, lp, ls, le⟩ : In.Env) = true → T = In.tks (⟨on, pts, sus, ss, se, lp, ls, le⟩ : In.Env) r k) ∧ Hid (Below B W wr) ∧ Hid (wr.ownsRow B 3 1 v k ((pre (⟨on, pts, sus, ss, se, lp, ls, le⟩ : In.Env) r k).map (Value.int .i64))) ∧ B ≤ wr.heap.size) (fun _ _ i _ => N - (intOf i).toNat)
  case atStart => exact ⟨0, by omega, rfl, 0, rfl, fun _ => rfl, HBW.out, ⟨rfl, .inl ⟨rfl, rfl⟩⟩, hBW⟩
  case round =>
    obtain ⟨k, hk, rfl, T, rfl, HT, HB, HR, hBr⟩ := hrel
    have HEr := Lib.hid (HEB.out.below HB.out hbB)
    obtain ⟨x0, x1, x2, x3, x4, x5, x6, x7⟩ := HEr.out
    by_cases hlt : k < N
    · have HVT := Lib.hid (val_tick HT.out)
      have HPS := Lib.hid (pre_succ (⟨on, pts, sus, ss, se, lp, ls, le⟩ : In.Env) r k)
      rw [← HVT.out] at HPS
      have HAT := Lib.hid (after_tick HT.out)
      have CVk := Lib.hid (CV.out T wr HB.out)
      obtain ⟨y, hy⟩ : ∃ y, In.valueOf (⟨on, pts, sus, ss, se, lp, ls, le⟩ : In.Env) T = y := ⟨_, rfl⟩
      rw [hy] at CVk HPS
      have CAk := Lib.hid (fun u hu => CA.out T (decide ((k : Int) < r)) u hu)
      obtain ⟨T', hT'⟩ : ∃ T', In.afterOf (⟨on, pts, sus, ss, se, lp, ls, le⟩ : In.Env) T (decide ((k : Int) < r)) = T' := ⟨_, rfl⟩
      rw [hT'] at CAk HAT
      clear hy hT'
      have hki : (k : Int) < (N : Int) := by omega
      go_wp2_with (first | (go_at_call 10; ((with_reducible refine CVk.out.mono ?_); rintro x' w1 ⟨rfl, hb1⟩; have hs1 : B ≤ w1.heap.size := Nat.le_trans hBr hb1.size; have HB1 := Lib.hid (HB.out.trans (hb1.mono hBr)); have HR1 := Lib.hid (row_stays (row_stays HR.out hb1) (below_box w1 (.cells #[.int .i64 y] 3))); have HB2 := Lib.hid (HB1.out.trans ((below_box w1 (.cells #[.int .i64 y] 3)).mono hs1)); have hs2 : B ≤ (w1.alloc (.cells #[.int .i64 y] 3)).heap.size := by simp; omega)) | (at_builtin; go_loud (refine wpList_append_own _ rfl (.tmp 17) (.tmp 21) 33 rfl B 3 i0 (.int .i64 0) 1 8 Try.underlying33 hinf hz0 hz1 hz2 rfl (by decide) u7 k ((pre (⟨on, pts, sus, ss, se, lp, ls, le⟩ : In.Env) r k).map (Value.int .i64)) rfl HR1.out ⟨w1.heap.size, 0, none⟩ 1 1 [.int .i64 y] rfl rfl (one_new w1 y) (one_one y) (by unfold maxLen; omega) (by omega) hs2 ?_; intro v' w2 hown' hgrow _; have hb2 := grown_base hgrow (fun g hg => (World.ownsRow.lt HR1.out g hg).1) hs2; have hs3 : B ≤ w2.heap.size := Nat.le_trans hs2 hb2.size; clear hgrow; have HR2 := Lib.hid (show w2.ownsRow B 3 1 v' (k + 1) ((pre (⟨on, pts, sus, ss, se, lp, ls, le⟩ : In.Env) r (k + 1)).map (Value.int .i64)) by rw [HPS.out]; simpa using hown'); have HB3 := Lib.hid (HB2.out.trans hb2); clear hown'; obtain ⟨x0, x1, x2, x3, x4, x5, x6, x7⟩ := HEB.out.below HB3.out hbB)) | (go_at_call 12; ((with_reducible refine (CAk.out _ HB3.out).mono ?_); rintro x' w3 ⟨rfl, hb3⟩; have HB4 := Lib.hid (HB3.out.trans (hb3.mono hs3)); have HR3 := Lib.hid (row_stays HR2.out hb3); have hs4 : B ≤ w3.heap.size := Nat.le_trans hs3 hb3.size)))
      go_roundw
      case rel => exact ⟨k + 1, by omega, by go_num, T', rfl, HAT.out, HB4.out, HR3.out, hs4⟩
      case measure => simp [intOf]; omega
    · obtain rfl : k = N := by omega
      have HF := Lib.hid (HWb.out.trans (HB.out.mono hwB))
      go_wp2
      go_ret
      exact ⟨⟨_, rfl, by rw [pre_length]; exact row_low HR.out hwB⟩, HF.out⟩
theorem r_Curve (e : In.Env) (p : Option Addr) (cap : Nat) (n r : Int) (w : World) (hd : PtsAt w p e.pts) :
    Calls Try.prog 17 #[EV e p cap, .int .i64 n, .int .i64 r] w fun x w' => RetI (In.crv e n r) w.heap.size x w' ∧ Below w.heap.size w w' := by
  by_cases h1 : 4000 < n
  · exact r_Curve_long e p cap n r w h1
  · by_cases h2 : n ≤ 0
    · exact r_Curve_neg e p cap n r w h2
    · obtain ⟨N, rfl⟩ : ∃ N : Nat, n = N := ⟨n.toNat, by omega⟩
      obtain ⟨on, pts, sus, ss, se, lp, ls, le⟩ := e
      exact r_Curve_mid on pts sus ss se lp ls le p cap N r w hd (by omega) (by omega)
end Go.Proofs.Ytcchfahdgmcpbaa

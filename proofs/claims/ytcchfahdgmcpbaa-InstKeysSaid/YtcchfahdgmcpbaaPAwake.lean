/-
  The law package's awake: the chapter's example.
-/
import Derived.Test.YtcchfahdgmcpbaaPVal
import Derived.Test.YtcchfahdgmcpbaaPAft
import Derived.Test.YtcchfahdgmcpbaaPIns
namespace Go.Proofs.Ytcchfahdgmcpbaa
open Go.RowKit

theorem zero_pts (w : World) : IPts w (⟨⟨#[]⟩, [], ⟨false, [], false, 0, 0, false, 0, 0⟩, ⟨false, [], false, 0, 0, false, 0, 0⟩, ⟨false, [], false, 0, 0, false, 0, 0⟩, 0, 0, 0, 0, 0, 0, 0⟩ : In.Ins) (⟨none, 0, none, 0, none, 0, none, 0⟩ : In.Loc) := ⟨.inl rfl, .inl rfl, .inl rfl, .inl rfl⟩
theorem zero_vld : In.ivld (⟨⟨#[]⟩, [], ⟨false, [], false, 0, 0, false, 0, 0⟩, ⟨false, [], false, 0, 0, false, 0, 0⟩, ⟨false, [], false, 0, 0, false, 0, 0⟩, 0, 0, 0, 0, 0, 0, 0⟩ : In.Ins) = true := by decide
theorem demo_pts (w : World) : PtsAt (w.alloc (.cells #[.int .i64 0, .int .i64 64, .int .i64 10, .int .i64 0] 37)) (some ⟨w.heap.size, 0, none⟩) [(0, 64), (10, 0)] := by
  refine .inr ⟨w.heap.size, 0, rfl, by simp, fun i hi => ?_⟩
  match i, hi with
  | 0, _ => simp [World.cell?_alloc_new, In.tk, In.vl]
  | 1, _ => simp [World.cell?_alloc_new, In.tk, In.vl]
theorem demo_1 : In.valueOf (⟨true, [(0, 64), (10, 0)], false, 0, 0, false, 0, 0⟩ : In.Env) 3 = 44 := by decide
theorem demo_2 : In.valueOf (⟨true, [(0, 64), (10, 0)], false, 0, 0, false, 0, 0⟩ : In.Env) 5 = 32 := by decide
theorem demo_3 : In.afterOf (⟨true, [(0, 64), (10, 0)], false, 0, 0, false, 0, 0⟩ : In.Env) 9 true = 10 := by decide
theorem demo_4 : In.overOf (⟨true, [(0, 64), (10, 0)], false, 0, 0, false, 0, 0⟩ : In.Env) 10 false = true := by decide
theorem p_Value_v (e : In.Env) (p : Option Addr) (cap : Nat) (t : Int) (w : World) (hd : PtsAt w p e.pts) (hc : e.pts.length ≤ cap) {v : Int} (h : In.valueOf e t = v) :
    Calls Try.prog 9 #[EV e p cap, .int .i64 t] w fun x w' => x = .returned (.int .i64 v) ∧ Below w.heap.size w w' := h ▸ p_Value e p cap t w hd hc
theorem p_After_v (e : In.Env) (p : Option Addr) (cap : Nat) (t : Int) (k : Bool) (w : World) (hd : PtsAt w p e.pts) {v : Int} (h : In.afterOf e t k = v) :
    Calls Try.prog 11 #[EV e p cap, .int .i64 t, .bool k] w fun x w' => x = .returned (.int .i64 v) ∧ Below w.heap.size w w' := h ▸ p_After e p cap t k w hd
theorem p_Over_v (e : In.Env) (p : Option Addr) (cap : Nat) (t : Int) (k : Bool) (w : World) (hd : PtsAt w p e.pts) {v : Bool} (h : In.overOf e t k = v) :
    Calls Try.prog 13 #[EV e p cap, .int .i64 t, .bool k] w fun x w' => x = .returned (.bool v) ∧ Below w.heap.size w w' := h ▸ p_Over e p cap t k w hd
theorem p_Valid_v (i : In.Ins) (a : In.Loc) (w : World) (hd : IPts w i a) {v : Bool} (h : In.ivld i = v) :
    Calls Try.prog 20 #[IV i a] w fun x w' => x = .returned (.bool v) ∧ Below w.heap.size w w' := h ▸ p_Valid i a w hd
/-- A callee from a later world on. -/
theorem onW {P : Program} {f : FuncId} {args : Array Value} {W u : World} {e0 : Ending} (hb : Below W.heap.size W u) (h : Calls P f args u fun x u' => x = e0 ∧ Below u.heap.size u u') : Calls P f args u fun x u' => x = e0 ∧ Below W.heap.size W u' :=
  h.mono fun _ _ h => ⟨h.1, stepB hb h.2⟩
theorem p_awake (w : World) : Calls Try.prog 6 #[] w fun x w' => x = .returned (.bool true) ∧ Below w.heap.size w w' := by
  obtain ⟨W, hW⟩ : ∃ W, W = (w.alloc (.cells #[.int .i64 0, .int .i64 64, .int .i64 10, .int .i64 0] 37)).alloc (.cells #[.bool true, .slice (some ⟨w.heap.size, 0, none⟩) 2 2, .bool false, .int .i64 0, .int .i64 0, .bool false, .int .i64 0, .int .i64 0] 24) := ⟨_, rfl⟩
  have hWb : Below w.heap.size w W := by rw [hW]; exact stepB (below_box _ _) (below_box _ _)
  obtain ⟨b, hbe⟩ : ∃ b, b = w.heap.size := ⟨_, rfl⟩
  have HEB := Lib.hid (show EB W (b + 1) (⟨true, [(0, 64), (10, 0)], false, 0, 0, false, 0, 0⟩ : In.Env) (some ⟨b, 0, none⟩) 2 by
    rw [hW, hbe]
    have := eb_new (w.alloc (.cells #[.int .i64 0, .int .i64 64, .int .i64 10, .int .i64 0] 37)) (⟨true, [(0, 64), (10, 0)], false, 0, 0, false, 0, 0⟩ : In.Env) (some ⟨w.heap.size, 0, none⟩) 2 24
    rwa [World.size_alloc] at this)
  have HD := Lib.hid (fun u (hu : Below W.heap.size W u) => (show PtsAt u (some ⟨b, 0, none⟩) [(0, 64), (10, 0)] from by
    rw [hbe]
    refine PtsAt.below (w := W) ?_ hu
    rw [hW]
    exact (demo_pts w).below (below_box _ _)))
  have HWb := Lib.hid hWb
  have HB0 := Lib.hid (Below.refl W.heap.size W)
  have C1 := Lib.hid (fun u (hu : Below W.heap.size W u) => onW hu (p_Value_v (⟨true, [(0, 64), (10, 0)], false, 0, 0, false, 0, 0⟩ : In.Env) (some ⟨b, 0, none⟩) 2 3 u (HD.out u hu) (Nat.le_refl _) demo_1))
  have C2 := Lib.hid (fun u (hu : Below W.heap.size W u) => onW hu (p_Value_v (⟨true, [(0, 64), (10, 0)], false, 0, 0, false, 0, 0⟩ : In.Env) (some ⟨b, 0, none⟩) 2 5 u (HD.out u hu) (Nat.le_refl _) demo_2))
  have C3 := Lib.hid (fun u (hu : Below W.heap.size W u) => onW hu (p_After_v (⟨true, [(0, 64), (10, 0)], false, 0, 0, false, 0, 0⟩ : In.Env) (some ⟨b, 0, none⟩) 2 9 true u (HD.out u hu) demo_3))
  have C4 := Lib.hid (fun u (hu : Below W.heap.size W u) => onW hu (p_Over_v (⟨true, [(0, 64), (10, 0)], false, 0, 0, false, 0, 0⟩ : In.Env) (some ⟨b, 0, none⟩) 2 10 false u (HD.out u hu) demo_4))
  have C5 := Lib.hid (fun u (hu : Below W.heap.size W u) => onW hu (p_Valid_v (⟨⟨#[]⟩, [], ⟨false, [], false, 0, 0, false, 0, 0⟩, ⟨false, [], false, 0, 0, false, 0, 0⟩, ⟨false, [], false, 0, 0, false, 0, 0⟩, 0, 0, 0, 0, 0, 0, 0⟩ : In.Ins) (⟨none, 0, none, 0, none, 0, none, 0⟩ : In.Loc) u (zero_pts u) zero_vld))
  clear hWb
  unfold EV at C1 C2 C3 C4
  unfold IV at C5
  simp only [List.length_cons, List.length_nil, Nat.reduceAdd, Nat.zero_add] at C1 C2 C3 C4 C5
  have ⟨x0, x1, x2, x3, x4, x5, x6, x7⟩ := HEB.out
  go_enter Try.func6, Try.ntmps6
  go_upto_region 2 with fail
  rw [← hW, ← hbe]
  clear hW hbe
  go_wp2_with (first | (go_at_call 9; ((with_reducible refine (C1.out _ HB0.out).mono ?_); rintro x' w1 ⟨rfl, hb1⟩; have HB1 := Lib.hid hb1; clear hb1; obtain ⟨x0, x1, x2, x3, x4, x5, x6, x7⟩ := HEB.out.kept HB1.out)) | (go_at_call 9; ((with_reducible refine (C2.out _ HB1.out).mono ?_); rintro x' w2 ⟨rfl, hb2⟩; have HB2 := Lib.hid hb2; clear hb2; obtain ⟨x0, x1, x2, x3, x4, x5, x6, x7⟩ := HEB.out.kept HB2.out)) | (go_at_call 11; ((with_reducible refine (C3.out _ HB2.out).mono ?_); rintro x' w3 ⟨rfl, hb3⟩; have HB3 := Lib.hid hb3; clear hb3; obtain ⟨x0, x1, x2, x3, x4, x5, x6, x7⟩ := HEB.out.kept HB3.out)) | (go_at_call 13; ((with_reducible refine (C4.out _ HB3.out).mono ?_); rintro x' w4 ⟨rfl, hb4⟩; have HB4 := Lib.hid hb4; clear hb4)) | (go_at_call 20; ((with_reducible refine (C5.out _ HB4.out).mono ?_); rintro x' w5 ⟨rfl, hb5⟩)))
  go_ret
  exact ⟨rfl, HWb.out.trans (hb5.mono HWb.out.size)⟩
end Go.Proofs.Ytcchfahdgmcpbaa

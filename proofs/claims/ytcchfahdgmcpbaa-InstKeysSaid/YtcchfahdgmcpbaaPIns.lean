/-
  Instruments in memory; the contract of package inst's Valid: for any instrument.
-/
import Derived.Test.YtcchfahdgmcpbaaPKeys
import Derived.Test.YtcchfahdgmcpbaaPVenv
import Derived.Deep.DeepCutAuto
namespace Go.Proofs.Ytcchfahdgmcpbaa
open Go.RowKit

namespace In
/-- An instrument. -/
structure Ins where
  name : ByteArray
  keys : List (Int × Int)
  vol : Env
  pan : Env
  pit : Env
  fade : Int
  nn : Int
  dup : Int
  dd : Int
  glo : Int
  cut : Int
  res : Int
def ivld (i : Ins) : Bool := nmd i.name && (kys i.keys && (vld i.vol 0 64 && (vld i.pan (-32) 32 && (vld i.pit (-32) 32 && (wth i.fade 0 1024 && (wth i.nn 0 3 && (wth i.dup 0 3 && (wth i.dd 0 2 && (wth i.glo 0 64 && (wth i.cut (-1) 127 && wth i.res (-1) 127))))))))))
/-- Where an instrument's keys and its envelopes' points lie, with their room. -/
structure Loc where
  k : Option Addr
  ck : Nat
  v : Option Addr
  cv : Nat
  p : Option Addr
  cp : Nat
  t : Option Addr
  ct : Nat
end In
/-- An instrument as a value. -/
def IV (i : In.Ins) (a : In.Loc) : Value := .agg #[.string i.name, .slice a.k i.keys.length a.ck, .bool i.vol.on, .slice a.v i.vol.pts.length a.cv, .bool i.vol.sus, .int .i64 i.vol.ss, .int .i64 i.vol.se, .bool i.vol.lp, .int .i64 i.vol.ls, .int .i64 i.vol.le, .bool i.pan.on, .slice a.p i.pan.pts.length a.cp, .bool i.pan.sus, .int .i64 i.pan.ss, .int .i64 i.pan.se, .bool i.pan.lp, .int .i64 i.pan.ls, .int .i64 i.pan.le, .bool i.pit.on, .slice a.t i.pit.pts.length a.ct, .bool i.pit.sus, .int .i64 i.pit.ss, .int .i64 i.pit.se, .bool i.pit.lp, .int .i64 i.pit.ls, .int .i64 i.pit.le, .int .i64 i.fade, .int .i64 i.nn, .int .i64 i.dup, .int .i64 i.dd, .int .i64 i.glo, .int .i64 i.cut, .int .i64 i.res]
/-- Its keys and points lie there. -/
def IPts (w : World) (i : In.Ins) (a : In.Loc) : Prop := PtsAt w a.k i.keys ∧ PtsAt w a.v i.vol.pts ∧ PtsAt w a.p i.pan.pts ∧ PtsAt w a.t i.pit.pts
theorem IPts.below {w w' : World} {i : In.Ins} {a : In.Loc} (h : IPts w i a) (hb : Below w.heap.size w w') : IPts w' i a := ⟨h.1.below hb, h.2.1.below hb, h.2.2.1.below hb, h.2.2.2.below hb⟩
/-- An instrument's block: its thirty-three cells. -/
def IB (w : World) (b : Nat) (i : In.Ins) (a : In.Loc) : Prop := w.cell? ⟨b, 0, none⟩ = some (.string i.name) ∧ w.cell? ⟨b, 1, none⟩ = some (.slice a.k i.keys.length a.ck) ∧ w.cell? ⟨b, 2, none⟩ = some (.bool i.vol.on) ∧ w.cell? ⟨b, 3, none⟩ = some (.slice a.v i.vol.pts.length a.cv) ∧ w.cell? ⟨b, 4, none⟩ = some (.bool i.vol.sus) ∧ w.cell? ⟨b, 5, none⟩ = some (.int .i64 i.vol.ss) ∧ w.cell? ⟨b, 6, none⟩ = some (.int .i64 i.vol.se) ∧ w.cell? ⟨b, 7, none⟩ = some (.bool i.vol.lp) ∧ w.cell? ⟨b, 8, none⟩ = some (.int .i64 i.vol.ls) ∧ w.cell? ⟨b, 9, none⟩ = some (.int .i64 i.vol.le) ∧ w.cell? ⟨b, 10, none⟩ = some (.bool i.pan.on) ∧ w.cell? ⟨b, 11, none⟩ = some (.slice a.p i.pan.pts.length a.cp) ∧ w.cell? ⟨b, 12, none⟩ = some (.bool i.pan.sus) ∧ w.cell? ⟨b, 13, none⟩ = some (.int .i64 i.pan.ss) ∧ w.cell? ⟨b, 14, none⟩ = some (.int .i64 i.pan.se) ∧ w.cell? ⟨b, 15, none⟩ = some (.bool i.pan.lp) ∧ w.cell? ⟨b, 16, none⟩ = some (.int .i64 i.pan.ls) ∧ w.cell? ⟨b, 17, none⟩ = some (.int .i64 i.pan.le) ∧ w.cell? ⟨b, 18, none⟩ = some (.bool i.pit.on) ∧ w.cell? ⟨b, 19, none⟩ = some (.slice a.t i.pit.pts.length a.ct) ∧ w.cell? ⟨b, 20, none⟩ = some (.bool i.pit.sus) ∧ w.cell? ⟨b, 21, none⟩ = some (.int .i64 i.pit.ss) ∧ w.cell? ⟨b, 22, none⟩ = some (.int .i64 i.pit.se) ∧ w.cell? ⟨b, 23, none⟩ = some (.bool i.pit.lp) ∧ w.cell? ⟨b, 24, none⟩ = some (.int .i64 i.pit.ls) ∧ w.cell? ⟨b, 25, none⟩ = some (.int .i64 i.pit.le) ∧ w.cell? ⟨b, 26, none⟩ = some (.int .i64 i.fade) ∧ w.cell? ⟨b, 27, none⟩ = some (.int .i64 i.nn) ∧ w.cell? ⟨b, 28, none⟩ = some (.int .i64 i.dup) ∧ w.cell? ⟨b, 29, none⟩ = some (.int .i64 i.dd) ∧ w.cell? ⟨b, 30, none⟩ = some (.int .i64 i.glo) ∧ w.cell? ⟨b, 31, none⟩ = some (.int .i64 i.cut) ∧ w.cell? ⟨b, 32, none⟩ = some (.int .i64 i.res)
theorem ib_new (w : World) (i : In.Ins) (a : In.Loc) (t : TypeId) : IB (w.alloc (.cells #[.string i.name, .slice a.k i.keys.length a.ck, .bool i.vol.on, .slice a.v i.vol.pts.length a.cv, .bool i.vol.sus, .int .i64 i.vol.ss, .int .i64 i.vol.se, .bool i.vol.lp, .int .i64 i.vol.ls, .int .i64 i.vol.le, .bool i.pan.on, .slice a.p i.pan.pts.length a.cp, .bool i.pan.sus, .int .i64 i.pan.ss, .int .i64 i.pan.se, .bool i.pan.lp, .int .i64 i.pan.ls, .int .i64 i.pan.le, .bool i.pit.on, .slice a.t i.pit.pts.length a.ct, .bool i.pit.sus, .int .i64 i.pit.ss, .int .i64 i.pit.se, .bool i.pit.lp, .int .i64 i.pit.ls, .int .i64 i.pit.le, .int .i64 i.fade, .int .i64 i.nn, .int .i64 i.dup, .int .i64 i.dd, .int .i64 i.glo, .int .i64 i.cut, .int .i64 i.res] t)) w.heap.size i a := by
  refine ⟨?_, ?_, ?_, ?_, ?_, ?_, ?_, ?_, ?_, ?_, ?_, ?_, ?_, ?_, ?_, ?_, ?_, ?_, ?_, ?_, ?_, ?_, ?_, ?_, ?_, ?_, ?_, ?_, ?_, ?_, ?_, ?_, ?_⟩ <;> simp [World.cell?_alloc_new]
theorem IB.below {w w' : World} {b B : Nat} {i : In.Ins} {a : In.Loc} (h : IB w b i a) (hb : Below B w w') (hl : b < B) : IB w' b i a := by
  unfold IB at h ⊢
  have e : ∀ j, w'.cell? ⟨b, j, none⟩ = w.cell? ⟨b, j, none⟩ := fun j => hb.cell hl
  simp only [e]
  exact h
theorem IB.kept {w w' : World} {b : Nat} {i : In.Ins} {a : In.Loc} (h : IB w b i a) (hb : Below w.heap.size w w') : IB w' b i a := h.below hb (cell_lt h.1)
theorem IB.lt {w : World} {b : Nat} {i : In.Ins} {a : In.Loc} (h : IB w b i a) : b < w.heap.size := cell_lt h.1
set_option maxHeartbeats 6400000 in
theorem p_Valid (i : In.Ins) (a : In.Loc) (w : World) (hd : IPts w i a) :
    Calls Try.prog 20 #[IV i a] w fun x w' => x = .returned (.bool (In.ivld i)) ∧ Below w.heap.size w w' := by
  obtain ⟨W, hW⟩ : ∃ W, W = (w.alloc (.cells #[.string i.name, .slice a.k i.keys.length a.ck, .bool i.vol.on, .slice a.v i.vol.pts.length a.cv, .bool i.vol.sus, .int .i64 i.vol.ss, .int .i64 i.vol.se, .bool i.vol.lp, .int .i64 i.vol.ls, .int .i64 i.vol.le, .bool i.pan.on, .slice a.p i.pan.pts.length a.cp, .bool i.pan.sus, .int .i64 i.pan.ss, .int .i64 i.pan.se, .bool i.pan.lp, .int .i64 i.pan.ls, .int .i64 i.pan.le, .bool i.pit.on, .slice a.t i.pit.pts.length a.ct, .bool i.pit.sus, .int .i64 i.pit.ss, .int .i64 i.pit.se, .bool i.pit.lp, .int .i64 i.pit.ls, .int .i64 i.pit.le, .int .i64 i.fade, .int .i64 i.nn, .int .i64 i.dup, .int .i64 i.dd, .int .i64 i.glo, .int .i64 i.cut, .int .i64 i.res] 40)) := ⟨_, rfl⟩
  have hWb : Below w.heap.size w W := by rw [hW]; exact below_box _ _
  obtain ⟨b, hbe⟩ : ∃ b, b = w.heap.size := ⟨_, rfl⟩
  have HIB := Lib.hid (show IB W b i a by rw [hW, hbe]; exact ib_new w i a _)
  have HD := Lib.hid (fun u (hu : Below W.heap.size W u) => (hd.below hWb).below hu)
  have HB0 := Lib.hid (Below.refl W.heap.size W)
  have HWb := Lib.hid hWb
  have D1 := Lib.hid (fun u (hu : Below W.heap.size W u) => (p_name i.name u).mono (R' := fun x u' => x = .returned (.bool (In.nmd i.name)) ∧ Below W.heap.size W u') fun x u' h => ⟨h.1, stepB hu h.2⟩)
  have D2 := Lib.hid (fun u (hu : Below W.heap.size W u) => (p_keys i.keys a.k a.ck u (HD.out u hu).1).mono (R' := fun x u' => x = .returned (.bool (In.kys i.keys)) ∧ Below W.heap.size W u') fun x u' h => ⟨h.1, stepB hu h.2⟩)
  have D3 := Lib.hid (fun u (hu : Below W.heap.size W u) => (p_venv i.vol a.v a.cv 0 64 u (HD.out u hu).2.1).mono (R' := fun x u' => x = .returned (.bool (In.vld i.vol 0 64)) ∧ Below W.heap.size W u') fun x u' h => ⟨h.1, stepB hu h.2⟩)
  have D4 := Lib.hid (fun u (hu : Below W.heap.size W u) => (p_venv i.pan a.p a.cp (-32) 32 u (HD.out u hu).2.2.1).mono (R' := fun x u' => x = .returned (.bool (In.vld i.pan (-32) 32)) ∧ Below W.heap.size W u') fun x u' h => ⟨h.1, stepB hu h.2⟩)
  have D5 := Lib.hid (fun u (hu : Below W.heap.size W u) => (p_venv i.pit a.t a.ct (-32) 32 u (HD.out u hu).2.2.2).mono (R' := fun x u' => x = .returned (.bool (In.vld i.pit (-32) 32)) ∧ Below W.heap.size W u') fun x u' h => ⟨h.1, stepB hu h.2⟩)
  have D6 := Lib.hid (fun u => p_within i.fade 0 1024 u)
  have D7 := Lib.hid (fun u => p_within i.nn 0 3 u)
  have D8 := Lib.hid (fun u => p_within i.dup 0 3 u)
  have D9 := Lib.hid (fun u => p_within i.dd 0 2 u)
  have D10 := Lib.hid (fun u => p_within i.glo 0 64 u)
  have D11 := Lib.hid (fun u => p_within i.cut (-1) 127 u)
  have D12 := Lib.hid (fun u => p_within i.res (-1) 127 u)
  obtain ⟨v1, hv1⟩ : ∃ v, In.nmd i.name = v := ⟨_, rfl⟩
  rw [hv1] at D1
  obtain ⟨v2, hv2⟩ : ∃ v, In.kys i.keys = v := ⟨_, rfl⟩
  rw [hv2] at D2
  obtain ⟨v3, hv3⟩ : ∃ v, In.vld i.vol 0 64 = v := ⟨_, rfl⟩
  rw [hv3] at D3
  obtain ⟨v4, hv4⟩ : ∃ v, In.vld i.pan (-32) 32 = v := ⟨_, rfl⟩
  rw [hv4] at D4
  obtain ⟨v5, hv5⟩ : ∃ v, In.vld i.pit (-32) 32 = v := ⟨_, rfl⟩
  rw [hv5] at D5
  obtain ⟨v6, hv6⟩ : ∃ v, In.wth i.fade 0 1024 = v := ⟨_, rfl⟩
  rw [hv6] at D6
  obtain ⟨v7, hv7⟩ : ∃ v, In.wth i.nn 0 3 = v := ⟨_, rfl⟩
  rw [hv7] at D7
  obtain ⟨v8, hv8⟩ : ∃ v, In.wth i.dup 0 3 = v := ⟨_, rfl⟩
  rw [hv8] at D8
  obtain ⟨v9, hv9⟩ : ∃ v, In.wth i.dd 0 2 = v := ⟨_, rfl⟩
  rw [hv9] at D9
  obtain ⟨v10, hv10⟩ : ∃ v, In.wth i.glo 0 64 = v := ⟨_, rfl⟩
  rw [hv10] at D10
  obtain ⟨v11, hv11⟩ : ∃ v, In.wth i.cut (-1) 127 = v := ⟨_, rfl⟩
  rw [hv11] at D11
  obtain ⟨v12, hv12⟩ : ∃ v, In.wth i.res (-1) 127 = v := ⟨_, rfl⟩
  rw [hv12] at D12
  have HE := Lib.hid (show In.ivld i = (v1 && (v2 && (v3 && (v4 && (v5 && (v6 && (v7 && (v8 && (v9 && (v10 && (v11 && (v12)))))))))))) by unfold In.ivld; rw [hv1, hv2, hv3, hv4, hv5, hv6, hv7, hv8, hv9, hv10, hv11, hv12])
  clear hd hWb hv1 hv2 hv3 hv4 hv5 hv6 hv7 hv8 hv9 hv10 hv11 hv12
  unfold EV at D3 D4 D5
  unfold IV
  have ⟨x0, x1, x2, x3, x4, x5, x6, x7, x8, x9, x10, x11, x12, x13, x14, x15, x16, x17, x18, x19, x20, x21, x22, x23, x24, x25, x26, x27, x28, x29, x30, x31, x32⟩ := HIB.out
  go_enter Try.func20, Try.ntmps20
  go_upto_region 1 with fail
  rw [← hW, ← hbe]
  clear hW hbe
  go_wp2_with (first | (go_at_call 44; ((with_reducible refine (D1.out _ HB0.out).mono ?_); rintro x' w1 ⟨rfl, hb1⟩; have HB1 := Lib.hid hb1; clear hb1 x0 x1 x2 x3 x4 x5 x6 x7 x8 x9 x10 x11 x12 x13 x14 x15 x16 x17 x18 x19 x20 x21 x22 x23 x24 x25 x26 x27 x28 x29 x30 x31 x32; have ⟨x0, x1, x2, x3, x4, x5, x6, x7, x8, x9, x10, x11, x12, x13, x14, x15, x16, x17, x18, x19, x20, x21, x22, x23, x24, x25, x26, x27, x28, x29, x30, x31, x32⟩ := HIB.out.kept HB1.out)) | (go_at_call 45; ((with_reducible refine (D2.out _ HB1.out).mono ?_); rintro x' w2 ⟨rfl, hb2⟩; have HB2 := Lib.hid hb2; clear hb2 x0 x1 x2 x3 x4 x5 x6 x7 x8 x9 x10 x11 x12 x13 x14 x15 x16 x17 x18 x19 x20 x21 x22 x23 x24 x25 x26 x27 x28 x29 x30 x31 x32; have ⟨x0, x1, x2, x3, x4, x5, x6, x7, x8, x9, x10, x11, x12, x13, x14, x15, x16, x17, x18, x19, x20, x21, x22, x23, x24, x25, x26, x27, x28, x29, x30, x31, x32⟩ := HIB.out.kept HB2.out)) | (go_at_call 7; ((with_reducible refine (D3.out _ HB2.out).mono ?_); rintro x' w3 ⟨rfl, hb3⟩; have HB3 := Lib.hid hb3; clear hb3 x0 x1 x2 x3 x4 x5 x6 x7 x8 x9 x10 x11 x12 x13 x14 x15 x16 x17 x18 x19 x20 x21 x22 x23 x24 x25 x26 x27 x28 x29 x30 x31 x32; have ⟨x0, x1, x2, x3, x4, x5, x6, x7, x8, x9, x10, x11, x12, x13, x14, x15, x16, x17, x18, x19, x20, x21, x22, x23, x24, x25, x26, x27, x28, x29, x30, x31, x32⟩ := HIB.out.kept HB3.out)) | (go_at_call 7; ((with_reducible refine (D4.out _ HB3.out).mono ?_); rintro x' w4 ⟨rfl, hb4⟩; have HB4 := Lib.hid hb4; clear hb4 x0 x1 x2 x3 x4 x5 x6 x7 x8 x9 x10 x11 x12 x13 x14 x15 x16 x17 x18 x19 x20 x21 x22 x23 x24 x25 x26 x27 x28 x29 x30 x31 x32; have ⟨x0, x1, x2, x3, x4, x5, x6, x7, x8, x9, x10, x11, x12, x13, x14, x15, x16, x17, x18, x19, x20, x21, x22, x23, x24, x25, x26, x27, x28, x29, x30, x31, x32⟩ := HIB.out.kept HB4.out)) | (go_at_call 7; ((with_reducible refine (D5.out _ HB4.out).mono ?_); rintro x' w5 ⟨rfl, hb5⟩; have HB5 := Lib.hid hb5; clear hb5 x0 x1 x2 x3 x4 x5 x6 x7 x8 x9 x10 x11 x12 x13 x14 x15 x16 x17 x18 x19 x20 x21 x22 x23 x24 x25 x26 x27 x28 x29 x30 x31 x32; have ⟨x0, x1, x2, x3, x4, x5, x6, x7, x8, x9, x10, x11, x12, x13, x14, x15, x16, x17, x18, x19, x20, x21, x22, x23, x24, x25, x26, x27, x28, x29, x30, x31, x32⟩ := HIB.out.kept HB5.out)) | (go_at_call 40; ((with_reducible refine (D6.out _).mono ?_); rintro x' w' ⟨rfl, rfl⟩)) | (go_at_call 40; ((with_reducible refine (D7.out _).mono ?_); rintro x' w' ⟨rfl, rfl⟩)) | (go_at_call 40; ((with_reducible refine (D8.out _).mono ?_); rintro x' w' ⟨rfl, rfl⟩)) | (go_at_call 40; ((with_reducible refine (D9.out _).mono ?_); rintro x' w' ⟨rfl, rfl⟩)) | (go_at_call 40; ((with_reducible refine (D10.out _).mono ?_); rintro x' w' ⟨rfl, rfl⟩)) | (go_at_call 40; ((with_reducible refine (D11.out _).mono ?_); rintro x' w' ⟨rfl, rfl⟩)) | (go_at_call 40; ((with_reducible refine (D12.out _).mono ?_); rintro x' w' ⟨rfl, rfl⟩)))
  all_goals
    go_ret
    refine ⟨ret_bool (by rw [HE.out]; simp [*]), HWb.out.trans (Below.mono (by first | exact HB5.out | exact HB4.out | exact HB3.out | exact HB2.out | exact HB1.out) HWb.out.size)⟩
end Go.Proofs.Ytcchfahdgmcpbaa

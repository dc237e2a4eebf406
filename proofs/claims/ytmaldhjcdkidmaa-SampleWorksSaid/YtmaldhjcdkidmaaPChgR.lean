/-
  The contract of package sample's placeLoops with the function literal of Reverse.
-/
import Derived.Test.YtmaldhjcdkidmaaPChgB
namespace Go.Proofs.Ytmaldhjcdkidmaa
open Go.RowKit

set_option maxHeartbeats 1600000 in
theorem p_place_rev11 (s : Sm.Smp) (p : Option Addr) (cap : Nat) (n : Int) (c : Nat) (w : World) (hc : w.cell? ⟨c, 0, none⟩ = some (.int .i64 n)) (n1 : -1099511627776 ≤ n) (n2 : n ≤ 1099511627776) (t1 : (s.loop != 0) = true) (t2 : (s.sus != 0) = true) (a1 : -1099511627776 ≤ s.start) (a2 : s.start ≤ 1099511627776) (b1 : -1099511627776 ≤ s.fin) (b2 : s.fin ≤ 1099511627776) (d1 : -1099511627776 ≤ s.sstart) (d2 : s.sstart ≤ 1099511627776) (e1 : -1099511627776 ≤ s.sfin) (e2 : s.sfin ≤ 1099511627776) :
    Calls Try.prog 57 #[SV s p cap, .func (.func 58) #[] #[.pointer (some ⟨c, 0, none⟩)]] w fun x w' => x = .returned (SV { s with loop := s.loop, start := n - s.fin, fin := n - s.start, sus := s.sus, sstart := n - s.sfin, sfin := n - s.sstart } p cap) ∧ Below w.heap.size w w' := by
  have HC0 := Lib.hid (kept_cell (below_box _ (.cells #[.string ByteArray.empty, .slice none 0 0, .int .i64 0, .int .i64 0, .int .i64 0, .int .i64 0, .int .i64 0, .int .i64 0, .int .i64 0, .int .i64 0, .int .i64 0, .int .i64 0, .int .i64 0] 24)) (kept_cell (below_box w (.cells #[.string s.name, .slice p s.dat.length cap, .int .i64 s.bits, .int .i64 s.rate, .int .i64 s.vol, .int .i64 s.pan, .int .i64 s.fine, .int .i64 s.loop, .int .i64 s.start, .int .i64 s.fin, .int .i64 s.sus, .int .i64 s.sstart, .int .i64 s.sfin] 24)) hc))
  have hlt0 : c < w.heap.size := cell_lt hc
  have HT0 := Lib.hid (two_new w s p cap)
  have HB0 := Lib.hid (((Below.refl w.heap.size w).alloc (Nat.le_refl _) (.cells #[.string s.name, .slice p s.dat.length cap, .int .i64 s.bits, .int .i64 s.rate, .int .i64 s.vol, .int .i64 s.pan, .int .i64 s.fine, .int .i64 s.loop, .int .i64 s.start, .int .i64 s.fin, .int .i64 s.sus, .int .i64 s.sstart, .int .i64 s.sfin] 24)).alloc (by simp) (.cells #[.string ByteArray.empty, .slice none 0 0, .int .i64 0, .int .i64 0, .int .i64 0, .int .i64 0, .int .i64 0, .int .i64 0, .int .i64 0, .int .i64 0, .int .i64 0, .int .i64 0, .int .i64 0] 24))
  clear hc
  have HFi := Lib.hid (fun w' => p_first s p cap w')
  have HSe := Lib.hid (fun w' => p_second { s with loop := s.loop, start := n - s.fin, fin := n - s.start } p cap w')
  unfold SV at HFi HSe
  dsimp only at HSe
  have HLT := Lib.hid (show w.heap.size + 1 < ((w.alloc (.cells #[.string s.name, .slice p s.dat.length cap, .int .i64 s.bits, .int .i64 s.rate, .int .i64 s.vol, .int .i64 s.pan, .int .i64 s.fine, .int .i64 s.loop, .int .i64 s.start, .int .i64 s.fin, .int .i64 s.sus, .int .i64 s.sstart, .int .i64 s.sfin] 24)).alloc (.cells #[.string ByteArray.empty, .slice none 0 0, .int .i64 0, .int .i64 0, .int .i64 0, .int .i64 0, .int .i64 0, .int .i64 0, .int .i64 0, .int .i64 0, .int .i64 0, .int .i64 0, .int .i64 0] 24)).heap.size by simp)
  unfold SV
  dsimp only
  go_enter Try.func57, Try.ntmps57
  go_wp2_with (first | (go_at_call 41; ((with_reducible refine (HFi.out _).mono ?_); rintro x w1 ⟨rfl, hb1⟩; have HT1 := Lib.hid (HT0.out.kept hb1 HLT.out); have HCa0 := Lib.hid (kept_cell hb1 HC0.out); have HB1 := Lib.hid (stepB HB0.out hb1))) | (go_at_call 58; ((with_reducible refine (c_rev _ _ _ n c _ HCa0.out a1 a2 b1 b2 n1 n2).mono ?_); rintro x w2 ⟨rfl, hb2⟩; have HB2 := Lib.hid (stepB (stepB HB1.out hb2) (below_box w2 (.cells #[.int .i64 (s.loop), .int .i64 (n - s.fin), .int .i64 (n - s.start)] 51))); have HCb0 := Lib.hid (kept_cell (below_box w2 (.cells #[.int .i64 (s.loop), .int .i64 (n - s.fin), .int .i64 (n - s.start)] 51)) (kept_cell hb2 HCa0.out)); have HLT2 := Lib.hid (show w.heap.size + 1 < w2.heap.size from Nat.lt_of_lt_of_le HLT.out (Nat.le_trans hb1.size hb2.size)); have HT2 := Lib.hid ((HT1.out.kept hb2 (Nat.lt_of_lt_of_le HLT.out hb1.size)).kept (below_box w2 (.cells #[.int .i64 (s.loop), .int .i64 (n - s.fin), .int .i64 (n - s.start)] 51)) HLT2.out); obtain ⟨⟨x0, x1, x2, x3, x4, x5, x6, x7, x8, x9, x10, x11, x12⟩, ⟨z0, z1, z2, z3, z4, z5, z6, z7, z8, z9, z10, z11, z12⟩, fz1, fz2⟩ := HT2.out)))
  go_region
  have HT3 := Lib.hid (show Two (((((w2.alloc (.cells #[.int .i64 (s.loop), .int .i64 (n - s.fin), .int .i64 (n - s.start)] 51)).setCell ⟨w.heap.size, 7, none⟩ (.int .i64 (s.loop))).setCell ⟨w.heap.size, 8, none⟩ (.int .i64 (n - s.fin))).setCell ⟨w.heap.size, 9, none⟩ (.int .i64 (n - s.start))).drew) w.heap.size { s with loop := s.loop, start := n - s.fin, fin := n - s.start } p cap from HT2.out.loop1 _ _ _)
  have HB3 := Lib.hid (show Below w.heap.size w (((((w2.alloc (.cells #[.int .i64 (s.loop), .int .i64 (n - s.fin), .int .i64 (n - s.start)] 51)).setCell ⟨w.heap.size, 7, none⟩ (.int .i64 (s.loop))).setCell ⟨w.heap.size, 8, none⟩ (.int .i64 (n - s.fin))).setCell ⟨w.heap.size, 9, none⟩ (.int .i64 (n - s.start))).drew) from (((HB2.out.setCell (Nat.le_refl _) _).setCell (Nat.le_refl _) _).setCell (Nat.le_refl _) _).drew)
  have HLT3 := Lib.hid (show w.heap.size + 1 < (((((w2.alloc (.cells #[.int .i64 (s.loop), .int .i64 (n - s.fin), .int .i64 (n - s.start)] 51)).setCell ⟨w.heap.size, 7, none⟩ (.int .i64 (s.loop))).setCell ⟨w.heap.size, 8, none⟩ (.int .i64 (n - s.fin))).setCell ⟨w.heap.size, 9, none⟩ (.int .i64 (n - s.start))).drew).heap.size by have := HLT2.out; simp; omega)
  have HCc0 := Lib.hid (show (((((w2.alloc (.cells #[.int .i64 (s.loop), .int .i64 (n - s.fin), .int .i64 (n - s.start)] 51)).setCell ⟨w.heap.size, 7, none⟩ (.int .i64 (s.loop))).setCell ⟨w.heap.size, 8, none⟩ (.int .i64 (n - s.fin))).setCell ⟨w.heap.size, 9, none⟩ (.int .i64 (n - s.start))).drew).cell? ⟨c, 0, none⟩ = some (.int .i64 n) from (ne_cell3 (Nat.ne_of_lt hlt0) _ _ _ _ _).trans HCb0.out)
  obtain ⟨W3, hW3⟩ : ∃ W3, W3 = (((((w2.alloc (.cells #[.int .i64 (s.loop), .int .i64 (n - s.fin), .int .i64 (n - s.start)] 51)).setCell ⟨w.heap.size, 7, none⟩ (.int .i64 (s.loop))).setCell ⟨w.heap.size, 8, none⟩ (.int .i64 (n - s.fin))).setCell ⟨w.heap.size, 9, none⟩ (.int .i64 (n - s.start))).drew) := ⟨_, rfl⟩
  rw [← hW3] at HT3 HB3 HLT3 HCc0 ⊢
  clear HT2 HT1 HB2 HB1 HLT2 HT0 HB0 HLT HC0 HCa0 HCb0 x0 x1 x2 x3 x4 x5 x6 x7 x8 x9 x10 x11 x12 z0 z1 z2 z3 z4 z5 z6 z7 z8 z9 z10 z11 z12 fz1 fz2 hW3 hb1 hb2
  obtain ⟨⟨x0, x1, x2, x3, x4, x5, x6, x7, x8, x9, x10, x11, x12⟩, ⟨z0, z1, z2, z3, z4, z5, z6, z7, z8, z9, z10, z11, z12⟩, fz1, fz2⟩ := HT3.out
  have HT0 := HT3
  have HB0 := HB3
  have HLT := HLT3
  have HC0 := HCc0
  clear HT3 HB3 HLT3 HCc0
  go_wp2_with (first | (go_at_call 42; ((with_reducible refine (HSe.out _).mono ?_); rintro x w1 ⟨rfl, hb1⟩; have HT1 := Lib.hid (HT0.out.kept hb1 HLT.out); have HCa0 := Lib.hid (kept_cell hb1 HC0.out); have HB1 := Lib.hid (stepB HB0.out hb1))) | (go_at_call 58; ((with_reducible refine (c_rev _ _ _ n c _ HCa0.out d1 d2 e1 e2 n1 n2).mono ?_); rintro x w2 ⟨rfl, hb2⟩; have HB2 := Lib.hid (stepB (stepB HB1.out hb2) (below_box w2 (.cells #[.int .i64 (s.sus), .int .i64 (n - s.sfin), .int .i64 (n - s.sstart)] 51))); have HCb0 := Lib.hid (kept_cell (below_box w2 (.cells #[.int .i64 (s.sus), .int .i64 (n - s.sfin), .int .i64 (n - s.sstart)] 51)) (kept_cell hb2 HCa0.out)); have HLT2 := Lib.hid (show w.heap.size + 1 < w2.heap.size from Nat.lt_of_lt_of_le HLT.out (Nat.le_trans hb1.size hb2.size)); have HT2 := Lib.hid ((HT1.out.kept hb2 (Nat.lt_of_lt_of_le HLT.out hb1.size)).kept (below_box w2 (.cells #[.int .i64 (s.sus), .int .i64 (n - s.sfin), .int .i64 (n - s.sstart)] 51)) HLT2.out); obtain ⟨⟨x0, x1, x2, x3, x4, x5, x6, x7, x8, x9, x10, x11, x12⟩, ⟨z0, z1, z2, z3, z4, z5, z6, z7, z8, z9, z10, z11, z12⟩, fz1, fz2⟩ := HT2.out)))
  go_region
  have HT3 := Lib.hid (show Two (((((w2.alloc (.cells #[.int .i64 (s.sus), .int .i64 (n - s.sfin), .int .i64 (n - s.sstart)] 51)).setCell ⟨w.heap.size, 10, none⟩ (.int .i64 (s.sus))).setCell ⟨w.heap.size, 11, none⟩ (.int .i64 (n - s.sfin))).setCell ⟨w.heap.size, 12, none⟩ (.int .i64 (n - s.sstart))).drew) w.heap.size { s with loop := s.loop, start := n - s.fin, fin := n - s.start, sus := s.sus, sstart := n - s.sfin, sfin := n - s.sstart } p cap from HT2.out.loop2 _ _ _)
  have HB3 := Lib.hid (show Below w.heap.size w (((((w2.alloc (.cells #[.int .i64 (s.sus), .int .i64 (n - s.sfin), .int .i64 (n - s.sstart)] 51)).setCell ⟨w.heap.size, 10, none⟩ (.int .i64 (s.sus))).setCell ⟨w.heap.size, 11, none⟩ (.int .i64 (n - s.sfin))).setCell ⟨w.heap.size, 12, none⟩ (.int .i64 (n - s.sstart))).drew) from (((HB2.out.setCell (Nat.le_refl _) _).setCell (Nat.le_refl _) _).setCell (Nat.le_refl _) _).drew)
  have HLT3 := Lib.hid (show w.heap.size + 1 < (((((w2.alloc (.cells #[.int .i64 (s.sus), .int .i64 (n - s.sfin), .int .i64 (n - s.sstart)] 51)).setCell ⟨w.heap.size, 10, none⟩ (.int .i64 (s.sus))).setCell ⟨w.heap.size, 11, none⟩ (.int .i64 (n - s.sfin))).setCell ⟨w.heap.size, 12, none⟩ (.int .i64 (n - s.sstart))).drew).heap.size by have := HLT2.out; simp; omega)
  have HCc0 := Lib.hid (show (((((w2.alloc (.cells #[.int .i64 (s.sus), .int .i64 (n - s.sfin), .int .i64 (n - s.sstart)] 51)).setCell ⟨w.heap.size, 10, none⟩ (.int .i64 (s.sus))).setCell ⟨w.heap.size, 11, none⟩ (.int .i64 (n - s.sfin))).setCell ⟨w.heap.size, 12, none⟩ (.int .i64 (n - s.sstart))).drew).cell? ⟨c, 0, none⟩ = some (.int .i64 n) from (ne_cell3 (Nat.ne_of_lt hlt0) _ _ _ _ _).trans HCb0.out)
  obtain ⟨W4, hW4⟩ : ∃ W4, W4 = (((((w2.alloc (.cells #[.int .i64 (s.sus), .int .i64 (n - s.sfin), .int .i64 (n - s.sstart)] 51)).setCell ⟨w.heap.size, 10, none⟩ (.int .i64 (s.sus))).setCell ⟨w.heap.size, 11, none⟩ (.int .i64 (n - s.sfin))).setCell ⟨w.heap.size, 12, none⟩ (.int .i64 (n - s.sstart))).drew) := ⟨_, rfl⟩
  rw [← hW4] at HT3 HB3 HLT3 HCc0 ⊢
  clear HT2 HT1 HB2 HB1 HLT2 HT0 HB0 HLT HC0 HCa0 HCb0 x0 x1 x2 x3 x4 x5 x6 x7 x8 x9 x10 x11 x12 z0 z1 z2 z3 z4 z5 z6 z7 z8 z9 z10 z11 z12 fz1 fz2 hW4 hb1 hb2
  obtain ⟨⟨x0, x1, x2, x3, x4, x5, x6, x7, x8, x9, x10, x11, x12⟩, ⟨z0, z1, z2, z3, z4, z5, z6, z7, z8, z9, z10, z11, z12⟩, fz1, fz2⟩ := HT3.out
  have HT0 := HT3
  have HB0 := HB3
  have HLT := HLT3
  have HC0 := HCc0
  clear HT3 HB3 HLT3 HCc0
  go_wp2
  exact bodyPost_ret (v := SV { s with loop := s.loop, start := n - s.fin, fin := n - s.start, sus := s.sus, sstart := n - s.sfin, sfin := n - s.sstart } p cap) (by simp [results, Try.results57, go_sem, SV, z0, z1, z2, z3, z4, z5, z6, z7, z8, z9, z10, z11, z12]) rfl ⟨rfl, Below13 HB0.out (by omega)⟩
set_option maxHeartbeats 1600000 in
theorem p_place_rev10 (s : Sm.Smp) (p : Option Addr) (cap : Nat) (n : Int) (c : Nat) (w : World) (hc : w.cell? ⟨c, 0, none⟩ = some (.int .i64 n)) (n1 : -1099511627776 ≤ n) (n2 : n ≤ 1099511627776) (t1 : (s.loop != 0) = true) (t2 : (s.sus != 0) = false) (a1 : -1099511627776 ≤ s.start) (a2 : s.start ≤ 1099511627776) (b1 : -1099511627776 ≤ s.fin) (b2 : s.fin ≤ 1099511627776) (d1 : -1099511627776 ≤ s.sstart) (d2 : s.sstart ≤ 1099511627776) (e1 : -1099511627776 ≤ s.sfin) (e2 : s.sfin ≤ 1099511627776) :
    Calls Try.prog 57 #[SV s p cap, .func (.func 58) #[] #[.pointer (some ⟨c, 0, none⟩)]] w fun x w' => x = .returned (SV { s with loop := s.loop, start := n - s.fin, fin := n - s.start } p cap) ∧ Below w.heap.size w w' := by
  have _u := And.intro d1 <| And.intro d2 <| And.intro e1 e2
  clear _u
  have HC0 := Lib.hid (kept_cell (below_box _ (.cells #[.string ByteArray.empty, .slice none 0 0, .int .i64 0, .int .i64 0, .int .i64 0, .int .i64 0, .int .i64 0, .int .i64 0, .int .i64 0, .int .i64 0, .int .i64 0, .int .i64 0, .int .i64 0] 24)) (kept_cell (below_box w (.cells #[.string s.name, .slice p s.dat.length cap, .int .i64 s.bits, .int .i64 s.rate, .int .i64 s.vol, .int .i64 s.pan, .int .i64 s.fine, .int .i64 s.loop, .int .i64 s.start, .int .i64 s.fin, .int .i64 s.sus, .int .i64 s.sstart, .int .i64 s.sfin] 24)) hc))
  have hlt0 : c < w.heap.size := cell_lt hc
  have HT0 := Lib.hid (two_new w s p cap)
  have HB0 := Lib.hid (((Below.refl w.heap.size w).alloc (Nat.le_refl _) (.cells #[.string s.name, .slice p s.dat.length cap, .int .i64 s.bits, .int .i64 s.rate, .int .i64 s.vol, .int .i64 s.pan, .int .i64 s.fine, .int .i64 s.loop, .int .i64 s.start, .int .i64 s.fin, .int .i64 s.sus, .int .i64 s.sstart, .int .i64 s.sfin] 24)).alloc (by simp) (.cells #[.string ByteArray.empty, .slice none 0 0, .int .i64 0, .int .i64 0, .int .i64 0, .int .i64 0, .int .i64 0, .int .i64 0, .int .i64 0, .int .i64 0, .int .i64 0, .int .i64 0, .int .i64 0] 24))
  clear hc
  have HFi := Lib.hid (fun w' => p_first s p cap w')
  unfold SV at HFi
  have HLT := Lib.hid (show w.heap.size + 1 < ((w.alloc (.cells #[.string s.name, .slice p s.dat.length cap, .int .i64 s.bits, .int .i64 s.rate, .int .i64 s.vol, .int .i64 s.pan, .int .i64 s.fine, .int .i64 s.loop, .int .i64 s.start, .int .i64 s.fin, .int .i64 s.sus, .int .i64 s.sstart, .int .i64 s.sfin] 24)).alloc (.cells #[.string ByteArray.empty, .slice none 0 0, .int .i64 0, .int .i64 0, .int .i64 0, .int .i64 0, .int .i64 0, .int .i64 0, .int .i64 0, .int .i64 0, .int .i64 0, .int .i64 0, .int .i64 0] 24)).heap.size by simp)
  unfold SV
  dsimp only
  go_enter Try.func57, Try.ntmps57
  go_wp2_with (first | (go_at_call 41; ((with_reducible refine (HFi.out _).mono ?_); rintro x w1 ⟨rfl, hb1⟩; have HT1 := Lib.hid (HT0.out.kept hb1 HLT.out); have HCa0 := Lib.hid (kept_cell hb1 HC0.out); have HB1 := Lib.hid (stepB HB0.out hb1))) | (go_at_call 58; ((with_reducible refine (c_rev _ _ _ n c _ HCa0.out a1 a2 b1 b2 n1 n2).mono ?_); rintro x w2 ⟨rfl, hb2⟩; have HB2 := Lib.hid (stepB (stepB HB1.out hb2) (below_box w2 (.cells #[.int .i64 (s.loop), .int .i64 (n - s.fin), .int .i64 (n - s.start)] 51))); have HCb0 := Lib.hid (kept_cell (below_box w2 (.cells #[.int .i64 (s.loop), .int .i64 (n - s.fin), .int .i64 (n - s.start)] 51)) (kept_cell hb2 HCa0.out)); have HLT2 := Lib.hid (show w.heap.size + 1 < w2.heap.size from Nat.lt_of_lt_of_le HLT.out (Nat.le_trans hb1.size hb2.size)); have HT2 := Lib.hid ((HT1.out.kept hb2 (Nat.lt_of_lt_of_le HLT.out hb1.size)).kept (below_box w2 (.cells #[.int .i64 (s.loop), .int .i64 (n - s.fin), .int .i64 (n - s.start)] 51)) HLT2.out); obtain ⟨⟨x0, x1, x2, x3, x4, x5, x6, x7, x8, x9, x10, x11, x12⟩, ⟨z0, z1, z2, z3, z4, z5, z6, z7, z8, z9, z10, z11, z12⟩, fz1, fz2⟩ := HT2.out)))
  go_region
  have HT3 := Lib.hid (show Two (((((w2.alloc (.cells #[.int .i64 (s.loop), .int .i64 (n - s.fin), .int .i64 (n - s.start)] 51)).setCell ⟨w.heap.size, 7, none⟩ (.int .i64 (s.loop))).setCell ⟨w.heap.size, 8, none⟩ (.int .i64 (n - s.fin))).setCell ⟨w.heap.size, 9, none⟩ (.int .i64 (n - s.start))).drew) w.heap.size { s with loop := s.loop, start := n - s.fin, fin := n - s.start } p cap from HT2.out.loop1 _ _ _)
  have HB3 := Lib.hid (show Below w.heap.size w (((((w2.alloc (.cells #[.int .i64 (s.loop), .int .i64 (n - s.fin), .int .i64 (n - s.start)] 51)).setCell ⟨w.heap.size, 7, none⟩ (.int .i64 (s.loop))).setCell ⟨w.heap.size, 8, none⟩ (.int .i64 (n - s.fin))).setCell ⟨w.heap.size, 9, none⟩ (.int .i64 (n - s.start))).drew) from (((HB2.out.setCell (Nat.le_refl _) _).setCell (Nat.le_refl _) _).setCell (Nat.le_refl _) _).drew)
  have HLT3 := Lib.hid (show w.heap.size + 1 < (((((w2.alloc (.cells #[.int .i64 (s.loop), .int .i64 (n - s.fin), .int .i64 (n - s.start)] 51)).setCell ⟨w.heap.size, 7, none⟩ (.int .i64 (s.loop))).setCell ⟨w.heap.size, 8, none⟩ (.int .i64 (n - s.fin))).setCell ⟨w.heap.size, 9, none⟩ (.int .i64 (n - s.start))).drew).heap.size by have := HLT2.out; simp; omega)
  have HCc0 := Lib.hid (show (((((w2.alloc (.cells #[.int .i64 (s.loop), .int .i64 (n - s.fin), .int .i64 (n - s.start)] 51)).setCell ⟨w.heap.size, 7, none⟩ (.int .i64 (s.loop))).setCell ⟨w.heap.size, 8, none⟩ (.int .i64 (n - s.fin))).setCell ⟨w.heap.size, 9, none⟩ (.int .i64 (n - s.start))).drew).cell? ⟨c, 0, none⟩ = some (.int .i64 n) from (ne_cell3 (Nat.ne_of_lt hlt0) _ _ _ _ _).trans HCb0.out)
  obtain ⟨W3, hW3⟩ : ∃ W3, W3 = (((((w2.alloc (.cells #[.int .i64 (s.loop), .int .i64 (n - s.fin), .int .i64 (n - s.start)] 51)).setCell ⟨w.heap.size, 7, none⟩ (.int .i64 (s.loop))).setCell ⟨w.heap.size, 8, none⟩ (.int .i64 (n - s.fin))).setCell ⟨w.heap.size, 9, none⟩ (.int .i64 (n - s.start))).drew) := ⟨_, rfl⟩
  rw [← hW3] at HT3 HB3 HLT3 HCc0 ⊢
  clear HT2 HT1 HB2 HB1 HLT2 HT0 HB0 HLT HC0 HCa0 HCb0 x0 x1 x2 x3 x4 x5 x6 x7 x8 x9 x10 x11 x12 z0 z1 z2 z3 z4 z5 z6 z7 z8 z9 z10 z11 z12 fz1 fz2 hW3 hb1 hb2
  obtain ⟨⟨x0, x1, x2, x3, x4, x5, x6, x7, x8, x9, x10, x11, x12⟩, ⟨z0, z1, z2, z3, z4, z5, z6, z7, z8, z9, z10, z11, z12⟩, fz1, fz2⟩ := HT3.out
  have HT0 := HT3
  have HB0 := HB3
  have HLT := HLT3
  have HC0 := HCc0
  clear HT3 HB3 HLT3 HCc0
  go_wp2
  exact bodyPost_ret (v := SV { s with loop := s.loop, start := n - s.fin, fin := n - s.start } p cap) (by simp [results, Try.results57, go_sem, SV, z0, z1, z2, z3, z4, z5, z6, z7, z8, z9, z10, z11, z12]) rfl ⟨rfl, Below13 HB0.out (by omega)⟩
set_option maxHeartbeats 1600000 in
theorem p_place_rev01 (s : Sm.Smp) (p : Option Addr) (cap : Nat) (n : Int) (c : Nat) (w : World) (hc : w.cell? ⟨c, 0, none⟩ = some (.int .i64 n)) (n1 : -1099511627776 ≤ n) (n2 : n ≤ 1099511627776) (t1 : (s.loop != 0) = false) (t2 : (s.sus != 0) = true) (a1 : -1099511627776 ≤ s.start) (a2 : s.start ≤ 1099511627776) (b1 : -1099511627776 ≤ s.fin) (b2 : s.fin ≤ 1099511627776) (d1 : -1099511627776 ≤ s.sstart) (d2 : s.sstart ≤ 1099511627776) (e1 : -1099511627776 ≤ s.sfin) (e2 : s.sfin ≤ 1099511627776) :
    Calls Try.prog 57 #[SV s p cap, .func (.func 58) #[] #[.pointer (some ⟨c, 0, none⟩)]] w fun x w' => x = .returned (SV { s with sus := s.sus, sstart := n - s.sfin, sfin := n - s.sstart } p cap) ∧ Below w.heap.size w w' := by
  have _u := And.intro a1 <| And.intro a2 <| And.intro b1 b2
  clear _u
  have HC0 := Lib.hid (kept_cell (below_box _ (.cells #[.string ByteArray.empty, .slice none 0 0, .int .i64 0, .int .i64 0, .int .i64 0, .int .i64 0, .int .i64 0, .int .i64 0, .int .i64 0, .int .i64 0, .int .i64 0, .int .i64 0, .int .i64 0] 24)) (kept_cell (below_box w (.cells #[.string s.name, .slice p s.dat.length cap, .int .i64 s.bits, .int .i64 s.rate, .int .i64 s.vol, .int .i64 s.pan, .int .i64 s.fine, .int .i64 s.loop, .int .i64 s.start, .int .i64 s.fin, .int .i64 s.sus, .int .i64 s.sstart, .int .i64 s.sfin] 24)) hc))
  have hlt0 : c < w.heap.size := cell_lt hc
  have HT0 := Lib.hid (two_new w s p cap)
  have HB0 := Lib.hid (((Below.refl w.heap.size w).alloc (Nat.le_refl _) (.cells #[.string s.name, .slice p s.dat.length cap, .int .i64 s.bits, .int .i64 s.rate, .int .i64 s.vol, .int .i64 s.pan, .int .i64 s.fine, .int .i64 s.loop, .int .i64 s.start, .int .i64 s.fin, .int .i64 s.sus, .int .i64 s.sstart, .int .i64 s.sfin] 24)).alloc (by simp) (.cells #[.string ByteArray.empty, .slice none 0 0, .int .i64 0, .int .i64 0, .int .i64 0, .int .i64 0, .int .i64 0, .int .i64 0, .int .i64 0, .int .i64 0, .int .i64 0, .int .i64 0, .int .i64 0] 24))
  clear hc
  have HSe := Lib.hid (fun w' => p_second s p cap w')
  unfold SV at HSe
  have HLT := Lib.hid (show w.heap.size + 1 < ((w.alloc (.cells #[.string s.name, .slice p s.dat.length cap, .int .i64 s.bits, .int .i64 s.rate, .int .i64 s.vol, .int .i64 s.pan, .int .i64 s.fine, .int .i64 s.loop, .int .i64 s.start, .int .i64 s.fin, .int .i64 s.sus, .int .i64 s.sstart, .int .i64 s.sfin] 24)).alloc (.cells #[.string ByteArray.empty, .slice none 0 0, .int .i64 0, .int .i64 0, .int .i64 0, .int .i64 0, .int .i64 0, .int .i64 0, .int .i64 0, .int .i64 0, .int .i64 0, .int .i64 0, .int .i64 0] 24)).heap.size by simp)
  unfold SV
  dsimp only
  go_enter Try.func57, Try.ntmps57
  go_wp2_with (first | (go_at_call 42; ((with_reducible refine (HSe.out _).mono ?_); rintro x w1 ⟨rfl, hb1⟩; have HT1 := Lib.hid (HT0.out.kept hb1 HLT.out); have HCa0 := Lib.hid (kept_cell hb1 HC0.out); have HB1 := Lib.hid (stepB HB0.out hb1))) | (go_at_call 58; ((with_reducible refine (c_rev _ _ _ n c _ HCa0.out d1 d2 e1 e2 n1 n2).mono ?_); rintro x w2 ⟨rfl, hb2⟩; have HB2 := Lib.hid (stepB (stepB HB1.out hb2) (below_box w2 (.cells #[.int .i64 (s.sus), .int .i64 (n - s.sfin), .int .i64 (n - s.sstart)] 51))); have HCb0 := Lib.hid (kept_cell (below_box w2 (.cells #[.int .i64 (s.sus), .int .i64 (n - s.sfin), .int .i64 (n - s.sstart)] 51)) (kept_cell hb2 HCa0.out)); have HLT2 := Lib.hid (show w.heap.size + 1 < w2.heap.size from Nat.lt_of_lt_of_le HLT.out (Nat.le_trans hb1.size hb2.size)); have HT2 := Lib.hid ((HT1.out.kept hb2 (Nat.lt_of_lt_of_le HLT.out hb1.size)).kept (below_box w2 (.cells #[.int .i64 (s.sus), .int .i64 (n - s.sfin), .int .i64 (n - s.sstart)] 51)) HLT2.out); obtain ⟨⟨x0, x1, x2, x3, x4, x5, x6, x7, x8, x9, x10, x11, x12⟩, ⟨z0, z1, z2, z3, z4, z5, z6, z7, z8, z9, z10, z11, z12⟩, fz1, fz2⟩ := HT2.out)))
  go_region
  have HT3 := Lib.hid (show Two (((((w2.alloc (.cells #[.int .i64 (s.sus), .int .i64 (n - s.sfin), .int .i64 (n - s.sstart)] 51)).setCell ⟨w.heap.size, 10, none⟩ (.int .i64 (s.sus))).setCell ⟨w.heap.size, 11, none⟩ (.int .i64 (n - s.sfin))).setCell ⟨w.heap.size, 12, none⟩ (.int .i64 (n - s.sstart))).drew) w.heap.size { s with sus := s.sus, sstart := n - s.sfin, sfin := n - s.sstart } p cap from HT2.out.loop2 _ _ _)
  have HB3 := Lib.hid (show Below w.heap.size w (((((w2.alloc (.cells #[.int .i64 (s.sus), .int .i64 (n - s.sfin), .int .i64 (n - s.sstart)] 51)).setCell ⟨w.heap.size, 10, none⟩ (.int .i64 (s.sus))).setCell ⟨w.heap.size, 11, none⟩ (.int .i64 (n - s.sfin))).setCell ⟨w.heap.size, 12, none⟩ (.int .i64 (n - s.sstart))).drew) from (((HB2.out.setCell (Nat.le_refl _) _).setCell (Nat.le_refl _) _).setCell (Nat.le_refl _) _).drew)
  have HLT3 := Lib.hid (show w.heap.size + 1 < (((((w2.alloc (.cells #[.int .i64 (s.sus), .int .i64 (n - s.sfin), .int .i64 (n - s.sstart)] 51)).setCell ⟨w.heap.size, 10, none⟩ (.int .i64 (s.sus))).setCell ⟨w.heap.size, 11, none⟩ (.int .i64 (n - s.sfin))).setCell ⟨w.heap.size, 12, none⟩ (.int .i64 (n - s.sstart))).drew).heap.size by have := HLT2.out; simp; omega)
  have HCc0 := Lib.hid (show (((((w2.alloc (.cells #[.int .i64 (s.sus), .int .i64 (n - s.sfin), .int .i64 (n - s.sstart)] 51)).setCell ⟨w.heap.size, 10, none⟩ (.int .i64 (s.sus))).setCell ⟨w.heap.size, 11, none⟩ (.int .i64 (n - s.sfin))).setCell ⟨w.heap.size, 12, none⟩ (.int .i64 (n - s.sstart))).drew).cell? ⟨c, 0, none⟩ = some (.int .i64 n) from (ne_cell3 (Nat.ne_of_lt hlt0) _ _ _ _ _).trans HCb0.out)
  obtain ⟨W4, hW4⟩ : ∃ W4, W4 = (((((w2.alloc (.cells #[.int .i64 (s.sus), .int .i64 (n - s.sfin), .int .i64 (n - s.sstart)] 51)).setCell ⟨w.heap.size, 10, none⟩ (.int .i64 (s.sus))).setCell ⟨w.heap.size, 11, none⟩ (.int .i64 (n - s.sfin))).setCell ⟨w.heap.size, 12, none⟩ (.int .i64 (n - s.sstart))).drew) := ⟨_, rfl⟩
  rw [← hW4] at HT3 HB3 HLT3 HCc0 ⊢
  clear HT2 HT1 HB2 HB1 HLT2 HT0 HB0 HLT HC0 HCa0 HCb0 x0 x1 x2 x3 x4 x5 x6 x7 x8 x9 x10 x11 x12 z0 z1 z2 z3 z4 z5 z6 z7 z8 z9 z10 z11 z12 fz1 fz2 hW4 hb1 hb2
  obtain ⟨⟨x0, x1, x2, x3, x4, x5, x6, x7, x8, x9, x10, x11, x12⟩, ⟨z0, z1, z2, z3, z4, z5, z6, z7, z8, z9, z10, z11, z12⟩, fz1, fz2⟩ := HT3.out
  have HT0 := HT3
  have HB0 := HB3
  have HLT := HLT3
  have HC0 := HCc0
  clear HT3 HB3 HLT3 HCc0
  go_wp2
  exact bodyPost_ret (v := SV { s with sus := s.sus, sstart := n - s.sfin, sfin := n - s.sstart } p cap) (by simp [results, Try.results57, go_sem, SV, z0, z1, z2, z3, z4, z5, z6, z7, z8, z9, z10, z11, z12]) rfl ⟨rfl, Below13 HB0.out (by omega)⟩
set_option maxHeartbeats 1600000 in
theorem p_place_rev00 (s : Sm.Smp) (p : Option Addr) (cap : Nat) (n : Int) (c : Nat) (w : World) (hc : w.cell? ⟨c, 0, none⟩ = some (.int .i64 n)) (n1 : -1099511627776 ≤ n) (n2 : n ≤ 1099511627776) (t1 : (s.loop != 0) = false) (t2 : (s.sus != 0) = false) (a1 : -1099511627776 ≤ s.start) (a2 : s.start ≤ 1099511627776) (b1 : -1099511627776 ≤ s.fin) (b2 : s.fin ≤ 1099511627776) (d1 : -1099511627776 ≤ s.sstart) (d2 : s.sstart ≤ 1099511627776) (e1 : -1099511627776 ≤ s.sfin) (e2 : s.sfin ≤ 1099511627776) :
    Calls Try.prog 57 #[SV s p cap, .func (.func 58) #[] #[.pointer (some ⟨c, 0, none⟩)]] w fun x w' => x = .returned (SV s p cap) ∧ Below w.heap.size w w' := by
  have _u := And.intro a1 <| And.intro a2 <| And.intro b1 <| And.intro b2 <| And.intro d1 <| And.intro d2 <| And.intro e1 <| And.intro e2 <| And.intro hc <| And.intro n1 n2
  clear _u
  have HC0 := Lib.hid (kept_cell (below_box _ (.cells #[.string ByteArray.empty, .slice none 0 0, .int .i64 0, .int .i64 0, .int .i64 0, .int .i64 0, .int .i64 0, .int .i64 0, .int .i64 0, .int .i64 0, .int .i64 0, .int .i64 0, .int .i64 0] 24)) (kept_cell (below_box w (.cells #[.string s.name, .slice p s.dat.length cap, .int .i64 s.bits, .int .i64 s.rate, .int .i64 s.vol, .int .i64 s.pan, .int .i64 s.fine, .int .i64 s.loop, .int .i64 s.start, .int .i64 s.fin, .int .i64 s.sus, .int .i64 s.sstart, .int .i64 s.sfin] 24)) hc))
  have hlt0 : c < w.heap.size := cell_lt hc
  have HT0 := Lib.hid (two_new w s p cap)
  have HB0 := Lib.hid (((Below.refl w.heap.size w).alloc (Nat.le_refl _) (.cells #[.string s.name, .slice p s.dat.length cap, .int .i64 s.bits, .int .i64 s.rate, .int .i64 s.vol, .int .i64 s.pan, .int .i64 s.fine, .int .i64 s.loop, .int .i64 s.start, .int .i64 s.fin, .int .i64 s.sus, .int .i64 s.sstart, .int .i64 s.sfin] 24)).alloc (by simp) (.cells #[.string ByteArray.empty, .slice none 0 0, .int .i64 0, .int .i64 0, .int .i64 0, .int .i64 0, .int .i64 0, .int .i64 0, .int .i64 0, .int .i64 0, .int .i64 0, .int .i64 0, .int .i64 0] 24))
  clear hc
  unfold SV
  go_enter Try.func57, Try.ntmps57
  go_wp2
  exact bodyPost_ret (v := SV s p cap) (by simp [results, Try.results57, go_sem, SV]) rfl ⟨rfl, (((Below.refl _ _).alloc (Nat.le_refl _) _).alloc (by simp) _)⟩
theorem p_place_rev (s : Sm.Smp) (p : Option Addr) (cap : Nat) (n : Int) (c : Nat) (w : World) (hc : w.cell? ⟨c, 0, none⟩ = some (.int .i64 n)) (n1 : -1099511627776 ≤ n) (n2 : n ≤ 1099511627776) (a1 : -1099511627776 ≤ s.start) (a2 : s.start ≤ 1099511627776) (b1 : -1099511627776 ≤ s.fin) (b2 : s.fin ≤ 1099511627776) (d1 : -1099511627776 ≤ s.sstart) (d2 : s.sstart ≤ 1099511627776) (e1 : -1099511627776 ≤ s.sfin) (e2 : s.sfin ≤ 1099511627776) :
    Calls Try.prog 57 #[SV s p cap, .func (.func 58) #[] #[.pointer (some ⟨c, 0, none⟩)]] w fun x w' => x = .returned (SV (Sm.prv s n) p cap) ∧ Below w.heap.size w w' := by
  have tt : ∀ {z : Int}, ¬ z = 0 → (z != 0) = true := fun h => by simpa using h
  have tf : ∀ {z : Int}, z = 0 → (z != 0) = false := fun h => by simp [h]
  by_cases l1 : s.loop = 0
  · by_cases l2 : s.sus = 0
    · have e : Sm.prv s n = s := by unfold Sm.prv Sm.mirS Sm.mirE; rw [if_pos l1, if_pos l1, if_pos l2, if_pos l2]
      rw [e]
      exact p_place_rev00 s p cap n c w hc n1 n2 (tf l1) (tf l2) a1 a2 b1 b2 d1 d2 e1 e2
    · have e : Sm.prv s n = { s with sus := s.sus, sstart := n - s.sfin, sfin := n - s.sstart } := by unfold Sm.prv Sm.mirS Sm.mirE; rw [if_pos l1, if_pos l1, if_neg l2, if_neg l2]
      rw [e]
      exact p_place_rev01 s p cap n c w hc n1 n2 (tf l1) (tt l2) a1 a2 b1 b2 d1 d2 e1 e2
  · by_cases l2 : s.sus = 0
    · have e : Sm.prv s n = { s with loop := s.loop, start := n - s.fin, fin := n - s.start } := by unfold Sm.prv Sm.mirS Sm.mirE; rw [if_neg l1, if_neg l1, if_pos l2, if_pos l2]
      rw [e]
      exact p_place_rev10 s p cap n c w hc n1 n2 (tt l1) (tf l2) a1 a2 b1 b2 d1 d2 e1 e2
    · have e : Sm.prv s n = { s with loop := s.loop, start := n - s.fin, fin := n - s.start, sus := s.sus, sstart := n - s.sfin, sfin := n - s.sstart } := by unfold Sm.prv Sm.mirS Sm.mirE; rw [if_neg l1, if_neg l1, if_neg l2, if_neg l2]
      rw [e]
      exact p_place_rev11 s p cap n c w hc n1 n2 (tt l1) (tt l2) a1 a2 b1 b2 d1 d2 e1 e2
end Go.Proofs.Ytmaldhjcdkidmaa

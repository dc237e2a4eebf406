/-
  Contracts of the law package's Alike of a sample and its copy, and untouched; nothing that was there is changed.
-/
import Derived.Test.YtmaldhjcdkidmaaPCopy
import Derived.Test.YtmaldhjcdkidmaaPSame
import Derived.Deep.DeepCutAuto
namespace Go.Proofs.Ytmaldhjcdkidmaa
open Go.RowKit

theorem Boxed.kin {W : World} {b : Nat} {s : Sm.Smp} {p : Option Addr} {cap : Nat} (h : Boxed W b s p cap) : (∀ u : Kin W, u.w.cell? ⟨b, 0, none⟩ = some (.string s.name)) ∧ (∀ u : Kin W, u.w.cell? ⟨b, 1, none⟩ = some (.slice p s.dat.length cap)) ∧ (∀ u : Kin W, u.w.cell? ⟨b, 2, none⟩ = some (.int .i64 s.bits)) ∧ (∀ u : Kin W, u.w.cell? ⟨b, 3, none⟩ = some (.int .i64 s.rate)) ∧ (∀ u : Kin W, u.w.cell? ⟨b, 4, none⟩ = some (.int .i64 s.vol)) ∧ (∀ u : Kin W, u.w.cell? ⟨b, 5, none⟩ = some (.int .i64 s.pan)) ∧ (∀ u : Kin W, u.w.cell? ⟨b, 6, none⟩ = some (.int .i64 s.fine)) ∧ (∀ u : Kin W, u.w.cell? ⟨b, 7, none⟩ = some (.int .i64 s.loop)) ∧ (∀ u : Kin W, u.w.cell? ⟨b, 8, none⟩ = some (.int .i64 s.start)) ∧ (∀ u : Kin W, u.w.cell? ⟨b, 9, none⟩ = some (.int .i64 s.fin)) ∧ (∀ u : Kin W, u.w.cell? ⟨b, 10, none⟩ = some (.int .i64 s.sus)) ∧ (∀ u : Kin W, u.w.cell? ⟨b, 11, none⟩ = some (.int .i64 s.sstart)) ∧ (∀ u : Kin W, u.w.cell? ⟨b, 12, none⟩ = some (.int .i64 s.sfin)) := by
  have e : ∀ (u : Kin W) j, u.w.cell? ⟨b, j, none⟩ = W.cell? ⟨b, j, none⟩ := fun u j => u.below.cell (show b < W.heap.size from cell_lt h.1)
  obtain ⟨x0, x1, x2, x3, x4, x5, x6, x7, x8, x9, x10, x11, x12⟩ := h
  exact ⟨fun u => (e u _).trans x0, fun u => (e u _).trans x1, fun u => (e u _).trans x2, fun u => (e u _).trans x3, fun u => (e u _).trans x4, fun u => (e u _).trans x5, fun u => (e u _).trans x6, fun u => (e u _).trans x7, fun u => (e u _).trans x8, fun u => (e u _).trans x9, fun u => (e u _).trans x10, fun u => (e u _).trans x11, fun u => (e u _).trans x12⟩
theorem same_v {P : Program} {f : FuncId} {args : Array Value} {w : World} {b v : Bool} (h : Calls P f args w fun x w' => x = .returned (.bool b) ∧ Below w.heap.size w w') (hv : b = v) : Calls P f args w fun x w' => x = .returned (.bool v) ∧ Below w.heap.size w w' := hv ▸ h
theorem cell_kin' {W : World} {a : Addr} {v : Value} (h : W.cell? a = some v) : ∀ u : Kin W, u.w.cell? a = some v := fun u => (u.below.cell (cell_lt h)).trans h
set_option maxHeartbeats 1600000 in
theorem l_alike (s : Sm.Smp) (p q : Option Addr) (ca cb : Nat) (w : World) (hp : DatAt w p s.dat) (hq : DatAt w q s.dat) (hl : (s.dat.length : Int) ≤ 4611686018427387904) :
    Calls Try.prog 34 #[SV s p ca, SV s q cb] w fun x w' => x = .returned (.bool true) ∧ Below w.heap.size w w' := by
  obtain ⟨W, hW⟩ : ∃ W, W = (w.alloc (.cells #[.string s.name, .slice p s.dat.length ca, .int .i64 s.bits, .int .i64 s.rate, .int .i64 s.vol, .int .i64 s.pan, .int .i64 s.fine, .int .i64 s.loop, .int .i64 s.start, .int .i64 s.fin, .int .i64 s.sus, .int .i64 s.sstart, .int .i64 s.sfin] 24)).alloc (.cells #[.string s.name, .slice q s.dat.length cb, .int .i64 s.bits, .int .i64 s.rate, .int .i64 s.vol, .int .i64 s.pan, .int .i64 s.fine, .int .i64 s.loop, .int .i64 s.start, .int .i64 s.fin, .int .i64 s.sus, .int .i64 s.sstart, .int .i64 s.sfin] 24) := ⟨_, rfl⟩
  obtain ⟨b, hbe⟩ : ∃ b, b = w.heap.size := ⟨_, rfl⟩
  have hWb : Below w.heap.size w W := by rw [hW]; exact ((Below.refl _ _).alloc (Nat.le_refl _) _).alloc (by simp) _
  have h1 : Boxed W b s p (ca) := by rw [hW, hbe]; exact (boxed_new w s p (ca) 24).below (below_box _ _) (by simp)
  have h2 : Boxed W (b + 1) s q (cb) := by
    have := boxed_new (w.alloc (.cells #[.string s.name, .slice p s.dat.length ca, .int .i64 s.bits, .int .i64 s.rate, .int .i64 s.vol, .int .i64 s.pan, .int .i64 s.fine, .int .i64 s.loop, .int .i64 s.start, .int .i64 s.fin, .int .i64 s.sus, .int .i64 s.sstart, .int .i64 s.sfin] 24)) s q (cb) 24
    rw [hW, hbe]
    simpa using this
  have HP := Lib.hid (hp.below hWb)
  have HQ := Lib.hid (hq.below hWb)
  have HS := Lib.hid (show sml s.dat s.dat = true from decide_eq_true rfl)
  have HSame := Lib.hid (fun w' hp hq => (p_same s.dat s.dat p q s.dat.length s.dat.length ca cb w' rfl rfl hl hl hp hq))
  have HWb := Lib.hid hWb
  clear hp hq hWb
  unfold SV
  go_enter Try.func34, Try.ntmps34
  go_upto_region 1 with fail
  rw [← hW, ← hbe]
  clear hW hbe
  have hg : Below W.heap.size W W := Below.refl _ _
  have H1 := Lib.hid h1
  have H2 := Lib.hid h2
  obtain ⟨g0, g1, g2, g3, g4, g5, g6, g7, g8, g9, g10, g11, g12⟩ := h1
  obtain ⟨k0, k1, k2, k3, k4, k5, k6, k7, k8, k9, k10, k11, k12⟩ := h2
  go_wp2_with (first | (go_at_call 25; ((with_reducible refine (same_v (HSame.out _ HP.out HQ.out) HS.out).mono ?_); rintro z w1 ⟨rfl, hb1⟩; obtain ⟨g0, g1, g2, g3, g4, g5, g6, g7, g8, g9, g10, g11, g12⟩ := H1.out.below hb1 (cell_lt H1.out.1); obtain ⟨k0, k1, k2, k3, k4, k5, k6, k7, k8, k9, k10, k11, k12⟩ := H2.out.below hb1 (cell_lt H2.out.1))))
  go_ret
  exact ⟨rfl, HWb.out.trans (hb1.mono HWb.out.size)⟩
set_option maxHeartbeats 1600000 in
theorem l_untouched (s : Sm.Smp) (p : Option Addr) (g cap : Nat) (w : World) (hc : Cop w g s) (hp : DatAt w p s.dat) (hl : (s.dat.length : Int) ≤ 17592186044414) :
    Calls Try.prog 21 #[SV s (some ⟨g, 0, none⟩) (s.dat.length + 1), SV s p cap] w fun x w' => x = .returned (.bool true) ∧ Below w.heap.size w w' := by
  obtain ⟨W, hW⟩ : ∃ W, W = (w.alloc (.cells #[.string s.name, .slice (some ⟨g, 0, none⟩) s.dat.length (s.dat.length + 1), .int .i64 s.bits, .int .i64 s.rate, .int .i64 s.vol, .int .i64 s.pan, .int .i64 s.fine, .int .i64 s.loop, .int .i64 s.start, .int .i64 s.fin, .int .i64 s.sus, .int .i64 s.sstart, .int .i64 s.sfin] 24)).alloc (.cells #[.string s.name, .slice p s.dat.length cap, .int .i64 s.bits, .int .i64 s.rate, .int .i64 s.vol, .int .i64 s.pan, .int .i64 s.fine, .int .i64 s.loop, .int .i64 s.start, .int .i64 s.fin, .int .i64 s.sus, .int .i64 s.sstart, .int .i64 s.sfin] 24) := ⟨_, rfl⟩
  obtain ⟨b, hbe⟩ : ∃ b, b = w.heap.size := ⟨_, rfl⟩
  have hWb : Below w.heap.size w W := by rw [hW]; exact ((Below.refl _ _).alloc (Nat.le_refl _) _).alloc (by simp) _
  have h1 : Boxed W b s (some ⟨g, 0, none⟩) ((s.dat.length + 1)) := by rw [hW, hbe]; exact (boxed_new w s (some ⟨g, 0, none⟩) ((s.dat.length + 1)) 24).below (below_box _ _) (by simp)
  have h2 : Boxed W (b + 1) s p (cap) := by
    have := boxed_new (w.alloc (.cells #[.string s.name, .slice (some ⟨g, 0, none⟩) s.dat.length (s.dat.length + 1), .int .i64 s.bits, .int .i64 s.rate, .int .i64 s.vol, .int .i64 s.pan, .int .i64 s.fine, .int .i64 s.loop, .int .i64 s.start, .int .i64 s.fin, .int .i64 s.sus, .int .i64 s.sstart, .int .i64 s.sfin] 24)) s p (cap) 24
    rw [hW, hbe]
    simpa using this
  have HC := Lib.hid (kept_cell (show Below w.heap.size w W from hWb) hc.2)
  have HP := Lib.hid (hc.1.below hWb)
  have HQ := Lib.hid (hp.below hWb)
  have HAl := Lib.hid (fun w' h1 h2 => l_alike s (some ⟨g, 0, none⟩) p (s.dat.length + 1) cap w' h1 h2 (by omega))
  have HWb := Lib.hid hWb
  clear hp hc hWb
  unfold SV at HAl
  unfold SV
  go_enter Try.func21, Try.ntmps21
  go_upto_region 1 with fail
  rw [← hW, ← hbe]
  clear hW hbe
  have hg : Below W.heap.size W W := Below.refl _ _
  have ⟨g0, g1, g2, g3, g4, g5, g6, g7, g8, g9, g10, g11, g12⟩ := h1.kin
  have ⟨k0, k1, k2, k3, k4, k5, k6, k7, k8, k9, k10, k11, k12⟩ := h2.kin
  have kc := cell_kin' HC.out
  clear h1 h2
  refine kin_region (W := W) (by kernel_rfl) (by kernel_rfl) hg ?_
  repeat (go_big_quiet_step (first | (go_at_call 34; exact kinB (HAl.out _ (HP.out.below (Kin.below _)) (HQ.out.below (Kin.below _))))))
  refine wpQuiet_nil ?_
  intro w' hw
  go_wp2
  go_ret
  exact ⟨rfl, HWb.out.trans (hw.mono HWb.out.size)⟩
end Go.Proofs.Ytmaldhjcdkidmaa

/-
  The chapter's example, run: the law package's awake returns true; nothing that was there is changed.
-/
import Derived.Test.YtmaldhjcdkidmaaPUnroll
import Derived.Test.YtmaldhjcdkidmaaPSame
import Derived.Outline
namespace Go.Proofs.Ytmaldhjcdkidmaa
open Go.RowKit

/-- The chapter's example. -/
def aw : Sm.Smp := ⟨ByteArray.empty, [1, 2, 3, 4], 16, 8363, 0, 0, 0, 2, 1, 4, 0, 0, 0⟩
theorem aw_vld : Sm.vld aw = true := by decide
theorem aw_unr : unr aw false 8 = [1, 2, 3, 4, 4, 3, 2, 2] := by decide
theorem datAt_lit (w : World) (zs : List Int) (t : TypeId) : DatAt (w.alloc (.cells (zs.map (Value.int .i64)).toArray t)) (some ⟨w.heap.size, 0, none⟩) zs := by
  refine .inr ⟨w.heap.size, 0, rfl, by simp, fun i hi => ?_⟩
  rw [Nat.zero_add]
  simp [World.cell?_alloc_new, List.getD_eq_getElem?_getD, hi]
theorem aw_boxed (w : World) : Boxed ((w.alloc (.cells #[.int .i64 1, .int .i64 2, .int .i64 3, .int .i64 4] 3)).alloc (.cells #[.string ByteArray.empty, .slice (some ⟨w.heap.size, 0, none⟩) 4 4, .int .i64 16, .int .i64 8363, .int .i64 0, .int .i64 0, .int .i64 0, .int .i64 2, .int .i64 1, .int .i64 4, .int .i64 0, .int .i64 0, .int .i64 0] 24)) (w.heap.size + 1) aw (some ⟨w.heap.size, 0, none⟩) 4 := by
  refine ⟨?_, ?_, ?_, ?_, ?_, ?_, ?_, ?_, ?_, ?_, ?_, ?_, ?_⟩ <;> (simp only [aw]; go_simp)
theorem aw_dat (w : World) : DatAt ((w.alloc (.cells #[.int .i64 1, .int .i64 2, .int .i64 3, .int .i64 4] 3)).alloc (.cells #[.string ByteArray.empty, .slice (some ⟨w.heap.size, 0, none⟩) 4 4, .int .i64 16, .int .i64 8363, .int .i64 0, .int .i64 0, .int .i64 0, .int .i64 2, .int .i64 1, .int .i64 4, .int .i64 0, .int .i64 0, .int .i64 0] 24)) (some ⟨w.heap.size, 0, none⟩) aw.dat := (datAt_lit w [1, 2, 3, 4] 3).below (below_box _ _)
theorem aw_ret {x : Ending} {w' : World} (h : RetUnr (unr aw false 8) x w') : ∃ g, x = .returned (.tuple #[.slice (some ⟨g, 0, none⟩) 8 8, .int .i64 0]) ∧ DatAt w' (some ⟨g, 0, none⟩) [1, 2, 3, 4, 4, 3, 2, 2] := by
  rw [aw_unr] at h
  exact h
theorem same_ex (g : Nat) (w1 : World) (hd : DatAt w1 (some ⟨g, 0, none⟩) [1, 2, 3, 4, 4, 3, 2, 2]) :
    Calls Try.prog 25 #[.slice (some ⟨g, 0, none⟩) 8 8, .slice (some ⟨w1.heap.size, 0, none⟩) 8 8] (w1.alloc (.cells #[.int .i64 1, .int .i64 2, .int .i64 3, .int .i64 4, .int .i64 4, .int .i64 3, .int .i64 2, .int .i64 2] 3)) fun x w' => x = .returned (.bool true) ∧ Below (w1.alloc (.cells #[.int .i64 1, .int .i64 2, .int .i64 3, .int .i64 4, .int .i64 4, .int .i64 3, .int .i64 2, .int .i64 2] 3)).heap.size (w1.alloc (.cells #[.int .i64 1, .int .i64 2, .int .i64 3, .int .i64 4, .int .i64 4, .int .i64 3, .int .i64 2, .int .i64 2] 3)) w' := by
  have := p_same [1, 2, 3, 4, 4, 3, 2, 2] [1, 2, 3, 4, 4, 3, 2, 2] (some ⟨g, 0, none⟩) (some ⟨w1.heap.size, 0, none⟩) 8 8 8 8 (w1.alloc (.cells #[.int .i64 1, .int .i64 2, .int .i64 3, .int .i64 4, .int .i64 4, .int .i64 3, .int .i64 2, .int .i64 2] 3)) rfl rfl (by omega) (by omega) (hd.below (below_box _ _)) (datAt_lit w1 [1, 2, 3, 4, 4, 3, 2, 2] 3)
  rwa [show sml [1, 2, 3, 4, 4, 3, 2, 2] [1, 2, 3, 4, 4, 3, 2, 2] = true by decide] at this
set_option maxHeartbeats 800000 in
theorem p_awake (w : World) :
    Calls Try.prog 22 #[] w fun x w' => x = .returned (.bool true) ∧ Below w.heap.size w w' := by
  have HU := Lib.hid (p_unroll aw (some ⟨w.heap.size, 0, none⟩) 4 8 false _ (by decide) (aw_dat w) aw_vld (by decide))
  have HVd := Lib.hid (fun w' hd => p_valid_v aw (some ⟨w.heap.size, 0, none⟩) 4 w' (by decide) hd aw_vld)
  unfold SV at HU HVd
  simp only [aw, List.length_cons, List.length_nil, Nat.zero_add, Nat.reduceAdd] at HU HVd
  go_enter Try.func22, Try.ntmps22
  go_wp2_with (first | (go_at_call 23; refine HU.out.mono ?_; rintro x w1 ⟨hr, hb1⟩; obtain ⟨g, rfl, hdat⟩ := aw_ret hr; have HDAT := Lib.hid hdat; have HBX := Lib.hid ((aw_boxed w).below hb1 (by simp)); clear hr hdat) | (go_at_call 25; ((with_reducible refine (same_ex g w1 HDAT.out).mono ?_); rintro x w2 ⟨rfl, hb2⟩; obtain ⟨x0, x1, x2, x3, x4, x5, x6, x7, x8, x9, x10, x11, x12⟩ := (HBX.out.below (below_box _ _) (by have := hb1.size; simp at this; omega)).below hb2 (by have := hb1.size; simp at this ⊢; omega); dsimp only [aw] at x0 x1 x2 x3 x4 x5 x6 x7 x8 x9 x10 x11 x12)) | (go_at_call 13; refine (HVd.out _ ((((aw_dat w).below hb1).below (below_box _ _)).below hb2)).mono ?_; rintro x w3 ⟨rfl, hb3⟩))
  go_ret
  exact ⟨rfl, (((Below.refl _ _).alloc (Nat.le_refl _) _).alloc (by simp) _).trans ((hb1.mono (by simp; omega)).trans (((below_box w1 _).mono (by have := hb1.size; simp at this; omega)).trans ((hb2.mono (by have := hb1.size; simp at this ⊢; omega)).trans (hb3.mono (by have := hb1.size; have := hb2.size; simp at *; omega)))))⟩
end Go.Proofs.Ytmaldhjcdkidmaa

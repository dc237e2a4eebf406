/-
  The law package's awake: the chapter's examples.
-/
import Derived.Test.YtfjfnbeegojlbaaDoorPTxt
import Derived.Test.YtfjfnbeegojlbaaDoorPPack
import Derived.Laws.BytesArg
import Derived.Laws.Strings3
namespace Go.Proofs.YtfjfnbeegojlbaaDoor
open Go.RowKit

theorem str_run {w : World} {B : Nat} {v : Value} {l : List Int} (h : Br w B v l) : (convert 46 9 v).run Tryd.prog w = .ok (.string (strOfNums l)) w := by
  rcases h.2 with ⟨rfl, h0⟩ | ⟨g, cap, cur, rfl, _⟩
  · obtain rfl : l = [] := List.eq_nil_of_length_eq_zero h0
    exact run_convert_bytes_nil w _ _ Tryd.underlying46 Tryd.underlying5 0 0 _ Tryd.underlying9
  · exact run_convert_bytes_arg w _ _ Tryd.underlying46 Tryd.underlying5 g 0 _ cap l rfl (fun i hi => by rw [Nat.zero_add]; exact (h.byte hi).1) _ Tryd.underlying9
namespace Pt
def exC : Cl := ⟨61, 1, 0, 0, 11, 15⟩
end Pt
theorem aw_v : Pt.vcl Pt.exC = true := by decide
theorem aw_p : Pt.vpat 1 [Pt.exC] 1 = true := by decide
theorem aw_t : Pt.textT Pt.exC = ⟨#[67, 45, 53, 32, 48, 49, 32, 46, 46, 46, 32, 65, 48, 70]⟩ := by kernel_rfl
theorem aw_k : Pt.packL [Pt.exC] 1 1 = [1, 11, 61, 1, 11, 15, 0] := by kernel_rfl
theorem aw_s : strOfNums [1, 11, 61, 1, 11, 15, 0] = ⟨#[1, 11, 61, 1, 11, 15, 0]⟩ := by kernel_rfl
set_option maxRecDepth 100000 in
set_option maxHeartbeats 1600000 in
theorem p_awake (w : World) : Calls Tryd.prog 10 #[] w fun x w' => x = .returned (.bool true) ∧ Below w.heap.size w w' := by
  obtain ⟨W, hW⟩ : ∃ W, W = w.alloc (.cells (CL Pt.exC).toArray 23) := ⟨_, rfl⟩
  have HB := Lib.hid (show Below w.heap.size w W by rw [hW]; exact below_box _ _)
  obtain ⟨b, hb⟩ : ∃ b, b = w.heap.size := ⟨_, rfl⟩
  have HC := Lib.hid (show W.rangeAt b 0 (CL Pt.exC) ∧ b < W.heap.size from ⟨by rw [hW, hb]; exact range_box _ _ _, by rw [hW, hb]; simp⟩)
  have C1 := Lib.hid (p_Text_ok Pt.exC W aw_v)
  rw [aw_t] at C1
  have HP := Lib.hid (fun (u : World) => (p_Pack_ok 1 1 [Pt.exC] u.heap.size 0 1 (u.alloc (.cells (CL Pt.exC).toArray 23)) (by simp) (by have := range_box u (cc [Pt.exC]) 23; exact this) (by decide) aw_p (by decide) (by decide) (by decide) (by decide) (by decide)))
  rw [aw_k] at HP
  unfold PV at HP
  simp only [List.length_cons, List.length_nil, Nat.zero_add] at HP
  have e0 : (CL Pt.exC).toArray = #[.int .i64 61, .int .i64 1, .int .i64 0, .int .i64 0, .int .i64 11, .int .i64 15] := rfl
  rw [e0] at hW C1 HP
  go_enter Tryd.func10, Tryd.ntmps10
  go_upto_region 2 with fail
  rw [← hW, ← hb]
  clear hW hb
  go_wp2_with (first | (refine ld_cell (by rfl) _ rfl rfl HC.out.1 ?_) | (go_at_call 4; ((with_reducible refine (C1.out).mono ?_); rintro x' w1 ⟨rfl, hb1⟩; have HB1 := Lib.hid hb1; have HC1 := Lib.hid (range_below HC.out.1 hb1 HC.out.2); clear hb1)) | (refine ld_cell (by rfl) _ rfl rfl HC1.out ?_) | (go_at_call 23; refine (HP.out _).mono ?_; rintro x' w2 ⟨⟨v, rfl, hbr⟩, hb2⟩; have HB2 := Lib.hid hb2; have HS := str_run hbr; (rw [aw_s] at HS); clear hbr hb2))
  go_ret
  exact ⟨rfl, stepB HB.out (stepB HB1.out (stepB (below_box _ _) HB2.out))⟩
end Go.Proofs.YtfjfnbeegojlbaaDoor

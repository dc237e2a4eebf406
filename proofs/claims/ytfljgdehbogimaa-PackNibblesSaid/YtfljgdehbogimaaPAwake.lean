/-
  The chapter's example, run: the law package's awake returns true; nothing that was there is changed.
-/
import Derived.Test.YtfljgdehbogimaaPBlocksW
import Derived.Laws.BytesArg
namespace Go.Proofs.Ytfljgdehbogimaa
open Go.RowKit

theorem aw_enc : enc 8 2 [1, 2, 3] = [1, 0, 0] := by decide
theorem aw_blk : blks (enc 8 2 [1, 2, 3]) = [2, 1] := by decide
theorem aw_err : blkE [1, 2, 3] 8 2 = 0 := by decide
theorem datAt_lit (w : World) (zs : List Int) (t : TypeId) : DatAt (w.alloc (.cells (zs.map (Value.int .i64)).toArray t)) (some ⟨w.heap.size, 0, none⟩) zs := by
  refine .inr ⟨w.heap.size, 0, rfl, by simp, fun i hi => ?_⟩
  rw [Nat.zero_add]
  simp [World.cell?_alloc_new, List.getD_eq_getElem?_getD, hi]
/-- The string of bytes that lie in a row of one's own. -/
theorem str_run {w : World} {B : Nat} {v : Value} {l : List Int} (h : w.ownsRow B 5 1 v l.length (l.map (Value.int .u8))) : (convert 24 9 v).run Try.prog w = .ok (.string (strOfNums l)) w := by
  obtain ⟨p, cap, rfl, hd⟩ := own_dat h rfl
  rcases hd with rfl | ⟨b, off, rfl, _, hc⟩
  · rcases h.2 with ⟨e, _⟩ | ⟨g, cap', cur, e, _⟩
    · rw [e]
      exact run_convert_bytes_nil w _ _ Try.underlying24 Try.underlying5 0 0 _ Try.underlying9
    · rw [e]
      exact run_convert_bytes_arg w _ _ Try.underlying24 Try.underlying5 g 0 0 cap' [] rfl (fun i hi => absurd hi (by simp)) _ Try.underlying9
  · exact run_convert_bytes_arg w _ _ Try.underlying24 Try.underlying5 b off _ cap l rfl hc _ Try.underlying9
theorem aw_str : strOfNums [2, 1] = ⟨#[2, 1]⟩ := rfl
set_option maxHeartbeats 800000 in
theorem p_awake (w : World) :
    Calls Try.prog 8 #[] w fun x w' => x = .returned (.bool true) ∧ Below w.heap.size w w' := by
  have HU := Lib.hid (p_Blocks [1, 2, 3] (some ⟨w.heap.size, 0, none⟩) 3 8 2 (w.alloc (.cells #[.int .i64 1, .int .i64 2, .int .i64 3] 3)) (datAt_lit w [1, 2, 3] 3) (by decide))
  rw [aw_err, aw_blk] at HU
  simp only [List.length_cons, List.length_nil, Nat.zero_add, Nat.reduceAdd] at HU
  go_enter Try.func8, Try.ntmps8
  go_wp2_with (first | (go_at_call 11; refine HU.out.mono ?_; rintro x w1 ⟨⟨u, rfl, _, hown⟩, hb1⟩; have hst := str_run (l := [2, 1]) (hown trivial); (rw [aw_str] at hst); have HB1 := Lib.hid hb1; clear hown hb1))
  go_ret
  exact ⟨rfl, (below_box w _).trans (HB1.out.mono (by simp))⟩
end Go.Proofs.Ytfljgdehbogimaa

/-
  The library's SplitN at a blank and four pieces: of a text of any size.
-/
import Derived.Test.YtfjfnbeegojlbaaDoorCRn
import Derived.Test.YtfjfnbeegojlbaaDoorPTxt
import Derived.Deep.OwnRows
import Derived.Lib.Split
namespace Go.Proofs.YtfjfnbeegojlbaaDoor
open Go.RowKit

theorem l_Index_one (x : ByteArray) (w : World) :
    Calls Tryd.prog 50 #[.string x, .string ⟨#[32]⟩] w fun e w' => e = .returned (.int .i64 (Lib.indexB x ⟨#[32]⟩)) ∧ w = w' :=
  (Tryd.strings_Index_one x 32 w).mono fun e w' ⟨h1, h2⟩ => ⟨by rw [h1, ← Lib.index_one], h2.symm⟩
/-- The pieces as they lie while they are cut: so many are there. -/
structure Cut (w : World) (g N : Nat) (ps l : List ByteArray) (u : World) : Prop where
  len : l.length = N
  take : l.take ps.length = ps
  lay : Fl u g l
  lt : g < u.heap.size
  own : g = w.heap.size
  bel : Below w.heap.size w u
theorem made_empty (N : Nat) : madeCells #[.string ByteArray.empty] N = (strs (List.replicate N ByteArray.empty)).toArray := by
  rw [← Lib.cellsOf_nil]
  simp [Lib.cellsOf, strs]
theorem Cut.start (w : World) (N : Nat) : Cut w w.heap.size N [] (List.replicate N ByteArray.empty) (w.alloc (.cells (madeCells #[.string ByteArray.empty] N) 9)) := by
  rw [made_empty]
  refine ⟨by simp, rfl, ⟨range_box w _ _, ?_⟩, by simp, rfl, below_box _ _⟩
  have := there_box w (strs (List.replicate N ByteArray.empty)) 9
  simpa [strs] using this
theorem take_set {l : List ByteArray} {ps : List ByteArray} (h : l.take ps.length = ps) (hl : ps.length < l.length) (x : ByteArray) : (l.set ps.length x).take (ps ++ [x]).length = ps ++ [x] := by
  rw [List.length_append, List.length_singleton, List.take_succ_eq_append_getElem (by rw [List.length_set]; exact hl), List.getElem_set_self, List.take_set_of_le (Nat.le_refl _), h]
theorem Cut.more {w u : World} {g N : Nat} {ps l : List ByteArray} (h : Cut w g N ps l u) (hl : ps.length < N) (x : ByteArray) : Cut w g N (ps ++ [x]) (l.set ps.length x) (u.setCell ⟨g, ps.length, none⟩ (.string x)) := by
  have hln := h.len
  have hs := h.own
  exact ⟨by rw [List.length_set]; exact h.len, take_set h.take (by omega) x, h.lay.set (by omega) x, by have := h.lt; simp [World.setCell]; exact this, h.own, h.bel.setCell (by simp; omega) _⟩
theorem Cut.cell {w u : World} {g N : Nat} {ps l : List ByteArray} (h : Cut w g N ps l u) {j : Nat} {x : ByteArray} (hx : ps[j]? = some x) : u.cell? ⟨g, j, none⟩ = some (.string x) := by
  have hj : j < ps.length := (List.getElem?_eq_some_iff.1 hx).1
  have e : l[j]? = some x := by
    have := h.take
    rw [← this, List.getElem?_take_of_lt hj] at hx
    exact hx
  have := h.lay.1 j (.string x) (by simp [strs, e])
  rwa [Nat.zero_add] at this
/-- What the library's cutting returns. -/
def RetS (w : World) (g : Nat) (pcs : List ByteArray) (e : Ending) (w' : World) : Prop :=
  ∃ cap, pcs.length ≤ cap ∧ e = .returned (.slice (some ⟨g, 0, none⟩) pcs.length cap) ∧ Below w.heap.size w w' ∧ g < w'.heap.size ∧ ∀ j x, pcs[j]? = some x → w'.cell? ⟨g, j, none⟩ = some (.string x)
set_option maxHeartbeats 1600000 in
set_option maxRecDepth 100000 in
theorem l_genSplit (s : ByteArray) (w : World) (hs : s.size ≤ 140737488355328) {N : Nat} (hN : min 4 (s.size + 1) = N) :
    Calls Tryd.prog 58 #[.string s, .string ⟨#[32]⟩, .int .i64 0, .int .i64 4] w fun e w' => RetS w w.heap.size (Lib.splitB ⟨#[32]⟩ 0 (N - 1) s) e w' := by
  have eN : min (4 : Int) ((s.size : Int) + 1) = (N : Int) := by omega
  have hN1 : (1 : Int) ≤ (N : Int) := by omega
  have hN4 : (N : Int) ≤ 4 := by omega
  have hz1 : (s.size : Int) ≤ 140737488355328 := by omega
  have hmk := run_make_row' (P := Tryd.prog) 44 9 (.string ByteArray.empty) 16 Tryd.underlying44 (by kernel_rfl) rfl .i64 .i64 N (by omega) (by omega)
  have CI := Lib.hid (fun x u => l_Index_one x u)
  obtain ⟨T, hT⟩ : ∃ T, Lib.splitB ⟨#[32]⟩ 0 (N - 1) s = T := ⟨_, rfl⟩
  have HT := Lib.hid hT
  have HZ := Lib.hid hs
  have HN := Lib.hid (show 1 ≤ N ∧ N ≤ 4 by omega)
  rw [hT]
  clear hN hs hT
  obtain ⟨g, hg⟩ : ∃ g, g = w.heap.size := ⟨_, rfl⟩
  rw [← hg]
  go_enter Tryd.func58, Tryd.ntmps58
  go_wp2_with (fail)
  have HC := Lib.hid (Cut.start w N)
  rw [← hg] at HC ⊢
  clear hmk eN hg
  obtain ⟨W, hW⟩ : ∃ W, W = w.alloc (.cells (madeCells #[.string ByteArray.empty] N) 9) := ⟨_, rfl⟩
  rw [← hW] at HC ⊢
  clear hW
  go_loopw [0, 10] (fun a b u => ∃ (ps l : List ByteArray) (r : ByteArray), a = .string r ∧ b = .int .i64 (ps.length : Nat) ∧ ps.length ≤ N - 1 ∧ r.size ≤ 140737488355328 ∧ Hid (Cut w g N ps l u) ∧ Hid (ps ++ Lib.splitB ⟨#[32]⟩ 0 (N - 1 - ps.length) r = T)) (fun _ b _ => N - 1 - (intOf b).toNat)
  case atStart => exact ⟨[], _, s, rfl, rfl, Nat.zero_le _, HZ.out, HC.out, HT.out⟩
  case round =>
    obtain ⟨ps, l, r, rfl, rfl, hp, hr, HX, HS⟩ := hrel
    obtain ⟨n, hn⟩ : ∃ n, ps.length = n := ⟨_, rfl⟩
    have HNN := Lib.hid hn
    rw [hn] at hp HS ⊢
    obtain ⟨v0, z0, z1⟩ := HX.out.lay.cell (k := n) (by rw [HX.out.len]; have := HN.out; omega)
    have hrz : (r.size : Int) ≤ 140737488355328 := by omega
    have hnN : (n : Int) < (N : Int) := by have := HN.out; omega
    have HFIN := Lib.hid (show Lib.splitB ⟨#[32]⟩ 0 (N - 1 - n) r = [r] → RetS w g T (.returned (.slice (some ⟨g, 0, none⟩) (n + 1) N)) (wr.setCell ⟨g, n, none⟩ (.string r)) from fun h => by
      have hm := HX.out.more (by rw [HNN.out]; have := HN.out; omega) r
      rw [HNN.out] at hm
      have e := HS.out
      rw [h] at e
      have el : T.length = n + 1 := by rw [← e, List.length_append, HNN.out]; rfl
      refine ⟨N, by have := HN.out; omega, by rw [el], hm.bel, hm.lt, fun j x hx => ?_⟩
      rw [← e] at hx
      exact hm.cell hx)
    clear hn
    by_cases hlt : n < N - 1
    · have HLT := Lib.hid hlt
      have hlt' : (n : Int) < (N : Int) - 1 := by omega
      clear hlt
      rcases Lib.indexB_cases r ⟨#[32]⟩ with hix | ⟨i, hix, hroom⟩
      · have HIX := Lib.hid hix
        clear hix
        have C := Lib.hid (fun u => CI.out r u)
        rw [HIX.out] at C
        go_wp2_with (first | (go_at_call 50; ((with_reducible refine (C.out _).mono ?_); rintro x' w1 ⟨rfl, rfl⟩)))
        go_ret
        exact HFIN.out (Lib.splitB_miss _ _ _ _ HIX.out)
      · have HIX := Lib.hid hix
        have HRM := Lib.hid (show i + 1 ≤ r.size from hroom)
        clear hix hroom
        have C := Lib.hid (fun u => CI.out r u)
        rw [HIX.out] at C
        have c0 : (i : Int) + 1 ≤ (r.size : Int) := by have := HRM.out; omega
        go_wp2_with (first | (go_at_call 50; ((with_reducible refine (C.out _).mono ?_); rintro x' w1 ⟨rfl, rfl⟩)))
        go_roundw
        case rel =>
          refine ⟨ps ++ [r.extract 0 i], l.set n (.extract r 0 i), r.extract (i + 1) r.size, rfl, by rw [List.length_append, HNN.out]; go_num, by rw [List.length_append, HNN.out]; have := HLT.out; show n + 1 ≤ _; omega, by rw [ByteArray.size_extract]; omega, ?_, ?_⟩
          · have hm := HX.out.more (by rw [HNN.out]; have := HN.out; omega) (r.extract 0 i)
            rw [HNN.out] at hm
            exact hm
          · have e := HS.out
            rw [show N - 1 - n = (N - 1 - (n + 1)) + 1 by have := HLT.out; omega, Lib.splitB_hit _ _ _ _ i HIX.out] at e
            rw [List.length_append, HNN.out, List.append_assoc]
            exact e
        case measure => simp [intOf]; have := HLT.out; omega
    · have hlt' : ¬ (n : Int) < (N : Int) - 1 := by omega
      have hz : N - 1 - n = 0 := by omega
      have HZ2 := Lib.hid hz
      clear hlt hz
      go_wp2_with (fail)
      go_ret
      exact HFIN.out (by rw [HZ2.out]; rfl)
/-- strings.SplitN(s, " ", 4). -/
theorem l_SplitN (s : ByteArray) (w : World) (hs : s.size ≤ 140737488355328) {pcs : List ByteArray} (hp : Lib.splitB ⟨#[32]⟩ 0 (min 4 (s.size + 1) - 1) s = pcs) :
    Calls Tryd.prog 46 #[.string s, .string ⟨#[32]⟩, .int .i64 4] w fun e w' => RetS w w.heap.size pcs e w' := by
  have C := Lib.hid (l_genSplit s w hs rfl)
  rw [hp] at C
  clear hp hs
  obtain ⟨g, hg⟩ : ∃ g, g = w.heap.size := ⟨_, rfl⟩
  rw [← hg] at C ⊢
  clear hg
  go_enter Tryd.func46, Tryd.ntmps46
  go_wp2_with (first | (go_at_call 58; ((with_reducible refine (C.out).mono ?_); rintro x' w1 ⟨cap, h1, rfl, h2⟩; have H2 := Lib.hid h2; clear h2)))
  go_ret
  exact ⟨cap, h1, rfl, H2.out⟩
end Go.Proofs.YtfjfnbeegojlbaaDoor

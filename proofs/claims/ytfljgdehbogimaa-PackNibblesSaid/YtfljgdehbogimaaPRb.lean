/-
  The contract of package pack's readBlock.
-/
import Derived.Test.YtfljgdehbogimaaPRead
namespace Go.Proofs.Ytfljgdehbogimaa
open Go.RowKit

theorem rb_none (pb : Option Addr) (c : Nat) (u : Value) (bits : Int) (fv : Value) (w : World) :
    Calls Try.prog 40 #[.slice pb 0 c, u, .int .i64 bits, fv] w fun e w' => e = .returned (.tuple #[.int .i64 0, .int .i64 0, .int .i64 0]) ∧ w = w' := by
  go_enter Try.func40, Try.ntmps40
  go_wp2
  go_ret3
  exact ⟨rfl, rfl⟩
theorem rb_bad (bd od lb c : Nat) (u : Value) (bits : Int) (fv : Value) (y : Int) (w : World) (hc : w.cell? ⟨bd, od, none⟩ = some (.int .u8 y)) (y0 : 0 ≤ y) (y1 : y < 256) (hlb : 1 ≤ lb) (_hlc : lb ≤ c) (hl : (lb : Int) ≤ 400000) (h : ¬ (1 ≤ y ∧ y ≤ bits)) :
    Calls Try.prog 40 #[.slice (some ⟨bd, od, none⟩) lb c, u, .int .i64 bits, fv] w fun e w' => e = .returned (.tuple #[.int .i64 0, .int .i64 0, .int .i64 9]) ∧ Below w.heap.size w w' := by
  have C := Lib.hid (fun w1 => show Calls Try.prog 60 #[.int .i64 y, .int .i64 1, .int .i64 bits] w1 fun e w' => e = .returned (.bool false) ∧ w1 = w' from decide_eq_false h ▸ p_within y 1 bits w1)
  clear h
  have hl0 : ((lb : Int) == 0) = false := by simp; omega
  by_cases hc1 : c = 1
  · go_enter Try.func40, Try.ntmps40
    go_wp2
    go_region
    go_wp2_with (first | (go_at_call 60; ((with_reducible refine (C.out _).mono ?_); rintro x' w' ⟨rfl, rfl⟩)))
    go_ret3
    exact ⟨rfl, (Below.refl _ _).drew⟩
  · go_enter Try.func40, Try.ntmps40
    go_wp2
    go_region
    go_wp2_with (first | (go_at_call 60; ((with_reducible refine (C.out _).mono ?_); rintro x' w' ⟨rfl, rfl⟩)))
    go_ret3
    exact ⟨rfl, (Below.refl _ _).drew⟩
/-- The value that stands at j in a block of width wd. -/
def rbV (rest : List Int) (wd j : Nat) : Int := Pk.wrp (hlf wd) (Pk.rdv rest (j * wd) wd)
def rbL (rest : List Int) (wd n : Nat) : List Int := (List.range n).map (rbV rest wd)
theorem rbL_succ (rest : List Int) (wd n : Nat) : rbL rest wd (n + 1) = rbL rest wd n ++ [rbV rest wd n] := by simp [rbL, List.range_succ]
theorem rbL_length (rest : List Int) (wd n : Nat) : (rbL rest wd n).length = n := by simp [rbL]
/-- Frames read so far, in a row of N, with the function value that makes them. -/
structure Rb (B g N : Nat) (T : List Int → List Int) (S : List Int → World → Prop) (a : List Int) (w : World) : Prop where
  st : S a w
  row : w.ownsRow B 3 1 (.slice (some ⟨g, 0, none⟩) N N) N (frow (fun i => (T a).getD i 0) N a.length)
theorem frow_T {F : Nat} {cb : Array Value} {lo hi N : Nat} {T : List Int → List Int} {S : List Int → World → Prop} (H : Trans F cb lo hi T S) (a : List Int) (x : Int) (hN : a.length < N) :
    frow (fun i => (T (a ++ [x])).getD i 0) N (a.length + 1) = (frow (fun i => (T a).getD i 0) N a.length).set a.length (.int .i64 ((T (a ++ [x])).getD a.length 0)) := by
  have e : frow (fun i => (T a).getD i 0) N a.length = frow (fun i => (T (a ++ [x])).getD i 0) N a.length := by
    unfold frow
    apply List.map_congr_left
    intro j _
    by_cases hj : j < a.length
    · rw [if_pos hj, if_pos hj, H.snoc a x]
      show Value.int .i64 ((T a).getD j 0) = Value.int .i64 ((T a ++ [_]).getD j 0)
      rw [List.getD_eq_getElem?_getD, List.getD_eq_getElem?_getD, List.getElem?_append_left (by rw [H.len]; exact hj)]
    · rw [if_neg hj, if_neg hj]
  rw [e, frow_set (fun i => (T (a ++ [x])).getD i 0) hN rfl]
theorem Rb.far {B g N F lo hi l2 h2 : Nat} {cb : Array Value} {T : List Int → List Int} {S : List Int → World → Prop} {a : List Int} {w w' : World} (h : Rb B g N T S a w) (H : Trans F cb lo hi T S) (hm : Mid l2 h2 w w') (h1 : hi ≤ l2) (h3 : g < l2) (h4 : hi ≤ w.heap.size) : Rb B g N T S a w' :=
  ⟨H.stays _ _ _ h.st (hm.out h4 (.inl h1)), row_of h.row (hm.block g (World.ownsRow.lt h.row g rfl).2 (.inl h3))⟩
theorem Rb.kept {B g N F lo hi : Nat} {cb : Array Value} {T : List Int → List Int} {S : List Int → World → Prop} {a : List Int} {w w' : World} (h : Rb B g N T S a w) (H : Trans F cb lo hi T S) (hb : Below w.heap.size w w') (h4 : hi ≤ w.heap.size) : Rb B g N T S a w' :=
  ⟨H.stays _ _ _ h.st (Out.of hb h4), row_stays h.row hb⟩
theorem Rb.step {B g N F lo hi : Nat} {cb : Array Value} {T : List Int → List Int} {S : List Int → World → Prop} {a : List Int} {x : Int} {w w' : World} (h : Rb B g N T S a w) (H : Trans F cb lo hi T S) (hs : S (a ++ [x]) w') (hm : Mid lo hi w w') (hg : g < lo) (hN : a.length < N) :
    Rb B g N T S (a ++ [x]) (w'.setCell ⟨g, a.length, none⟩ (.int .i64 ((T (a ++ [x])).getD a.length 0))) := by
  refine ⟨H.stays _ _ _ hs (out_set w' _ (.inl hg)), ?_⟩
  have h1 := row_of h.row (hm.block g (World.ownsRow.lt h.row g rfl).2 (.inl hg))
  rw [List.length_append, List.length_singleton, frow_T H a x hN]
  exact (h1.stored a.length _).1
end Go.Proofs.Ytfljgdehbogimaa

/-
  What a reading of the laws' arguments gives: envelopes and what is asked of them, as values with their points in memory.
-/
import Derived.Test.YtcchfahdgmcpbaaPAsk
import Derived.ProofKit
import Derived.WideKeyArgs
import Derived.Deep.SlicePairs
namespace Go.Proofs.Ytcchfahdgmcpbaa
open Go.ChangeShapes Go.WideShapes Go.ChangeAt Go.RowKit

theorem cells_point : Try.prog.cellsOf 37 = 2 := by kernel_rfl
theorem cells_env : Try.prog.cellsOf 24 = 8 := by kernel_rfl
theorem cells_asked : Try.prog.cellsOf 26 = 15 := by kernel_rfl
theorem cells_int : Try.prog.cellsOf 3 = 1 := by kernel_rfl
theorem cells_points : Try.prog.cellsOf 22 = 1 := by kernel_rfl
theorem cells_bool : Try.prog.cellsOf 4 = 1 := by kernel_rfl
theorem list8 {α : Type} : ∀ {l : List α}, l.length = 8 → ∃ c0 c1 c2 c3 c4 c5 c6 c7, l = [c0, c1, c2, c3, c4, c5, c6, c7]
  | [c0, c1, c2, c3, c4, c5, c6, c7], _ => ⟨c0, c1, c2, c3, c4, c5, c6, c7, rfl⟩
theorem list15 {α : Type} : ∀ {l : List α}, l.length = 15 → ∃ c0 c1 c2 c3 c4 c5 c6 c7 c8 c9 c10 c11 c12 c13 c14, l = [c0, c1, c2, c3, c4, c5, c6, c7, c8, c9, c10, c11, c12, c13, c14]
  | [c0, c1, c2, c3, c4, c5, c6, c7, c8, c9, c10, c11, c12, c13, c14], _ => ⟨c0, c1, c2, c3, c4, c5, c6, c7, c8, c9, c10, c11, c12, c13, c14, rfl⟩

/-- A number held by a value. -/
def numOf : Value → Int
  | .int _ z => z
  | _ => 0
/-- Pairs of numbers, as they are read off. -/
def pairsOf (V0 V1 : Nat → Value) (n : Nat) : List (Int × Int) := (List.range n).map fun i => (numOf (V0 i), numOf (V1 i))
theorem pairsOf_length (V0 V1 : Nat → Value) (n : Nat) : (pairsOf V0 V1 n).length = n := by simp [pairsOf]
theorem pairsOf_tk (V0 V1 : Nat → Value) {n i : Nat} (h : i < n) : In.tk (pairsOf V0 V1 n) i = numOf (V0 i) := by simp [In.tk, pairsOf, List.getD_eq_getElem?_getD, h]
theorem pairsOf_vl (V0 V1 : Nat → Value) {n i : Nat} (h : i < n) : In.vl (pairsOf V0 V1 n) i = numOf (V1 i) := by simp [In.vl, pairsOf, List.getD_eq_getElem?_getD, h]

section
variable {H : Type} {enc : TypeId × Value → H} {W : World} {fuel : Nat}
theorem open_points {c : Value} {y : DataW H × List MemPlace} (h : DataW.trod enc Try.prog W 0 (fun _ => true) true fuel 22 [c] = some y) :
    ∃ (ps : List (Int × Int)) (p : Option Addr) (cap : Nat), c = .slice p ps.length cap ∧ PtsAt W p ps ∧ ps.length ≤ cap ∧ cap ≤ maxLen := by
  rcases Go.Deep.open_slice_pairs Try.underlying22 Try.underlying37 cells_point rfl rfl cells_int cells_int h with ⟨hc, _⟩ | ⟨a, len, cap, m, n, V0, V1, D0, D1, P0, P1, hc, _, hl, hm, hmm, _, hcell⟩
  · exact ⟨[], none, 0, by simpa using hc, .inl rfl, Nat.le_refl _, Nat.zero_le _⟩
  · simp only [if_true] at hmm
    subst hmm
    refine ⟨pairsOf V0 V1 len, some a, m, ?_, ?_, ?_, hm⟩
    · rw [pairsOf_length]
      simpa using hc
    · by_cases h0 : len = 0
      · left; rw [h0]; rfl
      · right
        obtain ⟨b, off, spot⟩ := a
        have hspot : spot = none := by
          have := World.cell?_spot (hcell 0 (by omega)).1
          simpa [Addr.add] using this
        subst hspot
        have ad : ∀ k, Addr.add ⟨b, off, none⟩ k = ⟨b, off + k, none⟩ := by
          intro k
          unfold Addr.add
          by_cases h : k = 0 <;> simp [h]
        refine ⟨b, off, rfl, ?_, fun i hi => ?_⟩
        · have := cell_lt (hcell 0 (by omega)).1
          rw [ad] at this
          exact this
        · rw [pairsOf_length] at hi
          obtain ⟨g0, g1, g2, g3⟩ := hcell i (by omega)
          rw [ad] at g0 g1
          obtain ⟨z0, q0, _, _⟩ := DataW.trod_int Try.underlying3 g2
          obtain ⟨z1, q1, _, _⟩ := DataW.trod_int Try.underlying3 g3
          have q0' : V0 i = .int .i64 z0 := by simpa using q0
          have q1' : V1 i = .int .i64 z1 := by simpa using q1
          rw [pairsOf_tk V0 V1 hi, pairsOf_vl V0 V1 hi, g0, Nat.add_assoc, g1, q0', q1']
          exact ⟨rfl, rfl⟩
    · rw [pairsOf_length]
      exact hl
theorem open_env {cs : List Value} {y : DataW H × List MemPlace} (h : DataW.trod enc Try.prog W 0 (fun _ => true) true fuel 24 cs = some y) :
    ∃ (e : In.Env) (p : Option Addr) (cap : Nat), cs = [.bool e.on, .slice p e.pts.length cap, .bool e.sus, .int .i64 e.ss, .int .i64 e.se, .bool e.lp, .int .i64 e.ls, .int .i64 e.le] ∧ PtsAt W p e.pts ∧ e.pts.length ≤ cap ∧ cap ≤ maxLen := by
  obtain ⟨xs, n, _, _, hcl, hxl, hat⟩ := DataW.trod_struct Try.underlying24 h
  rw [cells_env] at hcl
  obtain ⟨c0, c1, c2, c3, c4, c5, c6, c7, rfl⟩ := list8 hcl
  obtain ⟨e0, e1, e2, e3, e4, e5, e6, e7, rfl⟩ := list8 (show xs.length = 8 from hxl)
  have h0 : DataW.trod enc Try.prog W 0 (fun _ => true) true n 4 ((([c0, c1, c2, c3, c4, c5, c6, c7] : List Value).drop 0).take (Try.prog.cellsOf 4)) = some e0 := hat 0 _ rfl
  rw [cells_bool] at h0
  have h1 : DataW.trod enc Try.prog W 0 (fun _ => true) true n 22 ((([c0, c1, c2, c3, c4, c5, c6, c7] : List Value).drop 1).take (Try.prog.cellsOf 22)) = some e1 := hat 1 _ rfl
  rw [cells_points] at h1
  have h2 : DataW.trod enc Try.prog W 0 (fun _ => true) true n 4 ((([c0, c1, c2, c3, c4, c5, c6, c7] : List Value).drop 2).take (Try.prog.cellsOf 4)) = some e2 := hat 2 _ rfl
  rw [cells_bool] at h2
  have h3 : DataW.trod enc Try.prog W 0 (fun _ => true) true n 3 ((([c0, c1, c2, c3, c4, c5, c6, c7] : List Value).drop 3).take (Try.prog.cellsOf 3)) = some e3 := hat 3 _ rfl
  rw [cells_int] at h3
  have h4 : DataW.trod enc Try.prog W 0 (fun _ => true) true n 3 ((([c0, c1, c2, c3, c4, c5, c6, c7] : List Value).drop 4).take (Try.prog.cellsOf 3)) = some e4 := hat 4 _ rfl
  rw [cells_int] at h4
  have h5 : DataW.trod enc Try.prog W 0 (fun _ => true) true n 4 ((([c0, c1, c2, c3, c4, c5, c6, c7] : List Value).drop 5).take (Try.prog.cellsOf 4)) = some e5 := hat 5 _ rfl
  rw [cells_bool] at h5
  have h6 : DataW.trod enc Try.prog W 0 (fun _ => true) true n 3 ((([c0, c1, c2, c3, c4, c5, c6, c7] : List Value).drop 6).take (Try.prog.cellsOf 3)) = some e6 := hat 6 _ rfl
  rw [cells_int] at h6
  have h7 : DataW.trod enc Try.prog W 0 (fun _ => true) true n 3 ((([c0, c1, c2, c3, c4, c5, c6, c7] : List Value).drop 7).take (Try.prog.cellsOf 3)) = some e7 := hat 7 _ rfl
  rw [cells_int] at h7
  obtain ⟨pts, p, cap, q1, hd, hc, hm⟩ := open_points h1
  obtain ⟨z0, q0, _⟩ := DataW.trod_bool Try.underlying4 h0
  have q0' : c0 = .bool z0 := by simpa using q0
  obtain ⟨z2, q2, _⟩ := DataW.trod_bool Try.underlying4 h2
  have q2' : c2 = .bool z2 := by simpa using q2
  obtain ⟨z3, q3, _, _⟩ := DataW.trod_int Try.underlying3 h3
  have q3' : c3 = .int .i64 z3 := by simpa using q3
  obtain ⟨z4, q4, _, _⟩ := DataW.trod_int Try.underlying3 h4
  have q4' : c4 = .int .i64 z4 := by simpa using q4
  obtain ⟨z5, q5, _⟩ := DataW.trod_bool Try.underlying4 h5
  have q5' : c5 = .bool z5 := by simpa using q5
  obtain ⟨z6, q6, _, _⟩ := DataW.trod_int Try.underlying3 h6
  have q6' : c6 = .int .i64 z6 := by simpa using q6
  obtain ⟨z7, q7, _, _⟩ := DataW.trod_int Try.underlying3 h7
  have q7' : c7 = .int .i64 z7 := by simpa using q7
  refine ⟨⟨z0, pts, z2, z3, z4, z5, z6, z7⟩, p, cap, ?_, hd, hc, hm⟩
  rw [q0', q1, q2', q3', q4', q5', q6', q7']
theorem open_asked {v : Value} {d : DataW H} {ps : List MemPlace} (hv : Value.okWide Try.prog W .any 0 26 v) (h : DataW.Trod enc Try.prog W 0 (fun _ => true) true 26 v d ps) :
    ∃ (x : In.Ask) (p : Option Addr) (cap : Nat), v = AV x p cap ∧ PtsAt W p x.e.pts ∧ x.e.pts.length ≤ cap ∧ cap ≤ maxLen := by
  obtain ⟨a, rfl, hsz⟩ := okWide_struct Try.underlying26 hv
  rw [cells_asked] at hsz
  obtain ⟨fuel, hf⟩ := h
  obtain ⟨xs, n, _, _, hcl, hxl, hat⟩ := DataW.trod_struct Try.underlying26 hf
  obtain ⟨l⟩ := a
  obtain ⟨c0, c1, c2, c3, c4, c5, c6, c7, c8, c9, c10, c11, c12, c13, c14, rfl⟩ := list15 (show l.length = 15 from hsz)
  obtain ⟨e0, e1, e2, e3, e4, e5, e6, e7, rfl⟩ := list8 (show xs.length = 8 from hxl)
  have h0 : DataW.trod enc Try.prog W 0 (fun _ => true) true n 24 ((([c0, c1, c2, c3, c4, c5, c6, c7, c8, c9, c10, c11, c12, c13, c14] : List Value).drop 0).take (Try.prog.cellsOf 24)) = some e0 := hat 0 _ rfl
  rw [cells_env] at h0
  have h1 : DataW.trod enc Try.prog W 0 (fun _ => true) true n 3 ((([c0, c1, c2, c3, c4, c5, c6, c7, c8, c9, c10, c11, c12, c13, c14] : List Value).drop 8).take (Try.prog.cellsOf 3)) = some e1 := hat 1 _ rfl
  rw [cells_int] at h1
  have h2 : DataW.trod enc Try.prog W 0 (fun _ => true) true n 3 ((([c0, c1, c2, c3, c4, c5, c6, c7, c8, c9, c10, c11, c12, c13, c14] : List Value).drop 9).take (Try.prog.cellsOf 3)) = some e2 := hat 2 _ rfl
  rw [cells_int] at h2
  have h3 : DataW.trod enc Try.prog W 0 (fun _ => true) true n 3 ((([c0, c1, c2, c3, c4, c5, c6, c7, c8, c9, c10, c11, c12, c13, c14] : List Value).drop 10).take (Try.prog.cellsOf 3)) = some e3 := hat 3 _ rfl
  rw [cells_int] at h3
  have h4 : DataW.trod enc Try.prog W 0 (fun _ => true) true n 3 ((([c0, c1, c2, c3, c4, c5, c6, c7, c8, c9, c10, c11, c12, c13, c14] : List Value).drop 11).take (Try.prog.cellsOf 3)) = some e4 := hat 4 _ rfl
  rw [cells_int] at h4
  have h5 : DataW.trod enc Try.prog W 0 (fun _ => true) true n 3 ((([c0, c1, c2, c3, c4, c5, c6, c7, c8, c9, c10, c11, c12, c13, c14] : List Value).drop 12).take (Try.prog.cellsOf 3)) = some e5 := hat 5 _ rfl
  rw [cells_int] at h5
  have h6 : DataW.trod enc Try.prog W 0 (fun _ => true) true n 3 ((([c0, c1, c2, c3, c4, c5, c6, c7, c8, c9, c10, c11, c12, c13, c14] : List Value).drop 13).take (Try.prog.cellsOf 3)) = some e6 := hat 6 _ rfl
  rw [cells_int] at h6
  have h7 : DataW.trod enc Try.prog W 0 (fun _ => true) true n 4 ((([c0, c1, c2, c3, c4, c5, c6, c7, c8, c9, c10, c11, c12, c13, c14] : List Value).drop 14).take (Try.prog.cellsOf 4)) = some e7 := hat 7 _ rfl
  rw [cells_bool] at h7
  obtain ⟨e, p, cap, q0, hd, hc, hm⟩ := open_env h0
  obtain ⟨z1, q1, _, _⟩ := DataW.trod_int Try.underlying3 h1
  have q1' : c8 = .int .i64 z1 := by simpa using q1
  obtain ⟨z2, q2, _, _⟩ := DataW.trod_int Try.underlying3 h2
  have q2' : c9 = .int .i64 z2 := by simpa using q2
  obtain ⟨z3, q3, _, _⟩ := DataW.trod_int Try.underlying3 h3
  have q3' : c10 = .int .i64 z3 := by simpa using q3
  obtain ⟨z4, q4, _, _⟩ := DataW.trod_int Try.underlying3 h4
  have q4' : c11 = .int .i64 z4 := by simpa using q4
  obtain ⟨z5, q5, _, _⟩ := DataW.trod_int Try.underlying3 h5
  have q5' : c12 = .int .i64 z5 := by simpa using q5
  obtain ⟨z6, q6, _, _⟩ := DataW.trod_int Try.underlying3 h6
  have q6' : c13 = .int .i64 z6 := by simpa using q6
  obtain ⟨z7, q7, _⟩ := DataW.trod_bool Try.underlying4 h7
  have q7' : c14 = .bool z7 := by simpa using q7
  refine ⟨⟨e, z1, z2, z3, z4, z5, z6, z7⟩, p, cap, ?_, hd, hc, hm⟩
  have q0' : ([c0, c1, c2, c3, c4, c5, c6, c7] : List Value) = [.bool e.on, .slice p e.pts.length cap, .bool e.sus, .int .i64 e.ss, .int .i64 e.se, .bool e.lp, .int .i64 e.ls, .int .i64 e.le] := q0
  simp only [List.cons.injEq, and_true] at q0'
  obtain ⟨w0, w1, w2, w3, w4, w5, w6, w7⟩ := q0'
  rw [w0, w1, w2, w3, w4, w5, w6, w7, q1', q2', q3', q4', q5', q6', q7']
  rfl
end
end Go.Proofs.Ytcchfahdgmcpbaa

/-
  What a reading of the laws' arguments gives: a sample, an Ask as a value with its frames in memory.
-/
import Derived.Test.YtmaldhjcdkidmaaPAsk
import Derived.ProofKit
import Derived.WideKeyArgs
import Derived.Deep.Slices
namespace Go.Proofs.Ytmaldhjcdkidmaa
open Go.ChangeShapes Go.WideShapes Go.ChangeAt Go.RowKit

theorem cells_smp : Try.prog.cellsOf 24 = 13 := by kernel_rfl
theorem cells_cur : Try.prog.cellsOf 26 = 4 := by kernel_rfl
theorem cells_ask : Try.prog.cellsOf 28 = 28 := by kernel_rfl
theorem cells_int : Try.prog.cellsOf 3 = 1 := by kernel_rfl
theorem cells_str : Try.prog.cellsOf 9 = 1 := by kernel_rfl
theorem cells_ints : Try.prog.cellsOf 22 = 1 := by kernel_rfl
theorem cells_bool : Try.prog.cellsOf 4 = 1 := by kernel_rfl
theorem list13 {α : Type} : ∀ {l : List α}, l.length = 13 → ∃ c0 c1 c2 c3 c4 c5 c6 c7 c8 c9 c10 c11 c12, l = [c0, c1, c2, c3, c4, c5, c6, c7, c8, c9, c10, c11, c12]
  | [c0, c1, c2, c3, c4, c5, c6, c7, c8, c9, c10, c11, c12], _ => ⟨c0, c1, c2, c3, c4, c5, c6, c7, c8, c9, c10, c11, c12, rfl⟩
theorem list4 {α : Type} : ∀ {l : List α}, l.length = 4 → ∃ a b c d, l = [a, b, c, d]
  | [a, b, c, d], _ => ⟨a, b, c, d, rfl⟩
theorem list28 {α : Type} : ∀ {l : List α}, l.length = 28 → ∃ c0 c1 c2 c3 c4 c5 c6 c7 c8 c9 c10 c11 c12 c13 c14 c15 c16 c17 c18 c19 c20 c21 c22 c23 c24 c25 c26 c27, l = [c0, c1, c2, c3, c4, c5, c6, c7, c8, c9, c10, c11, c12, c13, c14, c15, c16, c17, c18, c19, c20, c21, c22, c23, c24, c25, c26, c27]
  | [c0, c1, c2, c3, c4, c5, c6, c7, c8, c9, c10, c11, c12, c13, c14, c15, c16, c17, c18, c19, c20, c21, c22, c23, c24, c25, c26, c27], _ => ⟨c0, c1, c2, c3, c4, c5, c6, c7, c8, c9, c10, c11, c12, c13, c14, c15, c16, c17, c18, c19, c20, c21, c22, c23, c24, c25, c26, c27, rfl⟩

section
variable {H : Type} {enc : TypeId × Value → H} {W : World} {fuel : Nat}
/-- A slice of ints as a list, wherever it lies. -/
theorem open_dat {c : Value} {y : DataW H × List MemPlace} (h : DataW.trod enc Try.prog W 0 (fun _ => true) true fuel 22 [c] = some y) :
    ∃ (zs : List Int) (p : Option Addr) (cap : Nat), c = .slice p zs.length cap ∧ DatAt W p zs ∧ (zs.length : Int) ≤ 9223372036854775807 := by
  rcases open_ints Try.underlying22 Try.underlying3 cells_int h with ⟨hc, _⟩ | ⟨a, len, cap, zs, hc, _, hl, hm, hz, _, hcell, _⟩
  · refine ⟨[], none, 0, by simpa using hc, .inl rfl, by simp⟩
  · simp only [if_true] at hz
    unfold maxLen at hm
    refine ⟨zs.take len, some a, cap, ?_, ?_, ?_⟩
    · rw [List.length_take, Nat.min_eq_left (by omega)]
      simpa using hc
    · by_cases h0 : len = 0
      · left; rw [h0]; simp
      · right
        have hp : 0 < zs.length := by omega
        obtain ⟨b, off, spot⟩ := a
        have hspot : spot = none := by simpa [Addr.add] using World.cell?_spot (hcell 0 hp)
        subst hspot
        refine ⟨b, off, rfl, ?_, fun i hi => ?_⟩
        · have := cell_lt (hcell 0 hp)
          simpa [Addr.add] using this
        · rw [List.length_take, Nat.min_eq_left (by omega)] at hi
          have := hcell i (by omega)
          have e : Addr.add ⟨b, off, none⟩ i = ⟨b, off + i, none⟩ := by
            unfold Addr.add
            by_cases h : i = 0 <;> simp [h]
          rw [e] at this
          rw [this, List.getD_eq_getElem?_getD, List.getD_eq_getElem?_getD, List.getElem?_take, if_pos hi]
    · rw [List.length_take, Nat.min_eq_left (by omega)]
      omega
theorem open_smp {cs : List Value} {y : DataW H × List MemPlace} (h : DataW.trod enc Try.prog W 0 (fun _ => true) true fuel 24 cs = some y) :
    ∃ (s : Sm.Smp) (p : Option Addr) (cap : Nat), cs = [.string s.name, .slice p s.dat.length cap, .int .i64 s.bits, .int .i64 s.rate, .int .i64 s.vol, .int .i64 s.pan, .int .i64 s.fine, .int .i64 s.loop, .int .i64 s.start, .int .i64 s.fin, .int .i64 s.sus, .int .i64 s.sstart, .int .i64 s.sfin] ∧ s.name.size ≤ maxLen ∧ DatAt W p s.dat ∧ (s.dat.length : Int) ≤ 9223372036854775807 := by
  obtain ⟨xs, n, _, _, hcl, hxl, hat⟩ := DataW.trod_struct Try.underlying24 h
  rw [cells_smp] at hcl
  obtain ⟨c0, c1, c2, c3, c4, c5, c6, c7, c8, c9, c10, c11, c12, rfl⟩ := list13 hcl
  obtain ⟨e0, e1, e2, e3, e4, e5, e6, e7, e8, e9, e10, e11, e12, rfl⟩ := list13 (show xs.length = 13 from hxl)
  have h0 : DataW.trod enc Try.prog W 0 (fun _ => true) true n 9 ((([c0, c1, c2, c3, c4, c5, c6, c7, c8, c9, c10, c11, c12] : List Value).drop 0).take (Try.prog.cellsOf 9)) = some e0 := hat 0 _ rfl
  rw [cells_str] at h0
  have h1 : DataW.trod enc Try.prog W 0 (fun _ => true) true n 22 ((([c0, c1, c2, c3, c4, c5, c6, c7, c8, c9, c10, c11, c12] : List Value).drop 1).take (Try.prog.cellsOf 22)) = some e1 := hat 1 _ rfl
  rw [cells_ints] at h1
  have h2 : DataW.trod enc Try.prog W 0 (fun _ => true) true n 3 ((([c0, c1, c2, c3, c4, c5, c6, c7, c8, c9, c10, c11, c12] : List Value).drop 2).take (Try.prog.cellsOf 3)) = some e2 := hat 2 _ rfl
  rw [cells_int] at h2
  have h3 : DataW.trod enc Try.prog W 0 (fun _ => true) true n 3 ((([c0, c1, c2, c3, c4, c5, c6, c7, c8, c9, c10, c11, c12] : List Value).drop 3).take (Try.prog.cellsOf 3)) = some e3 := hat 3 _ rfl
  rw [cells_int] at h3
  have h4 : DataW.trod enc Try.prog W 0 (fun _ => true) true n 3 ((([c0, c1, c2, c3, c4, c5, c6, c7, c8, c9, c10, c11, c12] : List Value).drop 4).take (Try.prog.cellsOf 3)) = some e4 := hat 4 _ rfl
  rw [cells_int] at h4
  have h5 : DataW.trod enc Try.prog W 0 (fun _ => true) true n 3 ((([c0, c1, c2, c3, c4, c5, c6, c7, c8, c9, c10, c11, c12] : List Value).drop 5).take (Try.prog.cellsOf 3)) = some e5 := hat 5 _ rfl
  rw [cells_int] at h5
  have h6 : DataW.trod enc Try.prog W 0 (fun _ => true) true n 3 ((([c0, c1, c2, c3, c4, c5, c6, c7, c8, c9, c10, c11, c12] : List Value).drop 6).take (Try.prog.cellsOf 3)) = some e6 := hat 6 _ rfl
  rw [cells_int] at h6
  have h7 : DataW.trod enc Try.prog W 0 (fun _ => true) true n 3 ((([c0, c1, c2, c3, c4, c5, c6, c7, c8, c9, c10, c11, c12] : List Value).drop 7).take (Try.prog.cellsOf 3)) = some e7 := hat 7 _ rfl
  rw [cells_int] at h7
  have h8 : DataW.trod enc Try.prog W 0 (fun _ => true) true n 3 ((([c0, c1, c2, c3, c4, c5, c6, c7, c8, c9, c10, c11, c12] : List Value).drop 8).take (Try.prog.cellsOf 3)) = some e8 := hat 8 _ rfl
  rw [cells_int] at h8
  have h9 : DataW.trod enc Try.prog W 0 (fun _ => true) true n 3 ((([c0, c1, c2, c3, c4, c5, c6, c7, c8, c9, c10, c11, c12] : List Value).drop 9).take (Try.prog.cellsOf 3)) = some e9 := hat 9 _ rfl
  rw [cells_int] at h9
  have h10 : DataW.trod enc Try.prog W 0 (fun _ => true) true n 3 ((([c0, c1, c2, c3, c4, c5, c6, c7, c8, c9, c10, c11, c12] : List Value).drop 10).take (Try.prog.cellsOf 3)) = some e10 := hat 10 _ rfl
  rw [cells_int] at h10
  have h11 : DataW.trod enc Try.prog W 0 (fun _ => true) true n 3 ((([c0, c1, c2, c3, c4, c5, c6, c7, c8, c9, c10, c11, c12] : List Value).drop 11).take (Try.prog.cellsOf 3)) = some e11 := hat 11 _ rfl
  rw [cells_int] at h11
  have h12 : DataW.trod enc Try.prog W 0 (fun _ => true) true n 3 ((([c0, c1, c2, c3, c4, c5, c6, c7, c8, c9, c10, c11, c12] : List Value).drop 12).take (Try.prog.cellsOf 3)) = some e12 := hat 12 _ rfl
  rw [cells_int] at h12
  obtain ⟨nm, q0, _, hnm⟩ := DataW.trod_string Try.underlying9 h0
  obtain ⟨zs, p, cap, q1, hd, hl⟩ := open_dat h1
  obtain ⟨z2, q2, _, _⟩ := DataW.trod_int Try.underlying3 h2
  obtain ⟨z3, q3, _, _⟩ := DataW.trod_int Try.underlying3 h3
  obtain ⟨z4, q4, _, _⟩ := DataW.trod_int Try.underlying3 h4
  obtain ⟨z5, q5, _, _⟩ := DataW.trod_int Try.underlying3 h5
  obtain ⟨z6, q6, _, _⟩ := DataW.trod_int Try.underlying3 h6
  obtain ⟨z7, q7, _, _⟩ := DataW.trod_int Try.underlying3 h7
  obtain ⟨z8, q8, _, _⟩ := DataW.trod_int Try.underlying3 h8
  obtain ⟨z9, q9, _, _⟩ := DataW.trod_int Try.underlying3 h9
  obtain ⟨z10, q10, _, _⟩ := DataW.trod_int Try.underlying3 h10
  obtain ⟨z11, q11, _, _⟩ := DataW.trod_int Try.underlying3 h11
  obtain ⟨z12, q12, _, _⟩ := DataW.trod_int Try.underlying3 h12
  refine ⟨⟨nm, zs, z2, z3, z4, z5, z6, z7, z8, z9, z10, z11, z12⟩, p, cap, ?_, hnm, hd, hl⟩
  have q0' : c0 = .string nm := by simpa using q0
  have q2' : c2 = .int .i64 z2 := by simpa using q2
  have q3' : c3 = .int .i64 z3 := by simpa using q3
  have q4' : c4 = .int .i64 z4 := by simpa using q4
  have q5' : c5 = .int .i64 z5 := by simpa using q5
  have q6' : c6 = .int .i64 z6 := by simpa using q6
  have q7' : c7 = .int .i64 z7 := by simpa using q7
  have q8' : c8 = .int .i64 z8 := by simpa using q8
  have q9' : c9 = .int .i64 z9 := by simpa using q9
  have q10' : c10 = .int .i64 z10 := by simpa using q10
  have q11' : c11 = .int .i64 z11 := by simpa using q11
  have q12' : c12 = .int .i64 z12 := by simpa using q12
  rw [q0', q1, q2', q3', q4', q5', q6', q7', q8', q9', q10', q11', q12']
theorem open_ask {v : Value} {d : DataW H} {ps : List MemPlace} (hv : Value.okWide Try.prog W .any 0 28 v) (h : DataW.Trod enc Try.prog W 0 (fun _ => true) true 28 v d ps) :
    ∃ (x : Ak) (p : Option Addr) (cap : Nat), v = AV x p cap ∧ x.s.name.size ≤ maxLen ∧ DatAt W p x.s.dat ∧ (x.s.dat.length : Int) ≤ 9223372036854775807 := by
  obtain ⟨a, rfl, hsz⟩ := okWide_struct Try.underlying28 hv
  rw [cells_ask] at hsz
  obtain ⟨fuel, hf⟩ := h
  obtain ⟨xs, n, _, _, hcl, hxl, hat⟩ := DataW.trod_struct Try.underlying28 hf
  obtain ⟨l⟩ := a
  obtain ⟨c0, c1, c2, c3, c4, c5, c6, c7, c8, c9, c10, c11, c12, c13, c14, c15, c16, c17, c18, c19, c20, c21, c22, c23, c24, c25, c26, c27, rfl⟩ := list28 (show l.length = 28 from hsz)
  obtain ⟨e0, e1, e2, e3, e4, e5, e6, e7, e8, e9, e10, e11, e12, rfl⟩ := list13 (show xs.length = 13 from hxl)
  have h0 : DataW.trod enc Try.prog W 0 (fun _ => true) true n 24 ((([c0, c1, c2, c3, c4, c5, c6, c7, c8, c9, c10, c11, c12, c13, c14, c15, c16, c17, c18, c19, c20, c21, c22, c23, c24, c25, c26, c27] : List Value).drop 0).take (Try.prog.cellsOf 24)) = some e0 := hat 0 _ rfl
  rw [cells_smp] at h0
  have h1 : DataW.trod enc Try.prog W 0 (fun _ => true) true n 26 ((([c0, c1, c2, c3, c4, c5, c6, c7, c8, c9, c10, c11, c12, c13, c14, c15, c16, c17, c18, c19, c20, c21, c22, c23, c24, c25, c26, c27] : List Value).drop 13).take (Try.prog.cellsOf 26)) = some e1 := hat 1 _ rfl
  rw [cells_cur] at h1
  obtain ⟨s, p, cap, hs, hnm, hd, hl⟩ := open_smp h0
  obtain ⟨xs1, n1, _, _, _, hxl1, hat1⟩ := DataW.trod_struct Try.underlying26 h1
  obtain ⟨g0, g1, g2, g3, rfl⟩ := list4 (show xs1.length = 4 from hxl1)
  have k0 : DataW.trod enc Try.prog W 0 (fun _ => true) true n1 3 ((([c13, c14, c15, c16] : List Value).drop 0).take (Try.prog.cellsOf 3)) = some g0 := hat1 0 _ rfl
  rw [cells_int] at k0
  have k1 : DataW.trod enc Try.prog W 0 (fun _ => true) true n1 3 ((([c13, c14, c15, c16] : List Value).drop 1).take (Try.prog.cellsOf 3)) = some g1 := hat1 1 _ rfl
  rw [cells_int] at k1
  have k2 : DataW.trod enc Try.prog W 0 (fun _ => true) true n1 4 ((([c13, c14, c15, c16] : List Value).drop 2).take (Try.prog.cellsOf 4)) = some g2 := hat1 2 _ rfl
  rw [cells_bool] at k2
  have k3 : DataW.trod enc Try.prog W 0 (fun _ => true) true n1 4 ((([c13, c14, c15, c16] : List Value).drop 3).take (Try.prog.cellsOf 4)) = some g3 := hat1 3 _ rfl
  rw [cells_bool] at k3
  have h2 : DataW.trod enc Try.prog W 0 (fun _ => true) true n 3 ((([c0, c1, c2, c3, c4, c5, c6, c7, c8, c9, c10, c11, c12, c13, c14, c15, c16, c17, c18, c19, c20, c21, c22, c23, c24, c25, c26, c27] : List Value).drop 17).take (Try.prog.cellsOf 3)) = some e2 := hat 2 _ rfl
  rw [cells_int] at h2
  have h3 : DataW.trod enc Try.prog W 0 (fun _ => true) true n 3 ((([c0, c1, c2, c3, c4, c5, c6, c7, c8, c9, c10, c11, c12, c13, c14, c15, c16, c17, c18, c19, c20, c21, c22, c23, c24, c25, c26, c27] : List Value).drop 18).take (Try.prog.cellsOf 3)) = some e3 := hat 3 _ rfl
  rw [cells_int] at h3
  have h4 : DataW.trod enc Try.prog W 0 (fun _ => true) true n 3 ((([c0, c1, c2, c3, c4, c5, c6, c7, c8, c9, c10, c11, c12, c13, c14, c15, c16, c17, c18, c19, c20, c21, c22, c23, c24, c25, c26, c27] : List Value).drop 19).take (Try.prog.cellsOf 3)) = some e4 := hat 4 _ rfl
  rw [cells_int] at h4
  have h5 : DataW.trod enc Try.prog W 0 (fun _ => true) true n 3 ((([c0, c1, c2, c3, c4, c5, c6, c7, c8, c9, c10, c11, c12, c13, c14, c15, c16, c17, c18, c19, c20, c21, c22, c23, c24, c25, c26, c27] : List Value).drop 20).take (Try.prog.cellsOf 3)) = some e5 := hat 5 _ rfl
  rw [cells_int] at h5
  have h6 : DataW.trod enc Try.prog W 0 (fun _ => true) true n 3 ((([c0, c1, c2, c3, c4, c5, c6, c7, c8, c9, c10, c11, c12, c13, c14, c15, c16, c17, c18, c19, c20, c21, c22, c23, c24, c25, c26, c27] : List Value).drop 21).take (Try.prog.cellsOf 3)) = some e6 := hat 6 _ rfl
  rw [cells_int] at h6
  have h7 : DataW.trod enc Try.prog W 0 (fun _ => true) true n 3 ((([c0, c1, c2, c3, c4, c5, c6, c7, c8, c9, c10, c11, c12, c13, c14, c15, c16, c17, c18, c19, c20, c21, c22, c23, c24, c25, c26, c27] : List Value).drop 22).take (Try.prog.cellsOf 3)) = some e7 := hat 7 _ rfl
  rw [cells_int] at h7
  have h8 : DataW.trod enc Try.prog W 0 (fun _ => true) true n 3 ((([c0, c1, c2, c3, c4, c5, c6, c7, c8, c9, c10, c11, c12, c13, c14, c15, c16, c17, c18, c19, c20, c21, c22, c23, c24, c25, c26, c27] : List Value).drop 23).take (Try.prog.cellsOf 3)) = some e8 := hat 8 _ rfl
  rw [cells_int] at h8
  have h9 : DataW.trod enc Try.prog W 0 (fun _ => true) true n 3 ((([c0, c1, c2, c3, c4, c5, c6, c7, c8, c9, c10, c11, c12, c13, c14, c15, c16, c17, c18, c19, c20, c21, c22, c23, c24, c25, c26, c27] : List Value).drop 24).take (Try.prog.cellsOf 3)) = some e9 := hat 9 _ rfl
  rw [cells_int] at h9
  have h10 : DataW.trod enc Try.prog W 0 (fun _ => true) true n 3 ((([c0, c1, c2, c3, c4, c5, c6, c7, c8, c9, c10, c11, c12, c13, c14, c15, c16, c17, c18, c19, c20, c21, c22, c23, c24, c25, c26, c27] : List Value).drop 25).take (Try.prog.cellsOf 3)) = some e10 := hat 10 _ rfl
  rw [cells_int] at h10
  have h11 : DataW.trod enc Try.prog W 0 (fun _ => true) true n 4 ((([c0, c1, c2, c3, c4, c5, c6, c7, c8, c9, c10, c11, c12, c13, c14, c15, c16, c17, c18, c19, c20, c21, c22, c23, c24, c25, c26, c27] : List Value).drop 26).take (Try.prog.cellsOf 4)) = some e11 := hat 11 _ rfl
  rw [cells_bool] at h11
  have h12 : DataW.trod enc Try.prog W 0 (fun _ => true) true n 4 ((([c0, c1, c2, c3, c4, c5, c6, c7, c8, c9, c10, c11, c12, c13, c14, c15, c16, c17, c18, c19, c20, c21, c22, c23, c24, c25, c26, c27] : List Value).drop 27).take (Try.prog.cellsOf 4)) = some e12 := hat 12 _ rfl
  rw [cells_bool] at h12
  obtain ⟨z13, r13, _, _⟩ := DataW.trod_int Try.underlying3 k0
  obtain ⟨z14, r14, _, _⟩ := DataW.trod_int Try.underlying3 k1
  obtain ⟨z15, r15, _⟩ := DataW.trod_bool Try.underlying4 k2
  obtain ⟨z16, r16, _⟩ := DataW.trod_bool Try.underlying4 k3
  obtain ⟨z17, r17, _, _⟩ := DataW.trod_int Try.underlying3 h2
  obtain ⟨z18, r18, _, _⟩ := DataW.trod_int Try.underlying3 h3
  obtain ⟨z19, r19, _, _⟩ := DataW.trod_int Try.underlying3 h4
  obtain ⟨z20, r20, _, _⟩ := DataW.trod_int Try.underlying3 h5
  obtain ⟨z21, r21, _, _⟩ := DataW.trod_int Try.underlying3 h6
  obtain ⟨z22, r22, _, _⟩ := DataW.trod_int Try.underlying3 h7
  obtain ⟨z23, r23, _, _⟩ := DataW.trod_int Try.underlying3 h8
  obtain ⟨z24, r24, _, _⟩ := DataW.trod_int Try.underlying3 h9
  obtain ⟨z25, r25, _, _⟩ := DataW.trod_int Try.underlying3 h10
  obtain ⟨z26, r26, _⟩ := DataW.trod_bool Try.underlying4 h11
  obtain ⟨z27, r27, _⟩ := DataW.trod_bool Try.underlying4 h12
  have r13' : c13 = .int .i64 z13 := by simpa using r13
  have r14' : c14 = .int .i64 z14 := by simpa using r14
  have r15' : c15 = .bool z15 := by simpa using r15
  have r16' : c16 = .bool z16 := by simpa using r16
  have r17' : c17 = .int .i64 z17 := by simpa using r17
  have r18' : c18 = .int .i64 z18 := by simpa using r18
  have r19' : c19 = .int .i64 z19 := by simpa using r19
  have r20' : c20 = .int .i64 z20 := by simpa using r20
  have r21' : c21 = .int .i64 z21 := by simpa using r21
  have r22' : c22 = .int .i64 z22 := by simpa using r22
  have r23' : c23 = .int .i64 z23 := by simpa using r23
  have r24' : c24 = .int .i64 z24 := by simpa using r24
  have r25' : c25 = .int .i64 z25 := by simpa using r25
  have r26' : c26 = .bool z26 := by simpa using r26
  have r27' : c27 = .bool z27 := by simpa using r27
  refine ⟨⟨s, z13, z14, z15, z16, z17, z18, z19, z20, z21, z22, z23, z24, z25, z26, z27⟩, p, cap, ?_, hnm, hd, hl⟩
  have hs' : ([c0, c1, c2, c3, c4, c5, c6, c7, c8, c9, c10, c11, c12] : List Value) = [.string s.name, .slice p s.dat.length cap, .int .i64 s.bits, .int .i64 s.rate, .int .i64 s.vol, .int .i64 s.pan, .int .i64 s.fine, .int .i64 s.loop, .int .i64 s.start, .int .i64 s.fin, .int .i64 s.sus, .int .i64 s.sstart, .int .i64 s.sfin] := hs
  simp only [List.cons.injEq, and_true] at hs'
  obtain ⟨w0, w1, w2, w3, w4, w5, w6, w7, w8, w9, w10, w11, w12⟩ := hs'
  rw [w0, w1, w2, w3, w4, w5, w6, w7, w8, w9, w10, w11, w12, r13', r14', r15', r16', r17', r18', r19', r20', r21', r22', r23', r24', r25', r26', r27']
  rfl
theorem open_dats {v : Value} {d : DataW H} {ps : List MemPlace} (hv : Value.okWide Try.prog W .any 0 22 v) (h : DataW.Trod enc Try.prog W 0 (fun _ => true) true 22 v d ps) :
    ∃ (zs : List Int) (p : Option Addr) (cap : Nat), v = .slice p zs.length cap ∧ DatAt W p zs ∧ (zs.length : Int) ≤ 9223372036854775807 := by
  obtain ⟨a, len, cap, rfl⟩ := okWide_slice Try.underlying22 hv
  obtain ⟨fuel, hf⟩ := h
  exact open_dat (show DataW.trod enc Try.prog W 0 (fun _ => true) true fuel 22 [.slice a len cap] = some (d, ps) from hf)
theorem open_sample {v : Value} {d : DataW H} {ps : List MemPlace} (hv : Value.okWide Try.prog W .any 0 24 v) (h : DataW.Trod enc Try.prog W 0 (fun _ => true) true 24 v d ps) :
    ∃ (s : Sm.Smp) (p : Option Addr) (cap : Nat), v = SV s p cap ∧ s.name.size ≤ maxLen ∧ DatAt W p s.dat ∧ (s.dat.length : Int) ≤ 9223372036854775807 := by
  obtain ⟨a, rfl, hsz⟩ := okWide_struct Try.underlying24 hv
  obtain ⟨fuel, hf⟩ := h
  obtain ⟨l⟩ := a
  obtain ⟨s, p, cap, hs, hnm, hd, hl⟩ := open_smp (show DataW.trod enc Try.prog W 0 (fun _ => true) true fuel 24 l = some (d, ps) from hf)
  subst hs
  exact ⟨s, p, cap, rfl, hnm, hd, hl⟩
end
end Go.Proofs.Ytmaldhjcdkidmaa

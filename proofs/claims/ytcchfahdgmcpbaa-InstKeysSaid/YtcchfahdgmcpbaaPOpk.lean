/-
  What a reading of the law InstKeys' argument gives: an instrument and numbers, with its lists in memory.
-/
import Derived.Test.YtcchfahdgmcpbaaPOpen
import Derived.Test.YtcchfahdgmcpbaaPBig
namespace Go.Proofs.Ytcchfahdgmcpbaa
open Go.ChangeShapes Go.WideShapes Go.ChangeAt Go.RowKit

theorem cells_key : Try.prog.cellsOf 52 = 2 := by kernel_rfl
theorem cells_inst : Try.prog.cellsOf 40 = 33 := by kernel_rfl
theorem cells_keyed : Try.prog.cellsOf 42 = 39 := by kernel_rfl
theorem cells_keys : Try.prog.cellsOf 38 = 1 := by kernel_rfl
theorem cells_string : Try.prog.cellsOf 9 = 1 := by kernel_rfl
theorem list7 {α : Type} : ∀ {l : List α}, l.length = 7 → ∃ c0 c1 c2 c3 c4 c5 c6, l = [c0, c1, c2, c3, c4, c5, c6]
  | c0 :: c1 :: c2 :: c3 :: c4 :: c5 :: c6 :: [], _ => ⟨c0, c1, c2, c3, c4, c5, c6, rfl⟩
theorem list12 {α : Type} : ∀ {l : List α}, l.length = 12 → ∃ c0 c1 c2 c3 c4 c5 c6 c7 c8 c9 c10 c11, l = [c0, c1, c2, c3, c4, c5, c6, c7, c8, c9, c10, c11]
  | c0 :: c1 :: c2 :: c3 :: c4 :: c5 :: c6 :: c7 :: c8 :: c9 :: c10 :: c11 :: [], _ => ⟨c0, c1, c2, c3, c4, c5, c6, c7, c8, c9, c10, c11, rfl⟩
theorem list33 {α : Type} : ∀ {l : List α}, l.length = 33 → ∃ c0 c1 c2 c3 c4 c5 c6 c7 c8 c9 c10 c11 c12 c13 c14 c15 c16 c17 c18 c19 c20 c21 c22 c23 c24 c25 c26 c27 c28 c29 c30 c31 c32, l = [c0, c1, c2, c3, c4, c5, c6, c7, c8, c9, c10, c11, c12, c13, c14, c15, c16, c17, c18, c19, c20, c21, c22, c23, c24, c25, c26, c27, c28, c29, c30, c31, c32]
  | c0 :: c1 :: c2 :: c3 :: c4 :: c5 :: c6 :: c7 :: c8 :: c9 :: c10 :: c11 :: c12 :: c13 :: c14 :: c15 :: c16 :: c17 :: c18 :: c19 :: c20 :: c21 :: c22 :: c23 :: c24 :: c25 :: c26 :: c27 :: c28 :: c29 :: c30 :: c31 :: c32 :: [], _ => ⟨c0, c1, c2, c3, c4, c5, c6, c7, c8, c9, c10, c11, c12, c13, c14, c15, c16, c17, c18, c19, c20, c21, c22, c23, c24, c25, c26, c27, c28, c29, c30, c31, c32, rfl⟩
theorem list39 {α : Type} : ∀ {l : List α}, l.length = 39 → ∃ c0 c1 c2 c3 c4 c5 c6 c7 c8 c9 c10 c11 c12 c13 c14 c15 c16 c17 c18 c19 c20 c21 c22 c23 c24 c25 c26 c27 c28 c29 c30 c31 c32 c33 c34 c35 c36 c37 c38, l = [c0, c1, c2, c3, c4, c5, c6, c7, c8, c9, c10, c11, c12, c13, c14, c15, c16, c17, c18, c19, c20, c21, c22, c23, c24, c25, c26, c27, c28, c29, c30, c31, c32, c33, c34, c35, c36, c37, c38]
  | c0 :: c1 :: c2 :: c3 :: c4 :: c5 :: c6 :: c7 :: c8 :: c9 :: c10 :: c11 :: c12 :: c13 :: c14 :: c15 :: c16 :: c17 :: c18 :: c19 :: c20 :: c21 :: c22 :: c23 :: c24 :: c25 :: c26 :: c27 :: c28 :: c29 :: c30 :: c31 :: c32 :: c33 :: c34 :: c35 :: c36 :: c37 :: c38 :: [], _ => ⟨c0, c1, c2, c3, c4, c5, c6, c7, c8, c9, c10, c11, c12, c13, c14, c15, c16, c17, c18, c19, c20, c21, c22, c23, c24, c25, c26, c27, c28, c29, c30, c31, c32, c33, c34, c35, c36, c37, c38, rfl⟩
/-- What the law on keys is asked. -/
structure In.Kyd where
  i : In.Ins
  note : Int
  own : Int
  f : Int
  t : Int
  s : Int
  m : Int
/-- Its cells. -/
def KL (x : In.Kyd) (a : In.Loc) : List Value := IL x.i a ++ [.int .i64 x.note, .int .i64 x.own, .int .i64 x.f, .int .i64 x.t, .int .i64 x.s, .int .i64 x.m]
section
variable {H : Type} {enc : TypeId × Value → H} {W : World} {fuel : Nat}
theorem open_keys {c : Value} {y : DataW H × List MemPlace} (h : DataW.trod enc Try.prog W 0 (fun _ => true) true fuel 38 [c] = some y) :
    ∃ (ps : List (Int × Int)) (p : Option Addr) (cap : Nat), c = .slice p ps.length cap ∧ PtsAt W p ps ∧ ps.length ≤ cap ∧ cap ≤ maxLen ∧ (p = none → cap = 0) := by
  rcases Go.Deep.open_slice_pairs Try.underlying38 Try.underlying52 cells_key rfl rfl cells_int cells_int h with ⟨hc, _⟩ | ⟨a, len, cap, m, n, V0, V1, D0, D1, P0, P1, hc, _, hl, hm, hmm, _, hcell⟩
  · exact ⟨[], none, 0, by simpa using hc, .inl rfl, Nat.le_refl _, Nat.zero_le _, fun _ => rfl⟩
  · simp only [if_true] at hmm
    subst hmm
    refine ⟨pairsOf V0 V1 len, some a, m, ?_, ?_, ?_, hm, fun h => by simp at h⟩
    · rw [pairsOf_length]
      simpa using hc
    · by_cases h0 : len = 0
      · left; rw [h0]; rfl
      · right
        obtain ⟨b, off, spot⟩ := a
        have hspot : spot = none := by
          have := World.cell?_spot (hcell 0 (by omega)).1
          simpa [Addr.add] using this
        subst hspot
        have ad : ∀ k, Addr.add ⟨b, off, none⟩ k = ⟨b, off + k, none⟩ := by
          intro k
          unfold Addr.add
          by_cases h : k = 0 <;> simp [h]
        refine ⟨b, off, rfl, ?_, fun i hi => ?_⟩
        · have := cell_lt (hcell 0 (by omega)).1
          rw [ad] at this
          exact this
        · rw [pairsOf_length] at hi
          obtain ⟨g0, g1, g2, g3⟩ := hcell i (by omega)
          rw [ad] at g0 g1
          obtain ⟨z0, q0, _, _⟩ := DataW.trod_int Try.underlying3 g2
          obtain ⟨z1, q1, _, _⟩ := DataW.trod_int Try.underlying3 g3
          have q0' : V0 i = .int .i64 z0 := by simpa using q0
          have q1' : V1 i = .int .i64 z1 := by simpa using q1
          rw [pairsOf_tk V0 V1 hi, pairsOf_vl V0 V1 hi, g0, Nat.add_assoc, g1, q0', q1']
          exact ⟨rfl, rfl⟩
    · rw [pairsOf_length]
      exact hl
theorem open_inst {cs : List Value} {y : DataW H × List MemPlace} (h : DataW.trod enc Try.prog W 0 (fun _ => true) true fuel 40 cs = some y) :
    ∃ (i : In.Ins) (a : In.Loc), cs = IL i a ∧ IPts W i a ∧ i.name.size ≤ maxLen ∧ (a.k = none → a.ck = 0) := by
  obtain ⟨xs, n, _, _, hcl, hxl, hat⟩ := DataW.trod_struct Try.underlying40 h
  rw [cells_inst] at hcl
  obtain ⟨c0, c1, c2, c3, c4, c5, c6, c7, c8, c9, c10, c11, c12, c13, c14, c15, c16, c17, c18, c19, c20, c21, c22, c23, c24, c25, c26, c27, c28, c29, c30, c31, c32, rfl⟩ := list33 hcl
  obtain ⟨e0, e1, e2, e3, e4, e5, e6, e7, e8, e9, e10, e11, rfl⟩ := list12 (show xs.length = 12 from hxl)
  have h0 : DataW.trod enc Try.prog W 0 (fun _ => true) true n 9 ((([c0, c1, c2, c3, c4, c5, c6, c7, c8, c9, c10, c11, c12, c13, c14, c15, c16, c17, c18, c19, c20, c21, c22, c23, c24, c25, c26, c27, c28, c29, c30, c31, c32] : List Value).drop 0).take (Try.prog.cellsOf 9)) = some e0 := hat 0 _ rfl
  rw [cells_string] at h0
  have h1 : DataW.trod enc Try.prog W 0 (fun _ => true) true n 38 ((([c0, c1, c2, c3, c4, c5, c6, c7, c8, c9, c10, c11, c12, c13, c14, c15, c16, c17, c18, c19, c20, c21, c22, c23, c24, c25, c26, c27, c28, c29, c30, c31, c32] : List Value).drop 1).take (Try.prog.cellsOf 38)) = some e1 := hat 1 _ rfl
  rw [cells_keys] at h1
  have h2 : DataW.trod enc Try.prog W 0 (fun _ => true) true n 24 ((([c0, c1, c2, c3, c4, c5, c6, c7, c8, c9, c10, c11, c12, c13, c14, c15, c16, c17, c18, c19, c20, c21, c22, c23, c24, c25, c26, c27, c28, c29, c30, c31, c32] : List Value).drop 2).take (Try.prog.cellsOf 24)) = some e2 := hat 2 _ rfl
  rw [cells_env] at h2
  have h3 : DataW.trod enc Try.prog W 0 (fun _ => true) true n 24 ((([c0, c1, c2, c3, c4, c5, c6, c7, c8, c9, c10, c11, c12, c13, c14, c15, c16, c17, c18, c19, c20, c21, c22, c23, c24, c25, c26, c27, c28, c29, c30, c31, c32] : List Value).drop 10).take (Try.prog.cellsOf 24)) = some e3 := hat 3 _ rfl
  rw [cells_env] at h3
  have h4 : DataW.trod enc Try.prog W 0 (fun _ => true) true n 24 ((([c0, c1, c2, c3, c4, c5, c6, c7, c8, c9, c10, c11, c12, c13, c14, c15, c16, c17, c18, c19, c20, c21, c22, c23, c24, c25, c26, c27, c28, c29, c30, c31, c32] : List Value).drop 18).take (Try.prog.cellsOf 24)) = some e4 := hat 4 _ rfl
  rw [cells_env] at h4
  have h5 : DataW.trod enc Try.prog W 0 (fun _ => true) true n 3 ((([c0, c1, c2, c3, c4, c5, c6, c7, c8, c9, c10, c11, c12, c13, c14, c15, c16, c17, c18, c19, c20, c21, c22, c23, c24, c25, c26, c27, c28, c29, c30, c31, c32] : List Value).drop 26).take (Try.prog.cellsOf 3)) = some e5 := hat 5 _ rfl
  rw [cells_int] at h5
  have h6 : DataW.trod enc Try.prog W 0 (fun _ => true) true n 3 ((([c0, c1, c2, c3, c4, c5, c6, c7, c8, c9, c10, c11, c12, c13, c14, c15, c16, c17, c18, c19, c20, c21, c22, c23, c24, c25, c26, c27, c28, c29, c30, c31, c32] : List Value).drop 27).take (Try.prog.cellsOf 3)) = some e6 := hat 6 _ rfl
  rw [cells_int] at h6
  have h7 : DataW.trod enc Try.prog W 0 (fun _ => true) true n 3 ((([c0, c1, c2, c3, c4, c5, c6, c7, c8, c9, c10, c11, c12, c13, c14, c15, c16, c17, c18, c19, c20, c21, c22, c23, c24, c25, c26, c27, c28, c29, c30, c31, c32] : List Value).drop 28).take (Try.prog.cellsOf 3)) = some e7 := hat 7 _ rfl
  rw [cells_int] at h7
  have h8 : DataW.trod enc Try.prog W 0 (fun _ => true) true n 3 ((([c0, c1, c2, c3, c4, c5, c6, c7, c8, c9, c10, c11, c12, c13, c14, c15, c16, c17, c18, c19, c20, c21, c22, c23, c24, c25, c26, c27, c28, c29, c30, c31, c32] : List Value).drop 29).take (Try.prog.cellsOf 3)) = some e8 := hat 8 _ rfl
  rw [cells_int] at h8
  have h9 : DataW.trod enc Try.prog W 0 (fun _ => true) true n 3 ((([c0, c1, c2, c3, c4, c5, c6, c7, c8, c9, c10, c11, c12, c13, c14, c15, c16, c17, c18, c19, c20, c21, c22, c23, c24, c25, c26, c27, c28, c29, c30, c31, c32] : List Value).drop 30).take (Try.prog.cellsOf 3)) = some e9 := hat 9 _ rfl
  rw [cells_int] at h9
  have h10 : DataW.trod enc Try.prog W 0 (fun _ => true) true n 3 ((([c0, c1, c2, c3, c4, c5, c6, c7, c8, c9, c10, c11, c12, c13, c14, c15, c16, c17, c18, c19, c20, c21, c22, c23, c24, c25, c26, c27, c28, c29, c30, c31, c32] : List Value).drop 31).take (Try.prog.cellsOf 3)) = some e10 := hat 10 _ rfl
  rw [cells_int] at h10
  have h11 : DataW.trod enc Try.prog W 0 (fun _ => true) true n 3 ((([c0, c1, c2, c3, c4, c5, c6, c7, c8, c9, c10, c11, c12, c13, c14, c15, c16, c17, c18, c19, c20, c21, c22, c23, c24, c25, c26, c27, c28, c29, c30, c31, c32] : List Value).drop 32).take (Try.prog.cellsOf 3)) = some e11 := hat 11 _ rfl
  rw [cells_int] at h11
  obtain ⟨nm, q0, _, hnm⟩ := DataW.trod_string Try.underlying9 h0
  have q0' : c0 = .string nm := by simpa using q0
  obtain ⟨ks, pk, ck, q1, hk, -, -, hnk⟩ := open_keys h1
  obtain ⟨v, pv, kv, q2, hv, -, -⟩ := open_env h2
  have q2' : ([c2, c3, c4, c5, c6, c7, c8, c9] : List Value) = [.bool v.on, .slice pv v.pts.length kv, .bool v.sus, .int .i64 v.ss, .int .i64 v.se, .bool v.lp, .int .i64 v.ls, .int .i64 v.le] := q2
  simp only [List.cons.injEq, and_true] at q2'
  obtain ⟨vw0, vw1, vw2, vw3, vw4, vw5, vw6, vw7⟩ := q2'
  obtain ⟨p, pp, kp, q3, hp, -, -⟩ := open_env h3
  have q3' : ([c10, c11, c12, c13, c14, c15, c16, c17] : List Value) = [.bool p.on, .slice pp p.pts.length kp, .bool p.sus, .int .i64 p.ss, .int .i64 p.se, .bool p.lp, .int .i64 p.ls, .int .i64 p.le] := q3
  simp only [List.cons.injEq, and_true] at q3'
  obtain ⟨pw0, pw1, pw2, pw3, pw4, pw5, pw6, pw7⟩ := q3'
  obtain ⟨t, pt, kt, q4, ht, -, -⟩ := open_env h4
  have q4' : ([c18, c19, c20, c21, c22, c23, c24, c25] : List Value) = [.bool t.on, .slice pt t.pts.length kt, .bool t.sus, .int .i64 t.ss, .int .i64 t.se, .bool t.lp, .int .i64 t.ls, .int .i64 t.le] := q4
  simp only [List.cons.injEq, and_true] at q4'
  obtain ⟨tw0, tw1, tw2, tw3, tw4, tw5, tw6, tw7⟩ := q4'
  obtain ⟨z0, r0, _, _⟩ := DataW.trod_int Try.underlying3 h5
  have r0' : c26 = .int .i64 z0 := by simpa using r0
  obtain ⟨z1, r1, _, _⟩ := DataW.trod_int Try.underlying3 h6
  have r1' : c27 = .int .i64 z1 := by simpa using r1
  obtain ⟨z2, r2, _, _⟩ := DataW.trod_int Try.underlying3 h7
  have r2' : c28 = .int .i64 z2 := by simpa using r2
  obtain ⟨z3, r3, _, _⟩ := DataW.trod_int Try.underlying3 h8
  have r3' : c29 = .int .i64 z3 := by simpa using r3
  obtain ⟨z4, r4, _, _⟩ := DataW.trod_int Try.underlying3 h9
  have r4' : c30 = .int .i64 z4 := by simpa using r4
  obtain ⟨z5, r5, _, _⟩ := DataW.trod_int Try.underlying3 h10
  have r5' : c31 = .int .i64 z5 := by simpa using r5
  obtain ⟨z6, r6, _, _⟩ := DataW.trod_int Try.underlying3 h11
  have r6' : c32 = .int .i64 z6 := by simpa using r6
  refine ⟨⟨nm, ks, v, p, t, z0, z1, z2, z3, z4, z5, z6⟩, ⟨pk, ck, pv, kv, pp, kp, pt, kt⟩, ?_, ⟨hk, hv, hp, ht⟩, hnm, hnk⟩
  rw [q0', q1, vw0, vw1, vw2, vw3, vw4, vw5, vw6, vw7, pw0, pw1, pw2, pw3, pw4, pw5, pw6, pw7, tw0, tw1, tw2, tw3, tw4, tw5, tw6, tw7, r0', r1', r2', r3', r4', r5', r6']
  rfl
theorem open_keyed {v : Value} {d : DataW H} {ps : List MemPlace} (hv : Value.okWide Try.prog W .any 0 42 v) (h : DataW.Trod enc Try.prog W 0 (fun _ => true) true 42 v d ps) :
    ∃ (x : In.Kyd) (a : In.Loc), v = .agg (KL x a).toArray ∧ IPts W x.i a ∧ x.i.name.size ≤ maxLen ∧ (a.k = none → a.ck = 0) := by
  obtain ⟨a, rfl, hsz⟩ := okWide_struct Try.underlying42 hv
  rw [cells_keyed] at hsz
  obtain ⟨fuel, hf⟩ := h
  obtain ⟨xs, n, _, _, hcl, hxl, hat⟩ := DataW.trod_struct Try.underlying42 hf
  obtain ⟨l⟩ := a
  obtain ⟨c0, c1, c2, c3, c4, c5, c6, c7, c8, c9, c10, c11, c12, c13, c14, c15, c16, c17, c18, c19, c20, c21, c22, c23, c24, c25, c26, c27, c28, c29, c30, c31, c32, c33, c34, c35, c36, c37, c38, rfl⟩ := list39 (show l.length = 39 from hsz)
  obtain ⟨e0, e1, e2, e3, e4, e5, e6, rfl⟩ := list7 (show xs.length = 7 from hxl)
  have h0 : DataW.trod enc Try.prog W 0 (fun _ => true) true n 40 ((([c0, c1, c2, c3, c4, c5, c6, c7, c8, c9, c10, c11, c12, c13, c14, c15, c16, c17, c18, c19, c20, c21, c22, c23, c24, c25, c26, c27, c28, c29, c30, c31, c32, c33, c34, c35, c36, c37, c38] : List Value).drop 0).take (Try.prog.cellsOf 40)) = some e0 := hat 0 _ rfl
  rw [cells_inst] at h0
  have h1 : DataW.trod enc Try.prog W 0 (fun _ => true) true n 3 ((([c0, c1, c2, c3, c4, c5, c6, c7, c8, c9, c10, c11, c12, c13, c14, c15, c16, c17, c18, c19, c20, c21, c22, c23, c24, c25, c26, c27, c28, c29, c30, c31, c32, c33, c34, c35, c36, c37, c38] : List Value).drop 33).take (Try.prog.cellsOf 3)) = some e1 := hat 1 _ rfl
  rw [cells_int] at h1
  have h2 : DataW.trod enc Try.prog W 0 (fun _ => true) true n 3 ((([c0, c1, c2, c3, c4, c5, c6, c7, c8, c9, c10, c11, c12, c13, c14, c15, c16, c17, c18, c19, c20, c21, c22, c23, c24, c25, c26, c27, c28, c29, c30, c31, c32, c33, c34, c35, c36, c37, c38] : List Value).drop 34).take (Try.prog.cellsOf 3)) = some e2 := hat 2 _ rfl
  rw [cells_int] at h2
  have h3 : DataW.trod enc Try.prog W 0 (fun _ => true) true n 3 ((([c0, c1, c2, c3, c4, c5, c6, c7, c8, c9, c10, c11, c12, c13, c14, c15, c16, c17, c18, c19, c20, c21, c22, c23, c24, c25, c26, c27, c28, c29, c30, c31, c32, c33, c34, c35, c36, c37, c38] : List Value).drop 35).take (Try.prog.cellsOf 3)) = some e3 := hat 3 _ rfl
  rw [cells_int] at h3
  have h4 : DataW.trod enc Try.prog W 0 (fun _ => true) true n 3 ((([c0, c1, c2, c3, c4, c5, c6, c7, c8, c9, c10, c11, c12, c13, c14, c15, c16, c17, c18, c19, c20, c21, c22, c23, c24, c25, c26, c27, c28, c29, c30, c31, c32, c33, c34, c35, c36, c37, c38] : List Value).drop 36).take (Try.prog.cellsOf 3)) = some e4 := hat 4 _ rfl
  rw [cells_int] at h4
  have h5 : DataW.trod enc Try.prog W 0 (fun _ => true) true n 3 ((([c0, c1, c2, c3, c4, c5, c6, c7, c8, c9, c10, c11, c12, c13, c14, c15, c16, c17, c18, c19, c20, c21, c22, c23, c24, c25, c26, c27, c28, c29, c30, c31, c32, c33, c34, c35, c36, c37, c38] : List Value).drop 37).take (Try.prog.cellsOf 3)) = some e5 := hat 5 _ rfl
  rw [cells_int] at h5
  have h6 : DataW.trod enc Try.prog W 0 (fun _ => true) true n 3 ((([c0, c1, c2, c3, c4, c5, c6, c7, c8, c9, c10, c11, c12, c13, c14, c15, c16, c17, c18, c19, c20, c21, c22, c23, c24, c25, c26, c27, c28, c29, c30, c31, c32, c33, c34, c35, c36, c37, c38] : List Value).drop 38).take (Try.prog.cellsOf 3)) = some e6 := hat 6 _ rfl
  rw [cells_int] at h6
  obtain ⟨i, a, q0, hd, hm⟩ := open_inst h0
  obtain ⟨z0, r0, _, _⟩ := DataW.trod_int Try.underlying3 h1
  have r0' : c33 = .int .i64 z0 := by simpa using r0
  obtain ⟨z1, r1, _, _⟩ := DataW.trod_int Try.underlying3 h2
  have r1' : c34 = .int .i64 z1 := by simpa using r1
  obtain ⟨z2, r2, _, _⟩ := DataW.trod_int Try.underlying3 h3
  have r2' : c35 = .int .i64 z2 := by simpa using r2
  obtain ⟨z3, r3, _, _⟩ := DataW.trod_int Try.underlying3 h4
  have r3' : c36 = .int .i64 z3 := by simpa using r3
  obtain ⟨z4, r4, _, _⟩ := DataW.trod_int Try.underlying3 h5
  have r4' : c37 = .int .i64 z4 := by simpa using r4
  obtain ⟨z5, r5, _, _⟩ := DataW.trod_int Try.underlying3 h6
  have r5' : c38 = .int .i64 z5 := by simpa using r5
  have q0' : ([c0, c1, c2, c3, c4, c5, c6, c7, c8, c9, c10, c11, c12, c13, c14, c15, c16, c17, c18, c19, c20, c21, c22, c23, c24, c25, c26, c27, c28, c29, c30, c31, c32] : List Value) = IL i a := q0
  refine ⟨⟨i, z0, z1, z2, z3, z4, z5⟩, a, ?_, hd, hm⟩
  rw [r0', r1', r2', r3', r4', r5']
  show Value.agg (List.toArray ([c0, c1, c2, c3, c4, c5, c6, c7, c8, c9, c10, c11, c12, c13, c14, c15, c16, c17, c18, c19, c20, c21, c22, c23, c24, c25, c26, c27, c28, c29, c30, c31, c32] ++ [.int .i64 z0, .int .i64 z1, .int .i64 z2, .int .i64 z3, .int .i64 z4, .int .i64 z5])) = _
  rw [q0']
  rfl
end
end Go.Proofs.Ytcchfahdgmcpbaa

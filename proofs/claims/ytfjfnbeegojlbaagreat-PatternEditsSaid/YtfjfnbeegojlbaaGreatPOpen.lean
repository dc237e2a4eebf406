/-
  What a reading of the laws' arguments gives: cells, patterns and what the laws over Work are given, as values with their cells in memory.
-/
import Derived.Test.YtfjfnbeegojlbaaGreatPWork
import Derived.ProofKit
import Derived.WideKeyArgs
import Derived.Deep.SlicePairs
namespace Go.Proofs.YtfjfnbeegojlbaaGreat
open Go.ChangeShapes Go.WideShapes Go.ChangeAt Go.RowKit

theorem cells_int : Tryz.prog.cellsOf 3 = 1 := by kernel_rfl
theorem cells_bool : Tryz.prog.cellsOf 4 = 1 := by kernel_rfl
theorem cells_pat : Tryz.prog.cellsOf 24 = 2 := by kernel_rfl
theorem cells_cell : Tryz.prog.cellsOf 28 = 6 := by kernel_rfl
theorem cells_cells : Tryz.prog.cellsOf 22 = 1 := by kernel_rfl
theorem cells_area : Tryz.prog.cellsOf 26 = 4 := by kernel_rfl
theorem cells_work : Tryz.prog.cellsOf 30 = 22 := by kernel_rfl
theorem list2 {α : Type} : ∀ {l : List α}, l.length = 2 → ∃ c0 c1, l = [c0, c1]
  | c0 :: c1 :: [], _ => ⟨c0, c1, rfl⟩
theorem list4 {α : Type} : ∀ {l : List α}, l.length = 4 → ∃ c0 c1 c2 c3, l = [c0, c1, c2, c3]
  | c0 :: c1 :: c2 :: c3 :: [], _ => ⟨c0, c1, c2, c3, rfl⟩
theorem list6 {α : Type} : ∀ {l : List α}, l.length = 6 → ∃ c0 c1 c2 c3 c4 c5, l = [c0, c1, c2, c3, c4, c5]
  | c0 :: c1 :: c2 :: c3 :: c4 :: c5 :: [], _ => ⟨c0, c1, c2, c3, c4, c5, rfl⟩
theorem list12 {α : Type} : ∀ {l : List α}, l.length = 12 → ∃ c0 c1 c2 c3 c4 c5 c6 c7 c8 c9 c10 c11, l = [c0, c1, c2, c3, c4, c5, c6, c7, c8, c9, c10, c11]
  | c0 :: c1 :: c2 :: c3 :: c4 :: c5 :: c6 :: c7 :: c8 :: c9 :: c10 :: c11 :: [], _ => ⟨c0, c1, c2, c3, c4, c5, c6, c7, c8, c9, c10, c11, rfl⟩
theorem list22 {α : Type} : ∀ {l : List α}, l.length = 22 → ∃ c0 c1 c2 c3 c4 c5 c6 c7 c8 c9 c10 c11 c12 c13 c14 c15 c16 c17 c18 c19 c20 c21, l = [c0, c1, c2, c3, c4, c5, c6, c7, c8, c9, c10, c11, c12, c13, c14, c15, c16, c17, c18, c19, c20, c21]
  | c0 :: c1 :: c2 :: c3 :: c4 :: c5 :: c6 :: c7 :: c8 :: c9 :: c10 :: c11 :: c12 :: c13 :: c14 :: c15 :: c16 :: c17 :: c18 :: c19 :: c20 :: c21 :: [], _ => ⟨c0, c1, c2, c3, c4, c5, c6, c7, c8, c9, c10, c11, c12, c13, c14, c15, c16, c17, c18, c19, c20, c21, rfl⟩
section
variable {H : Type} {enc : TypeId × Value → H} {W : World} {fuel : Nat}
theorem open_cell {cs : List Value} {y : DataW H × List MemPlace} (h : DataW.trod enc Tryz.prog W 0 (fun _ => true) true fuel 28 cs = some y) : ∃ c : Pt.Cl, cs = CL c := by
  obtain ⟨xs, n, _, _, hcl, hxl, hat⟩ := DataW.trod_struct Tryz.underlying28 h
  rw [cells_cell] at hcl
  obtain ⟨c0, c1, c2, c3, c4, c5, rfl⟩ := list6 hcl
  obtain ⟨e0, e1, e2, e3, e4, e5, rfl⟩ := list6 (show xs.length = 6 from hxl)
  have h0 : DataW.trod enc Tryz.prog W 0 (fun _ => true) true n 3 ((([c0, c1, c2, c3, c4, c5] : List Value).drop 0).take (Tryz.prog.cellsOf 3)) = some e0 := hat 0 _ rfl
  rw [cells_int] at h0
  have h1 : DataW.trod enc Tryz.prog W 0 (fun _ => true) true n 3 ((([c0, c1, c2, c3, c4, c5] : List Value).drop 1).take (Tryz.prog.cellsOf 3)) = some e1 := hat 1 _ rfl
  rw [cells_int] at h1
  have h2 : DataW.trod enc Tryz.prog W 0 (fun _ => true) true n 3 ((([c0, c1, c2, c3, c4, c5] : List Value).drop 2).take (Tryz.prog.cellsOf 3)) = some e2 := hat 2 _ rfl
  rw [cells_int] at h2
  have h3 : DataW.trod enc Tryz.prog W 0 (fun _ => true) true n 3 ((([c0, c1, c2, c3, c4, c5] : List Value).drop 3).take (Tryz.prog.cellsOf 3)) = some e3 := hat 3 _ rfl
  rw [cells_int] at h3
  have h4 : DataW.trod enc Tryz.prog W 0 (fun _ => true) true n 3 ((([c0, c1, c2, c3, c4, c5] : List Value).drop 4).take (Tryz.prog.cellsOf 3)) = some e4 := hat 4 _ rfl
  rw [cells_int] at h4
  have h5 : DataW.trod enc Tryz.prog W 0 (fun _ => true) true n 3 ((([c0, c1, c2, c3, c4, c5] : List Value).drop 5).take (Tryz.prog.cellsOf 3)) = some e5 := hat 5 _ rfl
  rw [cells_int] at h5
  obtain ⟨z0, q0, _, _⟩ := DataW.trod_int Tryz.underlying3 h0
  have q0' : c0 = .int .i64 z0 := by simpa using q0
  obtain ⟨z1, q1, _, _⟩ := DataW.trod_int Tryz.underlying3 h1
  have q1' : c1 = .int .i64 z1 := by simpa using q1
  obtain ⟨z2, q2, _, _⟩ := DataW.trod_int Tryz.underlying3 h2
  have q2' : c2 = .int .i64 z2 := by simpa using q2
  obtain ⟨z3, q3, _, _⟩ := DataW.trod_int Tryz.underlying3 h3
  have q3' : c3 = .int .i64 z3 := by simpa using q3
  obtain ⟨z4, q4, _, _⟩ := DataW.trod_int Tryz.underlying3 h4
  have q4' : c4 = .int .i64 z4 := by simpa using q4
  obtain ⟨z5, q5, _, _⟩ := DataW.trod_int Tryz.underlying3 h5
  have q5' : c5 = .int .i64 z5 := by simpa using q5
  exact ⟨⟨z0, z1, z2, z3, z4, z5⟩, by rw [q0', q1', q2', q3', q4', q5']; rfl⟩
theorem open_area {cs : List Value} {y : DataW H × List MemPlace} (h : DataW.trod enc Tryz.prog W 0 (fun _ => true) true fuel 26 cs = some y) : ∃ a : Pt.Ar, cs = [.int .i64 a.r, .int .i64 a.c, .int .i64 a.h, .int .i64 a.w] := by
  obtain ⟨xs, n, _, _, hcl, hxl, hat⟩ := DataW.trod_struct Tryz.underlying26 h
  rw [cells_area] at hcl
  obtain ⟨c0, c1, c2, c3, rfl⟩ := list4 hcl
  obtain ⟨e0, e1, e2, e3, rfl⟩ := list4 (show xs.length = 4 from hxl)
  have h0 : DataW.trod enc Tryz.prog W 0 (fun _ => true) true n 3 ((([c0, c1, c2, c3] : List Value).drop 0).take (Tryz.prog.cellsOf 3)) = some e0 := hat 0 _ rfl
  rw [cells_int] at h0
  have h1 : DataW.trod enc Tryz.prog W 0 (fun _ => true) true n 3 ((([c0, c1, c2, c3] : List Value).drop 1).take (Tryz.prog.cellsOf 3)) = some e1 := hat 1 _ rfl
  rw [cells_int] at h1
  have h2 : DataW.trod enc Tryz.prog W 0 (fun _ => true) true n 3 ((([c0, c1, c2, c3] : List Value).drop 2).take (Tryz.prog.cellsOf 3)) = some e2 := hat 2 _ rfl
  rw [cells_int] at h2
  have h3 : DataW.trod enc Tryz.prog W 0 (fun _ => true) true n 3 ((([c0, c1, c2, c3] : List Value).drop 3).take (Tryz.prog.cellsOf 3)) = some e3 := hat 3 _ rfl
  rw [cells_int] at h3
  obtain ⟨z0, q0, _, _⟩ := DataW.trod_int Tryz.underlying3 h0
  have q0' : c0 = .int .i64 z0 := by simpa using q0
  obtain ⟨z1, q1, _, _⟩ := DataW.trod_int Tryz.underlying3 h1
  have q1' : c1 = .int .i64 z1 := by simpa using q1
  obtain ⟨z2, q2, _, _⟩ := DataW.trod_int Tryz.underlying3 h2
  have q2' : c2 = .int .i64 z2 := by simpa using q2
  obtain ⟨z3, q3, _, _⟩ := DataW.trod_int Tryz.underlying3 h3
  have q3' : c3 = .int .i64 z3 := by simpa using q3
  exact ⟨⟨z0, z1, z2, z3⟩, by rw [q0', q1', q2', q3']⟩
/-- The cells that lie there, one after the other. -/
theorem choose_cells {a : Addr} {m : Nat} (hx : ∀ i, i < m → ∃ c : Pt.Cl, ∀ j v, (CL c)[j]? = some v → W.cell? ((a.add (i * 6)).add j) = some v) : ∃ l : List Pt.Cl, l.length = m ∧ ∀ i, i < m → ∀ j v, (CL (Pt.at' l i))[j]? = some v → W.cell? ((a.add (i * 6)).add j) = some v := by
  refine ⟨Pt.mk m fun i => if h : i < m then (hx i h).choose else Pt.zc, Pt.mk_len _ _, fun i hi => ?_⟩
  rw [Pt.mk_at _ _ hi, dif_pos hi]
  exact (hx i hi).choose_spec
theorem open_cells {c : Value} {y : DataW H × List MemPlace} (h : DataW.trod enc Tryz.prog W 0 (fun _ => true) true fuel 22 [c] = some y) :
    ∃ (l : List Pt.Cl) (p : Option Addr) (cap : Nat), c = .slice p l.length cap ∧ CellsAt W p l ∧ l.length ≤ cap ∧ cap ≤ maxLen := by
  rcases Go.Deep.open_slice Tryz.underlying22 h with ⟨hc, _⟩ | ⟨a, len, cap, m, n, D, Pl, hc, _, hl, hm, hmm, _, hx⟩
  · exact ⟨[], none, 0, by simpa using hc, .inl rfl, Nat.le_refl _, Nat.zero_le _⟩
  · simp only [if_true] at hmm
    subst hmm
    obtain ⟨l, hll, hlx⟩ := choose_cells (a := a) (m := len) (W := W) fun i hi => by
      obtain ⟨cs', h1, h2⟩ := hx i (by omega)
      rw [cells_cell] at h1
      obtain ⟨_, hlen, hcell⟩ := World.cells?_some h1
      obtain ⟨c', rfl⟩ := open_cell h2
      refine ⟨c', fun j v hv => ?_⟩
      have hj : j < 6 := by have := (List.getElem?_eq_some_iff.1 hv).1; rwa [cl_len] at this
      rw [hcell j hj]
      exact hv
    refine ⟨l, some a, m, by rw [hll]; simpa using hc, ?_, by rw [hll]; exact hl, hm⟩
    by_cases h0 : len = 0
    · exact .inl (List.eq_nil_of_length_eq_zero (by omega))
    · obtain ⟨b, off, spot⟩ := a
      have h00 := hlx 0 (by omega) 0 _ rfl
      have hspot : spot = none := by
        have := World.cell?_spot h00
        simpa [Addr.add] using this
      subst hspot
      have ad : ∀ o k, Addr.add ⟨b, o, none⟩ k = ⟨b, o + k, none⟩ := fun o k => Addr.add_mid b o k
      refine .inr ⟨b, off, rfl, ?_, rng_mk fun i hi j v hv => ?_⟩
      · have := cell_lt h00
        rw [ad, ad] at this
        exact this
      · have := hlx i (by omega) j v hv
        rwa [ad, ad] at this
theorem open_pat {cs : List Value} {y : DataW H × List MemPlace} (h : DataW.trod enc Tryz.prog W 0 (fun _ => true) true fuel 24 cs = some y) : ∃ (r : Int) (l : List Pt.Cl) (p : Option Addr) (cap : Nat), cs = [.int .i64 r, .slice p l.length cap] ∧ CellsAt W p l ∧ l.length ≤ cap ∧ cap ≤ maxLen := by
  obtain ⟨xs, n, _, _, hcl, hxl, hat⟩ := DataW.trod_struct Tryz.underlying24 h
  rw [cells_pat] at hcl
  obtain ⟨c0, c1, rfl⟩ := list2 hcl
  obtain ⟨e0, e1, rfl⟩ := list2 (show xs.length = 2 from hxl)
  have h0 : DataW.trod enc Tryz.prog W 0 (fun _ => true) true n 3 ((([c0, c1] : List Value).drop 0).take (Tryz.prog.cellsOf 3)) = some e0 := hat 0 _ rfl
  rw [cells_int] at h0
  have h1 : DataW.trod enc Tryz.prog W 0 (fun _ => true) true n 22 ((([c0, c1] : List Value).drop 1).take (Tryz.prog.cellsOf 22)) = some e1 := hat 1 _ rfl
  rw [cells_cells] at h1
  obtain ⟨z0, q0, _, _⟩ := DataW.trod_int Tryz.underlying3 h0
  have q0' : c0 = .int .i64 z0 := by simpa using q0
  obtain ⟨l, p, cap, q1, hd, hc, hm⟩ := open_cells h1
  exact ⟨z0, l, p, cap, by rw [q0', q1], hd, hc, hm⟩
set_option maxRecDepth 20000 in
theorem open_work {cs : List Value} {y : DataW H × List MemPlace} (h : DataW.trod enc Tryz.prog W 0 (fun _ => true) true fuel 30 cs = some y) : ∃ (x : Wk) (p : Option Addr) (cap : Nat) (p2 : Option Addr) (cap2 : Nat), cs = WL x p cap p2 cap2 ∧ (CellsAt W p x.l ∧ x.l.length ≤ cap ∧ cap ≤ maxLen) ∧ CellsAt W p2 x.l2 ∧ x.l2.length ≤ cap2 ∧ cap2 ≤ maxLen := by
  obtain ⟨xs, n, _, _, hcl, hxl, hat⟩ := DataW.trod_struct Tryz.underlying30 h
  rw [cells_work] at hcl
  obtain ⟨c0, c1, c2, c3, c4, c5, c6, c7, c8, c9, c10, c11, c12, c13, c14, c15, c16, c17, c18, c19, c20, c21, rfl⟩ := list22 hcl
  obtain ⟨e0, e1, e2, e3, e4, e5, e6, e7, e8, e9, e10, e11, rfl⟩ := list12 (show xs.length = 12 from hxl)
  have h0 : DataW.trod enc Tryz.prog W 0 (fun _ => true) true n 24 ((([c0, c1, c2, c3, c4, c5, c6, c7, c8, c9, c10, c11, c12, c13, c14, c15, c16, c17, c18, c19, c20, c21] : List Value).drop 0).take (Tryz.prog.cellsOf 24)) = some e0 := hat 0 _ rfl
  rw [cells_pat] at h0
  have h1 : DataW.trod enc Tryz.prog W 0 (fun _ => true) true n 24 ((([c0, c1, c2, c3, c4, c5, c6, c7, c8, c9, c10, c11, c12, c13, c14, c15, c16, c17, c18, c19, c20, c21] : List Value).drop 2).take (Tryz.prog.cellsOf 24)) = some e1 := hat 1 _ rfl
  rw [cells_pat] at h1
  have h2 : DataW.trod enc Tryz.prog W 0 (fun _ => true) true n 3 ((([c0, c1, c2, c3, c4, c5, c6, c7, c8, c9, c10, c11, c12, c13, c14, c15, c16, c17, c18, c19, c20, c21] : List Value).drop 4).take (Tryz.prog.cellsOf 3)) = some e2 := hat 2 _ rfl
  rw [cells_int] at h2
  have h3 : DataW.trod enc Tryz.prog W 0 (fun _ => true) true n 3 ((([c0, c1, c2, c3, c4, c5, c6, c7, c8, c9, c10, c11, c12, c13, c14, c15, c16, c17, c18, c19, c20, c21] : List Value).drop 5).take (Tryz.prog.cellsOf 3)) = some e3 := hat 3 _ rfl
  rw [cells_int] at h3
  have h4 : DataW.trod enc Tryz.prog W 0 (fun _ => true) true n 3 ((([c0, c1, c2, c3, c4, c5, c6, c7, c8, c9, c10, c11, c12, c13, c14, c15, c16, c17, c18, c19, c20, c21] : List Value).drop 6).take (Tryz.prog.cellsOf 3)) = some e4 := hat 4 _ rfl
  rw [cells_int] at h4
  have h5 : DataW.trod enc Tryz.prog W 0 (fun _ => true) true n 3 ((([c0, c1, c2, c3, c4, c5, c6, c7, c8, c9, c10, c11, c12, c13, c14, c15, c16, c17, c18, c19, c20, c21] : List Value).drop 7).take (Tryz.prog.cellsOf 3)) = some e5 := hat 5 _ rfl
  rw [cells_int] at h5
  have h6 : DataW.trod enc Tryz.prog W 0 (fun _ => true) true n 3 ((([c0, c1, c2, c3, c4, c5, c6, c7, c8, c9, c10, c11, c12, c13, c14, c15, c16, c17, c18, c19, c20, c21] : List Value).drop 8).take (Tryz.prog.cellsOf 3)) = some e6 := hat 6 _ rfl
  rw [cells_int] at h6
  have h7 : DataW.trod enc Tryz.prog W 0 (fun _ => true) true n 3 ((([c0, c1, c2, c3, c4, c5, c6, c7, c8, c9, c10, c11, c12, c13, c14, c15, c16, c17, c18, c19, c20, c21] : List Value).drop 9).take (Tryz.prog.cellsOf 3)) = some e7 := hat 7 _ rfl
  rw [cells_int] at h7
  have h8 : DataW.trod enc Tryz.prog W 0 (fun _ => true) true n 26 ((([c0, c1, c2, c3, c4, c5, c6, c7, c8, c9, c10, c11, c12, c13, c14, c15, c16, c17, c18, c19, c20, c21] : List Value).drop 10).take (Tryz.prog.cellsOf 26)) = some e8 := hat 8 _ rfl
  rw [cells_area] at h8
  have h9 : DataW.trod enc Tryz.prog W 0 (fun _ => true) true n 3 ((([c0, c1, c2, c3, c4, c5, c6, c7, c8, c9, c10, c11, c12, c13, c14, c15, c16, c17, c18, c19, c20, c21] : List Value).drop 14).take (Tryz.prog.cellsOf 3)) = some e9 := hat 9 _ rfl
  rw [cells_int] at h9
  have h10 : DataW.trod enc Tryz.prog W 0 (fun _ => true) true n 28 ((([c0, c1, c2, c3, c4, c5, c6, c7, c8, c9, c10, c11, c12, c13, c14, c15, c16, c17, c18, c19, c20, c21] : List Value).drop 15).take (Tryz.prog.cellsOf 28)) = some e10 := hat 10 _ rfl
  rw [cells_cell] at h10
  have h11 : DataW.trod enc Tryz.prog W 0 (fun _ => true) true n 4 ((([c0, c1, c2, c3, c4, c5, c6, c7, c8, c9, c10, c11, c12, c13, c14, c15, c16, c17, c18, c19, c20, c21] : List Value).drop 21).take (Tryz.prog.cellsOf 4)) = some e11 := hat 11 _ rfl
  rw [cells_bool] at h11
  obtain ⟨r, l, p, cap, q0, hd, hc, hm⟩ := open_pat h0
  obtain ⟨r2, l2, p2, cap2, q1, hd2, hc2, hm2⟩ := open_pat h1
  obtain ⟨z2, q2, _, _⟩ := DataW.trod_int Tryz.underlying3 h2
  have q2' : c4 = .int .i64 z2 := by simpa using q2
  obtain ⟨z3, q3, _, _⟩ := DataW.trod_int Tryz.underlying3 h3
  have q3' : c5 = .int .i64 z3 := by simpa using q3
  obtain ⟨z4, q4, _, _⟩ := DataW.trod_int Tryz.underlying3 h4
  have q4' : c6 = .int .i64 z4 := by simpa using q4
  obtain ⟨z5, q5, _, _⟩ := DataW.trod_int Tryz.underlying3 h5
  have q5' : c7 = .int .i64 z5 := by simpa using q5
  obtain ⟨z6, q6, _, _⟩ := DataW.trod_int Tryz.underlying3 h6
  have q6' : c8 = .int .i64 z6 := by simpa using q6
  obtain ⟨z7, q7, _, _⟩ := DataW.trod_int Tryz.underlying3 h7
  have q7' : c9 = .int .i64 z7 := by simpa using q7
  obtain ⟨a, q8⟩ := open_area h8
  obtain ⟨z9, q9, _, _⟩ := DataW.trod_int Tryz.underlying3 h9
  have q9' : c14 = .int .i64 z9 := by simpa using q9
  obtain ⟨c, q10⟩ := open_cell h10
  obtain ⟨m, q11, _⟩ := DataW.trod_bool Tryz.underlying4 h11
  have q11' : c21 = .bool m := by simpa using q11
  have q0' : ([c0, c1] : List Value) = _ := q0
  have q1' : ([c2, c3] : List Value) = _ := q1
  have q8' : ([c10, c11, c12, c13] : List Value) = _ := q8
  have q10' : ([c15, c16, c17, c18, c19, c20] : List Value) = _ := q10
  unfold CL at q10'
  simp only [List.cons.injEq, and_true] at q0' q1' q8' q10'
  obtain ⟨u0, u1⟩ := q0'
  obtain ⟨u2, u3⟩ := q1'
  obtain ⟨u4, u5, u6, u7⟩ := q8'
  obtain ⟨u8, u9, u10, u11, u12, u13⟩ := q10'
  refine ⟨⟨r, l, r2, l2, z2, z3, z4, z5, z6, z7, a, z9, c, m⟩, p, cap, p2, cap2, ?_, ⟨hd, hc, hm⟩, hd2, hc2, hm2⟩
  rw [u0, u1, u2, u3, u4, u5, u6, u7, u8, u9, u10, u11, u12, u13, q2', q3', q4', q5', q6', q7', q9', q11']
  rfl
set_option maxRecDepth 100000 in
theorem open_asked {v : Value} {d : DataW H} {ps : List MemPlace} (hv : Value.okWide Tryz.prog W .any 0 30 v) (h : DataW.Trod enc Tryz.prog W 0 (fun _ => true) true 30 v d ps) :
    ∃ (x : Wk) (p : Option Addr) (cap : Nat) (p2 : Option Addr) (cap2 : Nat), v = .agg (WL x p cap p2 cap2).toArray ∧ (CellsAt W p x.l ∧ x.l.length ≤ cap ∧ cap ≤ maxLen) ∧ CellsAt W p2 x.l2 ∧ x.l2.length ≤ cap2 ∧ cap2 ≤ maxLen := by
  obtain ⟨a, rfl, hsz⟩ := okWide_struct Tryz.underlying30 hv
  rw [cells_work] at hsz
  obtain ⟨fuel, hf⟩ := h
  obtain ⟨l⟩ := a
  have hf2 : DataW.trod enc Tryz.prog W 0 (fun _ => true) true fuel 30 l = some (d, ps) := hf
  obtain ⟨x, p, cap, p2, cap2, h1, h2, h3⟩ := open_work hf2
  exact ⟨x, p, cap, p2, cap2, by rw [h1], h2, h3⟩
end
end Go.Proofs.YtfjfnbeegojlbaaGreat

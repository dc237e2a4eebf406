/-
  What a reading of the laws' arguments says of the room behind a sample's frames: no fewer places than frames, and no more than an address space has.
-/
import Derived.Test.YtmaldhjcdkidmaaPOpen
import Derived.SizedLaws
namespace Go.Proofs.Ytmaldhjcdkidmaa
open Go.ChangeShapes Go.WideShapes Go.ChangeAt Go.RowKit

theorem bytes_int : Try.prog.bytesOf 3 = 8 := by kernel_rfl
section
variable {H : Type} {enc : TypeId × Value → H} {W : World} {fuel : Nat}
theorem dat_cap {c : Value} {y : DataW H × List MemPlace} (h : DataW.trod enc Try.prog W 0 (fun _ => true) true fuel 22 [c] = some y) (hw : ∀ x ∈ y.1.weights Try.prog 22, x ≤ reachBytes) {p : Option Addr} {n cap : Nat} (hc : c = .slice p n cap) :
    n ≤ cap ∧ (cap : Int) * 8 ≤ 140737488351232 := by
  subst hc
  rcases open_ints Try.underlying22 Try.underlying3 cells_int h with ⟨hc, _⟩ | ⟨a, len, cp, zs, hc, _, hl, _, hz, hx, _, _⟩
  · simp only [List.cons.injEq, Value.slice.injEq, and_true] at hc
    obtain ⟨_, rfl, rfl⟩ := hc
    exact ⟨Nat.le_refl _, by decide⟩
  · simp only [List.cons.injEq, Value.slice.injEq, and_true] at hc
    obtain ⟨_, rfl, rfl⟩ := hc
    refine ⟨hl, ?_⟩
    have h1 := hw (((lits .i64 (zs.take n) : List (DataW H)).length + (lits .i64 (zs.drop n) : List (DataW H)).length) * Try.prog.bytesOf 3) (by rw [hx]; simp [DataW.weights, Try.underlying22])
    rw [bytes_int] at h1
    simp only [lits, List.length_map, List.length_take, List.length_drop, reachBytes] at h1
    simp only [if_true] at hz
    omega
theorem smp_cap {cs : List Value} {y : DataW H × List MemPlace} (h : DataW.trod enc Try.prog W 0 (fun _ => true) true fuel 24 cs = some y) (hw : ∀ x ∈ y.1.weights Try.prog 24, x ≤ reachBytes) {p : Option Addr} {n cap : Nat} (hc : cs[1]? = some (.slice p n cap)) :
    n ≤ cap ∧ (cap : Int) * 8 ≤ 140737488351232 := by
  obtain ⟨xs, m, _, hy, hcl, hxl, hat⟩ := DataW.trod_struct Try.underlying24 h
  rw [cells_smp] at hcl
  obtain ⟨c0, c1, c2, c3, c4, c5, c6, c7, c8, c9, c10, c11, c12, rfl⟩ := list13 hcl
  obtain ⟨e0, e1, e2, e3, e4, e5, e6, e7, e8, e9, e10, e11, e12, rfl⟩ := list13 (show xs.length = 13 from hxl)
  have h1 : DataW.trod enc Try.prog W 0 (fun _ => true) true m 22 ((([c0, c1, c2, c3, c4, c5, c6, c7, c8, c9, c10, c11, c12] : List Value).drop 1).take (Try.prog.cellsOf 22)) = some e1 := hat 1 _ rfl
  rw [cells_ints] at h1
  refine dat_cap (c := c1) h1 (fun x hx => hw x ?_) (by simpa using hc)
  rw [hy]
  simp only [DataW.weights, Try.underlying24]
  exact DataW.weights_mem_each (j := 1) rfl rfl x hx
theorem sample_cap {s : Sm.Smp} {p : Option Addr} {cap : Nat} {d : DataW H} {ps : List MemPlace} (h : DataW.Trod enc Try.prog W 0 (fun _ => true) true 24 (SV s p cap) d ps) (hw : ∀ x ∈ d.weights Try.prog 24, x ≤ reachBytes) :
    s.dat.length ≤ cap ∧ (cap : Int) * 8 ≤ 140737488351232 := by
  obtain ⟨fuel, hf⟩ := h
  exact smp_cap hf hw rfl
theorem ask_cap {x : Ak} {p : Option Addr} {cap : Nat} {d : DataW H} {ps : List MemPlace} (h : DataW.Trod enc Try.prog W 0 (fun _ => true) true 28 (AV x p cap) d ps) (hw : ∀ z ∈ d.weights Try.prog 28, z ≤ reachBytes) :
    x.s.dat.length ≤ cap ∧ (cap : Int) * 8 ≤ 140737488351232 := by
  obtain ⟨fuel, hf⟩ := h
  obtain ⟨xs, n, _, hy, hcl, hxl, hat⟩ := DataW.trod_struct Try.underlying28 hf
  obtain ⟨e0, e1, e2, e3, e4, e5, e6, e7, e8, e9, e10, e11, e12, rfl⟩ := list13 (show xs.length = 13 from hxl)
  have h0 : DataW.trod enc Try.prog W 0 (fun _ => true) true n 24 (((AV x p cap).cells.toList.drop 0).take (Try.prog.cellsOf 24)) = some e0 := hat 0 _ rfl
  rw [cells_smp] at h0
  refine smp_cap h0 (fun z hz => hw z ?_) rfl
  have hd : d = _ := congrArg Prod.fst hy
  rw [hd]
  simp only [DataW.weights, Try.underlying28]
  exact DataW.weights_mem_each (j := 0) rfl rfl z hz
end
end Go.Proofs.Ytmaldhjcdkidmaa

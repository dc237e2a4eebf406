/-
  What a reading of the laws' arguments says of a sample without an address: it has no room.
-/
import Derived.Test.YtmaldhjcdkidmaaPOpen
namespace Go.Proofs.Ytmaldhjcdkidmaa
open Go.ChangeShapes Go.WideShapes Go.ChangeAt Go.RowKit

section
variable {H : Type} {enc : TypeId × Value → H} {W : World} {fuel : Nat}
theorem dat_nil {c : Value} {y : DataW H × List MemPlace} (h : DataW.trod enc Try.prog W 0 (fun _ => true) true fuel 22 [c] = some y) {p : Option Addr} {n cap : Nat} (hc : c = .slice p n cap) : p = none → cap = 0 := by
  subst hc
  rintro rfl
  rcases open_ints Try.underlying22 Try.underlying3 cells_int h with ⟨hc, _⟩ | ⟨a, len, cp, zs, hc, _⟩
  · simp only [List.cons.injEq, Value.slice.injEq, and_true] at hc
    exact hc.2.2
  · simp at hc
theorem smp_nil {cs : List Value} {y : DataW H × List MemPlace} (h : DataW.trod enc Try.prog W 0 (fun _ => true) true fuel 24 cs = some y) {p : Option Addr} {n cap : Nat} (hc : cs[1]? = some (.slice p n cap)) : p = none → cap = 0 := by
  obtain ⟨xs, m, _, _, hcl, hxl, hat⟩ := DataW.trod_struct Try.underlying24 h
  rw [cells_smp] at hcl
  obtain ⟨c0, c1, c2, c3, c4, c5, c6, c7, c8, c9, c10, c11, c12, rfl⟩ := list13 hcl
  obtain ⟨e0, e1, e2, e3, e4, e5, e6, e7, e8, e9, e10, e11, e12, rfl⟩ := list13 (show xs.length = 13 from hxl)
  have h1 : DataW.trod enc Try.prog W 0 (fun _ => true) true m 22 ((([c0, c1, c2, c3, c4, c5, c6, c7, c8, c9, c10, c11, c12] : List Value).drop 1).take (Try.prog.cellsOf 22)) = some e1 := hat 1 _ rfl
  rw [cells_ints] at h1
  exact dat_nil (c := c1) h1 (by simpa using hc)
theorem ask_nil {x : Ak} {p : Option Addr} {cap : Nat} {d : DataW H} {ps : List MemPlace} (h : DataW.Trod enc Try.prog W 0 (fun _ => true) true 28 (AV x p cap) d ps) : p = none → cap = 0 := by
  obtain ⟨fuel, hf⟩ := h
  obtain ⟨xs, n, _, _, hcl, hxl, hat⟩ := DataW.trod_struct Try.underlying28 hf
  obtain ⟨e0, e1, e2, e3, e4, e5, e6, e7, e8, e9, e10, e11, e12, rfl⟩ := list13 (show xs.length = 13 from hxl)
  have h0 : DataW.trod enc Try.prog W 0 (fun _ => true) true n 24 (((AV x p cap).cells.toList.drop 0).take (Try.prog.cellsOf 24)) = some e0 := hat 0 _ rfl
  rw [cells_smp] at h0
  exact smp_nil h0 rfl
end
end Go.Proofs.Ytmaldhjcdkidmaa

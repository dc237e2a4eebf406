/-
  What a reading of the laws' arguments gives: a pattern, bytes, as values with their cells in memory.
-/
import Derived.Test.YtfjfnbeegojlbaaPOpen
import Derived.Test.YtfjfnbeegojlbaaRPack
import Derived.Deep.Slices
import Derived.OpenShut
namespace Go.Proofs.Ytfjfnbeegojlbaa
open Go.ChangeShapes Go.WideShapes Go.ChangeAt Go.RowKit

theorem cells_byte : Try.prog.cellsOf 5 = 1 := by kernel_rfl
section
variable {H : Type} {enc : TypeId × Value → H} {W : World}
set_option maxRecDepth 100000 in
theorem open_pats {v : Value} {d : DataW H} {ps : List MemPlace} (hv : Value.okWide Try.prog W .any 0 24 v) (h : DataW.Trod enc Try.prog W 0 (fun _ => true) true 24 v d ps) :
    ∃ (r : Int) (l : List Pt.Cl) (p : Option Addr) (cap : Nat), v = PV r p l.length cap ∧ CellsAt W p l ∧ l.length ≤ cap ∧ cap ≤ maxLen := by
  obtain ⟨a, rfl, hsz⟩ := okWide_struct Try.underlying24 hv
  rw [cells_pat] at hsz
  obtain ⟨fuel, hf⟩ := h
  obtain ⟨l⟩ := a
  have hf2 : DataW.trod enc Try.prog W 0 (fun _ => true) true fuel 24 l = some (d, ps) := hf
  obtain ⟨r, l, p, cap, h1, h2, h3, h4⟩ := open_pat hf2
  exact ⟨r, l, p, cap, by rw [h1]; rfl, h2, h3, h4⟩
set_option maxRecDepth 20000 in
theorem open_bys {v : Value} {d : DataW H} {ps : List MemPlace} (hv : Value.okWide Try.prog W .any 0 44 v) (h : DataW.Trod enc Try.prog W 0 (fun _ => true) true 44 v d ps) :
    ∃ (zs : List Int) (p : Option Addr) (cap : Nat), v = .slice p zs.length cap ∧ InB W p zs ∧ zs.length ≤ maxLen ∧ Pt.bys zs ∧ ∀ b off, p = some ⟨b, off, none⟩ → b < W.heap.size := by
  obtain ⟨a0, len0, cap0, rfl⟩ := okWide_slice Try.underlying44 hv
  have hok : ∀ a, a0 = some a → a.block < W.heap.size := fun a e => by
    subst e
    simp only [Value.okWide, Try.underlying44, Cell.okWide, Cell.ok] at hv
    obtain ⟨-, -, -, -, row, cells, hsh, -⟩ := hv
    unfold World.shape? at hsh
    by_cases hlt : a.block < W.heap.size
    · exact hlt
    · rw [Array.getElem?_eq_none (by omega)] at hsh
      simp at hsh
  obtain ⟨fuel, hf⟩ := h
  have h : DataW.trod enc Try.prog W 0 (fun _ => true) true fuel 44 [.slice a0 len0 cap0] = some (d, ps) := hf
  rcases open_ints Try.underlying44 Try.underlying5 cells_byte h with ⟨hc, _⟩ | ⟨a, len, cap, zs, hc, _, hl, hm, hz, hx, hcell, hwf⟩
  · exact ⟨[], none, 0, by simpa using hc, .inl rfl, by simp, fun x hx => absurd hx (by simp), fun _ _ e => by simp at e⟩
  · simp only [if_true] at hz
    refine ⟨zs.take len, some a, cap, ?_, ?_, ?_, fun x hx => by have := bounds_u8 (hwf x (List.mem_of_mem_take hx)); omega, fun b off e => ?_⟩
    · rw [List.length_take, Nat.min_eq_left (by omega)]
      simpa using hc
    · by_cases h0 : len = 0
      · left; rw [h0]; simp
      · right
        have hp : 0 < zs.length := by omega
        obtain ⟨b, off, spot⟩ := a
        have hspot : spot = none := by simpa [Addr.add] using World.cell?_spot (hcell 0 hp)
        subst hspot
        refine ⟨b, off, rfl, ?_, fun i u hi => ?_⟩
        · have := cell_lt (hcell 0 hp)
          simpa [Addr.add] using this
        · have hlt : i < (zs.take len).length := by have := (List.getElem?_eq_some_iff.1 hi).1; simpa [bb] using this
          have e2 := bb_get hlt
          rw [e2] at hi
          cases hi
          rw [List.length_take, Nat.min_eq_left (by omega)] at hlt
          have := hcell i (by omega)
          rw [Addr.add_mid] at this
          rw [this, List.getD_eq_getElem?_getD, List.getD_eq_getElem?_getD, List.getElem?_take, if_pos hlt]
    · rw [List.length_take, Nat.min_eq_left (by omega)]
      omega
    · have h0 : a0 = some a := by
        have := hc
        simp at this
        exact this.1
      have := hok a h0
      have e' : a = ⟨b, off, none⟩ := by simpa using e
      rw [e'] at this
      exact this
end
end Go.Proofs.Ytfjfnbeegojlbaa

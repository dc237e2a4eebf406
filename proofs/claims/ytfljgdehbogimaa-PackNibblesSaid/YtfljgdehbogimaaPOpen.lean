/-
  What a reading of the laws' arguments gives: numbers, lists of numbers and of bytes as they lie in memory, no more of them than an address space has.
-/
import Derived.Test.YtfljgdehbogimaaBase
import Derived.ProofKit
import Derived.WideKeyArgs
import Derived.Deep.Slices
import Derived.SizedLaws
import Derived.OpenShut
namespace Go.Proofs.Ytfljgdehbogimaa
open Go.ChangeShapes Go.WideShapes Go.ChangeAt Go.RowKit

theorem cells_int : Try.prog.cellsOf 3 = 1 := by kernel_rfl
theorem cells_byte : Try.prog.cellsOf 5 = 1 := by kernel_rfl
theorem bytes_int : Try.prog.bytesOf 3 = 8 := by kernel_rfl
theorem bytes_byte : Try.prog.bytesOf 5 = 1 := by kernel_rfl
section
variable {H : Type} {enc : TypeId × Value → H} {W : World}
set_option maxRecDepth 20000 in
/-- A slice of numbers as a list, wherever it lies. -/
theorem open_row {t e : TypeId} {k : IntKind} (ht : Try.prog.underlying t = some (.slice e)) (he : Try.prog.underlying e = some (.int k)) (hc1 : Try.prog.cellsOf e = 1) {B : Nat} (hby : Try.prog.bytesOf e = B) (hB : 1 ≤ B) {v : Value} {d : DataW H} {ps : List MemPlace}
    (hv : Value.okWide Try.prog W .any 0 t v) (h : DataW.Trod enc Try.prog W 0 (fun _ => true) true t v d ps) (hw : ∀ x ∈ d.weights Try.prog t, x ≤ reachBytes) :
    ∃ (zs : List Int) (p : Option Addr) (cap : Nat), v = .slice p zs.length cap ∧ KAt k W p zs ∧ (zs.length : Int) ≤ 140737488351232 ∧ ∀ x ∈ zs, (Lit.int k x).wf = true := by
  obtain ⟨a0, len0, cap0, rfl⟩ := okWide_slice ht hv
  obtain ⟨fuel, hf⟩ := h
  have h : DataW.trod enc Try.prog W 0 (fun _ => true) true fuel t [.slice a0 len0 cap0] = some (d, ps) := hf
  rcases open_ints ht he hc1 h with ⟨hc, _⟩ | ⟨a, len, cap, zs, hc, _, hl, hm, hz, hx, hcell, hwf⟩
  · refine ⟨[], none, 0, by simpa using hc, .inl rfl, by simp, fun x hx => absurd hx (by simp)⟩
  · simp only [if_true] at hz
    have hd := congrArg Prod.fst hx
    simp only at hd
    have h1 := hw (((lits k (zs.take len) : List (DataW H)).length + (lits k (zs.drop len) : List (DataW H)).length) * Try.prog.bytesOf e) (by rw [hd]; simp [DataW.weights, ht])
    rw [hby] at h1
    simp only [lits, List.length_map, List.length_take, List.length_drop, reachBytes] at h1
    have h2 : (min len zs.length + (zs.length - len)) * 1 ≤ (min len zs.length + (zs.length - len)) * B := Nat.mul_le_mul_left _ hB
    unfold maxLen at hm
    refine ⟨zs.take len, some a, cap, ?_, ?_, ?_, fun x hx => hwf x (List.mem_of_mem_take hx)⟩
    · rw [List.length_take, Nat.min_eq_left (by omega)]
      simpa using hc
    · by_cases h0 : len = 0
      · left; rw [h0]; simp
      · right
        have hp : 0 < zs.length := by omega
        obtain ⟨b, off, spot⟩ := a
        have hspot : spot = none := by simpa [Addr.add] using World.cell?_spot (hcell 0 hp)
        subst hspot
        refine ⟨b, off, rfl, ?_, fun i hi => ?_⟩
        · have := cell_lt (hcell 0 hp)
          simpa [Addr.add] using this
        · rw [List.length_take, Nat.min_eq_left (by omega)] at hi
          have := hcell i (by omega)
          have e : Addr.add ⟨b, off, none⟩ i = ⟨b, off + i, none⟩ := by
            unfold Addr.add
            by_cases h : i = 0 <;> simp [h]
          rw [e] at this
          rw [this, List.getD_eq_getElem?_getD, List.getD_eq_getElem?_getD, List.getElem?_take, if_pos hi]
    · rw [List.length_take, Nat.min_eq_left (by omega)]
      omega
set_option maxRecDepth 20000 in
theorem open_dats {v : Value} {d : DataW H} {ps : List MemPlace} (hv : Value.okWide Try.prog W .any 0 22 v) (h : DataW.Trod enc Try.prog W 0 (fun _ => true) true 22 v d ps) (hw : ∀ x ∈ d.weights Try.prog 22, x ≤ reachBytes) :
    ∃ (zs : List Int) (p : Option Addr) (cap : Nat), v = .slice p zs.length cap ∧ DatAt W p zs ∧ (zs.length : Int) ≤ 140737488351232 ∧ ∀ x ∈ zs, -9223372036854775808 ≤ x ∧ x ≤ 9223372036854775807 := by
  obtain ⟨zs, p, cap, h1, h2, h3, h4⟩ := open_row Try.underlying22 Try.underlying3 cells_int bytes_int (by omega) hv h hw
  exact ⟨zs, p, cap, h1, h2, h3, fun x hx => bounds_i64 (h4 x hx)⟩
set_option maxRecDepth 20000 in
theorem open_byts {v : Value} {d : DataW H} {ps : List MemPlace} (hv : Value.okWide Try.prog W .any 0 24 v) (h : DataW.Trod enc Try.prog W 0 (fun _ => true) true 24 v d ps) (hw : ∀ x ∈ d.weights Try.prog 24, x ≤ reachBytes) :
    ∃ (zs : List Int) (p : Option Addr) (cap : Nat), v = .slice p zs.length cap ∧ BytAt W p zs ∧ (zs.length : Int) ≤ 140737488351232 ∧ ∀ x ∈ zs, 0 ≤ x ∧ x < 256 := by
  obtain ⟨zs, p, cap, h1, h2, h3, h4⟩ := open_row Try.underlying24 Try.underlying5 cells_byte bytes_byte (by omega) hv h hw
  exact ⟨zs, p, cap, h1, h2, h3, fun x hx => by have := bounds_u8 (h4 x hx); omega⟩
end
end Go.Proofs.Ytfljgdehbogimaa

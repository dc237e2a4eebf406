/-
  A struct whose fields are all ints, by value: what a reading of it gives, and the reading from such numbers, in whatever memory.
-/
import Derived.Lib.SmallJoins
import Derived.Deep.Fields
import Derived.ProofKit
namespace Go.Proofs.YtfjfnbeegojlbaaDoor
open Go.ChangeShapes Go.WideShapes Go.ChangeAt Go.RowKit Go.Deep

section
variable {H : Type} {enc : TypeId × Value → H} {P : Program} {w : World} {base : Nat} {spare : Nat → Bool} {held : Bool}

theorem mapM_of_places {α β : Type} {f : α → Option β} : ∀ {l : List α} {r : List β}, l.length = r.length → (∀ (i : Nat) (a : α), l[i]? = some a → f a = r[i]?) → l.mapM f = some r
  | [], [], _, _ => rfl
  | x :: l, y :: r, hl, h => by
    have h0 : f x = some y := by simpa using h 0 x rfl
    have ih := mapM_of_places (f := f) (l := l) (r := r) (by simpa using hl) (fun i a ha => by simpa using h (i + 1) a (by simpa using ha))
    simp [List.mapM_cons, h0, ih]

theorem ints_open {r : Reach} {b0 : Nat} {t : TypeId} {fs : Array Field} {v : Value} {d : DataW H} {p : List MemPlace} (ht : P.underlying t = some (.struct fs)) (hone : oneCellFields P fs = true)
    (hint : ∀ (i : Nat) (f : Field), fs[i]? = some f → P.underlying f.type = some (.int .i64)) (hC : P.cellsOf t = fs.size) (hv : Value.okWide P w r b0 t v) (h : DataW.Trod enc P w base spare held t v d p) :
    ∃ zs : List Int, zs.length = fs.size ∧ v = .agg (zs.map (Value.int .i64)).toArray ∧ d = .agg (zs.map fun z => .lit (.int .i64 z)) ∧ p = [] ∧ ∀ z ∈ zs, (Lit.int .i64 z).wf = true := by
  obtain ⟨cs, rfl, hsz⟩ := okWide_struct ht hv
  obtain ⟨fuel, hf⟩ := h
  obtain ⟨xs, n, _, hx, _, hxl, hat⟩ := DataW.trod_struct ht hf
  simp only [Prod.mk.injEq] at hx
  obtain ⟨rfl, rfl⟩ := hx
  have each : ∀ i, i < fs.size → ∃ z : Int, cs[i]? = some (.int .i64 z) ∧ xs[i]? = some (.lit (.int .i64 z), []) ∧ (Lit.int .i64 z).wf = true := by
    intro i hi
    have hfi : fs[i]? = some fs[i] := by simp [hi]
    obtain ⟨ho, hk⟩ := hone_of hone i _ hfi
    have h1 := hat i _ hfi
    rw [ho, hk] at h1
    have hci : i < cs.size := by omega
    have h2 : (((Value.agg cs).cells.toList.drop i).take 1) = [cs[i]] := by
      show (cs.toList.drop i).take 1 = _
      rw [List.drop_eq_getElem_cons (by simpa using hci)]
      simp
    have hxi : xs[i]? = some (xs[i]'(by omega)) := List.getElem?_eq_getElem (by omega)
    rw [hxi] at h1
    rw [h2] at h1
    obtain ⟨z, e1, e2, e3⟩ := DataW.trod_int (hint i _ hfi) h1
    refine ⟨z, ?_, by rw [hxi, e2], e3⟩
    have : cs[i] = .int .i64 z := by simpa using e1
    simp [hci, this]
  refine ⟨cs.toList.map intOf, by simp; omega, ?_, ?_, ?_, ?_⟩
  · congr 1
    apply Array.ext_getElem?
    intro i
    by_cases hi : i < fs.size
    · obtain ⟨z, e1, _⟩ := each i hi
      simp [e1, intOf]
    · rw [Array.getElem?_eq_none (by omega), Array.getElem?_eq_none (by simp; omega)]
  · congr 1
    apply List.ext_getElem?
    intro i
    by_cases hi : i < fs.size
    · obtain ⟨z, e1, e2, _⟩ := each i hi
      simp [e1, e2, intOf]
    · rw [List.getElem?_eq_none (by simp; omega), List.getElem?_eq_none (by simp; omega)]
  · rw [List.flatMap_eq_nil_iff]
    intro x hx
    obtain ⟨i, hi, rfl⟩ := List.mem_iff_getElem.1 hx
    obtain ⟨z, _, e2, _⟩ := each i (by omega)
    rw [List.getElem?_eq_getElem hi] at e2
    rw [Option.some.inj e2]
  · intro z hz
    obtain ⟨v, hv, rfl⟩ := List.mem_map.1 hz
    obtain ⟨i, hi, rfl⟩ := List.mem_iff_getElem.1 hv
    have hi' : i < cs.size := by simpa using hi
    obtain ⟨z, e1, _, e3⟩ := each i (by omega)
    have : cs.toList[i] = .int .i64 z := by simpa [hi'] using e1
    rw [this]
    exact e3

theorem ints_shut {t : TypeId} {fs : Array Field} {zs : List Int} (ht : P.underlying t = some (.struct fs)) (hone : oneCellFields P fs = true)
    (hint : ∀ (i : Nat) (f : Field), fs[i]? = some f → P.underlying f.type = some (.int .i64)) (hC : P.cellsOf t = fs.size) (hl : zs.length = fs.size) (hw : ∀ z ∈ zs, (Lit.int .i64 z).wf = true) :
    DataW.Trod enc P w base spare held t (.agg (zs.map (Value.int .i64)).toArray) (.agg (zs.map fun z => .lit (.int .i64 z))) [] := by
  have h := trod_struct_mk (enc := enc) (w := w) (base := base) (spare := spare) (held := held) (n := 1) (cs := zs.map (Value.int .i64)) (xs := zs.map fun z => (.lit (.int .i64 z), [])) ht (by simp; omega)
    (mapM_of_places (by simpa using hl.symm) (fun i f hf => by
      have hf' : fs[i]? = some f := by simpa using hf
      have hi : i < fs.size := (Array.getElem?_eq_some_iff.1 hf').1
      obtain ⟨ho, hk⟩ := hone_of hone i f hf'
      have hz : i < zs.length := by omega
      have h2 : ((zs.map (Value.int .i64)).drop i).take 1 = [.int .i64 zs[i]] := by
        rw [List.drop_eq_getElem_cons (by simpa using hz)]
        simp
      have hwf := hw zs[i] (List.getElem_mem hz)
      rw [ho, hk, h2]
      simp [DataW.trod, hint i f hf', hwf, hz]))
  refine ⟨2, ?_⟩
  have e : (zs.map fun z => ((DataW.lit (.int .i64 z) : DataW H), ([] : List MemPlace))).flatMap (·.2) = [] := by simp [List.flatMap_eq_nil_iff]
  rw [e] at h
  simpa [Value.cells, Function.comp_def] using h
end
end Go.Proofs.YtfjfnbeegojlbaaDoor

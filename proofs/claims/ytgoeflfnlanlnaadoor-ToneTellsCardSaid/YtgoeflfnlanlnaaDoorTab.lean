/-
  What the rows of layer 1 list: the two package variables letters and quarter hold, cell for cell, the program's own texts and numbers; and a world in which they do.
-/
import Derived.Test.YtgoeflfnlanlnaaDoorCards
import Derived.Test.YtgoeflfnlanlnaaDoorTie
import Derived.Test.YtgoeflfnlanlnaaDoorNote
import Derived.ProofKit
import Derived.OpenShut
import Derived.Deep.DeepHandedRow
import Derived.Lib.LaidTab
import Derived.Stop.LaidErr
namespace Go.Proofs.YtgoeflfnlanlnaaDoor
open Go.ChangeShapes Go.WideShapes Go.ChangeAt Go.RowKit

theorem own : ownKnob Tryd.prog.godebug = none := by kernel_rfl
theorem gLet : Tryd.prog.globalNamed "orchestrion/tone.letters" = some 0 := by kernel_rfl
theorem gLetType : (Tryd.prog.globals[0]?).map (·.type) = some 41 := by kernel_rfl
theorem gQua : Tryd.prog.globalNamed "orchestrion/tone.quarter" = some 1 := by kernel_rfl
theorem gQuaType : (Tryd.prog.globals[1]?).map (·.type) = some 43 := by kernel_rfl
theorem cellsStr12 : Tryd.prog.cellsOf 41 = 12 := by kernel_rfl
theorem cellsInt17 : Tryd.prog.cellsOf 43 = 17 := by kernel_rfl
theorem cellsStr : Tryd.prog.cellsOf 9 = 1 := by kernel_rfl
theorem cellsInt : Tryd.prog.cellsOf 3 = 1 := by kernel_rfl

/-- An array of texts that reads as the list of their bytes holds these texts, cell for cell. -/
theorem cells_of_texts {H : Type} {enc : TypeId × Value → H} {P : Program} {w : World} {base : Nat} {sp : Nat → Bool} {held : Bool} {fuel : Nat} {t e : TypeId} {n : Nat} {cs : List Value} {zs : List (List UInt8)} {p : List MemPlace}
    (ht : P.underlying t = some (.array n e)) (he : P.underlying e = some .string) (hce : P.cellsOf e = 1) (hct : P.cellsOf t = n)
    (h : DataW.trod enc P w base sp held fuel t cs = some (.agg (zs.map fun z => .lit (.string z)), p)) : cs = zs.map fun z => Value.string ⟨z.toArray⟩ := by
  cases fuel with
  | zero => simp [DataW.trod] at h
  | succ fuel =>
    simp only [DataW.trod, ht, hce, hct, Nat.mul_one] at h
    split at h
    · rename_i hl
      obtain ⟨xs, hm, hx⟩ := Option.map_eq_some_iff.1 h
      have hxs : xs.map (·.1) = zs.map fun z => (DataW.lit (.string z) : DataW H) := by
        have := congrArg Prod.fst hx
        simpa using this
      have hxl : xs.length = n := by simpa using Lib.mapM_length hm
      have hzl : zs.length = n := by
        have := congrArg List.length hxs
        simp at this
        omega
      apply List.ext_getElem?
      intro i
      by_cases hi : i < n
      · obtain ⟨b, hb, hf⟩ := Lib.mapM_at hm i i (by simp [hi])
        obtain ⟨z, hc, rfl, _⟩ := DataW.trod_string he hf
        have h1 : cs[i]? = some (.string z) := by
          have := congrArg (·[0]?) hc
          simpa [List.getElem?_take, List.getElem?_drop] using this
        have h2 : (xs.map (·.1))[i]? = some (DataW.lit (.string z.data.toList) : DataW H) := by simp [hb]
        rw [hxs] at h2
        simp only [List.getElem?_map, Option.map_eq_some_iff, DataW.lit.injEq, Lit.string.injEq] at h2
        obtain ⟨z', hz', rfl⟩ := h2
        simp [h1, hz']
      · rw [List.getElem?_eq_none (by omega), List.getElem?_eq_none (by simp; omega)]
    · cases h

def laidBoth : List (String × DataW Unit) := [("orchestrion/tone.letters", Rows.laid_orchestrion_tone_letters), ("orchestrion/tone.quarter", Rows.laid_orchestrion_tone_quarter)]

theorem letters {W : World} (h : laidMetH Tryd.prog laidBoth W) : LettersAre W := by
  obtain ⟨ps, ⟨g', t', cs, fuel, p, q, hg', ht', hvar, hd, _, _⟩, _⟩ := h
  obtain rfl := Option.some.inj (gLet.symm.trans hg')
  obtain rfl := Option.some.inj (gLetType.symm.trans ht')
  have hz := cells_of_texts (zs := Tm.lts.map fun s => s.data.toList) Tryd.underlying41 Tryd.underlying9 cellsStr cellsStr12 hd
  intro i hi
  have hv : W.var? Tryd.prog "orchestrion/tone.letters" = some (Tm.lts.map Value.string).toArray := by
    rw [hvar, show cs = (cs.toList).toArray by simp, hz]; rfl
  have := World.var?_cell gLet hv i
  have e : (Tm.lts.map Value.string).toArray[i]? = some (.string (Tm.lt i)) := by
    have all : ∀ k : Fin 12, (Tm.lts.map Value.string)[k.val]? = some (.string (Tm.lt k.val)) := fun k => by
      match k with
      | 0 | 1 | 2 | 3 | 4 | 5 | 6 | 7 | 8 | 9 | 10 | 11 => rfl
    simpa using all ⟨i, hi⟩
  rw [this, e]
theorem quarter {W : World} (h : laidMetH Tryd.prog laidBoth W) : QuarterIs W := by
  have ht : Lib.TabIs Tryd.prog W "orchestrion/tone.quarter" .i64 Tm.qt := Lib.tabIs_of_head (rest := []) gQua gQuaType Tryd.underlying43 Tryd.underlying3 cellsInt cellsInt17 (laidMet.tail h)
  intro i hi
  exact ht.cell gQua i hi

/-- A block with other cells in it. -/
def over (cs : Array Value) : Obj → Obj
  | .cells _ t frozen => .cells cs t frozen
  | o => o
def laidHeap (h : Array Obj) : Array Obj :=
  (h.modify 0 (over #[.string ⟨#[67, 45]⟩, .string ⟨#[67, 35]⟩, .string ⟨#[68, 45]⟩, .string ⟨#[68, 35]⟩, .string ⟨#[69, 45]⟩, .string ⟨#[70, 45]⟩, .string ⟨#[70, 35]⟩, .string ⟨#[71, 45]⟩, .string ⟨#[71, 35]⟩, .string ⟨#[65, 45]⟩, .string ⟨#[65, 35]⟩, .string ⟨#[66, 45]⟩])).modify 1 (over #[.int .i64 0, .int .i64 25, .int .i64 50, .int .i64 74, .int .i64 98, .int .i64 120, .int .i64 142, .int .i64 162, .int .i64 180, .int .i64 197, .int .i64 212, .int .i64 225, .int .i64 236, .int .i64 244, .int .i64 250, .int .i64 254, .int .i64 255])
/-- A world for the witnesses: the settled one, the two variables holding what their initialisers lay. -/
noncomputable def laidWorld (os : Os) : World :=
  { World.holding Tryd.prog os ⟨#[], #[], []⟩ with heap := laidHeap (World.holding Tryd.prog os ⟨#[], #[], []⟩).heap }
/-- What a call that only draws leaves is what was there. -/
theorem drewN_grown (w : World) (d : Nat) : Grown w (w.drewN d) := by
  have h := Grown.refl w
  exact h
end Go.Proofs.YtgoeflfnlanlnaaDoor

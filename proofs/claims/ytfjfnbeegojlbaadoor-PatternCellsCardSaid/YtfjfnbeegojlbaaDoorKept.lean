/-
  The last step of a row whose call ends in a world in which nothing that was there has changed.
-/
import Derived.ProofKit
import Derived.Below
namespace Go.Proofs.YtfjfnbeegojlbaaDoor
open Go.ChangeShapes Go.WideShapes Go.ChangeAt Go.RowKit

section
variable {H : Type} {enc : TypeId × Value → H} {P : Program}
/-- The law's call has ended in a world in which all that was there stands: what the row asks of its end. -/
theorem post_kept {f : Func} {s : ChangeSpec} {apart fresh handsOn again : Bool} {W W' : World} {args : Array Value} {v : Value} {ds gs : List (DataW H)} {before pa pv : List MemPlace}
    (hW : DataW.Whole enc P f.params.toList s.vars apart W args.toList ds gs before)
    (hres : ∀ (b : Nat) (sp : Nat → Bool) (hd : Bool), DataW.TrodAll enc P W' b sp hd f.resultTypes.toList (v.resultList f.resultTypes.size) (s.fn H (ds ++ gs)).results [])
    (hargs : ∀ sp : Nat → Bool, (∀ p ∈ before, sp p.block = true) → DataW.TrodAll enc P W' 0 sp true f.params.toList args.toList (s.fn H (ds ++ gs)).args pa)
    (hvars : ∀ sp : Nat → Bool, (∀ p ∈ before, sp p.block = true) → DataW.TrodVars enc P W' sp s.vars (s.fn H (ds ++ gs)).vars pv)
    (hps : before = pa ++ pv) (hb : Below W.heap.size W W')
    (hok : ∀ (j : Nat) (t : TypeId) (r : Value), f.resultTypes[j]? = some t → (v.resultList f.resultTypes.size)[j]? = some r → Value.okWide P W' .any 0 t r) :
    s.post enc P f apart fresh handsOn again W args v W' := by
  have inside : ∀ p ∈ before, decide (p.block < W.heap.size) = true := fun p hp => decide_eq_true (hW.lt p hp)
  have frame : W.keptBut W' fun p => p ∈ before ∧ p ∈ [] ++ (pa ++ pv) :=
    World.keptBut_mono (fun p hp => ⟨hp, by simpa [hps] using hp⟩) (hb.frame (· ∈ before))
  refine ⟨ds, gs, before, [], pa, pv, hW, hres _ _ _, hargs _ inside, hvars _ inside, ?_, fun _ => ⟨hok, _, _, ([] ++ pa) ++ pv, ⟨[] ++ pa, pv, trodAll_append (hargs _ fun _ _ => rfl) (hres _ _ _), hvars _ fun _ _ => rfl, rfl, ?_, ?_⟩, ?_⟩⟩
  · simpa using frame
  · obtain ⟨_, _, _, _, _, hz, _⟩ := hW
    intro b off hp
    have hin : MemPlace.cell b off ∈ before := by simpa [hps] using hp
    have hlt : b < W.heap.size := of_decide_eq_true (inside _ hin)
    rw [hb.frozen hlt]
    exact hz b off hin
  · obtain ⟨_, _, _, _, _, _, hn⟩ := hW
    intro ha
    simpa [hps] using hn ha
  · intro p hp _
    simpa [hps] using hp
end
end Go.Proofs.YtfjfnbeegojlbaaDoor

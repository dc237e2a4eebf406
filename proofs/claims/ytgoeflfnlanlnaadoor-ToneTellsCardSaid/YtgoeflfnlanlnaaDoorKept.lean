/-
  A world in which nothing that was there has changed, and in which the two variables still hold what the program lays; and the last step of a row whose call ends in such a world.
-/
import Derived.Test.YtgoeflfnlanlnaaDoorTab
import Derived.Test.YtgoeflfnlanlnaaDoorAwake
namespace Go.Proofs.YtgoeflfnlanlnaaDoor
open Go.ChangeShapes Go.WideShapes Go.ChangeAt Go.RowKit

/-- From W on nothing that was there has changed, and the tables stand. -/
structure Good (W w : World) : Prop where
  below : Below W.heap.size W w
  lets : LettersAre w
  quas : QuarterIs w

theorem block_of_cell {w : World} {a : Addr} {v : Value} (h : w.cell? a = some v) : a.block < w.heap.size := by
  apply Nat.lt_of_not_le
  intro hn
  have hb : w.heap[a.block]? = none := by simpa using hn
  simp [World.cell?, hb] at h
theorem lets_below {w w' : World} (h : LettersAre w) (hb : Below w.heap.size w w') : LettersAre w' := fun i hi => by
  rw [hb.cell (block_of_cell (h i hi))]
  exact h i hi
theorem quas_below {w w' : World} (h : QuarterIs w) (hb : Below w.heap.size w w') : QuarterIs w' := fun i hi => by
  rw [hb.cell (block_of_cell (h i hi))]
  exact h i hi
theorem Good.step {W w w' : World} (h : Good W w) (hb : Below w.heap.size w w') : Good W w' :=
  ⟨h.below.trans (hb.mono h.below.size), lets_below h.lets hb, quas_below h.quas hb⟩
theorem below_drewN (w : World) (d : Nat) : Below w.heap.size w (w.drewN d) := ⟨rfl, rfl, rfl, Nat.le_refl _, fun _ _ => rfl⟩
theorem Good.start {W : World} (hl : LettersAre W) (hq : QuarterIs W) : Good W W := ⟨Below.refl _ _, hl, hq⟩

section
variable {H : Type} {enc : TypeId × Value → H} {P : Program}
/-- The law's call has ended in a world in which all that was there stands: what the row asks of its end. -/
theorem post_kept {f : Func} {s : ChangeSpec} {apart fresh handsOn again : Bool} {W W' : World} {args : Array Value} {v : Value} {ds gs : List (DataW H)} {before pa pv : List MemPlace}
    (hW : DataW.Whole enc P f.params.toList s.vars apart W args.toList ds gs before)
    (hres : ∀ (b : Nat) (sp : Nat → Bool) (hd : Bool), DataW.TrodAll enc P W' b sp hd f.resultTypes.toList (v.resultList f.resultTypes.size) (s.fn H (ds ++ gs)).results [])
    (hargs : ∀ sp : Nat → Bool, (∀ p ∈ before, sp p.block = true) → DataW.TrodAll enc P W' 0 sp true f.params.toList args.toList (s.fn H (ds ++ gs)).args pa)
    (hvars : ∀ sp : Nat → Bool, (∀ p ∈ before, sp p.block = true) → DataW.TrodVars enc P W' sp s.vars (s.fn H (ds ++ gs)).vars pv)
    (hps : before = pa ++ pv) (hb : Below W.heap.size W W')
    (hok : ∀ (j : Nat) (t : TypeId) (r : Value), f.resultTypes[j]? = some t → (v.resultList f.resultTypes.size)[j]? = some r → Value.okWide P W' .any 0 t r) :
    s.post enc P f apart fresh handsOn again W args v W' := by
  have inside : ∀ p ∈ before, decide (p.block < W.heap.size) = true := fun p hp => decide_eq_true (hW.lt p hp)
  have frame : W.keptBut W' fun p => p ∈ before ∧ p ∈ [] ++ (pa ++ pv) :=
    World.keptBut_mono (fun p hp => ⟨hp, by simpa [hps] using hp⟩) (hb.frame (· ∈ before))
  refine ⟨ds, gs, before, [], pa, pv, hW, hres _ _ _, hargs _ inside, hvars _ inside, ?_, fun _ => ⟨hok, _, _, ([] ++ pa) ++ pv, ⟨[] ++ pa, pv, trodAll_append (hargs _ fun _ _ => rfl) (hres _ _ _), hvars _ fun _ _ => rfl, rfl, ?_, ?_⟩, ?_⟩⟩
  · simpa using frame
  · obtain ⟨_, _, _, _, _, hz, _⟩ := hW
    intro b off hp
    have hin : MemPlace.cell b off ∈ before := by simpa [hps] using hp
    have hlt : b < W.heap.size := of_decide_eq_true (inside _ hin)
    rw [hb.frozen hlt]
    exact hz b off hin
  · obtain ⟨_, _, _, _, _, _, hn⟩ := hW
    intro ha
    simpa [hps] using hn ha
  · intro p hp _
    simpa [hps] using hp
end
end Go.Proofs.YtgoeflfnlanlnaaDoor

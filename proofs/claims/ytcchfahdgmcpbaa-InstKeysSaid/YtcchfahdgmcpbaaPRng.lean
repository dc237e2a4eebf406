/-
  A range over an iterator that never ends by itself: the body leaves it by one break. The iterator hands its k-th round the values 'enc k'. It says nothing of the program.
-/
import Derived.RangeFuncFrom
import Derived.RangeFuncBound
import Derived.RangeFuncCalls
import Derived.RangeFuncLeaves
import Derived.Below
namespace Go.Proofs.Ytcchfahdgmcpbaa
open Go.RowKit

/-- What a round's body may end in: it goes on, the invariant at the next number of rounds; or it breaks off the loop 'brk'. -/
def roundEnds (I : Nat → World → Prop) (X : World → Prop) (brk : Nat) (k : Nat) (W : World) : Exit → Act → World → Prop
  | .normal, _, W' => KeepsOthers W W' ∧ I (k + 1) W'
  | .exit i, _, W' => i = brk ∧ KeepsOthers W W' ∧ X W'
  | _, _, _ => False
/-- What such an iterator owes: whatever the rounds keep ('J', which says all that I says and abides new blocks), each round either goes on or says 'no more'; it then returns. -/
def NeverEnds (P : Program) (gf : Nat) (lb : Array Value) (enc : Nat → Array Value) (I : Nat → World → Prop) : Prop :=
  ∀ (l : Nat) (J : Nat → World → Prop) (Jx : World → Prop) (W : World), (∀ k W', J k W' → I k W') → (∀ k W1 W2, J k W1 → W1.grownBy W2 none → J k W2) →
    (∀ k W1, J k W1 → YieldAt Fence.wide 7 P l (enc k) W1 fun e W2 => (e = .returned (.bool true) ∧ J (k + 1) W2) ∨ (e = .returned (.bool false) ∧ Jx W2)) → J 0 W →
    CallsIn Fence.wide 8 P gf (#[.func (.yield l) #[] #[]] ++ lb) W fun e W' => (∃ v, e = .returned v) ∧ Jx W'

theorem wp_range_break {P : Program} {g : Operand} {ps : Array Tmp} {assign body : Code} {Q : Exit → Act → World → Prop} {a : Act} {w : World} {gf : Nat} {lb : Array Value}
    (hg : a.eval g = .func (.func gf) #[] lb) (eg : ∀ args w, (callFunc gf args).run P w = .ok (.enter gf args) w) (enc : Nat → Array Value) (hps : ∀ k, (enc k).size = ps.size)
    (I : Nat → World → Prop) (X : World → Prop) (brk : Nat) (hit : NeverEnds P gf lb enc I)
    (hI : OwnFrom w.heap.size I) (hX : OwnFrom w.heap.size fun (_ : Unit) => X) (h0 : I 0 w) (a₁ : Nat → Act)
    (hassign : ∀ (l k : Nat) (W : World) (K : Act → World → Prop), K (a₁ k) W →
      assign.wpIn (Fence.wide.inRound l) 7 P (Exit.then K fun _ _ _ => False) { tmps := (ps.zip (enc k)).foldl (fun t (p, v) => t.setIfInBounds p v) a.tmps, defers := [] } W)
    (hbody : ∀ (l k : Nat) (W : World), I k W → body.wpIn (Fence.wide.inRound l) 7 P (roundEnds I X brk k W) (a₁ k) W)
    (hstop : ∀ (D : Nat) (W : World), w.heap.size ≤ D → X W → W.heap[D]? = some (.deferred (some [])) → (Code.exit brk).wp P Q { a with defers := { target := .collected D, args := #[] } :: a.defers } W) :
    (Code.rangeFunc g ps assign body).wp P Q a w := by
  refine (wpIn_wide (n := 9)).1 (wpIn_rangeFunc fun fn hfn => ?_)
  -- the record of the loop, in each of its states
  have hrec : ∃ R : LoopState → Option Code → Loop, ∀ s c, R s c = { state := s, pending := c, fn := fn, tmps := a.tmps, params := ps, assign := assign, body := body, defers := w.heap.size } := ⟨fun s c => { state := s, pending := c, fn := fn, tmps := a.tmps, params := ps, assign := assign, body := body, defers := w.heap.size }, fun _ _ => rfl⟩
  obtain ⟨R, hR⟩ := hrec
  obtain ⟨L, hLe⟩ : ∃ L, L = w.heap.size + 1 := ⟨_, rfl⟩
  obtain ⟨V, hV⟩ : ∃ V, V = (w.alloc (.deferred (some []))).alloc (.loop (R .ready none)) := ⟨_, rfl⟩
  have hVL : V.heap[L]? = some (.loop (R .ready none)) := by
    have := World.alloc_heap_new (w.alloc (.deferred (some []))) (.loop (R .ready none))
    rw [World.size_alloc] at this
    rw [hV, hLe]; exact this
  have hVD : V.heap[w.heap.size]? = some (.deferred (some [])) := by
    rw [hV]
    exact (Below.heap_alloc _ _ _ (by simp)).trans (World.alloc_heap_new w _)
  have hVI : I 0 V := by rw [hV]; exact hI.alloc _ (hI.alloc _ h0)
  -- the invariant of the rounds with the two blocks beside it
  have turn : ∀ {W : World} {o : Obj} (o' : Obj), W.heap[L]? = some o → (W.putObj L o').heap[L]? = some o' ∧ (W.heap[w.heap.size]? = some (.deferred (some [])) → (W.putObj L o').heap[w.heap.size]? = some (.deferred (some []))) := fun o' h =>
    ⟨World.putObj_heap_same (Array.getElem?_eq_some_iff.1 h).1, fun hd => (World.putObj_heap_other (by omega)).trans hd⟩
  have grows : ∀ {A B : World} {i : Nat} {o : Obj}, A.grownBy B none → A.heap[i]? = some o → B.heap[i]? = some o := fun hg h =>
    (hg.block _ (Array.getElem?_eq_some_iff.1 h).1 (by simp)).trans h
  have call := hit L (fun k W => I k W ∧ W.heap[L]? = some (.loop (R .ready none)) ∧ W.heap[w.heap.size]? = some (.deferred (some [])))
    (fun W => X W ∧ W.heap[L]? = some (.loop (R .done (some (.exit brk)))) ∧ W.heap[w.heap.size]? = some (.deferred (some []))) V
    (fun _ _ h => h.1) (fun k W1 W2 h hg => ⟨hI k W1 W2 none h.1 hg (fun r e => by cases e), grows hg h.2.1, grows hg h.2.2⟩) ?_ ⟨hVI, hVL, hVD⟩
  · refine ⟨L, [{ target := .collected w.heap.size, args := #[] }], V, { target := .fn (.func gf) lb, args := #[.func (.yield L) #[] #[]] }, V, gf, #[.func (.yield L) #[] #[]] ++ lb, V, ?_, ?_, fun f' _ => trivial, ?_, fun h => by simp [Fence.wide] at h, ?_⟩
    · rw [hV, hLe, hR]
      exact run_enterLoop_outer _ _ _ _ _
    · simp only [resolve, hg]
      simp [go_sem]
    · simp [invoke, go_sem, eg]
    · refine call.mono ?_
      rintro e W ⟨⟨v, rfl⟩, hx, hl, hd⟩
      have hend := run_endLoop (P := P) hl (by rw [hR]; simp)
      refine ⟨some (.exit brk), _, by rw [hend, hR], ?_⟩
      refine wpIn_wide.2 (hstop w.heap.size _ (Nat.le_refl _) ?_ ((turn _ hl).2 hd))
      exact hX () W _ (some L) hx (grownBy_putObj' W L _) (fun r e => by cases e; exact ⟨by omega, _, hl, rfl⟩)
  · rintro k W ⟨hi, hl, hd⟩
    have hy := run_yield (P := P) (args := enc k) hl (by rw [hR]; exact hps k)
    rw [hR] at hy
    refine ⟨fn, _, assign, body, hy, roundIn_of_wpIn trivial (hassign L k W _ ⟨_, run_beginRound hl (by rw [hR]), ?_⟩)⟩
    have hi2 : I k (W.putObj L (.loop { R .ready none with state := .busy })) := hI.putObj _ hi (by omega) hl rfl
    obtain ⟨hl2, hd2⟩ := turn (.loop { R .ready none with state := .busy }) hl
    have hd2 := hd2 hd
    refine wpIn_mono (hbody L k _ hi2) ?_
    have after : ∀ (jump : Option Code) (W3 : World), KeepsOthers (W.putObj L (.loop { R .ready none with state := .busy })) W3 →
        W3.heap[L]? = some (.loop { R .ready none with state := .busy }) ∧ W3.heap[w.heap.size]? = some (.deferred (some [])) := fun jump W3 hk => ⟨hk.same _ _ hl2 rfl, hk.same _ _ hd2 rfl⟩
    rintro e a3 W3 hp
    cases e with
    | normal =>
      obtain ⟨hk, hi3⟩ := hp
      obtain ⟨hl3, hd3⟩ := after none W3 hk
      have he := run_endRound (P := P) none hl3
      rw [hR] at he
      exact ⟨_, _, he, .inl ⟨rfl, hI.putObj _ hi3 (by omega) hl3 rfl, by rw [hR]; exact (turn _ hl3).1, (turn _ hl3).2 hd3⟩⟩
    | exit i =>
      obtain ⟨rfl, hk, hx3⟩ := hp
      obtain ⟨hl3, hd3⟩ := after (some (.exit i)) W3 hk
      have he := run_endRound (P := P) (some (.exit i)) hl3
      rw [hR] at he
      exact ⟨_, _, he, .inr ⟨rfl, hX () W3 _ (some L) hx3 (grownBy_putObj' W3 L _) (fun r e => by cases e; exact ⟨by omega, _, hl3, rfl⟩), by rw [hR]; exact (turn _ hl3).1, (turn _ hl3).2 hd3⟩⟩
    | ret => exact hp.elim
    | goto t => exact hp.elim
    | panic ch => exact hp.elim
    | outgrown => exact hp.elim
end Go.Proofs.Ytcchfahdgmcpbaa

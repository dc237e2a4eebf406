/-
  A region's list of operations is cut: what its first operations leave, whatever way they went, is said by a relation, and the rest is walked once.
-/
import Derived.Deep.DeepCutAuto
namespace Go.Proofs.Ytcchfahdgmcpbaa
open Go

section
variable {P : Program} {ops : Array Oper} {Q : Exit → Act → World → Prop}
theorem upon_then {o : Oper} {a : Act} {n n' K : Act → World → Prop} (h : ∀ a w, n a w → n' a w) {r : Result Next} (hr : o.upon P a n (Exit.then K Q) r) : o.upon P a n' Q r := by
  cases r with
  | ok x w =>
    cases x with
    | value v => exact h _ _ hr
    | skip => exact h _ _ hr
    | defer d => exact h _ _ hr
    | enter f args =>
      refine Calls.mono hr ?_
      intro e w'' q
      cases e with
      | returned v => exact h _ _ q
      | panicked c => exact q
      | outgrown => exact q
    | row row args => exact Rows.mono hr fun v w'' q => h _ _ q
    | _ => exact hr
  | halt s w =>
    cases s <;> exact hr
theorem wpl_then {K : Act → World → Prop} (l2 : List Oper) (hK : ∀ a w, K a w → wpList P ops Q l2 a w) : ∀ (l1 : List Oper) (a : Act) (w : World), wpList P ops (Exit.then K Q) l1 a w → wpList P ops Q (l1 ++ l2) a w
  | [], a, w, h => hK a w h
  | o :: l, a, w, h => by
    rw [List.cons_append]
    unfold wpList at h ⊢
    split
    · rename_i hw
      rw [if_pos hw] at h
      rcases h with h | ⟨h1, h2⟩
      · exact .inl (upon_then (fun a w q => wpl_then l2 hK l a w q) h)
      · exact .inr ⟨h1, h2⟩
    · rename_i hw
      rw [if_neg hw] at h
      exact wpl_then l2 hK l _ w h
theorem wpl_cut (l1 l2 : List Oper) {a : Act} {w : World} (R : Act → World → Prop) (rest : ∀ a' w', R a' w' → wpList P ops Q l2 a' w')
    (first : ∀ (J K' : Act → World → Prop), (∀ a' w', R a' w' → J a' w') → (∀ a' w', Met J a' w' → K' a' w') → wpList P ops (Exit.then K' Q) l1 a w) : wpList P ops Q (l1 ++ l2) a w :=
  wpl_then l2 rest l1 a w (first R R (fun _ _ q => q) (fun _ _ q => q))
/-- 5 operations. -/
theorem wpl_cut5 {o0 o1 o2 o3 o4 : Oper} {l2 : List Oper} {a : Act} {w : World} (R : Act → World → Prop)
    (first : ∀ (J K' : Act → World → Prop), (∀ a' w', R a' w' → J a' w') → (∀ a' w', Met J a' w' → K' a' w') → wpList P ops (Exit.then K' Q) [o0, o1, o2, o3, o4] a w)
    (rest : ∀ a' w', R a' w' → wpList P ops Q l2 a' w') :
    wpList P ops Q (o0 :: o1 :: o2 :: o3 :: o4 :: l2) a w :=
  wpl_cut [o0, o1, o2, o3, o4] l2 R rest first
/-- 15 operations. -/
theorem wpl_cut15 {o0 o1 o2 o3 o4 o5 o6 o7 o8 o9 o10 o11 o12 o13 o14 : Oper} {l2 : List Oper} {a : Act} {w : World} (R : Act → World → Prop)
    (first : ∀ (J K' : Act → World → Prop), (∀ a' w', R a' w' → J a' w') → (∀ a' w', Met J a' w' → K' a' w') → wpList P ops (Exit.then K' Q) [o0, o1, o2, o3, o4, o5, o6, o7, o8, o9, o10, o11, o12, o13, o14] a w)
    (rest : ∀ a' w', R a' w' → wpList P ops Q l2 a' w') :
    wpList P ops Q (o0 :: o1 :: o2 :: o3 :: o4 :: o5 :: o6 :: o7 :: o8 :: o9 :: o10 :: o11 :: o12 :: o13 :: o14 :: l2) a w :=
  wpl_cut [o0, o1, o2, o3, o4, o5, o6, o7, o8, o9, o10, o11, o12, o13, o14] l2 R rest first
end
end Go.Proofs.Ytcchfahdgmcpbaa

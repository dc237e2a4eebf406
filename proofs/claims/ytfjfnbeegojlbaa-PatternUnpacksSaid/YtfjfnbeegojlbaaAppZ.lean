/-
  Appending a row of bytes that may be empty, also as a step of a region that draws; an empty row of one's own.
-/
import Derived.Test.YtfjfnbeegojlbaaRPack
import Derived.Test.YtfjfnbeegojlbaaPAwake
namespace Go.Proofs.Ytfjfnbeegojlbaa
open Go.RowKit

theorem run_append_zero {w : World} {D : Nat} {v : Value} {l : List Int} (hb : Br w D v l) (p : Option Addr) (c : Nat) (ty : TypeId) :
    (Builtin.append_ #[44, 44] ty #[v, .slice p 0 c]).run Try.prog w = .ok v w := by
  obtain ⟨i0, hinf, hz0, hz1, hz2⟩ := info_parts Try.infoU8
  have hl : ∀ (x : Addr), (loadCells x 0).run Try.prog w = .ok #[] w := fun x => by simpa using run_loadCells_list (P := Try.prog) w x [] (by simp)
  rcases hb.2 with ⟨rfl, h0⟩ | ⟨g, cap, cur, rfl, _, _, hnc, _⟩
  · rw [h0] at *
    cases p <;> simp [Builtin.append_, run_underlying Try.underlying44, sizeOf, typeInfo, hinf, Builtin.lenOf, Builtin.firstCells, hl]
  · cases p <;> simp [Builtin.append_, run_underlying Try.underlying44, sizeOf, typeInfo, hinf, Builtin.lenOf, Builtin.firstCells, hnc, storeCells, hl]
theorem br_empty (w : World) : Br (w.alloc (.cells #[] 5)) w.heap.size (.slice (some ⟨w.heap.size, 0, none⟩) 0 0) [] :=
  ⟨rfl, .inr ⟨w.heap.size, 0, #[], rfl, Nat.le_refl _, heap_alloc_new _ _, Nat.le_refl _, by unfold maxLen; omega, rfl, rfl⟩⟩
theorem bb_u8s (l : List Int) : bb l = u8s l := rfl
theorem Br.inb {w : World} {D : Nat} {p : Option Addr} {n cap : Nat} {l : List Int} (h : Br w D (.slice p n cap) l) : n = l.length ∧ InB w p l ∧ ∀ b off, p = some ⟨b, off, none⟩ → b < w.heap.size := by
  have h0 : Br w D (.slice p n cap) l := h
  rcases h.2 with ⟨h', h1⟩ | ⟨g, cap', cur, h', _⟩
  · simp only [Value.slice.injEq] at h'
    obtain ⟨rfl, rfl, rfl⟩ := h'
    exact ⟨h1.symm, .inl (List.eq_nil_of_length_eq_zero h1), fun _ _ e => by simp at e⟩
  · simp only [Value.slice.injEq] at h'
    obtain ⟨rfl, rfl, rfl⟩ := h'
    have hl := (h0.lt g rfl).2
    exact ⟨rfl, .inr ⟨g, 0, rfl, hl, Br.range h0⟩, fun b off e => by cases e; exact hl⟩
section
variable {ops : Array Oper} {rest : List Oper} {o : Oper} {a : Act} {w : World} {Q : Exit → Act → World → Prop} {K : Act → World → Prop}
theorem wp_app_any (s x : Operand) (ho : o.op = .call { callee := .builtin .append, args := #[s, x], argTypes := #[44, 44] })
    {D : Nat} {v : Value} {l ys : List Int} {p : Option Addr} {cap : Nat} (hs : a.eval s = v) (hb : Br w D v l) (hD : D ≤ w.heap.size) (hx : a.eval x = .slice p ys.length cap) (hr : InB w p ys) (hl : l.length ≤ 1000000) (hl2 : ys.length ≤ 1000000)
    (h : ∀ p' cap' w', Br w' D (.slice p' (l.length + ys.length) cap') (l ++ ys) → w.grownBy w' v.ownBlock → (∀ k, Value.ownBlock (.slice p' (l.length + ys.length) cap') = some k → v.ownBlock = some k ∨ w.heap.size ≤ k) → K (a.put o.dst (.slice p' (l.length + ys.length) cap')) w') : o.wp Try.prog a w K Q := by
  rcases hr with rfl | ⟨b, off, rfl, hbl, hr⟩
  · obtain ⟨pv, cv, hv⟩ := hb.slice
    have hrun := run_append_zero hb p cap o.type
    unfold Oper.wp execOp
    rw [List.length_nil] at hx
    simp [ho, resolve, invoke, builtin, hs, hx, hrun, Result.andThen]
    have h2 := h pv cv w (by rw [List.length_nil, Nat.add_zero, List.append_nil, ← hv]; exact hb) (grownBy_of (Below.refl _ _)) (fun k hk => .inl (by rw [hv]; exact hk))
    rw [List.length_nil, Nat.add_zero, ← hv] at h2
    exact h2
  · by_cases hy : ys.length = 0
    · obtain rfl : ys = [] := List.eq_nil_of_length_eq_zero hy
      obtain ⟨pv, cv, hv⟩ := hb.slice
      have hrun := run_append_zero hb (some ⟨b, off, none⟩) cap o.type
      unfold Oper.wp execOp
      rw [List.length_nil] at hx
      simp [ho, resolve, invoke, builtin, hs, hx, hrun, Result.andThen]
      have h2 := h pv cv w (by rw [List.length_nil, Nat.add_zero, List.append_nil, ← hv]; exact hb) (grownBy_of (Below.refl _ _)) (fun k hk => .inl (by rw [hv]; exact hk))
      rw [List.length_nil, Nat.add_zero, ← hv] at h2
      exact h2
    · obtain ⟨i0, hinf, hz0, hz1, hz2⟩ := info_parts Try.infoU8
      refine wp_append_lies w s x 44 ho D 5 i0 (.int .u8 0) 1 1 Try.underlying44 hinf hz0 hz1 hz2 rfl (by decide) v l.length (u8s l) hs hb ⟨b, off, none⟩ ys.length cap (u8s ys) hx (by rw [u8s_len]; omega) (fun j u hu => by rw [Addr.add_mid]; exact hr j u hu) (fun u hu => by simp [u8s] at hu; obtain ⟨z, -, rfl⟩ := hu; rfl) (by omega) (by unfold maxLen; omega) (by omega) hD _ rfl ?_
      intro g cap' w' h2 h3 h4 h5
      refine h _ cap' w' ?_ h3 (fun k hk => ?_)
      rotate_left
      · have e : g = k := by simpa [Value.ownBlock] using hk
        subst e
        exact h4.imp id fun e => by omega
      unfold Br
      rw [List.length_append, u8s_app]
      exact h2
theorem step_app_any (hgd : o.guard = none) {E : Prop} (s x : Operand) (ho : o.op = .call { callee := .builtin .append, args := #[s, x], argTypes := #[44, 44] })
    {D : Nat} {v : Value} {l ys : List Int} {p : Option Addr} {cap : Nat} (hs : a.eval s = v) (hb : Br w D v l) (hD : D ≤ w.heap.size) (hx : a.eval x = .slice p ys.length cap) (hr : InB w p ys) (hl : l.length ≤ 1000000) (hl2 : ys.length ≤ 1000000)
    (h : ∀ p' cap' w', Br w' D (.slice p' (l.length + ys.length) cap') (l ++ ys) → w.grownBy w' v.ownBlock → (∀ k, Value.ownBlock (.slice p' (l.length + ys.length) cap') = some k → v.ownBlock = some k ∨ w.heap.size ≤ k) → K (a.put o.dst (.slice p' (l.length + ys.length) cap')) w') :
    if Region.wanted o (yielded ops a.tmps) = true then Oper.wp Try.prog o a w K Q else E := by
  have hw : Region.wanted o (yielded ops a.tmps) = true := by simp [Region.wanted, hgd]
  rw [if_pos hw]
  exact wp_app_any s x ho hs hb hD hx hr hl hl2 h
end
section
variable {ops : Array Oper} {rest : List Oper} {o : Oper} {a : Act} {w : World} {Q : Exit → Act → World → Prop} {K : Act → World → Prop}
/-- The same with lengths by name. -/
theorem step_app (hgd : o.guard = none) {E : Prop} (s x : Operand) (ho : o.op = .call { callee := .builtin .append, args := #[s, x], argTypes := #[44, 44] })
    {D nl n : Nat} {v : Value} {l ys : List Int} {p : Option Addr} {cap : Nat} (hs : a.eval s = v) (hx : a.eval x = .slice p n cap) (hb : Br w D v l) (hr : InB w p ys) (hf : l.length = nl ∧ ys.length = n ∧ D ≤ w.heap.size ∧ nl ≤ 1000000 ∧ n ≤ 1000000)
    (h : ∀ p' cap' w', Br w' D (.slice p' (nl + n) cap') (l ++ ys) → w.grownBy w' v.ownBlock → (∀ k, Value.ownBlock (.slice p' (nl + n) cap') = some k → v.ownBlock = some k ∨ w.heap.size ≤ k) → K (a.put o.dst (.slice p' (nl + n) cap')) w') :
    if Region.wanted o (yielded ops a.tmps) = true then Oper.wp Try.prog o a w K Q else E := by
  obtain ⟨rfl, rfl, h1, h2, h3⟩ := hf
  exact step_app_any hgd s x ho hs hb h1 hx hr h2 h3 h
end
end Go.Proofs.Ytfjfnbeegojlbaa

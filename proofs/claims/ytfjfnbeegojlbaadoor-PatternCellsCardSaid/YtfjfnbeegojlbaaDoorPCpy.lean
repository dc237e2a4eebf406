/-
  The builtins copy and clear at cells, as laws; what is written into a block of one's own.
-/
import Derived.Test.YtfjfnbeegojlbaaDoorPPat
namespace Go.Proofs.YtfjfnbeegojlbaaDoor
open Go.RowKit

/-- A list with another one laid over it. -/
def lay (L : List Pt.Cl) (i : Nat) (m : List Pt.Cl) : List Pt.Cl := L.take i ++ (m ++ L.drop (i + m.length))
theorem lay_len {L : List Pt.Cl} {i : Nat} {m : List Pt.Cl} (h : i + m.length ≤ L.length) : (lay L i m).length = L.length := by simp [lay]; omega
theorem lay_at {L : List Pt.Cl} {i : Nat} {m : List Pt.Cl} (h : i + m.length ≤ L.length) (k : Nat) : Pt.at' (lay L i m) k = if i ≤ k ∧ k < i + m.length then Pt.at' m (k - i) else Pt.at' L k := by
  unfold lay
  have e : (L.take i).length = i := by simp; omega
  rw [Pt.at_app, Pt.at_app, e]
  by_cases h1 : k < i
  · rw [if_pos h1, if_neg (by omega), Pt.at_take _ _ _ h1]
  · rw [if_neg h1]
    by_cases h2 : k - i < m.length
    · rw [if_pos h2, if_pos (by omega)]
    · rw [if_neg h2, if_neg (by omega), Pt.at_drop]
      congr 1
      omega
theorem rng_take {w : World} {b o : Nat} {m : List Pt.Cl} (h : w.rangeAt b o (cc m)) : ∀ j v, (cc m)[j]? = some v → w.cell? ((⟨b, o, none⟩ : Addr).add j) = some v := fun j v hv => by rw [Addr.add_mid]; exact h j v hv
theorem Kr.lay {w : World} {g i : Nat} {L m : List Pt.Cl} (h : Kr w g L) (hi : i + m.length ≤ L.length) : Kr (w.setCells g (i * 6) (cc m)) g (lay L i m) := by
  have ht : w.there g (i * 6) (cc m).length := by
    intro j hj
    rw [cc_len] at hj
    have := h.2.2 (i * 6 + j) (by omega)
    rwa [Nat.zero_add] at this
  have hs := World.rangeAt_setCells_same w g (i * 6) (cc m) ht
  refine h.mk' (lay_len hi) (grown_setCells g _ _ w) (fun k hk => ?_) (World.there_setCells h.2.2 g _ _)
  rw [lay_at hi]
  by_cases e : i ≤ k ∧ k < i + m.length
  · rw [if_pos e]
    have := rng_of hs (i := k - i) (by omega)
    rwa [show i * 6 + (k - i) * 6 = k * 6 by omega] at this
  · rw [if_neg e]
    exact World.rangeAt_setCells_apart (h.one hk) g _ (cc m) (.inr (by simp only [cl_len, cc_len]; omega))
theorem Kr.there {w : World} {g i n : Nat} {L : List Pt.Cl} (h : Kr w g L) (hi : i + n ≤ L.length) : w.there g (i * 6) (n * 6) := by
  intro j hj
  have := h.2.2 (i * 6 + j) (by omega)
  rwa [Nat.zero_add] at this
theorem run_copy_cells (w : World) (ty : TypeId) (g o dLen dCap : Nat) (dp sp : Option Addr) (sLen sCap : Nat) (m : List Pt.Cl) (hn : m.length = Nat.min sLen dLen)
    (hpos : 0 < m.length → dp = some ⟨g, o, none⟩ ∧ w.there g o (m.length * 6) ∧ ∃ b off, sp = some ⟨b, off, none⟩ ∧ w.rangeAt b off (cc m)) :
    (Builtin.copy_ #[57, 57] ty #[.slice dp dLen dCap, .slice sp sLen sCap]).run Tryd.prog w = .ok (goInt m.length) (w.setCells g o (cc m)) := by
  have hs := Tryd.infoCellSize
  cases hq : Tryd.prog.info? 23 with
  | none => simp [hq] at hs
  | some i =>
    have hsz : i.size = 6 := by simpa [hq] using hs
    by_cases h0 : m.length = 0
    · obtain rfl : m = [] := List.eq_nil_of_length_eq_zero h0
      have hz : Nat.min sLen dLen = 0 := by rw [← hn]; rfl
      have hl : ∀ (x : Addr), (loadCells x 0).run Tryd.prog w = .ok #[] w := fun x => by simpa using run_loadCells_list (P := Tryd.prog) w x [] (by simp)
      cases dp <;> cases sp <;> simp [Builtin.copy_, run_underlying Tryd.underlying57, Builtin.lenOf, Builtin.firstCells, sizeOf, typeInfo, hq, hz, storeCells, hl, cc, World.setCells]
    · obtain ⟨rfl, ht, b, off, rfl, hr⟩ := hpos (by omega)
      have hl := run_loadCells_list (P := Tryd.prog) w ⟨b, off, none⟩ (cc m) (rng_take hr)
      have hst := run_storeCells_cells (P := Tryd.prog) g o (cc m) 0 w (fun j hj => (ht j (by rw [cc_len] at hj; exact hj)).1) (fun j hj => (ht j (by rw [cc_len] at hj; exact hj)).2) (cc_one m)
      rw [cc_len] at hl
      simp [Builtin.copy_, run_underlying Tryd.underlying57, Builtin.lenOf, Builtin.firstCells, sizeOf, typeInfo, hq, hsz, ← hn, hl, hst, Result.andThen]
theorem run_clear_cells (w : World) (ty : TypeId) (g o n cap : Nat) (ht : w.there g o (n * 6)) :
    (Builtin.clear_ #[57] ty #[.slice (some ⟨g, o, none⟩) n cap]).run Tryd.prog w = .ok (.tuple #[]) (w.setCells g o (cc (List.replicate n Pt.zc))) := by
  have hz := made_cells n
  have e : (Builtin.zeroCells (Value.agg #[.int .i64 0, .int .i64 0, .int .i64 0, .int .i64 0, .int .i64 0, .int .i64 0]).cells n).toList = cc (List.replicate n Pt.zc) := hz
  obtain ⟨i0, hinf, hz0, -, -⟩ := info_parts Tryd.infoCell
  have ht' : ∀ j, j < (cc (List.replicate n Pt.zc)).length → (w.cell? ⟨g, o + 0 + j, none⟩).isSome = true ∧ w.frozen? ⟨g, o + 0 + j, none⟩ = false := fun j hj => by
    rw [cc_len, List.length_replicate] at hj
    exact ht j hj
  have hst := run_storeCells_cells (P := Tryd.prog) g o (cc (List.replicate n Pt.zc)) 0 w (fun j hj => (ht' j hj).1) (fun j hj => (ht' j hj).2) (cc_one _)
  cases n with
  | zero => simp [Builtin.clear_, run_underlying Tryd.underlying57, cc, World.setCells]
  | succ n => simp [Builtin.clear_, run_underlying Tryd.underlying57, zeroValue, typeInfo, hinf, hz0, e, hst, Result.andThen]
section
variable {ops : Array Oper} {rest : List Oper} {o : Oper} {a : Act} {w : World} {Q : Exit → Act → World → Prop} {K : Act → World → Prop}
/-- The builtin copy at cells, as one step. -/
theorem wp_copy_cells (x y : Operand) (ho : o.op = .call { callee := .builtin .copy, args := #[x, y], argTypes := #[57, 57] })
    (g off dLen dCap : Nat) (dp sp : Option Addr) (sLen sCap : Nat) (hd : a.eval x = .slice dp dLen dCap) (hs : a.eval y = .slice sp sLen sCap) (m : List Pt.Cl) (hn : m.length = Nat.min sLen dLen)
    (hpos : 0 < m.length → dp = some ⟨g, off, none⟩ ∧ w.there g off (m.length * 6) ∧ ∃ b f, sp = some ⟨b, f, none⟩ ∧ w.rangeAt b f (cc m))
    (h : ∀ w', w' = w.setCells g off (cc m) → K (a.put o.dst (goInt m.length)) w') : o.wp Tryd.prog a w K Q := by
  have hrun := run_copy_cells w o.type g off dLen dCap dp sp sLen sCap m hn hpos
  unfold Oper.wp execOp
  simp [ho, resolve, invoke, builtin, hd, hs, hrun, Result.andThen]
  exact h _ rfl
theorem wpList_copy_cells (hgd : o.guard = none) (x y : Operand) (ho : o.op = .call { callee := .builtin .copy, args := #[x, y], argTypes := #[57, 57] })
    (g off dLen dCap : Nat) (dp sp : Option Addr) (sLen sCap : Nat) (hd : a.eval x = .slice dp dLen dCap) (hs : a.eval y = .slice sp sLen sCap) (m : List Pt.Cl) (hn : m.length = Nat.min sLen dLen)
    (hpos : 0 < m.length → dp = some ⟨g, off, none⟩ ∧ w.there g off (m.length * 6) ∧ ∃ b f, sp = some ⟨b, f, none⟩ ∧ w.rangeAt b f (cc m))
    (h : ∀ w', w' = w.setCells g off (cc m) → wpList Tryd.prog ops Q rest (a.put o.dst (goInt m.length)) w') : wpList Tryd.prog ops Q (o :: rest) a w :=
  wpList_plain hgd fun _ hK => wp_copy_cells x y ho g off dLen dCap dp sp sLen sCap hd hs m hn hpos fun w' e => hK _ _ (h w' e)
end
theorem grownBy_trans {w w1 w2 : World} {g : Option Nat} (h1 : w.grownBy w1 g) (h2 : w1.grownBy w2 g) : w.grownBy w2 g :=
  ⟨h2.os.trans h1.os, h2.tape.trans h1.tape, h2.output.trans h1.output, Nat.le_trans h1.size h2.size, fun k hk hne => (h2.block k (Nat.lt_of_lt_of_le hk h1.size) hne).trans (h1.block k hk hne)⟩
theorem grownBy_of {w w1 : World} {g : Option Nat} (h : Below w.heap.size w w1) : w.grownBy w1 g := ⟨h.os, h.tape, h.output, h.size, fun k hk _ => h.block k hk⟩
theorem grownBy_refl (w : World) (g : Option Nat) : w.grownBy w g := ⟨rfl, rfl, rfl, Nat.le_refl _, fun _ _ _ => rfl⟩
/-- What is kept where only block g is written. -/
theorem cell_grown {w w' : World} {g : Nat} {a : Addr} {v : Value} (hg : w.grownBy w' (some g)) (h : w.cell? a = some v) (hne : a.block ≠ g) : w'.cell? a = some v := by
  rw [World.cell?_of_block (hg.block a.block (cell_lt h) (by simpa using hne))]
  exact h
end Go.Proofs.YtfjfnbeegojlbaaDoor

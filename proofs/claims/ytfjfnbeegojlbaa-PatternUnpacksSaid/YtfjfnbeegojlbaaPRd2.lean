/-
  Package pattern's reader.cell, whole; what reader.row keeps.
-/
import Derived.Test.YtfjfnbeegojlbaaPRc
namespace Go.Proofs.Ytfjfnbeegojlbaa
open Go.RowKit

theorem p_cell {w : World} {bR o : Nat} {xs : List Int} {p : Option Addr} {cap i : Nat} (h : Rn w bR xs p cap i) (hp : ∀ b off, p = some ⟨b, off, none⟩ → b < w.heap.size) {la : Pt.Cl} (hla : w.rangeAt bR o (CL la)) (hth : w.there bR o 6) (ho : 2 ≤ o) :
    Calls Try.prog 60 #[.pointer (some ⟨bR, 0, none⟩), .pointer (some ⟨bR, o, none⟩)] w fun x w' => RetC w bR o xs p cap (Pt.ucell la (xs.drop i)) x w' := by
  cases e : xs.drop i with
  | nil => exact p_cell_nil h e
  | cons y t =>
    have hy := h.hy y (List.mem_of_mem_drop (i := i) (by rw [e]; simp))
    obtain ⟨m, rfl⟩ : ∃ m : Nat, y = m := ⟨y.toNat, by omega⟩
    unfold Pt.ucell
    simp only [Int.toNat_natCast]
    cases hv : Pt.vmask m la with
    | false =>
      rw [if_neg (by decide)]
      exact p_cell_mask h e hla ho hv
    | true =>
      rw [if_pos rfl]
      exact p_cell_go h hp e hla hth ho hv
theorem p_cell_err {w : World} {bR o : Nat} {xs : List Int} {p : Option Addr} {cap i : Nat} (h : Rn w bR xs p cap i) (hp : ∀ b off, p = some ⟨b, off, none⟩ → b < w.heap.size) {la : Pt.Cl} (hla : w.rangeAt bR o (CL la)) (hth : w.there bR o 6) (ho : 2 ≤ o) {z : Int} (e : Pt.ucell la (xs.drop i) = .error z) :
    Calls Try.prog 60 #[.pointer (some ⟨bR, 0, none⟩), .pointer (some ⟨bR, o, none⟩)] w fun x w' => x = Pn z ∧ w.grownBy w' (some bR) := by
  have := p_cell h hp hla hth ho
  rw [e] at this
  exact this
theorem p_cell_ok {w : World} {bR o : Nat} {xs : List Int} {p : Option Addr} {cap i : Nat} (h : Rn w bR xs p cap i) (hp : ∀ b off, p = some ⟨b, off, none⟩ → b < w.heap.size) {la : Pt.Cl} (hla : w.rangeAt bR o (CL la)) (hth : w.there bR o 6) (ho : 2 ≤ o) {s : Pt.Uc} (e : Pt.ucell la (xs.drop i) = .ok s) :
    Calls Try.prog 60 #[.pointer (some ⟨bR, 0, none⟩), .pointer (some ⟨bR, o, none⟩)] w fun x w' => ∃ j b4 b6, x = .returned (.agg (CL s.c).toArray) ∧ s.b = xs.drop j ∧ Cw w bR o b4 b6 xs p cap j s.c s.la w' := by
  have := p_cell h hp hla hth ho
  rw [e] at this
  exact this
/-- Of what was there only blocks a and b may have changed. -/
structure Fz (w : World) (a b : Nat) (w' : World) : Prop where
  os : w'.os = w.os
  tape : w'.tape = w.tape
  output : w'.output = w.output
  size : w.heap.size ≤ w'.heap.size
  block : ∀ k, k < w.heap.size → k ≠ a → k ≠ b → w'.heap[k]? = w.heap[k]?
theorem Fz.refl (w : World) (a b : Nat) : Fz w a b w := ⟨rfl, rfl, rfl, Nat.le_refl _, fun _ _ _ _ => rfl⟩
theorem Fz.trans {w w1 w2 : World} {a b : Nat} (h : Fz w a b w1) (h2 : Fz w1 a b w2) : Fz w a b w2 := ⟨h2.os.trans h.os, h2.tape.trans h.tape, h2.output.trans h.output, Nat.le_trans h.size h2.size, fun k hk h1 h3 => (h2.block k (Nat.lt_of_lt_of_le hk h.size) h1 h3).trans (h.block k hk h1 h3)⟩
theorem Fz.left {w w1 : World} {a b : Nat} (h : w.grownBy w1 (some a)) : Fz w a b w1 := ⟨h.os, h.tape, h.output, h.size, fun k hk h1 _ => h.block k hk (fun e => h1 (by simpa using e))⟩
theorem Fz.right {w w1 : World} {a b : Nat} (h : w.grownBy w1 (some b)) : Fz w a b w1 := ⟨h.os, h.tape, h.output, h.size, fun k hk _ h1 => h.block k hk (fun e => h1 (by simpa using e))⟩
theorem Fz.of {w w1 : World} {a b : Nat} (h : Below w.heap.size w w1) : Fz w a b w1 := ⟨h.os, h.tape, h.output, h.size, fun k hk _ _ => h.block k hk⟩
/-- Where row stands: the reader, the last parts, the pattern's cells (those of the row from F on). -/
structure Rw (w : World) (bR bC F : Nat) (xs : List Int) (p : Option Addr) (cap i : Nat) (L : List Pt.Cl) (row ls : List Pt.Cl) (w' : World) : Prop where
  rn : Rn w' bR xs p cap i
  rl : w'.rangeAt bR 2 (cc ls)
  tl : w'.there bR 2 (ls.length * 6)
  kc : Kr w' bC (lay L F row)
  fr : Fz w bR bC w'
theorem Rw.below {w : World} {bR bC F : Nat} {xs : List Int} {p : Option Addr} {cap i : Nat} {L row ls : List Pt.Cl} {w1 w2 : World} (h : Rw w bR bC F xs p cap i L row ls w1) (hb : Below w1.heap.size w1 w2) : Rw w bR bC F xs p cap i L row ls w2 :=
  ⟨h.rn.below hb, range_below h.rl hb h.rn.lt, there_below h.tl hb h.rn.lt, h.kc.kept hb, h.fr.trans (.of hb)⟩
theorem Rw.next {w : World} {bR bC F : Nat} {xs : List Int} {p : Option Addr} {cap i j : Nat} {L row ls : List Pt.Cl} {w1 w2 : World} (h : Rw w bR bC F xs p cap i L row ls w1) (hs : S1 w1 bR 1 (.int .i64 (j : Nat)) w2) (hj : j ≤ xs.length) (hne : bC ≠ bR) : Rw w bR bC F xs p cap j L row ls w2 :=
  ⟨h.rn.step hs hj, fun j v hv => by rw [(hs.out (2 + j) (by omega)).1]; exact h.rl j v hv, fun j hj => by rw [(hs.out (2 + j) (by omega)).1, (hs.out (2 + j) (by omega)).2]; exact h.tl j hj, h.kc.grown hs.gr hne, h.fr.trans (.left hs.gr)⟩
theorem Rw.one {w : World} {bR bC F : Nat} {xs : List Int} {p : Option Addr} {cap i : Nat} {L row ls : List Pt.Cl} {w1 : World} (h : Rw w bR bC F xs p cap i L row ls w1) {q : Nat} (hq : q < ls.length) : w1.rangeAt bR (2 + q * 6) (CL (Pt.at' ls q)) ∧ w1.there bR (2 + q * 6) 6 :=
  ⟨rng_of h.rl hq, fun j hj => by
    have := h.tl (q * 6 + j) (by omega)
    rwa [← Nat.add_assoc] at this⟩
theorem Rw.cell {w : World} {bR bC F : Nat} {xs : List Int} {p : Option Addr} {cap i j b4 b6 : Nat} {L row ls : List Pt.Cl} {w1 w2 : World} (h : Rw w bR bC F xs p cap i L row ls w1) {q : Nat} (hq : q < ls.length) {c la : Pt.Cl} (hc : Cw w1 bR (2 + q * 6) b4 b6 xs p cap j c la w2) (hne : bC ≠ bR) : Rw w bR bC F xs p cap j L row (ls.set q la) w2 := by
  refine ⟨hc.rn, rng_mk fun k hk => ?_, fun k hk => ?_, h.kc.grown hc.gr hne, h.fr.trans (.left hc.gr)⟩
  · rw [List.length_set] at hk
    rw [Pt.at_set ls q la hq]
    by_cases e : k = q
    · subst e; rw [if_pos rfl]; exact hc.las
    · rw [if_neg e]
      intro j' v hv
      have hj' : j' < 6 := by have := (List.getElem?_eq_some_iff.1 hv).1; rwa [cl_len] at this
      rw [(hc.out (2 + k * 6 + j') (by omega) (by omega)).1]
      exact rng_of h.rl hk j' v hv
  · rw [List.length_set] at hk
    by_cases e : q * 6 ≤ k ∧ k < q * 6 + 6
    · have := hc.tl (k - q * 6) (by omega)
      rwa [show 2 + q * 6 + (k - q * 6) = 2 + k by omega] at this
    · rw [(hc.out (2 + k) (by omega) (by omega)).1, (hc.out (2 + k) (by omega) (by omega)).2]
      exact h.tl k hk
theorem lay_set {L row : List Pt.Cl} {F q : Nat} (h : F + row.length ≤ L.length) (hq : q < row.length) (c : Pt.Cl) : (lay L F row).set (F + q) c = lay L F (row.set q c) := by
  refine Pt.ext_at (by rw [List.length_set, lay_len h, lay_len (by simpa using h)]) fun k hk => ?_
  rw [List.length_set, lay_len h] at hk
  rw [Pt.at_set _ _ _ (by rw [lay_len h]; omega), lay_at h, lay_at (by simpa using h), List.length_set]
  by_cases e : k = F + q
  · subst e
    rw [if_pos rfl, if_pos (by omega), Pt.at_set _ _ _ hq, if_pos (by omega)]
  · rw [if_neg e]
    by_cases e2 : F ≤ k ∧ k < F + row.length
    · rw [if_pos e2, if_pos e2, Pt.at_set _ _ _ hq, if_neg (by omega)]
    · rw [if_neg e2, if_neg e2]
theorem Rw.set {w : World} {bR bC F : Nat} {xs : List Int} {p : Option Addr} {cap i : Nat} {L row ls : List Pt.Cl} {w1 : World} (h : Rw w bR bC F xs p cap i L row ls w1) {q : Nat} (hF : F + row.length ≤ L.length) (hq : q < row.length) (hne : bC ≠ bR) (hp : ∀ b off, p = some ⟨b, off, none⟩ → b ≠ bC) (c : Pt.Cl) : Rw w bR bC F xs p cap i L (row.set q c) ls (w1.setCells bC ((F + q) * 6) (CL c)) := by
  have hg := grown_setCells bC (CL c) ((F + q) * 6) w1
  have hk := h.kc.setCl (i := F + q) (by rw [lay_len hF]; omega) c
  rw [lay_set hF hq] at hk
  exact ⟨h.rn.fresh hg (fun e => hne e.symm) hp, range_grown h.rl hg (fun e => hne e.symm) h.rn.lt, there_grown h.tl hg (fun e => hne e.symm) h.rn.lt, hk, h.fr.trans (.right hg)⟩
end Go.Proofs.Ytfjfnbeegojlbaa

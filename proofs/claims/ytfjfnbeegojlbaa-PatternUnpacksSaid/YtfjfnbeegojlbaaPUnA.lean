/-
  A reader made; what package pattern's Unpack hands back.
-/
import Derived.Test.YtfjfnbeegojlbaaPUo
namespace Go.Proofs.Ytfjfnbeegojlbaa
open Go.RowKit

/-- A reader as words. -/
def RL (v : Value) (i : Int) (ls : List Pt.Cl) : List Value := v :: .int .i64 i :: cc ls
theorem rl_one (p : Option Addr) (n cap : Nat) (i : Int) (ls : List Pt.Cl) : (RL (.slice p n cap) i ls).toArray.all (·.oneCell') = true := by
  rw [Array.all_eq_true']
  intro u hu
  simp only [List.mem_toArray, RL, List.mem_cons] at hu
  rcases hu with rfl | rfl | hu
  · rfl
  · rfl
  · exact cc_one ls u hu
theorem Try.infoReader : (Try.prog.info? 77).map (·.size) = some 98 := by kernel_rfl
theorem rl_len (v : Value) (i : Int) {ls : List Pt.Cl} (h : ls.length = 16) : (RL v i ls).length = 98 := by simp [RL, cc_len, h]
section
variable {ops : Array Oper} {rest : List Oper} {op : Oper} {a : Act} {w : World} {Q : Exit → Act → World → Prop}
set_option maxRecDepth 100000 in
theorem bd_reader (hw : Region.wanted op (yielded ops a.tmps) = true) (x : Tmp) (ho : op.op = .build 77 #[(0, .tmp x)]) {p : Option Addr} {n cap : Nat} (hx : a.eval (.tmp x) = .slice p n cap)
    (h : wpList Try.prog ops Q rest (a.put op.dst (.agg (RL (.slice p n cap) 0 (List.replicate 16 Pt.zc)).toArray)) w) : wpList Try.prog ops Q (op :: rest) a w := by
  simp only [wpList, hw, if_true]
  refine .inl ?_
  unfold Oper.wp execOp
  simp only [ho]
  have hx' : a.tmps[x]?.getD undef = .slice p n cap := by simpa [Act.eval] using hx
  simp [go_sem, hx']
  exact h
set_option maxRecDepth 100000 in
theorem al_reader (hw : Region.wanted op (yielded ops a.tmps) = true) (ho : op.op = .alloc 77)
    (h : ∀ w', Below w.heap.size w w' → w'.heap.size = w.heap.size + 1 → w'.there w.heap.size 0 98 → wpList Try.prog ops Q rest (a.put op.dst (.pointer (some ⟨w.heap.size, 0, none⟩))) w') : wpList Try.prog ops Q (op :: rest) a w := by
  simp only [wpList, hw, if_true]
  refine .inl ?_
  unfold Oper.wp execOp
  simp only [ho]
  simp [go_sem]
  refine h _ (below_box _ _) (by simp) ?_
  have ht := there_box w (RL (.slice none 0 0) 0 (List.replicate 16 Pt.zc)) 77
  rw [rl_len _ _ (by simp)] at ht
  exact ht
end
namespace Pt
theorem vl_er {k : Nat} {b : List Int} {e : Int} (h : vl k b = .error e) : e = 12 ∨ e = 9 := by
  cases b with
  | nil => simp [vl] at h; exact .inl h.symm
  | cons x t =>
    simp only [vl] at h
    by_cases hx : x = 0
    · rw [if_pos hx] at h; simp at h; exact .inr h.symm
    · rw [if_neg hx] at h
      by_cases hn : num k = 1
      · rw [if_pos hn] at h; simp at h
      · rw [if_neg hn] at h
        cases t with
        | nil => simp at h; exact .inl h.symm
        | cons y t' => simp at h
theorem uk_er {m k : Nat} {s : Uc} {e : Int} (h : uk m k s = .error e) : e = 12 ∨ e = 9 := by
  unfold uk at h
  by_cases b1 : m.testBit k = true
  · rw [if_pos b1] at h
    cases hv : vl k s.b with
    | error z =>
      rw [hv] at h
      have h : (Except.error z : Except Int Uc) = .error e := h
      simp at h
      subst h
      exact vl_er hv
    | ok p => rw [hv] at h; exact absurd h (by simp)
  · rw [if_neg b1] at h
    by_cases b2 : m.testBit (k + 4) = true
    · rw [if_pos b2] at h; simp at h
    · rw [if_neg b2] at h; simp at h
theorem uks_er {m : Nat} {s : Uc} {e : Int} : ∀ k, uks m k s = .error e → e = 12 ∨ e = 9
  | 0, h => by simp [uks] at h
  | k + 1, h => by
    rw [uks] at h
    cases hv : uks m k s with
    | error z =>
      rw [hv] at h
      have h : (Except.error z : Except Int Uc) = .error e := h
      simp at h
      subst h
      exact uks_er k hv
    | ok p => rw [hv] at h; exact uk_er h
theorem ucell_er {la : Cl} {b : List Int} {e : Int} (h : ucell la b = .error e) : e = 12 ∨ e = 9 := by
  cases b with
  | nil => simp [ucell] at h; exact .inl h.symm
  | cons x t =>
    simp only [ucell] at h
    by_cases hm : vmask x.toNat la = true
    · rw [if_pos hm] at h
      cases hv : uks x.toNat 4 ⟨zc, la, t⟩ with
      | error z =>
        rw [hv] at h
        have h : (Except.error z : Except Int Uc) = .error e := h
        simp at h
        subst h
        exact uks_er 4 hv
      | ok s =>
        rw [hv] at h
        have h : uend s = .error e := h
        unfold uend at h
        by_cases hc : vcl s.c = true
        · rw [if_pos hc] at h; simp at h
        · rw [if_neg hc] at h; simp at h; exact .inr h.symm
    · rw [if_neg hm] at h; simp at h; exact .inr h.symm
theorem urow_er {C : Nat} {e : Int} : ∀ n bf s, C + 1 ≤ n + bf → bf ≤ C → urow C n bf s = .error e → e = 12 ∨ e = 9
  | 0, _, _, h1, h2, _ => by omega
  | n + 1, bf, s, h1, h2, h => by
    obtain ⟨row, ls, b⟩ := s
    cases b with
    | nil => simp [urow] at h; exact .inl h.symm
    | cons x t =>
      rw [urow] at h
      have h : (if x = 0 then (.ok ⟨row, ls, t⟩ : Except Int Ur) else if (bf : Int) + 1 ≤ x ∧ x ≤ C then (match ucell (at' ls (x.toNat - 1)) t with | .error e => .error e | .ok u => urow C n x.toNat ⟨row.set (x.toNat - 1) u.c, ls.set (x.toNat - 1) u.la, u.b⟩) else .error 9) = .error e := h
      by_cases hx : x = 0
      · rw [if_pos hx] at h; simp at h
      · rw [if_neg hx] at h
        by_cases hc : (bf : Int) + 1 ≤ x ∧ x ≤ C
        · rw [if_pos hc] at h
          cases hu : ucell (at' ls (x.toNat - 1)) t with
          | error z =>
            rw [hu] at h
            have h : (Except.error z : Except Int Ur) = .error e := h
            simp at h
            subst h
            exact ucell_er hu
          | ok v =>
            rw [hu] at h
            exact urow_er n x.toNat _ (by omega) (by omega) h
        · rw [if_neg hc] at h; simp at h; exact .inr h.symm
theorem urows_er {C : Nat} {e : Int} : ∀ n s, urows C n s = .error e → e = 12 ∨ e = 9
  | 0, _, h => by simp [urows] at h
  | n + 1, s, h => by
    rw [urows] at h
    cases hu : urow C (C + 1) 0 ⟨List.replicate C zc, s.ls, s.b⟩ with
    | error z =>
      rw [hu] at h
      have h : (Except.error z : Except Int Ur) = .error e := h
      simp at h
      subst h
      exact urow_er (C + 1) 0 _ (by omega) (by omega) hu
    | ok v => rw [hu] at h; exact urows_er n _ h
theorem upk_er {R C : Nat} {b : List Int} {e : Int} (h : upk R C b = .error e) : e ≠ 0 := by
  rcases urows_er R _ h with h | h <;> omega
def unE (n : Nat) : Except Int Ur → Except Int (List Cl × Nat) | .error e => .error e | .ok u => .ok (u.row, n - u.b.length)
def unp (R C : Int) (xs : List Int) : Except Int (List Cl × Nat) :=
  if eBlank R C = 0 then (if xs.length ≤ 400000 then unE xs.length (upk R.toNat C.toNat xs) else .error 3) else .error (eBlank R C)
end Pt
/-- What Unpack hands back. -/
def RetN (R : Int) (T : Except Int (List Pt.Cl × Nat)) (B : Nat) (x : Ending) (w' : World) : Prop :=
  match T with
  | .error e => x = .returned (.tuple #[PV 0 none 0 0, .int .i64 0, .int .i64 e])
  | .ok (l, n) => ∃ q cp, x = .returned (.tuple #[PV R q l.length cp, .int .i64 (n : Nat), .int .i64 0]) ∧ l.length ≤ cp ∧ Own w' B q l
theorem res_pne {fn : Func} {q u v : Tmp} (hf : fn.results = #[.cell q 24, .tmp u, .tmp v]) {tmps : Array Value} {w : World} {b : Nat} (hp : tmps.getD q undef = .pointer (some ⟨b, 0, none⟩)) {r : Int} {z x y : Value} (h : w.rangeAt b 0 [.int .i64 r, z]) (hu : tmps.getD u undef = x) (hv : tmps.getD v undef = y) :
    (results fn tmps).run Try.prog w = .ok (.tuple #[.agg #[.int .i64 r, z], x, y]) w := by
  have e : (results fn tmps).run Try.prog w = ((asAddr (tmps.getD q undef)).run Try.prog w).andThen fun a w₁ => ((loadVar 24 a).run Try.prog w₁).andThen fun z w₂ => .ok (.tuple #[z, tmps.getD u undef, tmps.getD v undef]) w₂ := by
    simp only [results, hf]
    simp [Sem.run_bind, Result.andThen]
  rw [e, hp, hu, hv]
  simp [Result.andThen, asAddr, run_loadVar_mid w b 0 24 [.int .i64 r, z] _ h Try.underlying24 rfl Try.infoPat]
end Go.Proofs.Ytfjfnbeegojlbaa

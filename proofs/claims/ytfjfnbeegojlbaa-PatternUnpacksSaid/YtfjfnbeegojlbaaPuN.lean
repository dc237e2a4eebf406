/-
  Mathematics of unpacking: patterns that were packed are read back; what is read packs to no more bytes. No program.
-/
import Derived.Test.YtfjfnbeegojlbaaPuM
namespace Go.Proofs.Ytfjfnbeegojlbaa
open Go.RowKit

namespace Pt
theorem eqC_zc : eqC zc zc = true := by decide
theorem at_take_rep (l : List Cl) (C y x : Nat) : at' (mk C fun k => if k < x then at' l (y * C + k) else zc) x = zc := by
  by_cases h : x < C
  · rw [mk_at _ _ h, if_neg (by omega)]
  · exact at_out _ _ (by rw [mk_len]; omega)
/-- The first x cells of a row. -/
def rowTo (l : List Cl) (C y x : Nat) : List Cl := mk C fun k => if k < x then at' l (y * C + k) else zc
theorem rowTo_zero (l : List Cl) (C y : Nat) : rowTo l C y 0 = List.replicate C zc := by
  refine ext_at (by rw [rowTo, mk_len]; simp) fun k hk => ?_
  rw [rowTo, mk_len] at hk
  rw [rowTo, mk_at _ _ hk, at_rep, if_neg (by omega)]
theorem rowTo_succ {l : List Cl} {C y x : Nat} (hx : x < C) : (rowTo l C y x).set x (at' l (y * C + x)) = rowTo l C y (x + 1) := by
  refine ext_at (by simp [rowTo, mk_len]) fun k hk => ?_
  rw [List.length_set, rowTo, mk_len] at hk
  rw [at_set _ _ _ (by rw [rowTo, mk_len]; exact hx), rowTo, rowTo, mk_at _ _ hk, mk_at _ _ hk]
  by_cases e : k = x
  · subst e; rw [if_pos rfl, if_pos (by omega)]
  · rw [if_neg e]
    by_cases e2 : k < x
    · rw [if_pos e2, if_pos (by omega)]
    · rw [if_neg e2, if_neg (by omega)]
theorem rowTo_same {l : List Cl} {C y x : Nat} (h : at' l (y * C + x) = zc) : rowTo l C y (x + 1) = rowTo l C y x := by
  refine ext_at (by simp [rowTo, mk_len]) fun k hk => ?_
  rw [rowTo, mk_len] at hk
  rw [rowTo, rowTo, mk_at _ _ hk, mk_at _ _ hk]
  by_cases e : k = x
  · subst e; rw [if_pos (by omega), if_neg (by omega), h]
  · by_cases e2 : k < x
    · rw [if_pos e2, if_pos (by omega)]
    · rw [if_neg e2, if_neg (by omega)]
/-- Reading what was packed of a row's first x cells. -/
theorem urow_back (l : List Cl) (C y : Nat) (q : Pq) (hv : ∀ x, x < C → vcl (at' l (y * C + x)) = true) : ∀ x, x ≤ C → ∃ D n bf, (pkX l C y x q).bs = q.bs ++ D ∧ bf ≤ x ∧ C + 1 ≤ n + x ∧ ∀ s, urow C (C + 1) 0 ⟨List.replicate C zc, q.ls, D ++ s⟩ = urow C n bf ⟨rowTo l C y x, (pkX l C y x q).ls, s⟩
  | 0, _ => ⟨[], C + 1, 0, by simp [pkX], Nat.le_refl _, by omega, fun s => by rw [rowTo_zero]; rfl⟩
  | x + 1, hx => by
    obtain ⟨D, n, bf, e1, e2, e3, e4⟩ := urow_back l C y q hv x (by omega)
    by_cases hz : eqC (at' l (y * C + x)) zc = true
    · refine ⟨D, n, bf, ?_, by omega, by omega, fun s => ?_⟩
      · rw [pkX, pkC, if_pos hz, e1]
      · rw [e4, rowTo_same (eqC_iff.1 hz), pkX, pkC, if_pos hz]
    · obtain ⟨c, hc⟩ : ∃ c, at' l (y * C + x) = c := ⟨_, rfl⟩
      have hvc := hv x (by omega)
      obtain ⟨la, hla⟩ : ∃ la, at' (pkX l C y x q).ls x = la := ⟨_, rfl⟩
      obtain ⟨n', rfl⟩ : ∃ n', n = n' + 1 := ⟨n - 1, by omega⟩
      refine ⟨D ++ (((x + 1 : Nat) : Int) :: ((pst c la 4).m : Int) :: (pst c la 4).bs), n', x + 1, ?_, Nat.le_refl _, by omega, fun s => ?_⟩
      · rw [pkX, pkC, if_neg hz, hc, hla]
        show (pkX l C y x q).bs ++ _ = _
        rw [e1, List.append_assoc]
      · rw [List.append_assoc, e4]
        show urow C (n' + 1) bf ⟨rowTo l C y x, _, ((x + 1 : Nat) : Int) :: (((pst c la 4).m : Int) :: ((pst c la 4).bs ++ s))⟩ = _
        rw [urow]
        show (if (((x + 1 : Nat) : Int) = 0) then _ else _) = _
        rw [if_neg (by omega), if_pos (by omega)]
        have hx1 : ((x + 1 : Nat) : Int).toNat = x + 1 := by omega
        rw [hx1, Nat.add_sub_cancel]
        show (match ucell (at' (pkX l C y x q).ls x) (((pst c la 4).m : Int) :: ((pst c la 4).bs ++ s)) with | .error e => _ | .ok u => _) = _
        rw [hla, ucell_back (by rw [← hc]; exact hvc) (by rw [← hc]; simpa using hz)]
        show urow C n' (x + 1) ⟨(rowTo l C y x).set x c, (pkX l C y x q).ls.set x (pst c la 4).la, s⟩ = _
        rw [← hc, rowTo_succ (by omega), pkX, pkC, if_neg hz, hc, hla]
theorem take_row {l : List Cl} {C y : Nat} (h : (y + 1) * C ≤ l.length) : l.take (y * C) ++ rowTo l C y C = l.take ((y + 1) * C) := by
  have e0 : (y + 1) * C = y * C + C := by rw [Nat.add_mul, Nat.one_mul]
  rw [e0] at h ⊢
  obtain ⟨S, hS⟩ : ∃ S, y * C = S := ⟨_, rfl⟩
  unfold rowTo
  rw [hS] at h ⊢
  refine ext_at (by simp [mk_len]; omega) fun k hk => ?_
  rw [List.length_append, List.length_take, mk_len] at hk
  rw [at_app, List.length_take, at_take _ (S + C) k (by omega)]
  by_cases e : k < S
  · rw [if_pos (by omega), at_take _ _ _ e]
  · rw [if_neg (by omega), mk_at _ _ (by omega), if_pos (by omega)]
    congr 1
    omega
theorem urows_back (l : List Cl) (R C : Nat) (hl : l.length = R * C) (hv : all l = true) : ∀ y, y ≤ R → ∀ s, urows C R ⟨[], List.replicate 16 zc, (pkY l C y).bs ++ s⟩ = urows C (R - y) ⟨l.take (y * C), (pkY l C y).ls, s⟩
  | 0, _, s => by simp [pkY]
  | y + 1, hy, s => by
    have hC : (y + 1) * C ≤ l.length := by rw [hl]; exact Nat.mul_le_mul_right C hy
    have hC2 : y * C + C ≤ l.length := by rw [Nat.add_mul, Nat.one_mul] at hC; exact hC
    obtain ⟨D, n, bf, e1, e2, e3, e4⟩ := urow_back l C y (pkY l C y) (fun x hx => all_at hv (by omega)) C (Nat.le_refl _)
    have ih := urows_back l R C hl hv y (by omega) (D ++ (0 :: s))
    have eb : (pkY l C (y + 1)).bs ++ s = (pkY l C y).bs ++ (D ++ (0 :: s)) := by
      show ((pkX l C y C (pkY l C y)).bs ++ [0]) ++ s = _
      rw [e1]
      simp [List.append_assoc]
    rw [eb, ih]
    obtain ⟨m, hm⟩ : ∃ m, R - y = m + 1 := ⟨R - y - 1, by omega⟩
    have hm2 : R - (y + 1) = m := by omega
    rw [hm, hm2, urows]
    show (match urow C (C + 1) 0 ⟨List.replicate C zc, (pkY l C y).ls, D ++ (0 :: s)⟩ with | .error e => _ | .ok u => urows C m ⟨l.take (y * C) ++ u.row, u.ls, u.b⟩) = _
    obtain ⟨n', rfl⟩ : ∃ n', n = n' + 1 := ⟨n - 1, by omega⟩
    rw [e4, urow]
    show urows C m ⟨l.take (y * C) ++ rowTo l C y C, (pkX l C y C (pkY l C y)).ls, s⟩ = _
    rw [take_row hC]
    rfl
/-- What was packed is read back, whatever follows. -/
theorem upk_back {l : List Cl} {R C : Nat} (hl : l.length = R * C) (hv : all l = true) (s : List Int) : ∃ ls, upk R C (packL l R C ++ s) = .ok ⟨l, ls, s⟩ := by
  refine ⟨(pkY l C R).ls, ?_⟩
  unfold upk packL
  rw [urows_back l R C hl hv R (Nat.le_refl _) s, Nat.sub_self, urows]
  rw [List.take_of_length_le (by omega)]
/-! What is read. -/
theorem pst_congr {c d : Cl} (la : Cl) : ∀ j, (∀ k, k < j → pv k c = pv k d) → pst c la j = pst d la j
  | 0, _ => rfl
  | j + 1, h => by
    have ih := pst_congr la j fun k hk => h k (by omega)
    simp only [pst]
    rw [ih, h j (by omega)]
theorem vl_ok {k : Nat} {b : List Int} {v : Int × Int} {t : List Int} (h : vl k b = .ok (v, t)) : isSet v = true ∧ (num k = 2 ∨ v.2 = 0) ∧ b = numsOf k v ++ t := by
  cases b with
  | nil => simp [vl] at h
  | cons x b' =>
    simp only [vl] at h
    by_cases hx : x = 0
    · simp [hx] at h
    · rw [if_neg hx] at h
      rcases num_cases k with hn | hn
      · rw [if_pos hn] at h
        simp only [Except.ok.injEq, Prod.mk.injEq] at h
        obtain ⟨rfl, rfl⟩ := h
        exact ⟨by simpa [isSet] using hx, .inr rfl, by simp [numsOf, hn]⟩
      · rw [if_neg (by omega)] at h
        cases b' with
        | nil => simp at h
        | cons y b'' =>
          simp only [Except.ok.injEq, Prod.mk.injEq] at h
          obtain ⟨rfl, rfl⟩ := h
          exact ⟨by simpa [isSet] using hx, .inl hn, by simp [numsOf, hn]⟩
def bys (b : List Int) : Prop := ∀ x, x ∈ b → 0 ≤ x ∧ x < 256
theorem bys_app {a b : List Int} (h : bys (a ++ b)) : bys b := fun x hx => h x (by simp [hx])
/-- The way of a cell's parts. -/
structure Uw (la : Cl) (t : List Int) (j : Nat) (s : Uc) : Prop where
  rest : ∀ k, k < 4 → j ≤ k → pv k s.c = (0, 0)
  las : s.la = (pst s.c la j).la
  len : ∃ pre, t = pre ++ s.b ∧ (pst s.c la j).bs.length ≤ pre.length
theorem pst_put {c la : Cl} {j : Nat} (hj : j < 4) (v : Int × Int) : pst (pw j c v) la j = pst c la j :=
  pst_congr la j fun k hk => pv_pw_ne hj (by omega) (by omega) c v
theorem set_zero {v : Int × Int} (h : isSet v = true) : v ≠ (0, 0) := fun e => by rw [e] at h; exact absurd h (by decide)
theorem uw_step {m : Nat} {la : Cl} {t : List Int} {j : Nat} (hj : j < 4) (hm : vmk m la j = true) {s s' : Uc} (h : Uw la t j s) (e : uk m j s = .ok s') : Uw la t (j + 1) s' ∧ (m.testBit j = true ∨ m.testBit (j + 4) = true → isSet (pv j s'.c) = true) ∧ ∀ k, k < 4 → k ≠ j → pv k s'.c = pv k s.c := by
  have hla : pv j s.la = pv j la := by rw [h.las]; exact pst_la_self s.c la hj
  unfold uk at e
  by_cases b1 : m.testBit j = true
  · rw [if_pos b1] at e
    cases hv : vl j s.b with
    | error x => rw [hv] at e; exact absurd e (by simp)
    | ok p =>
      obtain ⟨v, b⟩ := p
      rw [hv] at e
      have e : (Except.ok (Uc.mk (pw j s.c v) (pw j s.la v) b) : Except Int Uc) = .ok s' := e
      simp only [Except.ok.injEq] at e
      subst e
      obtain ⟨h1, h2, h3⟩ := vl_ok hv
      obtain ⟨pre, p1, p2⟩ := h.len
      have hp : pv j (pw j s.c v) = v := pv_pw h2
      refine ⟨⟨fun k hk hk2 => ?_, ?_, ?_⟩, fun _ => by show isSet (pv j (pw j s.c v)) = true; rw [hp]; exact h1, fun k hk hne => pv_pw_ne hj hk (fun e => hne e.symm) _ _⟩
      · show pv k (pw j s.c v) = _
        rw [pv_pw_ne hj hk (by omega)]; exact h.rest k hk (by omega)
      · show pw j s.la v = (pst (pw j s.c v) la (j + 1)).la
        by_cases e2 : v = pv j (pst s.c la j).la
        · rw [pst_same (by rw [hp]; exact h1) (by rw [hp, pst_put hj]; exact e2), pst_put hj]
          show pw j s.la v = (pst s.c la j).la
          rw [← h.las] at e2 ⊢
          rw [e2, pw_pv]
        · rw [pst_new (by rw [hp]; exact h1) (by rw [hp, pst_put hj]; exact e2), pst_put hj, hp]
          show pw j s.la v = pw j (pst s.c la j).la v
          rw [← h.las]
      · refine ⟨pre ++ numsOf j v, by rw [p1, h3, List.append_assoc], ?_⟩
        show (pst (pw j s.c v) la (j + 1)).bs.length ≤ _
        by_cases e2 : v = pv j (pst s.c la j).la
        · rw [pst_same (by rw [hp]; exact h1) (by rw [hp, pst_put hj]; exact e2), pst_put hj]
          show (pst s.c la j).bs.length ≤ _
          rw [List.length_append]; omega
        · rw [pst_new (by rw [hp]; exact h1) (by rw [hp, pst_put hj]; exact e2), pst_put hj, hp]
          show ((pst s.c la j).bs ++ numsOf j v).length ≤ _
          rw [List.length_append, List.length_append]; omega
  · rw [if_neg b1] at e
    by_cases b2 : m.testBit (j + 4) = true
    · rw [if_pos b2] at e
      simp only [Except.ok.injEq] at e
      subst e
      unfold vmk at hm
      rw [b2] at hm
      have hs : isSet (pv j la) = true := by
        simp only [Bool.not_true, Bool.false_or, Bool.and_eq_true] at hm
        exact hm.2
      rw [hla]
      have h2 := pv_ok j la
      have hp : pv j (pw j s.c (pv j la)) = pv j la := pv_pw h2
      have e2 : pv j la = pv j (pst s.c la j).la := (pst_la_self s.c la hj).symm
      obtain ⟨pre, p1, p2⟩ := h.len
      refine ⟨⟨fun k hk hk2 => ?_, ?_, ?_⟩, fun _ => by show isSet (pv j (pw j s.c (pv j la))) = true; rw [hp]; exact hs, fun k hk hne => pv_pw_ne hj hk (fun e => hne e.symm) _ _⟩
      · show pv k (pw j s.c (pv j la)) = _
        rw [pv_pw_ne hj hk (by omega)]; exact h.rest k hk (by omega)
      · show s.la = (pst (pw j s.c (pv j la)) la (j + 1)).la
        rw [pst_same (by rw [hp]; exact hs) (by rw [hp, pst_put hj]; exact e2), pst_put hj]
        exact h.las
      · refine ⟨pre, p1, ?_⟩
        show (pst (pw j s.c (pv j la)) la (j + 1)).bs.length ≤ _
        rw [pst_same (by rw [hp]; exact hs) (by rw [hp, pst_put hj]; exact e2), pst_put hj]
        exact p2
    · rw [if_neg b2] at e
      simp only [Except.ok.injEq] at e
      subst e
      have h0 := h.rest j hj (Nat.le_refl _)
      have hu : isSet (pv j s.c) = false := by rw [h0]; rfl
      refine ⟨⟨fun k hk hk2 => h.rest k hk (by omega), ?_, ?_⟩, fun x => ?_, fun _ _ _ => rfl⟩
      · rw [pst_unset hu]; exact h.las
      · rw [pst_unset hu]; exact h.len
      · rcases x with x | x
        · exact absurd x b1
        · exact absurd x b2
theorem low_bits {m : Nat} (hm : m < 256) (h : m ≠ 0) : ∃ k, k < 4 ∧ (m.testBit k = true ∨ m.testBit (k + 4) = true) := by
  refine Classical.byContradiction fun hn => h ?_
  refine Nat.eq_of_testBit_eq fun i => ?_
  rw [Nat.zero_testBit]
  have hn' : ∀ k, k < 4 → m.testBit k = false ∧ m.testBit (k + 4) = false := fun k hk => by
    refine ⟨?_, ?_⟩
    · cases e : m.testBit k with
      | false => rfl
      | true => exact absurd ⟨k, hk, .inl e⟩ hn
    · cases e : m.testBit (k + 4) with
      | false => rfl
      | true => exact absurd ⟨k, hk, .inr e⟩ hn
  by_cases h4 : i < 4
  · exact (hn' i h4).1
  · by_cases h8 : i < 8
    · have := (hn' (i - 4) (by omega)).2
      rwa [show i - 4 + 4 = i by omega] at this
    · exact Nat.testBit_lt_two_pow (Nat.lt_of_lt_of_le hm (by
        have : 2 ^ 8 ≤ 2 ^ i := Nat.pow_le_pow_right (by decide) (by omega)
        exact this))
/-- A cell that is read: what it packs to. -/
theorem ucell_ok {la : Cl} {b : List Int} {u : Uc} (hb : bys b) (h : ucell la b = .ok u) : vcl u.c = true ∧ eqC u.c zc = false ∧ u.la = (pst u.c la 4).la ∧ ∃ pre, b = pre ++ u.b ∧ 1 + (pst u.c la 4).bs.length ≤ pre.length := by
  cases b with
  | nil => simp [ucell] at h
  | cons x t =>
    simp only [ucell] at h
    by_cases hm : vmask x.toNat la = true
    · rw [if_pos hm] at h
      obtain ⟨m, hm2⟩ : ∃ m, x.toNat = m := ⟨_, rfl⟩
      rw [hm2] at hm h
      have hx := hb x (by simp)
      have hm256 : m < 256 := by omega
      unfold vmask at hm
      simp only [Bool.and_eq_true, bne_iff_ne, ne_eq] at hm
      obtain ⟨⟨v0, v1, v2, v3⟩, hm0⟩ := hm
      cases he : uks m 4 ⟨zc, la, t⟩ with
      | error e => rw [he] at h; exact absurd h (by simp)
      | ok s4 =>
        rw [he] at h
        have h : uend s4 = .ok u := h
        unfold uend at h
        by_cases hv : vcl s4.c = true
        · rw [if_pos hv] at h
          simp only [Except.ok.injEq] at h
          subst h
          have W0 : Uw la t 0 ⟨zc, la, t⟩ := ⟨fun k hk _ => four (p := fun k => pv k zc = (0, 0)) rfl rfl rfl rfl k hk, rfl, [], rfl, Nat.le_refl _⟩
          rw [uks] at he
          cases he3 : uks m 3 ⟨zc, la, t⟩ with
          | error e => rw [he3] at he; exact absurd he (by simp)
          | ok s3 =>
            rw [he3] at he
            rw [uks] at he3
            cases he2 : uks m 2 ⟨zc, la, t⟩ with
            | error e => rw [he2] at he3; exact absurd he3 (by simp)
            | ok s2 =>
              rw [he2] at he3
              rw [uks] at he2
              cases he1 : uks m 1 ⟨zc, la, t⟩ with
              | error e => rw [he1] at he2; exact absurd he2 (by simp)
              | ok s1 =>
                rw [he1] at he2
                have he1 : uk m 0 ⟨zc, la, t⟩ = .ok s1 := he1
                have he2 : uk m 1 s1 = .ok s2 := he2
                have he3 : uk m 2 s2 = .ok s3 := he3
                have he4 : uk m 3 s3 = .ok s4 := he
                obtain ⟨W1, p1, q1⟩ := uw_step (by decide) v0 W0 he1
                obtain ⟨W2, p2, q2⟩ := uw_step (by decide) v1 W1 he2
                obtain ⟨W3, p3, q3⟩ := uw_step (by decide) v2 W2 he3
                obtain ⟨W4, p4, q4⟩ := uw_step (by decide) v3 W3 he4
                refine ⟨hv, ?_, W4.las, ?_⟩
                · cases ez : eqC s4.c zc with
                  | false => rfl
                  | true =>
                    have ez := eqC_iff.1 ez
                    obtain ⟨k, hk, hbit⟩ := low_bits hm256 hm0
                    have hset : isSet (pv k s4.c) = true := by
                      match k, hk with
                      | 0, _ => rw [q4 0 (by decide) (by decide), q3 0 (by decide) (by decide), q2 0 (by decide) (by decide)]; exact p1 hbit
                      | 1, _ => rw [q4 1 (by decide) (by decide), q3 1 (by decide) (by decide)]; exact p2 hbit
                      | 2, _ => rw [q4 2 (by decide) (by decide)]; exact p3 hbit
                      | 3, _ => exact p4 hbit
                    rw [ez] at hset
                    exact absurd hset (four (p := fun k => ¬ isSet (pv k zc) = true) (by decide) (by decide) (by decide) (by decide) k hk)
                · obtain ⟨pre, h1, h2⟩ := W4.len
                  exact ⟨x :: pre, by rw [h1]; rfl, by
                    have h2 : (pst s4.c la 4).bs.length ≤ pre.length := h2
                    rw [List.length_cons]; omega⟩
        · rw [if_neg hv] at h; exact absurd h (by simp)
    · rw [if_neg hm] at h; exact absurd h (by simp)
theorem pkX_congr (l l' : List Cl) (C y y' : Nat) (q : Pq) : ∀ x, (∀ k, k < x → at' l (y * C + k) = at' l' (y' * C + k)) → pkX l C y x q = pkX l' C y' x q
  | 0, _ => rfl
  | x + 1, h => by rw [pkX, pkX, pkX_congr l l' C y y' q x (fun k hk => h k (by omega)), h x (by omega)]
theorem pkX_skip (l : List Cl) (C y bf : Nat) (q : Pq) : ∀ n, (∀ k, bf ≤ k → k < bf + n → at' l (y * C + k) = zc) → pkX l C y (bf + n) q = pkX l C y bf q
  | 0, _ => rfl
  | n + 1, h => by
    show pkX l C y ((bf + n) + 1) q = _
    rw [pkX, pkC, h (bf + n) (by omega) (by omega), if_pos eqC_zc]
    exact pkX_skip l C y bf q n fun k h1 h2 => h k h1 (by omega)
/-- A row read so far, and what it packs to. -/
structure Uv (C : Nat) (q : Pq) (b : List Int) (bf : Nat) (s : Ur) : Prop where
  len : s.row.length = C
  zer : ∀ k, bf ≤ k → k < C → at' s.row k = zc
  ok : ∀ k, k < C → vcl (at' s.row k) = true
  pk : (pkX s.row C 0 bf q).ls = s.ls
  sz : ∃ pre, b = pre ++ s.b ∧ (pkX s.row C 0 bf q).bs.length ≤ q.bs.length + pre.length
theorem vcl_zc : vcl zc = true := by decide
theorem urow_ok {C : Nat} (q : Pq) (hq : C ≤ q.ls.length) (b : List Int) (hb : bys b) : ∀ n bf s u, bf ≤ C → Uv C q b bf s → urow C n bf s = .ok u → u.row.length = C ∧ (∀ k, k < C → vcl (at' u.row k) = true) ∧ (pkX u.row C 0 C q).ls = u.ls ∧ ∃ pre, b = pre ++ u.b ∧ (pkX u.row C 0 C q).bs.length + 1 ≤ q.bs.length + pre.length
  | 0, _, _, _, _, _, h => by simp [urow] at h
  | n + 1, bf, s, u, hbf, W, h => by
    obtain ⟨row, ls, b1⟩ := s
    cases b1 with
    | nil => simp [urow] at h
    | cons x t =>
      obtain ⟨pre, p1, p2⟩ := W.sz
      have p1 : b = pre ++ x :: t := p1
      rw [urow] at h
      have h : (if x = 0 then (.ok ⟨row, ls, t⟩ : Except Int Ur) else if (bf : Int) + 1 ≤ x ∧ x ≤ C then (match ucell (at' ls (x.toNat - 1)) t with | .error e => .error e | .ok u => urow C n x.toNat ⟨row.set (x.toNat - 1) u.c, ls.set (x.toNat - 1) u.la, u.b⟩) else .error 9) = .ok u := h
      by_cases hx : x = 0
      · rw [if_pos hx] at h
        simp only [Except.ok.injEq] at h
        subst h
        have e : pkX row C 0 C q = pkX row C 0 bf q := by
          have := pkX_skip row C 0 bf q (C - bf) fun k h1 h2 => by rw [Nat.zero_mul, Nat.zero_add]; exact W.zer k h1 (by omega)
          rwa [show bf + (C - bf) = C by omega] at this
        refine ⟨W.len, W.ok, by rw [e]; exact W.pk, pre ++ [x], by rw [p1]; simp, ?_⟩
        rw [e, List.length_append, List.length_singleton]
        have p2 : (pkX row C 0 bf q).bs.length ≤ _ := p2
        omega
      · rw [if_neg hx] at h
        by_cases hc : (bf : Int) + 1 ≤ x ∧ x ≤ C
        · rw [if_pos hc] at h
          cases hu : ucell (at' ls (x.toNat - 1)) t with
          | error e => rw [hu] at h; exact absurd h (by simp)
          | ok v =>
            rw [hu] at h
            have h : urow C n x.toNat ⟨row.set (x.toNat - 1) v.c, ls.set (x.toNat - 1) v.la, v.b⟩ = .ok u := h
            have hbt : bys t := fun y hy => hb y (by rw [p1]; simp [hy])
            obtain ⟨g1, g2, g3, pre2, g4, g5⟩ := ucell_ok hbt hu
            obtain ⟨i, hi⟩ : ∃ i, x.toNat = i + 1 := ⟨x.toNat - 1, by omega⟩
            rw [hi, Nat.add_sub_cancel] at h
            rw [hi, Nat.add_sub_cancel] at g3 g5
            have hiC : i < C := by omega
            have hrl : row.length = C := W.len
            have hzi : at' row i = zc := W.zer i (by omega) hiC
            have hset : ∀ k, at' (row.set i v.c) k = if k = i then v.c else at' row k := at_set row i v.c (by omega)
            have e1 : pkX (row.set i v.c) C 0 i q = pkX row C 0 bf q := by
              rw [pkX_congr (row.set i v.c) row C 0 0 q i (fun k hk => by rw [Nat.zero_mul, Nat.zero_add, hset, if_neg (by omega)])]
              have := pkX_skip row C 0 bf q (i - bf) fun k h1 h2 => by rw [Nat.zero_mul, Nat.zero_add]; exact W.zer k h1 (by omega)
              rwa [show bf + (i - bf) = i by omega] at this
            have hls : (pkX row C 0 bf q).ls = ls := W.pk
            have e2 : pkX (row.set i v.c) C 0 (i + 1) q = ⟨(pkX row C 0 bf q).bs ++ ((i + 1 : Nat) : Int) :: ((pst v.c (at' ls i) 4).m : Int) :: (pst v.c (at' ls i) 4).bs, ls.set i (pst v.c (at' ls i) 4).la⟩ := by
              rw [pkX, e1, Nat.zero_mul, Nat.zero_add, hset, if_pos rfl, pkC, if_neg (by rw [g2]; decide), hls]
            refine urow_ok q hq b hb n (i + 1) _ u (by omega) ⟨by simp [hrl], fun k h1 h2 => ?_, fun k hk => ?_, ?_, ?_⟩ h
            · rw [hset, if_neg (by omega)]; exact W.zer k (by omega) h2
            · rw [hset]
              by_cases e : k = i
              · rw [if_pos e]; exact g1
              · rw [if_neg e]; exact W.ok k hk
            · rw [e2]
              show ls.set i _ = ls.set i v.la
              rw [g3]
            · refine ⟨pre ++ x :: pre2, by rw [p1, g4]; simp, ?_⟩
              rw [e2]
              show ((pkX row C 0 bf q).bs ++ _ :: _ :: _).length ≤ _
              simp only [List.length_append, List.length_cons]
              have p2 : (pkX row C 0 bf q).bs.length ≤ _ := p2
              omega
        · rw [if_neg hc] at h; exact absurd h (by simp)
theorem pkY_congr (l l' : List Cl) (C : Nat) : ∀ y, (∀ k, k < y * C → at' l k = at' l' k) → pkY l C y = pkY l' C y
  | 0, _ => rfl
  | y + 1, h => by
    have h1 : y * C ≤ (y + 1) * C := Nat.mul_le_mul_right C (by omega)
    have h2 : (y + 1) * C = y * C + C := by rw [Nat.add_mul, Nat.one_mul]
    rw [pkY, pkY, pkY_congr l l' C y (fun k hk => h k (by omega)), pkX_congr l l' C y y _ C (fun k hk => h _ (by omega))]
theorem urows_ok {C : Nat} (hC : C ≤ 16) (b : List Int) (hb : bys b) : ∀ n y s u, s.row.length = y * C → all s.row = true → (pkY s.row C y).ls = s.ls → (∃ pre, b = pre ++ s.b ∧ (pkY s.row C y).bs.length ≤ pre.length) → urows C n s = .ok u →
    u.row.length = (y + n) * C ∧ all u.row = true ∧ ∃ pre, b = pre ++ u.b ∧ (pkY u.row C (y + n)).bs.length ≤ pre.length
  | 0, y, s, u, h1, h2, h3, h4, h => by
    simp only [urows, Except.ok.injEq] at h
    subst h
    exact ⟨h1, h2, h4⟩
  | n + 1, y, s, u, h1, h2, h3, h4, h => by
    obtain ⟨pre, p1, p2⟩ := h4
    rw [urows] at h
    cases hu : urow C (C + 1) 0 ⟨List.replicate C zc, s.ls, s.b⟩ with
    | error e => rw [hu] at h; exact absurd h (by simp)
    | ok v =>
      rw [hu] at h
      have h : urows C n ⟨s.row ++ v.row, v.ls, v.b⟩ = .ok u := h
      have hbs : bys s.b := bys_app (a := pre) (by rw [← p1]; exact hb)
      obtain ⟨g1, g2, g3, pre2, g4, g5⟩ := urow_ok (pkY s.row C y) (by rw [pkY_ls]; exact hC) s.b hbs (C + 1) 0 ⟨List.replicate C zc, s.ls, s.b⟩ v (by omega) ⟨by simp, fun k _ _ => at_rep _ _, fun k _ => by rw [at_rep]; exact vcl_zc, by rw [pkX]; exact h3, [], rfl, by rw [pkX]; simp⟩ hu
      have hq : pkX (s.row ++ v.row) C y C (pkY s.row C y) = pkX v.row C 0 C (pkY s.row C y) := by
        refine pkX_congr _ _ C y 0 _ C fun k hk => ?_
        rw [at_app, if_neg (by omega), h1, Nat.zero_mul, Nat.zero_add]
        congr 1
        omega
      have hy : pkY (s.row ++ v.row) C y = pkY s.row C y := pkY_congr _ _ C y fun k hk => by rw [at_app, if_pos (by omega)]
      have hy1 : pkY (s.row ++ v.row) C (y + 1) = ⟨(pkX v.row C 0 C (pkY s.row C y)).bs ++ [0], (pkX v.row C 0 C (pkY s.row C y)).ls⟩ := by rw [pkY, hy, hq]
      have hall : all (s.row ++ v.row) = true := all_mk fun j hj => by
        rw [at_app]
        rw [List.length_append] at hj
        by_cases e : j < s.row.length
        · rw [if_pos e]; exact all_at h2 e
        · rw [if_neg e]; exact g2 _ (by omega)
      have r := urows_ok hC b hb n (y + 1) _ u (by show (s.row ++ v.row).length = _; rw [List.length_append, h1, g1, Nat.add_mul, Nat.one_mul]) hall (by show (pkY (s.row ++ v.row) C (y + 1)).ls = v.ls; rw [hy1]; exact g3) ⟨pre ++ pre2, by rw [p1, g4, List.append_assoc], by
        show (pkY (s.row ++ v.row) C (y + 1)).bs.length ≤ _
        rw [hy1]
        show ((pkX v.row C 0 C (pkY s.row C y)).bs ++ [0]).length ≤ _
        rw [List.length_append, List.length_singleton, List.length_append]
        omega⟩ h
      rwa [show y + 1 + n = y + (n + 1) by omega] at r
/-- What is read is valid and packs to no more bytes. -/
theorem upk_ok {R C : Nat} (hC : C ≤ 16) {b : List Int} (hb : bys b) {u : Ur} (h : upk R C b = .ok u) : u.row.length = R * C ∧ all u.row = true ∧ ∃ pre, b = pre ++ u.b ∧ (packL u.row R C).length ≤ pre.length := by
  have r := urows_ok hC b hb R 0 ⟨[], List.replicate 16 zc, b⟩ u (by simp) rfl rfl ⟨[], rfl, Nat.le_refl _⟩ h
  rwa [Nat.zero_add] at r
end Pt
end Go.Proofs.Ytfjfnbeegojlbaa

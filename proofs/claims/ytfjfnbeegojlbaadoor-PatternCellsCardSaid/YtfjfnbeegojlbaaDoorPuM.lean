/-
  Mathematics of unpacking: what is read, and that what was packed is read back. No program.
-/
import Derived.Test.YtfjfnbeegojlbaaDoorPkN
namespace Go.Proofs.YtfjfnbeegojlbaaDoor
open Go.RowKit

namespace Pt
/-- The numbers of a part. -/
def vl (k : Nat) : List Int → Except Int ((Int × Int) × List Int)
  | [] => .error 12
  | x :: t => if x = 0 then .error 9 else if num k = 1 then .ok ((x, 0), t) else match t with | [] => .error 12 | y :: t' => .ok ((x, y), t')
/-- Read of a cell so far: its parts, the last parts, the bytes that are left. -/
structure Uc where
  c : Cl
  la : Cl
  b : List Int
def uk (m k : Nat) (s : Uc) : Except Int Uc :=
  if m.testBit k then (match vl k s.b with | .error e => .error e | .ok (v, b) => .ok ⟨pw k s.c v, pw k s.la v, b⟩)
  else if m.testBit (k + 4) then .ok ⟨pw k s.c (pv k s.la), s.la, s.b⟩ else .ok s
def uks (m : Nat) : Nat → Uc → Except Int Uc
  | 0, s => .ok s
  | k + 1, s => match uks m k s with | .error e => .error e | .ok s' => uk m k s'
/-- A part is asked to be repeated, and only so, and was there. -/
def vmk (m : Nat) (la : Cl) (k : Nat) : Bool := !m.testBit (k + 4) || (!m.testBit k && isSet (pv k la))
def vmask (m : Nat) (la : Cl) : Bool := (vmk m la 0 && (vmk m la 1 && (vmk m la 2 && vmk m la 3))) && m != 0
def uend (s : Uc) : Except Int Uc := if vcl s.c then .ok s else .error 9
def ucell (la : Cl) : List Int → Except Int Uc
  | [] => .error 12
  | m :: t => if vmask m.toNat la then (match uks m.toNat 4 ⟨zc, la, t⟩ with | .error e => .error e | .ok s => uend s) else .error 9
/-- A row read so far: its cells, the last parts, the bytes that are left. -/
structure Ur where
  row : List Cl
  ls : List Cl
  b : List Int
def urow (C : Nat) : Nat → Nat → Ur → Except Int Ur
  | 0, _, _ => .error 0
  | n + 1, bf, s => match s.b with
    | [] => .error 12
    | x :: t => if x = 0 then .ok ⟨s.row, s.ls, t⟩ else if (bf : Int) + 1 ≤ x ∧ x ≤ C then (match ucell (at' s.ls (x.toNat - 1)) t with | .error e => .error e | .ok u => urow C n x.toNat ⟨s.row.set (x.toNat - 1) u.c, s.ls.set (x.toNat - 1) u.la, u.b⟩) else .error 9
def urows (C : Nat) : Nat → Ur → Except Int Ur
  | 0, s => .ok s
  | n + 1, s => match urow C (C + 1) 0 ⟨List.replicate C zc, s.ls, s.b⟩ with | .error e => .error e | .ok u => urows C n ⟨s.row ++ u.row, u.ls, u.b⟩
def upk (R C : Nat) (b : List Int) : Except Int Ur := urows C R ⟨[], List.replicate 16 zc, b⟩
/-! Parts. -/
theorem pv_pw {k : Nat} {c : Cl} {v : Int × Int} (h : num k = 2 ∨ v.2 = 0) : pv k (pw k c v) = v := by
  obtain ⟨v1, v2⟩ := v
  match k with
  | 0 => have : v2 = 0 := by simpa [num] using h
         subst this; rfl
  | 1 => have : v2 = 0 := by simpa [num] using h
         subst this; rfl
  | 2 => rfl
  | n + 3 => rfl
theorem pv_pw_ne {j k : Nat} (hj : j < 4) (hk : k < 4) (h : j ≠ k) (c : Cl) (v : Int × Int) : pv k (pw j c v) = pv k c := by
  match j, k, hj, hk with
  | 0, 0, _, _ => exact absurd rfl h
  | 1, 1, _, _ => exact absurd rfl h
  | 2, 2, _, _ => exact absurd rfl h
  | 3, 3, _, _ => exact absurd rfl h
  | 0, 1, _, _ => rfl
  | 0, 2, _, _ => rfl
  | 0, 3, _, _ => rfl
  | 1, 0, _, _ => rfl
  | 1, 2, _, _ => rfl
  | 1, 3, _, _ => rfl
  | 2, 0, _, _ => rfl
  | 2, 1, _, _ => rfl
  | 2, 3, _, _ => rfl
  | 3, 0, _, _ => rfl
  | 3, 1, _, _ => rfl
  | 3, 2, _, _ => rfl
theorem pw_pv (k : Nat) (c : Cl) : pw k c (pv k c) = c := by
  match k with
  | 0 => rfl
  | 1 => rfl
  | 2 => rfl
  | n + 3 => rfl
theorem pv_one {k : Nat} (h : num k = 1) (c : Cl) : (pv k c).2 = 0 := by
  unfold num at h
  unfold pv
  split at h <;> simp_all
theorem num_cases (k : Nat) : num k = 1 ∨ num k = 2 := by unfold num; split <;> simp
theorem pv_ok (k : Nat) (c : Cl) : num k = 2 ∨ (pv k c).2 = 0 := (num_cases k).elim (fun h => .inr (pv_one h c)) .inl
theorem ext_pv {c d : Cl} (h : ∀ k, k < 4 → pv k c = pv k d) : c = d := by
  have h0 := h 0 (by decide)
  have h1 := h 1 (by decide)
  have h2 := h 2 (by decide)
  have h3 := h 3 (by decide)
  simp only [pv, Prod.mk.injEq] at h0 h1 h2 h3
  exact Cl.ext' h0.1 h1.1 h2.1 h2.2 h3.1 h3.2
/-- Where a part isn't set it is 0. -/
def gd (c : Cl) : Prop := ∀ k, k < 4 → isSet (pv k c) = false → pv k c = (0, 0)
theorem gd_zc : gd zc := fun k hk _ => by match k, hk with | 0, _ => rfl | 1, _ => rfl | 2, _ => rfl | 3, _ => rfl
theorem gd_vcl {c : Cl} (h : vcl c = true) : gd c := by
  simp only [vcl, Bool.and_eq_true, zro, decide_eq_true_eq] at h
  obtain ⟨-, -, -, -, h5, -, -, h8⟩ := h
  intro k hk e
  match k, hk with
  | 0, _ => simp only [pv, isSet, bne_eq_false_iff_eq] at e ⊢; rw [e]
  | 1, _ => simp only [pv, isSet, bne_eq_false_iff_eq] at e ⊢; rw [e]
  | 2, _ => simp only [pv, isSet, bne_eq_false_iff_eq] at e ⊢; rw [e]; have : c.va = 0 := by omega
            rw [this]
  | 3, _ => simp only [pv, isSet, bne_eq_false_iff_eq] at e ⊢; rw [e]; have : c.pa = 0 := by omega
            rw [this]
theorem gd_pw {c : Cl} {k : Nat} (hk : k < 4) {v : Int × Int} (h : gd c) (hv : isSet v = true) (h2 : num k = 2 ∨ v.2 = 0) : gd (pw k c v) := by
  intro j hj e
  by_cases ejk : k = j
  · subst ejk
    rw [pv_pw h2] at e
    rw [hv] at e
    exact absurd e (by simp)
  · rw [pv_pw_ne hk hj ejk] at e ⊢
    exact h j hj e
/-! The state of packing a cell. -/
theorem pst_la (c la : Cl) : ∀ j, j ≤ 4 → ∀ k, k < 4 → pv k (pst c la j).la = if k < j ∧ isSet (pv k c) = true then pv k c else pv k la
  | 0, _, k, _ => by rw [if_neg (fun h => absurd h.1 (Nat.not_lt_zero k))]; rfl
  | j + 1, hj, k, hk => by
    have ih := pst_la c la j (by omega) k hk
    by_cases h : isSet (pv j c) = true
    · by_cases h2 : pv j c = pv j (pst c la j).la
      · rw [pst_same h h2]
        show pv k (pst c la j).la = _
        rw [ih]
        by_cases e : k = j
        · subst e
          rw [if_neg (fun x => absurd x.1 (Nat.lt_irrefl k)), if_pos ⟨by omega, h⟩]
          rw [h2, ih, if_neg (fun x => absurd x.1 (Nat.lt_irrefl k))]
        · by_cases e2 : k < j ∧ isSet (pv k c) = true
          · rw [if_pos e2, if_pos ⟨by omega, e2.2⟩]
          · rw [if_neg e2, if_neg (fun x => e2 ⟨by omega, x.2⟩)]
      · rw [pst_new h h2]
        show pv k (pw j (pst c la j).la (pv j c)) = _
        by_cases e : j = k
        · subst e
          rw [pv_pw (pv_ok j c), if_pos ⟨by omega, h⟩]
        · rw [pv_pw_ne (by omega) hk e, ih]
          by_cases e2 : k < j ∧ isSet (pv k c) = true
          · rw [if_pos e2, if_pos ⟨by omega, e2.2⟩]
          · rw [if_neg e2, if_neg (fun x => e2 ⟨by omega, x.2⟩)]
    · have h' : isSet (pv j c) = false := by simpa using h
      rw [pst_unset h', ih]
      by_cases e2 : k < j ∧ isSet (pv k c) = true
      · rw [if_pos e2, if_pos ⟨by omega, e2.2⟩]
      · rw [if_neg e2, if_neg (fun x => e2 ⟨by
          have : k ≠ j := fun e => by subst e; exact h x.2
          omega, x.2⟩)]
theorem pst_la_self (c la : Cl) {k : Nat} (hk : k < 4) : pv k (pst c la k).la = pv k la := by
  rw [pst_la c la k (by omega) k hk, if_neg (fun x => absurd x.1 (Nat.lt_irrefl k))]
/-- A part is written; it is repeated. -/
def isNew (c la : Cl) (k : Nat) : Bool := isSet (pv k c) && decide (pv k c ≠ pv k la)
def isRep (c la : Cl) (k : Nat) : Bool := isSet (pv k c) && decide (pv k c = pv k la)
def seg (c la : Cl) (k : Nat) : List Int := if isNew c la k then numsOf k (pv k c) else []
theorem pst_succ (c la : Cl) {k : Nat} (hk : k < 4) : (pst c la (k + 1)).bs = (pst c la k).bs ++ seg c la k ∧ (pst c la (k + 1)).m = (pst c la k).m ||| ((if isNew c la k then 1 <<< k else 0) ||| (if isRep c la k then 16 <<< k else 0)) ∧ (pst c la (k + 1)).la = if isNew c la k then pw k (pst c la k).la (pv k c) else (pst c la k).la := by
  have e := pst_la_self c la hk
  by_cases h : isSet (pv k c) = true
  · by_cases h2 : pv k c = pv k (pst c la k).la
    · rw [pst_same h h2]
      rw [e] at h2
      have i1 : isNew c la k = false := by simp [isNew, h2]
      have i2 : isRep c la k = true := by simp [isRep, h, ← h2]
      simp [seg, i1, i2]
    · rw [pst_new h h2]
      rw [e] at h2
      have i1 : isNew c la k = true := by simp [isNew, h, h2]
      have i2 : isRep c la k = false := by simp [isRep, h2]
      simp [seg, i1, i2]
  · have h' : isSet (pv k c) = false := by simpa using h
    rw [pst_unset h']
    have i1 : isNew c la k = false := by simp [isNew, h']
    have i2 : isRep c la k = false := by simp [isRep, h']
    simp [seg, i1, i2]
def bitsOf (c la : Cl) (k : Nat) : Nat := (if isNew c la k then 1 <<< k else 0) ||| (if isRep c la k then 16 <<< k else 0)
theorem pst_all (c la : Cl) : (pst c la 4).bs = seg c la 0 ++ (seg c la 1 ++ (seg c la 2 ++ seg c la 3)) ∧ (pst c la 4).m = bitsOf c la 0 ||| bitsOf c la 1 ||| bitsOf c la 2 ||| bitsOf c la 3 := by
  obtain ⟨a0, b0, -⟩ := pst_succ c la (k := 0) (by decide)
  obtain ⟨a1, b1, -⟩ := pst_succ c la (k := 1) (by decide)
  obtain ⟨a2, b2, -⟩ := pst_succ c la (k := 2) (by decide)
  obtain ⟨a3, b3, -⟩ := pst_succ c la (k := 3) (by decide)
  refine ⟨?_, ?_⟩
  · rw [a3, a2, a1, a0]
    show [] ++ _ ++ _ ++ _ ++ _ = _
    simp [List.append_assoc]
  · rw [b3, b2, b1, b0]
    show 0 ||| _ ||| _ ||| _ ||| _ = _
    unfold bitsOf
    simp
theorem new_rep (c la : Cl) (k : Nat) : ¬ (isNew c la k = true ∧ isRep c la k = true) := by
  simp only [isNew, isRep, Bool.and_eq_true, decide_eq_true_eq]
  rintro ⟨⟨_, a⟩, _, b⟩
  exact a b
def sel4 (a b c d : Bool) (k : Nat) : Bool := match k with | 0 => a | 1 => b | 2 => c | _ => d
theorem bit_cases (n0 n1 n2 n3 r0 r1 r2 r3 : Bool) (k : Nat) (hk : k < 4) :
    ((((if n0 then 1 <<< 0 else 0) ||| (if r0 then 16 <<< 0 else 0)) ||| ((if n1 then 1 <<< 1 else 0) ||| (if r1 then 16 <<< 1 else 0)) ||| ((if n2 then 1 <<< 2 else 0) ||| (if r2 then 16 <<< 2 else 0)) ||| ((if n3 then 1 <<< 3 else 0) ||| (if r3 then 16 <<< 3 else 0)) : Nat).testBit k = sel4 n0 n1 n2 n3 k) ∧
    ((((if n0 then 1 <<< 0 else 0) ||| (if r0 then 16 <<< 0 else 0)) ||| ((if n1 then 1 <<< 1 else 0) ||| (if r1 then 16 <<< 1 else 0)) ||| ((if n2 then 1 <<< 2 else 0) ||| (if r2 then 16 <<< 2 else 0)) ||| ((if n3 then 1 <<< 3 else 0) ||| (if r3 then 16 <<< 3 else 0)) : Nat).testBit (k + 4) = sel4 r0 r1 r2 r3 k) := by
  have hk' : k = 0 ∨ k = 1 ∨ k = 2 ∨ k = 3 := by omega
  clear hk
  revert n0 n1 n2 n3 r0 r1 r2 r3
  rcases hk' with rfl | rfl | rfl | rfl <;> decide
theorem pst_bit (c la : Cl) {k : Nat} (hk : k < 4) : (pst c la 4).m.testBit k = isNew c la k ∧ (pst c la 4).m.testBit (k + 4) = isRep c la k := by
  rw [(pst_all c la).2]
  unfold bitsOf
  have h := bit_cases (isNew c la 0) (isNew c la 1) (isNew c la 2) (isNew c la 3) (isRep c la 0) (isRep c la 1) (isRep c la 2) (isRep c la 3) k hk
  refine ⟨h.1.trans ?_, h.2.trans ?_⟩
  · match k, hk with
    | 0, _ => rfl
    | 1, _ => rfl
    | 2, _ => rfl
    | 3, _ => rfl
  · match k, hk with
    | 0, _ => rfl
    | 1, _ => rfl
    | 2, _ => rfl
    | 3, _ => rfl
theorem vl_nums {k : Nat} {v : Int × Int} (hv : isSet v = true) (h2 : num k = 2 ∨ v.2 = 0) (t : List Int) : vl k (numsOf k v ++ t) = .ok (v, t) := by
  obtain ⟨x, y⟩ := v
  simp only [isSet, bne_iff_ne, ne_eq] at hv
  rcases num_cases k with h | h
  · have : y = 0 := by rcases h2 with h2 | h2; · omega
                       · exact h2
    subst this
    simp [numsOf, h, vl, hv]
  · simp [numsOf, h, vl, hv]
theorem uk_step (c la cc : Cl) {k : Nat} (hk : k < 4) (t : List Int) : uk (pst c la 4).m k ⟨cc, (pst c la k).la, seg c la k ++ t⟩ = .ok ⟨if isSet (pv k c) then pw k cc (pv k c) else cc, (pst c la (k + 1)).la, t⟩ := by
  obtain ⟨b1, b2⟩ := pst_bit c la hk
  obtain ⟨-, -, e3⟩ := pst_succ c la hk
  unfold uk
  rw [b1, b2, e3]
  by_cases h : isNew c la k = true
  · have hs : isSet (pv k c) = true := by simp only [isNew, Bool.and_eq_true] at h; exact h.1
    rw [if_pos h, if_pos h, if_pos hs]
    unfold seg
    rw [if_pos h]
    show (match vl k (numsOf k (pv k c) ++ t) with | .error e => Except.error e | .ok (v, b) => _) = _
    rw [vl_nums hs (pv_ok k c)]
  · rw [if_neg h, if_neg h]
    unfold seg
    rw [if_neg h, List.nil_append]
    by_cases h2 : isRep c la k = true
    · rw [if_pos h2]
      simp only [isRep, Bool.and_eq_true, decide_eq_true_eq] at h2
      rw [if_pos h2.1]
      show Except.ok (Uc.mk (pw k cc (pv k (pst c la k).la)) _ _) = _
      rw [pst_la_self c la hk, ← h2.2]
    · rw [if_neg h2]
      have hs : ¬ isSet (pv k c) = true := by
        intro hs
        by_cases e : pv k c = pv k la
        · exact h2 (by simp only [isRep, Bool.and_eq_true, decide_eq_true_eq]; exact ⟨hs, e⟩)
        · exact h (by simp [isNew, hs, e])
      rw [if_neg hs]
theorem zero_parts {c : Cl} (h : ∀ k, k < 4 → isSet (pv k c) = false) (hg : gd c) : c = zc := ext_pv fun k hk => by
  rw [hg k hk (h k hk)]
  match k, hk with
  | 0, _ => rfl
  | 1, _ => rfl
  | 2, _ => rfl
  | 3, _ => rfl
theorem four {p : Nat → Prop} (h0 : p 0) (h1 : p 1) (h2 : p 2) (h3 : p 3) : ∀ k, k < 4 → p k := fun k hk => by
  match k, hk with
  | 0, _ => exact h0
  | 1, _ => exact h1
  | 2, _ => exact h2
  | 3, _ => exact h3
def stp (c : Cl) (k : Nat) (cc : Cl) : Cl := if isSet (pv k c) then pw k cc (pv k c) else cc
theorem pv_stp {c : Cl} {j k : Nat} (hj : j < 4) (hk : k < 4) (cc : Cl) : pv k (stp c j cc) = if j = k ∧ isSet (pv j c) = true then pv j c else pv k cc := by
  unfold stp
  by_cases h : isSet (pv j c) = true
  · rw [if_pos h]
    by_cases e : j = k
    · subst e; rw [if_pos ⟨rfl, h⟩, pv_pw (pv_ok j c)]
    · rw [if_neg (fun x => e x.1), pv_pw_ne hj hk e]
  · rw [if_neg h, if_neg (fun x => h x.2)]
theorem stp_all {c : Cl} (hg : gd c) : stp c 3 (stp c 2 (stp c 1 (stp c 0 zc))) = c := ext_pv fun k hk => by
  rw [pv_stp (by decide) hk, pv_stp (by decide) hk, pv_stp (by decide) hk, pv_stp (by decide) hk]
  have hz : pv k zc = (0, 0) := four (p := fun k => pv k zc = (0, 0)) rfl rfl rfl rfl k hk
  rw [hz]
  by_cases h : isSet (pv k c) = true
  · match k, hk with
    | 0, _ => simp [h]
    | 1, _ => simp [h]
    | 2, _ => simp [h]
    | 3, _ => simp [h]
  · have h' : isSet (pv k c) = false := by simpa using h
    rw [hg k hk h']
    match k, hk with
    | 0, _ => simp [h']
    | 1, _ => simp [h']
    | 2, _ => simp [h']
    | 3, _ => simp [h']
theorem ucell_back {c la : Cl} (hv : vcl c = true) (hz : eqC c zc = false) (t : List Int) : ucell la (((pst c la 4).m : Int) :: ((pst c la 4).bs ++ t)) = .ok ⟨c, (pst c la 4).la, t⟩ := by
  have hg := gd_vcl hv
  have hmk : ∀ k, k < 4 → vmk (pst c la 4).m la k = true := fun k hk => by
    obtain ⟨b1, b2⟩ := pst_bit c la hk
    unfold vmk
    rw [b1, b2]
    cases h : isRep c la k with
    | false => rfl
    | true =>
      have hn : isNew c la k = false := by
        cases h2 : isNew c la k with
        | false => rfl
        | true => exact absurd ⟨h2, h⟩ (new_rep c la k)
      simp only [isRep, Bool.and_eq_true, decide_eq_true_eq] at h
      rw [hn, ← h.2, h.1]
      rfl
  have hm0 : (pst c la 4).m ≠ 0 := by
    intro h0
    have hns : ∀ k, k < 4 → isSet (pv k c) = false := fun k hk => by
      obtain ⟨b1, b2⟩ := pst_bit c la hk
      rw [h0, Nat.zero_testBit] at b1 b2
      cases hs : isSet (pv k c) with
      | false => rfl
      | true =>
        by_cases e : pv k c = pv k la
        · simp [isRep, ← e, hs] at b2
        · simp [isNew, e, hs] at b1
    have := zero_parts hns hg
    rw [this] at hz
    exact absurd hz (by decide)
  unfold ucell
  simp only [Int.toNat_natCast]
  have hvm : vmask (pst c la 4).m la = true := by
    unfold vmask
    rw [hmk 0 (by decide), hmk 1 (by decide), hmk 2 (by decide), hmk 3 (by decide)]
    simpa using hm0
  rw [if_pos hvm]
  have e : uks (pst c la 4).m 4 ⟨zc, la, (pst c la 4).bs ++ t⟩ = .ok ⟨c, (pst c la 4).la, t⟩ := by
    have eb : (pst c la 4).bs ++ t = seg c la 0 ++ (seg c la 1 ++ (seg c la 2 ++ (seg c la 3 ++ t))) := by rw [(pst_all c la).1]; simp [List.append_assoc]
    rw [eb]
    have s0 : uks (pst c la 4).m 1 ⟨zc, la, seg c la 0 ++ (seg c la 1 ++ (seg c la 2 ++ (seg c la 3 ++ t)))⟩ = .ok ⟨stp c 0 zc, (pst c la 1).la, seg c la 1 ++ (seg c la 2 ++ (seg c la 3 ++ t))⟩ := uk_step c la zc (k := 0) (by decide) _
    have s1 : uks (pst c la 4).m 2 ⟨zc, la, seg c la 0 ++ (seg c la 1 ++ (seg c la 2 ++ (seg c la 3 ++ t)))⟩ = .ok ⟨stp c 1 (stp c 0 zc), (pst c la 2).la, seg c la 2 ++ (seg c la 3 ++ t)⟩ := by
      rw [uks, s0]; exact uk_step c la _ (k := 1) (by decide) _
    have s2 : uks (pst c la 4).m 3 ⟨zc, la, seg c la 0 ++ (seg c la 1 ++ (seg c la 2 ++ (seg c la 3 ++ t)))⟩ = .ok ⟨stp c 2 (stp c 1 (stp c 0 zc)), (pst c la 3).la, seg c la 3 ++ t⟩ := by
      rw [uks, s1]; exact uk_step c la _ (k := 2) (by decide) _
    rw [uks, s2]
    show uk (pst c la 4).m 3 _ = _
    rw [uk_step c la _ (k := 3) (by decide) t]
    show Except.ok (Uc.mk (stp c 3 (stp c 2 (stp c 1 (stp c 0 zc)))) _ _) = _
    rw [stp_all hg]
  rw [e]
  show uend ⟨c, _, t⟩ = _
  unfold uend
  rw [if_pos hv]
end Pt
end Go.Proofs.YtfjfnbeegojlbaaDoor

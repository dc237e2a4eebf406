/-
  Mathematics of cells and patterns: which cells and patterns are valid; what the functions return. No program.
-/
namespace Go.Proofs.YtfjfnbeegojlbaaDoor
namespace Pt

/-- A cell. -/
structure Cl where
  nt : Int
  it : Int
  vc : Int
  va : Int
  ef : Int
  pa : Int
def zc : Cl := ⟨0, 0, 0, 0, 0, 0⟩
theorem Cl.ext' {a b : Cl} (h1 : a.nt = b.nt) (h2 : a.it = b.it) (h3 : a.vc = b.vc) (h4 : a.va = b.va) (h5 : a.ef = b.ef) (h6 : a.pa = b.pa) : a = b := by
  cases a; cases b; simp_all
def wth (n lo hi : Int) : Bool := decide (lo ≤ n ∧ n ≤ hi)
def pitched (n : Int) : Bool := wth n 1 120
def vnt (n : Int) : Bool := decide (n = 0 ∨ n = 253 ∨ n = 254 ∨ n = 255 ∨ (1 ≤ n ∧ n ≤ 120))
/-- Is 0 where the command is not there. -/
def zro (c a : Int) : Bool := decide (c ≠ 0 ∨ a = 0)
def vcl (c : Cl) : Bool := vnt c.nt && (wth c.it 0 31 && (wth c.vc 0 12 && (wth c.va 0 99 && (zro c.vc c.va && (wth c.ef 0 36 && (wth c.pa 0 255 && zro c.ef c.pa))))))
/-- Is a place of n. -/
def plc (i n : Int) : Bool := decide (0 ≤ i ∧ i < n)
def all (l : List Cl) : Bool := l.all vcl
def vpat (r : Int) (l : List Cl) (ch : Int) : Bool := wth ch 1 16 && (wth r 1 64 && (decide ((l.length : Int) = r * ch) && all l))
/-- The cell at a place. -/
def at' (l : List Cl) (k : Nat) : Cl := l.getD k zc
/-- The list of n cells that a function of the place tells. -/
def mk (n : Nat) (f : Nat → Cl) : List Cl := (List.range n).map f
theorem mk_len (n : Nat) (f : Nat → Cl) : (mk n f).length = n := by simp [mk]
theorem mk_at (n : Nat) (f : Nat → Cl) {k : Nat} (h : k < n) : at' (mk n f) k = f k := by simp [at', mk, List.getD_eq_getElem?_getD, h]
theorem ext_at {a b : List Cl} (hl : a.length = b.length) (h : ∀ k, k < a.length → at' a k = at' b k) : a = b := by
  refine List.ext_getElem hl fun k h1 h2 => ?_
  have := h k h1
  simpa [at', List.getD_eq_getElem?_getD, h1, h2] using this
theorem eq_mk {n : Nat} {f : Nat → Cl} {a : List Cl} (hl : a.length = n) (h : ∀ k, k < n → at' a k = f k) : a = mk n f :=
  ext_at (by rw [hl, mk_len]) fun k hk => by rw [mk_at n f (by omega), h k (by omega)]
theorem at_mem {l : List Cl} {k : Nat} (h : k < l.length) : at' l k ∈ l := by
  have : at' l k = l[k] := by simp [at', List.getD_eq_getElem?_getD, h]
  rw [this]
  exact List.getElem_mem h
theorem all_at {l : List Cl} (h : all l = true) {k : Nat} (hk : k < l.length) : vcl (at' l k) = true := List.all_eq_true.1 h _ (at_mem hk)
theorem all_bad {l : List Cl} (k : Nat) (hk : k < l.length) (h : vcl (at' l k) = false) : all l = false := by
  cases e : all l with
  | false => rfl
  | true => rw [all_at e hk] at h; exact absurd h (by simp)
theorem all_mk {l : List Cl} (h : ∀ j, j < l.length → vcl (at' l j) = true) : all l = true := by
  refine List.all_eq_true.2 fun x hx => ?_
  obtain ⟨i, hi, rfl⟩ := List.getElem_of_mem hx
  have := h i hi
  simpa [at', List.getD_eq_getElem?_getD, hi] using this
theorem wth_iff {n lo hi : Int} : wth n lo hi = true ↔ lo ≤ n ∧ n ≤ hi := by simp [wth]
theorem vpat_iff {r : Int} {l : List Cl} {ch : Int} : vpat r l ch = true ↔ (1 ≤ ch ∧ ch ≤ 16) ∧ (1 ≤ r ∧ r ≤ 64) ∧ (l.length : Int) = r * ch ∧ all l = true := by
  simp [vpat, wth, Bool.and_eq_true]
/-- Rows, channels and length as natural numbers. -/
theorem vpat_nat {r : Int} {l : List Cl} {ch : Int} (h : vpat r l ch = true) : ∃ R C : Nat, r = R ∧ ch = C ∧ 1 ≤ R ∧ R ≤ 64 ∧ 1 ≤ C ∧ C ≤ 16 ∧ l.length = R * C ∧ all l = true := by
  obtain ⟨⟨a1, a2⟩, ⟨b1, b2⟩, c1, d1⟩ := vpat_iff.1 h
  refine ⟨r.toNat, ch.toNat, by omega, by omega, by omega, by omega, by omega, by omega, ?_, d1⟩
  have e1 : (r.toNat : Int) = r := by omega
  have e2 : (ch.toNat : Int) = ch := by omega
  have : (l.length : Int) = ((r.toNat * ch.toNat : Nat) : Int) := by rw [Int.natCast_mul, e1, e2]; exact c1
  exact Int.ofNat.inj this
theorem vpat_mk {R C : Nat} {l : List Cl} (h1 : 1 ≤ R) (h2 : R ≤ 64) (h3 : 1 ≤ C) (h4 : C ≤ 16) (h5 : l.length = R * C) (h6 : all l = true) : vpat (R : Int) l (C : Int) = true :=
  vpat_iff.2 ⟨⟨by omega, by omega⟩, ⟨by omega, by omega⟩, by rw [h5, Int.natCast_mul], h6⟩
theorem rc_bound {R C : Nat} (h2 : R ≤ 64) (h4 : C ≤ 16) : R * C ≤ 1024 := Nat.le_trans (Nat.mul_le_mul h2 h4) (by decide)
theorem rc_in {R C y x : Nat} (hy : y < R) (hx : x < C) : y * C + x < R * C := by
  have : (y + 1) * C ≤ R * C := Nat.mul_le_mul_right C hy
  rw [Nat.add_mul, Nat.one_mul] at this
  omega
theorem rc_div {C y x : Nat} (hx : x < C) : (y * C + x) / C = y := by
  rw [Nat.mul_comm, Nat.mul_add_div (by omega), Nat.div_eq_of_lt hx, Nat.add_zero]
theorem rc_mod {C y x : Nat} (hx : x < C) : (y * C + x) % C = x := by
  rw [Nat.mul_comm, Nat.mul_add_mod, Nat.mod_eq_of_lt hx]
/-- Every place is one of a row and a channel. -/
theorem rc_split {R C k : Nat} (hC : 1 ≤ C) (h : k < R * C) : ∃ y x, y < R ∧ x < C ∧ k = y * C + x :=
  ⟨k / C, k % C, Nat.div_lt_of_lt_mul (by rw [Nat.mul_comm]; exact h), Nat.mod_lt _ hC, by rw [Nat.mul_comm]; exact (Nat.div_add_mod k C).symm⟩
theorem at_set (l : List Cl) (i : Nat) (c : Cl) (hi : i < l.length) (k : Nat) : at' (l.set i c) k = if k = i then c else at' l k := by
  by_cases h : k = i
  · subst h; simp [at', List.getD_eq_getElem?_getD, hi]
  · rw [if_neg h]; simp only [at', List.getD_eq_getElem?_getD]; rw [List.getElem?_set_ne (fun e => h e.symm)]
theorem at_take (l : List Cl) (n k : Nat) (h : k < n) : at' (l.take n) k = at' l k := by simp [at', List.getD_eq_getElem?_getD, h]
theorem at_drop (l : List Cl) (n k : Nat) : at' (l.drop n) k = at' l (n + k) := by simp [at', List.getD_eq_getElem?_getD]
theorem at_app (a b : List Cl) (k : Nat) : at' (a ++ b) k = if k < a.length then at' a k else at' b (k - a.length) := by
  by_cases h : k < a.length
  · rw [if_pos h]; simp only [at', List.getD_eq_getElem?_getD]; rw [List.getElem?_append_left h]
  · rw [if_neg h]; simp [at', List.getD_eq_getElem?_getD, List.getElem?_append_right (Nat.le_of_not_lt h)]
theorem at_out (l : List Cl) (k : Nat) (h : l.length ≤ k) : at' l k = zc := by simp [at', List.getD_eq_getElem?_getD, List.getElem?_eq_none h]
theorem at_rep (n k : Nat) : at' (List.replicate n zc) k = zc := by
  by_cases h : k < n
  · simp [at', List.getD_eq_getElem?_getD, h]
  · exact at_out _ _ (by simpa using h)
/-! What the functions return: an error's number, the rows, the cells. -/
/-- An area: row, channel, rows, channels. -/
structure Ar where
  r : Int
  c : Int
  h : Int
  w : Int
def awi (a : Ar) (rows ch : Int) : Bool := wth a.h 1 rows && (wth a.r 0 (rows - a.h) && (wth a.w 1 ch && wth a.c 0 (ch - a.w)))
def eArea (r : Int) (l : List Cl) (ch : Int) (a : Ar) : Int := if vpat r l ch then (if awi a r ch then 0 else 5) else 1
def ePlace (r : Int) (l : List Cl) (ch row c : Int) : Int := if vpat r l ch then (if plc row r && plc c ch then 0 else 5) else 1
def eBlank (rows ch : Int) : Int := if wth ch 1 16 then (if wth rows 1 64 then 0 else 5) else 1
def eSet (r : Int) (l : List Cl) (ch row c : Int) (v : Cl) : Int := if vcl v then ePlace r l ch row c else 1
/-- The cells of an area. -/
def copyL (l : List Cl) (ch : Nat) (r c h w : Nat) : List Cl := mk (h * w) fun k => at' l ((r + k / w) * ch + (c + k % w))
def mixed (o c : Cl) : Cl :=
  ⟨if o.nt = 0 then c.nt else o.nt, if o.it = 0 then c.it else o.it, if o.vc = 0 then c.vc else o.vc, if o.vc = 0 then c.va else o.va, if o.ef = 0 then c.ef else o.ef, if o.ef = 0 then c.pa else o.pa⟩
def mixIf (m : Bool) (o c : Cl) : Cl := if m then mixed o c else c
def pasteL (l : List Cl) (ch : Nat) (b : List Cl) (bh w row c : Nat) (m : Bool) : List Cl := mk l.length fun k =>
  if row ≤ k / ch ∧ k / ch - row < bh ∧ c ≤ k % ch ∧ k % ch - c < w then mixIf m (at' l k) (at' b ((k / ch - row) * w + (k % ch - c))) else at' l k
def ePaste (r : Int) (l : List Cl) (ch : Int) (br : Int) (b : List Cl) (w row c : Int) : Int := if vpat br b w then ePlace r l ch row c else 1
def trn (n s : Int) : Int := if pitched n && pitched (n + s) then n + s else n
def trC (c : Cl) (s : Int) : Cl := { c with nt := trn c.nt s }
def tranL (l : List Cl) (ch : Nat) (r c h w : Nat) (s : Int) : List Cl := mk l.length fun k =>
  if r ≤ k / ch ∧ k / ch < r + h ∧ c ≤ k % ch ∧ k % ch < c + w then trC (at' l k) s else at' l k
def eTran (r : Int) (l : List Cl) (ch : Int) (a : Ar) (s : Int) : Int := if eArea r l ch a = 0 then (if wth s (-119) 119 then 0 else 5) else eArea r l ch a
def insL (l : List Cl) (ch row : Nat) : List Cl := mk l.length fun k => if k < row * ch then at' l k else if k < row * ch + ch then zc else at' l (k - ch)
def delL (l : List Cl) (ch row : Nat) : List Cl := mk l.length fun k => if k < row * ch then at' l k else if k + ch < l.length then at' l (k + ch) else zc
def intC (a b c : Cl) (n k : Int) : Cl := if a.ef = b.ef ∧ a.ef ≠ 0 ∧ c.ef = 0 then { c with ef := a.ef, pa := (a.pa * (n - k) + b.pa * k) / n } else c
def intL (l : List Cl) (ch c f t : Nat) : List Cl := mk l.length fun k =>
  if k % ch = c ∧ f < k / ch ∧ k / ch < t then intC (at' l (f * ch + c)) (at' l (t * ch + c)) (at' l k) ((t : Int) - f) (((k / ch : Nat) : Int) - f) else at' l k
def eInt (r : Int) (l : List Cl) (ch c f t : Int) : Int := if ePlace r l ch f c = 0 then (if f < t ∧ t < r then 0 else 5) else ePlace r l ch f c
def eJoin (r : Int) (l : List Cl) (q : Int) (m : List Cl) (ch : Int) : Int := if vpat r l ch && vpat q m ch then (if r + q ≤ 64 then 0 else 4) else 1
def eSplit (r : Int) (l : List Cl) (ch row : Int) : Int := if vpat r l ch then (if 1 ≤ row ∧ row < r then 0 else 5) else 1
end Pt
end Go.Proofs.YtfjfnbeegojlbaaDoor

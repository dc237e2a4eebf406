/-
  Envelopes as plain mathematics: which are valid, their values, the tick that follows, the curve. No program.
-/
import Derived.Lib.Hide
namespace Go.Proofs.Ytcchfahdgmcpbaa
namespace In
/-- An envelope: whether it counts, its points (tick, value), its two circles. -/
structure Env where
  on : Bool
  pts : List (Int × Int)
  sus : Bool
  ss : Int
  se : Int
  lp : Bool
  ls : Int
  le : Int
def tk (ps : List (Int × Int)) (k : Nat) : Int := (ps.getD k (0, 0)).1
def vl (ps : List (Int × Int)) (k : Nat) : Int := (ps.getD k (0, 0)).2
/-- The k-th point may stand where it stands. -/
def pok (ps : List (Int × Int)) (lo hi : Int) (k : Nat) : Bool := decide ((k = 0 → tk ps k = 0) ∧ (0 < k → tk ps (k - 1) < tk ps k) ∧ tk ps k ≤ 9999 ∧ lo ≤ vl ps k ∧ vl ps k ≤ hi)
def pts (ps : List (Int × Int)) (lo hi : Int) : Bool := (List.range ps.length).all (pok ps lo hi)
/-- A number lies within bounds. -/
def wth (n lo hi : Int) : Bool := decide (lo ≤ n ∧ n ≤ hi)
def cok (there : Bool) (s e n : Int) : Bool := if there = true then decide (0 ≤ s ∧ s ≤ e ∧ e < n) else decide (s = 0 ∧ e = 0)
def vld (e : Env) (lo hi : Int) : Bool := decide ((e.pts.length : Int) ≤ 16) && (!(e.on && decide (e.pts.length = 0))) && pts e.pts lo hi && cok e.sus e.ss e.se e.pts.length && cok e.lp e.ls e.le e.pts.length
def lv (e : Env) : Bool := e.on && vld e (-64) 64
/-- The bounds within which the k-th point's tick must lie. -/
def lea (ps : List (Int × Int)) (k : Nat) : Int := if k = 0 then 0 else tk ps (k - 1) + 1
def mos (k : Nat) : Int := if k = 0 then 0 else 9999
theorem pok_wth (ps : List (Int × Int)) (lo hi : Int) (k : Nat) : pok ps lo hi k = (wth (tk ps k) (lea ps k) (mos k) && wth (vl ps k) lo hi) := by
  unfold pok wth lea mos
  rw [← Bool.decide_and]
  congr 1
  apply propext
  by_cases h : k = 0
  · simp only [h, if_true]; constructor
    · rintro ⟨h1, h2, h3, h4, h5⟩; have := h1 trivial; exact ⟨by omega, h4, h5⟩
    · rintro ⟨h1, h2⟩; exact ⟨fun _ => by omega, fun h => absurd h (by omega), by omega, h2.1, h2.2⟩
  · simp only [h, if_false]; constructor
    · rintro ⟨h1, h2, h3, h4, h5⟩; have := h2 (by omega); exact ⟨by omega, h4, h5⟩
    · rintro ⟨h1, h2⟩; exact ⟨fun h' => absurd h' (by simp), fun _ => by omega, by omega, h2.1, h2.2⟩
theorem pts_mk {ps : List (Int × Int)} {lo hi : Int} (h : ∀ k, k < ps.length → pok ps lo hi k = true) : pts ps lo hi = true := by
  unfold pts; rw [List.all_eq_true]; intro k hk; exact h k (List.mem_range.1 hk)
theorem pts_bad {ps : List (Int × Int)} {lo hi : Int} (k : Nat) (hk : k < ps.length) (h : pok ps lo hi k = false) : pts ps lo hi = false := by
  unfold pts; rw [List.all_eq_false]; exact ⟨k, List.mem_range.2 hk, by simp [h]⟩
theorem pts_yes {ps : List (Int × Int)} {lo hi : Int} (h : pts ps lo hi = true) {k : Nat} (hk : k < ps.length) : (k = 0 → tk ps k = 0) ∧ (0 < k → tk ps (k - 1) < tk ps k) ∧ tk ps k ≤ 9999 ∧ lo ≤ vl ps k ∧ vl ps k ≤ hi := by
  unfold pts at h; rw [List.all_eq_true] at h
  exact of_decide_eq_true (h k (List.mem_range.2 hk))
/-- A key of an instrument, its keys. -/
def kok (ks : List (Int × Int)) (k : Nat) : Bool := wth (tk ks k) 0 119 && wth (vl ks k) 0 31
def kall (ks : List (Int × Int)) : Bool := (List.range ks.length).all (kok ks)
def kys (ks : List (Int × Int)) : Bool := decide (ks = []) || (decide ((ks.length : Int) = 120) && kall ks)
theorem kall_mk {ks : List (Int × Int)} (h : ∀ k, k < ks.length → kok ks k = true) : kall ks = true := by
  unfold kall; rw [List.all_eq_true]; intro k hk; exact h k (List.mem_range.1 hk)
theorem kall_bad {ks : List (Int × Int)} (k : Nat) (hk : k < ks.length) (h : kok ks k = false) : kall ks = false := by
  unfold kall; rw [List.all_eq_false]; exact ⟨k, List.mem_range.2 hk, by simp [h]⟩
theorem kall_yes {ks : List (Int × Int)} (h : kall ks = true) {k : Nat} (hk : k < ks.length) : kok ks k = true := by
  unfold kall at h; rw [List.all_eq_true] at h; exact h k (List.mem_range.2 hk)
/-- Ticks ascend from 0 to 9999 at most. -/
structure Asc (ps : List (Int × Int)) : Prop where
  pos : 0 < ps.length
  zero : tk ps 0 = 0
  step : ∀ k, k + 1 < ps.length → tk ps k < tk ps (k + 1)
  hi : ∀ k, k < ps.length → tk ps k ≤ 9999
  lo : ∀ k, k < ps.length → 0 ≤ tk ps k
  vhi : ∀ k, k < ps.length → vl ps k ≤ 64
  vlo : ∀ k, k < ps.length → -64 ≤ vl ps k
theorem Asc.mono {ps : List (Int × Int)} (h : Asc ps) : ∀ {i j : Nat}, i ≤ j → j < ps.length → tk ps i ≤ tk ps j := by
  intro i j hij hj
  induction j with
  | zero => have : i = 0 := by omega
            subst this; exact Int.le_refl _
  | succ j ih =>
    by_cases e : i = j + 1
    · subst e; exact Int.le_refl _
    · have := ih (by omega) (by omega)
      have := h.step j hj
      omega
theorem vld_parts {e : Env} {lo hi : Int} (h : vld e lo hi = true) : (e.pts.length : Int) ≤ 16 ∧ (e.on = true → 0 < e.pts.length) ∧ pts e.pts lo hi = true ∧ cok e.sus e.ss e.se e.pts.length = true ∧ cok e.lp e.ls e.le e.pts.length = true := by
  simp only [vld, Bool.and_eq_true, decide_eq_true_eq] at h
  obtain ⟨⟨⟨⟨h1, h2⟩, h3⟩, h4⟩, h5⟩ := h
  refine ⟨h1, fun ho => ?_, h3, h4, h5⟩
  rw [ho] at h2
  simp at h2
  exact List.length_pos_iff.2 h2
theorem asc_of {ps : List (Int × Int)} (h : pts ps (-64) 64 = true) (hp : 0 < ps.length) : Asc ps := by
  have hz := (pts_yes h hp).1 rfl
  have hs : ∀ k, k + 1 < ps.length → tk ps k < tk ps (k + 1) := fun k hk => (pts_yes h hk).2.1 (by omega)
  refine ⟨hp, hz, hs, fun k hk => (pts_yes h hk).2.2.1, ?_, fun k hk => (pts_yes h hk).2.2.2.2, fun k hk => (pts_yes h hk).2.2.2.1⟩
  intro k
  induction k with
  | zero => intro _; omega
  | succ k ih => intro hk; have := ih (by omega); have := hs k hk; omega
theorem lv_asc {e : Env} (h : lv e = true) : Asc e.pts := by
  simp only [lv, Bool.and_eq_true] at h
  obtain ⟨h1, h2⟩ := h
  obtain ⟨_, hp, h3, _⟩ := vld_parts h2
  exact asc_of h3 (hp h1)
theorem lv_len {e : Env} (h : lv e = true) : (e.pts.length : Int) ≤ 16 := by
  simp only [lv, Bool.and_eq_true] at h
  exact (vld_parts h.2).1
/-- The point at or before a tick (the first one ahead of all). -/
def seg (ps : List (Int × Int)) (t : Int) : Nat := ((List.range (ps.length - 1)).find? (fun k => decide (t < tk ps (k + 1)))).getD (ps.length - 1)
def val (ps : List (Int × Int)) (t : Int) : Int :=
  if t < tk ps 0 ∨ ps.length ≤ seg ps t + 1 then vl ps (seg ps t)
  else vl ps (seg ps t) + (vl ps (seg ps t + 1) - vl ps (seg ps t)) * (t - tk ps (seg ps t)) / (tk ps (seg ps t + 1) - tk ps (seg ps t))
theorem seg_mid {ps : List (Int × Int)} {t : Int} {k : Nat} (hk : k + 1 < ps.length) (hb : ∀ i, i < k → tk ps (i + 1) ≤ t) (ht : t < tk ps (k + 1)) : seg ps t = k := by
  have : (List.range (ps.length - 1)).find? (fun k => decide (t < tk ps (k + 1))) = some k := by
    rw [List.find?_range_eq_some]
    refine ⟨by simpa using ht, by rw [List.mem_range]; omega, fun j hj => ?_⟩
    have := hb j hj
    simp; omega
  unfold seg; rw [this]; rfl
theorem seg_end {ps : List (Int × Int)} {t : Int} (hb : ∀ i, i + 1 < ps.length → tk ps (i + 1) ≤ t) : seg ps t = ps.length - 1 := by
  have : (List.range (ps.length - 1)).find? (fun k => decide (t < tk ps (k + 1))) = none := by
    rw [List.find?_range_eq_none]
    intro i hi
    have := hb i (by omega)
    simp; omega
  unfold seg; rw [this]; rfl
theorem val_mid {ps : List (Int × Int)} {t : Int} {k : Nat} (h0 : tk ps 0 ≤ t) (hk : k + 1 < ps.length) (hb : ∀ i, i < k → tk ps (i + 1) ≤ t) (ht : t < tk ps (k + 1)) :
    val ps t = vl ps k + (vl ps (k + 1) - vl ps k) * (t - tk ps k) / (tk ps (k + 1) - tk ps k) := by
  unfold val
  rw [seg_mid hk hb ht, if_neg (by omega)]
theorem val_end {ps : List (Int × Int)} {t : Int} (hp : 0 < ps.length) (hb : ∀ i, i + 1 < ps.length → tk ps (i + 1) ≤ t) : val ps t = vl ps (ps.length - 1) := by
  unfold val
  rw [seg_end hb, if_pos (by omega)]
theorem val_start {ps : List (Int × Int)} (h : Asc ps) {t : Int} (ht : t ≤ tk ps 0) : val ps t = vl ps 0 := by
  have hp := h.pos
  by_cases h1 : 1 < ps.length
  · have hs := h.step 0 h1
    have hseg : seg ps t = 0 := seg_mid (k := 0) h1 (fun i hi => absurd hi (by omega)) (by omega)
    unfold val
    rw [hseg]
    by_cases hlt : t < tk ps 0
    · rw [if_pos (.inl hlt)]
    · rw [if_neg (by omega)]
      have e : t - tk ps 0 = 0 := by omega
      rw [e]; simp
  · rw [val_end hp (fun i hi => by omega)]
    congr 1; omega
/-- A product of small numbers is small. -/
theorem prod_bound {v s : Int} (h1 : -128 ≤ v) (h2 : v ≤ 128) (h3 : 0 ≤ s) (h4 : s ≤ 9999) : -1279872 ≤ v * s ∧ v * s ≤ 1279872 := by
  have a := Int.mul_le_mul_of_nonneg_right h1 h3
  have b := Int.mul_le_mul_of_nonneg_right h2 h3
  omega
theorem lin_hi {v s d : Int} (h0 : 0 ≤ s) (h1 : s ≤ d) (h2 : 0 < d) : v * s / d ≤ max v 0 := by
  by_cases hv : 0 ≤ v
  · have a := Int.mul_le_mul_of_nonneg_left h1 hv
    have b := Int.ediv_le_ediv h2 a
    rw [Int.mul_ediv_cancel _ (by omega)] at b
    omega
  · have a := Int.mul_le_mul_of_nonneg_right (show v ≤ 0 by omega) h0
    rw [Int.zero_mul] at a
    have b := Int.ediv_le_ediv h2 a
    rw [Int.zero_ediv] at b
    omega
theorem lin_lo {v s d : Int} (h0 : 0 ≤ s) (h1 : s ≤ d) (h2 : 0 < d) : min v 0 ≤ v * s / d := by
  by_cases hv : 0 ≤ v
  · have a := Int.mul_nonneg hv h0
    have b := Int.ediv_nonneg a (by omega : 0 ≤ d)
    omega
  · have a := Int.mul_le_mul_of_nonpos_left (show v ≤ 0 by omega) h1
    have b := Int.ediv_le_ediv h2 a
    rw [Int.mul_ediv_cancel _ (by omega)] at b
    omega
/-- The circle that applies: whether there is one, and its ticks. -/
def cT (e : Env) (h : Bool) : Bool := (h && e.sus) || e.lp
def cF (e : Env) (h : Bool) : Int := if (h && e.sus) = true then tk e.pts e.ss.toNat else if e.lp = true then tk e.pts e.ls.toNat else 0
def cE (e : Env) (h : Bool) : Int := if (h && e.sus) = true then tk e.pts e.se.toNat else if e.lp = true then tk e.pts e.le.toNat else 0
def lst (e : Env) : Int := tk e.pts (e.pts.length - 1)
def aft (th : Bool) (a b l t : Int) : Int := if th = true then (if b ≤ max t 0 then a else max t 0 + 1) else if l ≤ max t 0 then l else max t 0 + 1
def after (e : Env) (t : Int) (h : Bool) : Int := aft (cT e h) (cF e h) (cE e h) (lst e) t
def ovr (th : Bool) (l t : Int) : Bool := !th && decide (l ≤ t)
def valueOf (e : Env) (t : Int) : Int := if lv e = true then val e.pts t else 0
def afterOf (e : Env) (t : Int) (h : Bool) : Int := if lv e = true then after e t h else 0
def overOf (e : Env) (t : Int) (h : Bool) : Bool := lv e && ovr (cT e h) (lst e) t
/-- The ticks of a curve. -/
def tks (e : Env) (r : Int) : Nat → Int
  | 0 => 0
  | i + 1 => after e (tks e r i) (decide ((i : Int) < r))
def crv (e : Env) (n r : Int) : List Int := if 0 ≤ n ∧ n ≤ 4000 then (List.range n.toNat).map fun i => valueOf e (tks e r i) else []
theorem crv_length {e : Env} {n r : Int} (h : 0 ≤ n ∧ n ≤ 4000) : (crv e n r).length = n.toNat := by simp [crv, h]
theorem crv_at {e : Env} {n r : Int} (h : 0 ≤ n ∧ n ≤ 4000) {i : Nat} (hi : i < n.toNat) : (crv e n r).getD i 0 = valueOf e (tks e r i) := by
  simp [crv, h, List.getD_eq_getElem?_getD, hi]
/-- What is known of the circle and the last point of an envelope that plays. -/
structure Rnd (th : Bool) (a b l : Int) : Prop where
  a0 : 0 ≤ a
  ab : a ≤ b
  bh : b ≤ 9999
  l0 : 0 ≤ l
  lh : l ≤ 9999
  z : th = false → a = 0 ∧ b = 0
theorem rnd_of {e : Env} (h : lv e = true) (hd : Bool) : Rnd (cT e hd) (cF e hd) (cE e hd) (lst e) := by
  have ha := lv_asc h
  simp only [lv, Bool.and_eq_true] at h
  obtain ⟨h1, h2⟩ := h
  obtain ⟨_, hp, h3, h4, h5⟩ := vld_parts h2
  have hp := ha.pos
  have l0 := ha.lo (e.pts.length - 1) (by omega)
  have l1 := ha.hi (e.pts.length - 1) (by omega)
  have key : ∀ s t : Int, 0 ≤ s → s ≤ t → t < e.pts.length → 0 ≤ tk e.pts s.toNat ∧ tk e.pts s.toNat ≤ tk e.pts t.toNat ∧ tk e.pts t.toNat ≤ 9999 := by
    intro s t hs hst ht
    exact ⟨ha.lo _ (by omega), ha.mono (by omega) (by omega), ha.hi _ (by omega)⟩
  cases hhs : (hd && e.sus)
  · cases hl : e.lp
    · refine ⟨?_, ?_, ?_, l0, l1, ?_⟩ <;> simp [cF, cE, hhs, hl]
    · rw [hl] at h5
      simp only [cok, if_true, decide_eq_true_eq] at h5
      obtain ⟨k1, k2, k3⟩ := key _ _ h5.1 h5.2.1 h5.2.2
      refine ⟨?_, ?_, ?_, l0, l1, ?_⟩ <;> simp only [cF, cE, cT, hhs, hl, if_true, Bool.false_eq_true, if_false]
      · exact k1
      · exact k2
      · exact k3
      · simp
  · have hsus : e.sus = true := by revert hhs; cases hd <;> simp
    rw [hsus] at h4
    simp only [cok, if_true, decide_eq_true_eq] at h4
    obtain ⟨k1, k2, k3⟩ := key _ _ h4.1 h4.2.1 h4.2.2
    refine ⟨?_, ?_, ?_, l0, l1, ?_⟩ <;> simp only [cF, cE, cT, hhs, if_true]
    · exact k1
    · exact k2
    · exact k3
    · simp
end In
end Go.Proofs.Ytcchfahdgmcpbaa

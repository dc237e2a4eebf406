/-
  What the law InstCircles says, as mathematics: values lie between their points, circles are not passed, a curve ahead of the release does not hang on it. No program.
-/
import Derived.Test.YtcchfahdgmcpbaaMath
namespace Go.Proofs.Ytcchfahdgmcpbaa
namespace In
theorem val_at {ps : List (Int × Int)} (h : Asc ps) {k : Nat} (hk : k < ps.length) : val ps (tk ps k) = vl ps k := by
  have hp := h.pos
  have h0 : tk ps 0 ≤ tk ps k := h.mono (Nat.zero_le _) hk
  by_cases hl : k + 1 < ps.length
  · rw [val_mid h0 hl (fun i hi => h.mono (by omega) (by omega)) (h.step k hl)]
    have e : tk ps k - tk ps k = 0 := by omega
    rw [e]; simp
  · rw [val_end hp (fun i hi => h.mono (by omega) (by omega))]
    congr 1; omega
theorem val_between {ps : List (Int × Int)} (h : Asc ps) {k : Nat} (hk : k + 1 < ps.length) {t : Int} (h1 : tk ps k ≤ t) (h2 : t ≤ tk ps (k + 1)) :
    min (vl ps k) (vl ps (k + 1)) ≤ val ps t ∧ val ps t ≤ max (vl ps k) (vl ps (k + 1)) := by
  have hs := h.step k hk
  by_cases e : t = tk ps (k + 1)
  · subst e
    rw [val_at h hk]
    omega
  · have h0 : tk ps 0 ≤ t := Int.le_trans (h.mono (Nat.zero_le _) (by omega)) h1
    rw [val_mid h0 hk (fun i hi => Int.le_trans (h.mono (by omega) (by omega)) h1) (by omega)]
    have l1 := lin_lo (v := vl ps (k + 1) - vl ps k) (s := t - tk ps k) (d := tk ps (k + 1) - tk ps k) (by omega) (by omega) (by omega)
    have l2 := lin_hi (v := vl ps (k + 1) - vl ps k) (s := t - tk ps k) (d := tk ps (k + 1) - tk ps k) (by omega) (by omega) (by omega)
    omega
/-- The end that is not passed. -/
def lim (e : Env) (h : Bool) : Int := if cT e h = true then cE e h else lst e
theorem after_lim {e : Env} (hv : lv e = true) (h : Bool) (t : Int) : after e t h ≤ lim e h := by
  have r := rnd_of hv h
  have r1 := r.ab
  have r2 := r.a0
  have r3 := r.l0
  unfold lim
  unfold after aft
  cases hc : cT e h
  · simp only [Bool.false_eq_true, if_false]
    split <;> omega
  · simp only [if_true]
    split <;> omega
theorem tks_same {e : Env} {r o : Int} : ∀ {i : Nat}, (i : Int) ≤ r → (i : Int) ≤ o → tks e r i = tks e o i
  | 0, _, _ => rfl
  | i + 1, h1, h2 => by
    have ih := tks_same (e := e) (r := r) (o := o) (i := i) (by omega) (by omega)
    rw [tks, tks, ih, decide_eq_true (show (i : Int) < r by omega), decide_eq_true (show (i : Int) < o by omega)]
theorem crv_same {e : Env} {n : Nat} {r o : Int} (hn : n ≤ 4000) {i : Nat} (hi : i < n) (h1 : (i : Int) < r) (h2 : (i : Int) < o) : (crv e n r).getD i 0 = (crv e n o).getD i 0 := by
  rw [crv_at (by omega) (by omega), crv_at (by omega) (by omega), tks_same (r := r) (o := o) (by omega) (by omega)]
/-- What the laws on envelopes are asked. -/
structure Ask where
  e : Env
  lo : Int
  hi : Int
  t : Int
  n : Int
  r : Int
  o : Int
  h : Bool
end In
end Go.Proofs.Ytcchfahdgmcpbaa

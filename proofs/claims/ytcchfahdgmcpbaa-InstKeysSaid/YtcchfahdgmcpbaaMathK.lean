/-
  What is asked of an instrument's keys, as mathematics: which note and sample a key plays, which samples are played, the keys that are set. No program.
-/
import Derived.Test.YtcchfahdgmcpbaaPIns
namespace Go.Proofs.Ytcchfahdgmcpbaa
namespace In
/-- What a key plays. -/
def plA (ks : List (Int × Int)) (n : Int) : Int := if ks = [] then n else tk ks n.toNat
def plB (ks : List (Int × Int)) (n own : Int) : Int := if ks = [] then own else vl ks n.toNat
def keyA (i : Ins) (n : Int) : Int := if (ivld i && wth n 0 119) = true then plA i.keys n else 0
def keyB (i : Ins) (n own : Int) : Int := if (ivld i && wth n 0 119) = true then plB i.keys n own else 0
theorem ivld_keys {i : Ins} (h : ivld i = true) : kys i.keys = true := by
  simp only [ivld, Bool.and_eq_true] at h
  exact h.2.1
theorem kys_parts {ks : List (Int × Int)} (h : kys ks = true) : ks = [] ∨ ((ks.length : Int) = 120 ∧ kall ks = true) := by
  simpa [kys] using h
/-- Which samples are played. -/
def seen (ks : List (Int × Int)) (n : Int) : Bool := (List.range ks.length).any fun k => decide (vl ks k = n)
def seenTo (ks : List (Int × Int)) (m : Nat) (n : Int) : Bool := (List.range m).any fun k => decide (vl ks k = n)
theorem seenTo_zero (ks : List (Int × Int)) (n : Int) : seenTo ks 0 n = false := by simp [seenTo]
theorem seenTo_succ (ks : List (Int × Int)) (m : Nat) (n : Int) : seenTo ks (m + 1) n = (seenTo ks m n || decide (vl ks m = n)) := by simp [seenTo, List.range_succ]
theorem seenTo_all (ks : List (Int × Int)) (n : Int) : seenTo ks ks.length n = seen ks n := rfl
def smpTo (ks : List (Int × Int)) (m : Nat) : List Int := ((List.range m).map fun (k : Nat) => (k : Int) + 1).filter (seen ks)
theorem smpTo_zero (ks : List (Int × Int)) : smpTo ks 0 = [] := by simp [smpTo]
theorem smpTo_succ (ks : List (Int × Int)) (m : Nat) : smpTo ks (m + 1) = smpTo ks m ++ (if seen ks ((m : Int) + 1) = true then [(m : Int) + 1] else []) := by
  simp only [smpTo, List.range_succ, List.map_append, List.filter_append, List.map_cons, List.map_nil]
  congr 1
  by_cases h : seen ks ((m : Int) + 1) = true
  · simp [h]
  · simp [h]
theorem smpTo_length (ks : List (Int × Int)) (m : Nat) : (smpTo ks m).length ≤ m := by
  have := List.length_filter_le (seen ks) ((List.range m).map fun (k : Nat) => (k : Int) + 1)
  simpa [smpTo] using this
def pos (n : Int) : List Int := if 0 < n then [n] else []
def smp (i : Ins) (own : Int) : List Int := if ivld i = true then (if i.keys = [] then pos own else smpTo i.keys 31) else []
theorem smp_length (i : Ins) (own : Int) : (smp i own).length ≤ 31 := by
  unfold smp pos
  split
  · split
    · split <;> simp
    · exact smpTo_length _ _
  · simp
/-- The keys that are set. -/
def skT (ks : List (Int × Int)) (f t s : Int) (k : Nat) : Int := if f ≤ (k : Int) ∧ (k : Int) ≤ t then min (max ((k : Int) + s) 0) 119 else plA ks k
def skV (ks : List (Int × Int)) (f t m : Int) (k : Nat) : Int := if f ≤ (k : Int) ∧ (k : Int) ≤ t then m else plB ks k 0
def sk (ks : List (Int × Int)) (f t s m : Int) : List (Int × Int) := (List.range 120).map fun k => (skT ks f t s k, skV ks f t m k)
theorem sk_length (ks : List (Int × Int)) (f t s m : Int) : (sk ks f t s m).length = 120 := by simp [sk]
theorem sk_tk {ks : List (Int × Int)} {f t s m : Int} {k : Nat} (h : k < 120) : tk (sk ks f t s m) k = skT ks f t s k := by simp [tk, sk, List.getD_eq_getElem?_getD, h]
theorem sk_vl {ks : List (Int × Int)} {f t s m : Int} {k : Nat} (h : k < 120) : vl (sk ks f t s m) k = skV ks f t m k := by simp [vl, sk, List.getD_eq_getElem?_getD, h]
/-- Which numbers keys may be set with. -/
def skok (f t s m : Int) : Bool := wth f 0 119 && (wth t f 119 && (wth s (-119) 119 && wth m 0 31))
theorem skok_parts {f t s m : Int} (h : skok f t s m = true) : 0 ≤ f ∧ f ≤ t ∧ t ≤ 119 ∧ -119 ≤ s ∧ s ≤ 119 ∧ 0 ≤ m ∧ m ≤ 31 := by
  simp only [skok, wth, Bool.and_eq_true, decide_eq_true_eq] at h
  omega
theorem sk_ok {ks : List (Int × Int)} {f t s m : Int} (h : skok f t s m = true) (hk : kys ks = true) : kys (sk ks f t s m) = true := by
  have hp := skok_parts h
  have : kall (sk ks f t s m) = true := by
    refine kall_mk fun k hk' => ?_
    rw [sk_length] at hk'
    unfold kok wth
    rw [sk_tk hk', sk_vl hk']
    unfold skT skV
    by_cases hin : f ≤ (k : Int) ∧ (k : Int) ≤ t
    · rw [if_pos hin, if_pos hin]
      simp only [Bool.and_eq_true, decide_eq_true_eq]
      omega
    · rw [if_neg hin, if_neg hin]
      unfold plA plB
      rcases kys_parts hk with h0 | ⟨h1, h2⟩
      · rw [if_pos h0, if_pos h0]
        simp only [Bool.and_eq_true, decide_eq_true_eq]
        omega
      · have hne : ks ≠ [] := by intro e; rw [e] at h1; simp at h1
        rw [if_neg hne, if_neg hne]
        have := kall_yes h2 (k := k) (by omega)
        simpa [kok, wth] using this
  unfold kys
  rw [this, sk_length]
  simp
/-- An instrument with other keys. -/
def withK (i : Ins) (ks : List (Int × Int)) : Ins := ⟨i.name, ks, i.vol, i.pan, i.pit, i.fade, i.nn, i.dup, i.dd, i.glo, i.cut, i.res⟩
theorem withK_ok {i : Ins} {ks : List (Int × Int)} (h : ivld i = true) (hk : kys ks = true) : ivld (withK i ks) = true := by
  simp only [ivld, Bool.and_eq_true] at h ⊢
  exact ⟨h.1, hk, h.2.2⟩
/-- The instrument that is zero. -/
def zer : Ins := ⟨⟨#[]⟩, [], ⟨false, [], false, 0, 0, false, 0, 0⟩, ⟨false, [], false, 0, 0, false, 0, 0⟩, ⟨false, [], false, 0, 0, false, 0, 0⟩, 0, 0, 0, 0, 0, 0, 0⟩
def zel : Loc := ⟨none, 0, none, 0, none, 0, none, 0⟩
end In
end Go.Proofs.Ytcchfahdgmcpbaa

/-
  Plain mathematics for package sample: which names, frames, loops and samples are valid. It says nothing of the program.
-/
import Derived.WalkKit
namespace Go.Proofs.Ytmaldhjcdkidmaa.Sm

/-- A name of at most 22 bytes from 32 to 126. -/
def nmd (s : ByteArray) : Bool := decide ((s.size : Int) ≤ 22) && s.data.toList.all fun c => decide (32 ≤ c.toNat ∧ c.toNat ≤ 126)
theorem nmd_yes {s : ByteArray} (h : nmd s = true) : (s.size : Int) ≤ 22 ∧ ∀ (i : Nat) (hi : i < s.size), 32 ≤ (s[i].toNat : Int) ∧ (s[i].toNat : Int) ≤ 126 := by
  simp only [nmd, Bool.and_eq_true, decide_eq_true_eq, List.all_eq_true] at h
  refine ⟨h.1, fun i hi => ?_⟩
  have := h.2 s[i] (List.getElem_mem (l := s.data.toList) (by simpa using hi))
  omega
theorem nmd_mk {s : ByteArray} (h1 : (s.size : Int) ≤ 22) (h2 : ∀ (i : Nat) (hi : i < s.size), 32 ≤ (s[i].toNat : Int) ∧ (s[i].toNat : Int) ≤ 126) : nmd s = true := by
  simp only [nmd, Bool.and_eq_true, decide_eq_true_eq, List.all_eq_true]
  refine ⟨h1, fun c hc => ?_⟩
  obtain ⟨i, hi, rfl⟩ := List.mem_iff_getElem.1 hc
  have := h2 i (by simpa using hi)
  have e : s.data.toList[i] = s[i]'(by simpa using hi) := rfl
  rw [e]
  omega

/-- A frame of so many bits. -/
def fts (x bits : Int) : Bool := decide (-(2 ^ (bits - 1).toNat) ≤ x ∧ x < 2 ^ (bits - 1).toNat)
/-- A loop of so many frames. -/
def lpd (k s e n : Int) : Bool := decide ((k = 0 ∧ s = 0 ∧ e = 0) ∨ ((k = 1 ∨ k = 2) ∧ 0 ≤ s ∧ s < e ∧ e ≤ n))

/-- A sample: its name, its frames and its eleven numbers. -/
structure Smp where
  name : ByteArray
  dat : List Int
  bits : Int
  rate : Int
  vol : Int
  pan : Int
  fine : Int
  loop : Int
  start : Int
  fin : Int
  sus : Int
  sstart : Int
  sfin : Int
/-- The head of a valid sample: all but the frames and the loops. -/
def headOk (s : Smp) : Bool := nmd s.name && decide ((s.bits = 8 ∨ s.bits = 16) ∧ (s.dat.length : Int) ≤ 4096 ∧ (1 ≤ s.rate ∧ s.rate ≤ 65535) ∧ (0 ≤ s.vol ∧ s.vol ≤ 64) ∧ (-1 ≤ s.pan ∧ s.pan ≤ 256) ∧ (-64 ≤ s.fine ∧ s.fine ≤ 63))
def vld (s : Smp) : Bool := headOk s && (s.dat.all fun x => fts x s.bits) && lpd s.loop s.start s.fin s.dat.length && lpd s.sus s.sstart s.sfin s.dat.length
end Go.Proofs.Ytmaldhjcdkidmaa.Sm

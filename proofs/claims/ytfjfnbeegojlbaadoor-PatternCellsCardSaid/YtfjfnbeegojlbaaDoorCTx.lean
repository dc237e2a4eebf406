/-
  Plain facts on the names of notes: the twelve letters, a note's name, and what it is to be a text's note. It says nothing of the program.
-/
import Derived.Laws.Strings
import Derived.Lib.Strings
import Derived.Lib.SmallJoins
namespace Go.Proofs.YtfjfnbeegojlbaaDoor.Tm

/-- The twelve letters. -/
def lts : List ByteArray := [⟨#[67, 45]⟩, ⟨#[67, 35]⟩, ⟨#[68, 45]⟩, ⟨#[68, 35]⟩, ⟨#[69, 45]⟩, ⟨#[70, 45]⟩, ⟨#[70, 35]⟩, ⟨#[71, 45]⟩, ⟨#[71, 35]⟩, ⟨#[65, 45]⟩, ⟨#[65, 35]⟩, ⟨#[66, 45]⟩]
def lt (i : Nat) : ByteArray := lts.getD i ByteArray.empty
/-- The ten digits. -/
def dg (o : Nat) : ByteArray := ⟨#[UInt8.ofNat (48 + o)]⟩
/-- The name of a note. -/
def nameOf (n : Nat) : ByteArray := lt (n % 12) ++ dg (n / 12)
/-- What Note says of a text: its note and no error, or 0 and ErrName. -/
def NoteIs (s : ByteArray) (n e : Int) : Prop := (∃ k : Nat, k < 120 ∧ nameOf k = s ∧ n = k ∧ e = 0) ∨ (n = 0 ∧ e = 10 ∧ ∀ k, k < 120 → nameOf k ≠ s)

theorem ext_list {a b : ByteArray} (h : a.data.toList = b.data.toList) : a = b := by
  cases a; cases b; congr; exact Array.toList_inj.1 h
theorem name_list (n : Nat) : (nameOf n).data.toList = (lt (n % 12)).data.toList ++ [UInt8.ofNat (48 + n / 12)] := Go.Joins.data_append _ _
theorem name_inj {a b : Nat} (ha : a < 120) (hb : b < 120) (h : nameOf a = nameOf b) : a = b := by
  have all : ∀ i : Fin 120, ∀ j : Fin 120, (nameOf i.val).data.toList = (nameOf j.val).data.toList → i = j := by decide +kernel
  have := all ⟨a, ha⟩ ⟨b, hb⟩ (by rw [h])
  exact congrArg Fin.val this
theorem lt_len {i : Nat} (h : i < 12) : (lt i).data.toList.length = 2 := by
  have all : ∀ i : Fin 12, (lt i.val).data.toList.length = 2 := by decide +kernel
  exact all ⟨i, h⟩
theorem lt_size {i : Nat} (h : i < 12) : (lt i).size = 2 := by have := lt_len h; simpa using this
theorem noteIs_unique {s : ByteArray} {n e n' e' : Int} (h : NoteIs s n e) (h' : NoteIs s n' e') : n = n' ∧ e = e' := by
  rcases h with ⟨k, h1, h2, rfl, rfl⟩ | ⟨rfl, rfl, h3⟩
  · rcases h' with ⟨k', h1', h2', rfl, rfl⟩ | ⟨rfl, rfl, h3'⟩
    · exact ⟨by rw [name_inj h1 h1' (h2.trans h2'.symm)], rfl⟩
    · exact absurd h2 (h3' k h1)
  · rcases h' with ⟨k', h1', h2', rfl, rfl⟩ | ⟨rfl, rfl, h3'⟩
    · exact absurd h2' (h3 k' h1')
    · exact ⟨rfl, rfl⟩
theorem noteIs_none {s : ByteArray} (h : ∀ k, k < 120 → nameOf k ≠ s) : NoteIs s 0 10 := .inr ⟨rfl, rfl, h⟩
theorem name_size {k : Nat} : (nameOf k).size = 3 := by
  have h := name_list k
  have := lt_len (i := k % 12) (by omega)
  have e : (nameOf k).data.toList.length = 3 := by rw [h]; simp [this]
  simpa using e
theorem name_last {k : Nat} (h : k < 120) (hs : 2 < (nameOf k).size) : ((nameOf k)[2].toNat : Int) = 48 + k / 12 := by
  have all : ∀ i : Fin 120, ((nameOf i.val).data.toList.getD 2 0).toNat = 48 + i.val / 12 := by decide +kernel
  have a := all ⟨k, h⟩
  have e : (nameOf k)[2] = (nameOf k).data.toList.getD 2 0 := by
    rw [List.getD_eq_getElem?_getD, List.getElem?_eq_getElem (by simpa using hs)]; rfl
  rw [e, a]; simp
theorem take_two (s : ByteArray) : (s.extract 0 2).data.toList = s.data.toList.take 2 := by
  rw [Lib.extract_data]; simp
theorem name_two {k : Nat} : (nameOf k).extract 0 2 = lt (k % 12) := by
  apply ext_list
  rw [take_two, name_list]
  have := lt_len (i := k % 12) (by omega)
  rw [List.take_append_of_le_length (by omega), List.take_of_length_le (by omega)]
theorem take_last : ∀ {l : List UInt8} (h : l.length = 3), l.take 2 ++ [l[2]] = l
  | [_, _, _], _ => rfl
/-- What the loop has found: the letter and the digit make the name. -/
theorem noteIs_at {s : ByteArray} {k : Nat} (hs : s.size = 3) (hk : k < 12) (h : ((lt k).toList == (s.extract 0 2).toList) = true) (h1 : 48 ≤ (s[2].toNat : Int)) (h2 : (s[2].toNat : Int) ≤ 57) :
    NoteIs s (12 * ((s[2].toNat : Int) - 48) + k) 0 := by
  have h0 : (lt k).data.toList = s.data.toList.take 2 := by
    rw [← take_two]
    simpa [ByteArray.toList_eq] using h
  have hl : s.data.toList.length = 3 := by simpa using hs
  have e2 : s[2] = s.data.toList[2] := rfl
  refine .inl ⟨12 * (s[2].toNat - 48) + k, by omega, ?_, by omega, rfl⟩
  apply ext_list
  rw [name_list, show (12 * (s[2].toNat - 48) + k) % 12 = k by omega, show (12 * (s[2].toNat - 48) + k) / 12 = s[2].toNat - 48 by omega, h0, show 48 + (s[2].toNat - 48) = s[2].toNat by omega, UInt8.ofNat_toNat, e2]
  exact take_last hl
theorem noteIs_nowhere {s : ByteArray} (h : ∀ j, j < 12 → lt j ≠ s.extract 0 2) : NoteIs s 0 10 :=
  noteIs_none fun k _ e => h (k % 12) (by omega) (by rw [← e, name_two])
theorem ne_of_test {a b : ByteArray} (h : (a.toList == b.toList) = false) : a ≠ b := fun e => by subst e; simp at h
theorem digit_at {o : Nat} (h : o ≤ 9) : (⟨#[48, 49, 50, 51, 52, 53, 54, 55, 56, 57]⟩ : ByteArray).extract o (o + 1) = dg o := by
  have all : ∀ k : Fin 10, (((⟨#[48, 49, 50, 51, 52, 53, 54, 55, 56, 57]⟩ : ByteArray).data.toList.drop k.val).take 1) = (dg k.val).data.toList := by decide +kernel
  apply ext_list
  rw [Lib.extract_data, show o + 1 - o = 1 by omega]
  exact all ⟨o, by omega⟩
theorem note_c5 {n e : Int} (h : NoteIs ⟨#[67, 45, 53]⟩ n e) : n = 60 ∧ e = 0 :=
  noteIs_unique h (.inl ⟨60, by decide, ext_list (by decide +kernel), rfl, rfl⟩)
/-- A text's note and its error: there is one of each. -/
theorem note_ex (s : ByteArray) : ∃ n e, NoteIs s n e := by
  by_cases h : ∃ k, k < 120 ∧ nameOf k = s
  · obtain ⟨k, h1, h2⟩ := h
    exact ⟨k, 0, .inl ⟨k, h1, h2, rfl, rfl⟩⟩
  · exact ⟨0, 10, noteIs_none fun k h1 h2 => h ⟨k, h1, h2⟩⟩
noncomputable def noteN (s : ByteArray) : Int := (note_ex s).choose
noncomputable def noteE (s : ByteArray) : Int := (note_ex s).choose_spec.choose
theorem note_is (s : ByteArray) : NoteIs s (noteN s) (noteE s) := (note_ex s).choose_spec.choose_spec
theorem note_eq {s : ByteArray} {n e : Int} (h : NoteIs s n e) : n = noteN s ∧ e = noteE s := noteIs_unique h (note_is s)
theorem note_name {k : Nat} (h : k ≤ 119) : noteN (nameOf k) = k ∧ noteE (nameOf k) = 0 :=
  noteIs_unique (note_is _) (.inl ⟨k, by omega, rfl, rfl, rfl⟩)
theorem note_empty : noteN ByteArray.empty = 0 ∧ noteE ByteArray.empty = 10 :=
  noteIs_unique (note_is _) (noteIs_none fun k _ e => by have := name_size (k := k); rw [e] at this; exact absurd this (by decide))
end Go.Proofs.YtfjfnbeegojlbaaDoor.Tm

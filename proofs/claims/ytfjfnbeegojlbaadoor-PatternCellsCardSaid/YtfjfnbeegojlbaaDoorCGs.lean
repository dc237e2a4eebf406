/-
  Mathematics of the reference's guess: the cell that is guessed of a text is the cell whose text it is, where there is one. No program.
-/
import Derived.Test.YtfjfnbeegojlbaaDoorCRt
import Derived.Test.YtfjfnbeegojlbaaDoorCRb
namespace Go.Proofs.YtfjfnbeegojlbaaDoor
open Go.RowKit

/-- The bytes of a text. -/
def b8 (s : ByteArray) (i : Nat) : UInt8 := s.data.toList.getD i 0
theorem b8_at (s : ByteArray) (i : Nat) (h : i < s.size) : s[i] = b8 s i := byte_at rfl i h
theorem b8_text {s : ByteArray} {d : Pt.Cl} (h : Pt.IsT s d) : s.size = 14 ∧ (s.extract 0 3).data.toList = (Pt.fieldT 0 d).data.toList ∧ (Pt.fieldT 1 d).data.toList = [b8 s 4, b8 s 5] ∧ (Pt.fieldT 2 d).data.toList = [b8 s 7, b8 s 8, b8 s 9] ∧ (Pt.fieldT 3 d).data.toList = [b8 s 11, b8 s 12, b8 s 13] := by
  obtain ⟨hv, rfl⟩ := h
  have z0 : (Pt.fieldT 0 d).size = 3 := Pt.field_wid (by decide) hv
  have z1 : (Pt.fieldT 1 d).size = 2 := Pt.field_wid (by decide) hv
  have z2 : (Pt.fieldT 2 d).size = 3 := Pt.field_wid (by decide) hv
  have z3 : (Pt.fieldT 3 d).size = 3 := Pt.field_wid (by decide) hv
  obtain ⟨a0, a1, a2, e0⟩ := three_ls z0
  obtain ⟨c0, c1, e1⟩ := two_ls z1
  obtain ⟨f0, f1, f2, e2⟩ := three_ls z2
  obtain ⟨g0, g1, g2, e3⟩ := three_ls z3
  have hl := Pt.textT_ls d
  rw [e0, e1, e2, e3] at hl
  refine ⟨Pt.textT_size hv, ?_, ?_, ?_, ?_⟩
  · rw [Lib.extract_data, hl, e0]; rfl
  · unfold b8; rw [hl, e1]; rfl
  · unfold b8; rw [hl, e2]; rfl
  · unfold b8; rw [hl, e3]; rfl
/-! The note. -/
def lp (q : ByteArray) : Nat → Int
  | 0 => 0
  | i + 1 => if q = Pt.noteT (255 - (i : Int)) then 255 - (i : Int) else lp q i
theorem lp_hit {q : ByteArray} {i : Nat} (h : q = Pt.noteT (255 - (i : Int))) : lp q (i + 1) = 255 - (i : Int) := if_pos h
theorem lp_miss {q : ByteArray} {i : Nat} (h : q ≠ Pt.noteT (255 - (i : Int))) : lp q (i + 1) = lp q i := if_neg h
noncomputable def gN (q : ByteArray) : Int := if Tm.noteE q = 0 then Tm.noteN q + 1 else lp q 3
theorem note_of_name {q : ByteArray} {k : Nat} (hk : k < 120) (h : Tm.nameOf k = q) : Tm.noteN q = k ∧ Tm.noteE q = 0 := by
  subst h
  exact Tm.note_name (by omega)
theorem note_of_none {q : ByteArray} (h : ∀ k, k < 120 → Tm.nameOf k ≠ q) : Tm.noteE q = 10 :=
  (Tm.noteIs_unique (Tm.note_is q) (Tm.noteIs_none h)).2
theorem names_none {q : ByteArray} (h : q.data.toList = [46, 46, 46] ∨ q.data.toList = [61, 61, 61] ∨ q.data.toList = [94, 94, 94] ∨ q.data.toList = [126, 126, 126]) : ∀ k, k < 120 → Tm.nameOf k ≠ q := fun k hk e => by
  subst e
  have all : ∀ i : Fin 120, (Tm.nameOf i.val).data.toList ≠ [46, 46, 46] ∧ (Tm.nameOf i.val).data.toList ≠ [61, 61, 61] ∧ (Tm.nameOf i.val).data.toList ≠ [94, 94, 94] ∧ (Tm.nameOf i.val).data.toList ≠ [126, 126, 126] := by decide +kernel
  obtain ⟨n1, n2, n3, n4⟩ := all ⟨k, hk⟩
  rcases h with h | h | h | h
  · exact n1 h
  · exact n2 h
  · exact n3 h
  · exact n4 h
theorem off_ls : (Pt.noteT 255).data.toList = [61, 61, 61] ∧ (Pt.noteT 254).data.toList = [94, 94, 94] ∧ (Pt.noteT 253).data.toList = [126, 126, 126] := ⟨rfl, rfl, rfl⟩
theorem gN_of {q : ByteArray} {n : Int} (hn : n = 0 ∨ (1 ≤ n ∧ n ≤ 120) ∨ n = 253 ∨ n = 254 ∨ n = 255) (h : q.data.toList = (nR n).data.toList) : gN q = n := by
  unfold gN
  rcases hn with rfl | ⟨h1, h2⟩ | rfl | rfl | rfl
  · have hq : q.data.toList = [46, 46, 46] := h
    rw [note_of_none (names_none (.inl hq)), if_neg (by decide)]
    rw [lp_miss (i := 2) (fun e => by rw [e] at hq; exact absurd hq (by decide)), lp_miss (i := 1) (fun e => by rw [e] at hq; exact absurd hq (by decide)), lp_miss (i := 0) (fun e => by rw [e] at hq; exact absurd hq (by decide))]
    rfl
  · obtain ⟨k, rfl⟩ : ∃ k : Nat, n = (k : Int) + 1 := ⟨(n - 1).toNat, by omega⟩
    rw [nR_at (by omega), note_tm (by omega)] at h
    obtain ⟨e1, e2⟩ := note_of_name (q := q) (k := k) (by omega) (Pt.ext_ls h.symm)
    rw [e2, if_pos rfl, e1]
  · have hq : q.data.toList = [126, 126, 126] := h
    rw [note_of_none (names_none (.inr (.inr (.inr hq)))), if_neg (by decide)]
    exact lp_hit (i := 2) (Pt.ext_ls h)
  · have hq : q.data.toList = [94, 94, 94] := h
    rw [note_of_none (names_none (.inr (.inr (.inl hq)))), if_neg (by decide)]
    rw [lp_miss (i := 2) (fun e => by rw [e] at hq; exact absurd hq (by decide))]
    exact lp_hit (i := 1) (Pt.ext_ls h)
  · have hq : q.data.toList = [61, 61, 61] := h
    rw [note_of_none (names_none (.inr (.inl hq))), if_neg (by decide)]
    rw [lp_miss (i := 2) (fun e => by rw [e] at hq; exact absurd hq (by decide)), lp_miss (i := 1) (fun e => by rw [e] at hq; exact absurd hq (by decide))]
    exact lp_hit (i := 0) (Pt.ext_ls h)
/-! Instrument, volume command, effect. -/
def gI (x y : UInt8) : Int := if (x.toNat : Int) = 46 then 0 else 10 * IntKind.u8.wrap ((x.toNat : Int) - 48) + (y.toNat : Int) - 48
def gV (x y z : UInt8) : Int × Int := if (x.toNat : Int) = 46 then (0, 0) else ((x.toNat : Int) - 97 + 1, 10 * ((y.toNat : Int) - 48) + (z.toNat : Int) - 48)
def gE (x y z : UInt8) : Int × Int := if (x.toNat : Int) = 46 then (0, 0) else (1 + Lib.indexByte Pt.D36 x, 16 * Lib.indexByte Pt.D16 y + Lib.indexByte Pt.D16 z)
theorem gI_of {d : Pt.Cl} (hv : Pt.vcl d = true) {x y : UInt8} (h : (Pt.fieldT 1 d).data.toList = [x, y]) : gI x y = d.it := by
  cases hs : Pt.isSet (Pt.pv 1 d) with
  | false =>
    have e0 : d.it = 0 := by have := Pt.zero_pv (k := 1) (by decide) hv hs; exact congrArg Prod.fst this
    rw [Pt.field_un hs] at h
    have e : (Pt.dots (Pt.wid 1)).data.toList = [46, 46] := by decide
    rw [e] at h
    obtain ⟨rfl, rfl⟩ : 46 = x ∧ 46 = y := by simpa using h
    rw [e0]
    rfl
  | true =>
    have hk := Pt.vcl_ok hv (k := 1) (by decide) hs
    simp only [Pt.okV, Pt.pv] at hk
    rw [Pt.field_set hs, Pt.part_1] at h
    have all : ∀ i : Fin 32, gI ((Pt.txt2 i.val 10).data.toList.getD 0 0) ((Pt.txt2 i.val 10).data.toList.getD 1 0) = (i.val : Int) := by decide +kernel
    have e2 := all ⟨d.it.toNat, by omega⟩
    have h' : (Pt.txt2 d.it.toNat 10).data.toList = [x, y] := h
    simp only at e2
    rw [h'] at e2
    have e3 : gI x y = ((d.it.toNat : Nat) : Int) := e2
    rw [e3]
    omega
theorem gV_of {d : Pt.Cl} (hv : Pt.vcl d = true) {x y z : UInt8} (h : (Pt.fieldT 2 d).data.toList = [x, y, z]) : gV x y z = (d.vc, d.va) := by
  cases hs : Pt.isSet (Pt.pv 2 d) with
  | false =>
    have e0 : (d.vc, d.va) = (0, 0) := Pt.zero_pv (k := 2) (by decide) hv hs
    rw [Pt.field_un hs] at h
    have e : (Pt.dots (Pt.wid 2)).data.toList = [46, 46, 46] := by decide
    rw [e] at h
    obtain ⟨rfl, rfl, rfl⟩ : 46 = x ∧ 46 = y ∧ 46 = z := by simpa using h
    rw [e0]
    rfl
  | true =>
    have hk := Pt.vcl_ok hv (k := 2) (by decide) hs
    simp only [Pt.okV, Pt.pv] at hk
    rw [Pt.field_set hs, Pt.part_2] at h
    have h' : ((Pt.VO.extract (d.vc.toNat - 1) 12).extract 0 1 ++ Pt.txt2 d.va.toNat 10).data.toList = [x, y, z] := h
    have a1 : ∀ i : Fin 12, ((Pt.V12.getD i.val 0).toNat : Int) = 97 + (i.val : Int) := by decide +kernel
    have a2 : ∀ i : Fin 100, 10 * ((((Pt.txt2 i.val 10).data.toList.getD 0 0).toNat : Int) - 48) + (((Pt.txt2 i.val 10).data.toList.getD 1 0).toNat : Int) - 48 = (i.val : Int) := by decide +kernel
    have b1 := a1 ⟨d.vc.toNat - 1, by omega⟩
    have b2 := a2 ⟨d.va.toNat, by omega⟩
    simp only at b1 b2
    rw [Pt.ls_app, Pt.vo_ls (by omega), List.singleton_append] at h'
    obtain ⟨rfl, h2⟩ := List.cons.inj h'
    rw [h2] at b2
    have e4 : 10 * ((y.toNat : Int) - 48) + (z.toNat : Int) - 48 = ((d.va.toNat : Nat) : Int) := b2
    have e2 := b1
    unfold gV
    rw [if_neg (by omega), e4, e2]
    exact Prod.ext (by show 97 + ((d.vc.toNat - 1 : Nat) : Int) - 97 + 1 = d.vc; omega) (by show ((d.va.toNat : Nat) : Int) = d.va; omega)
theorem gE_of {d : Pt.Cl} (hv : Pt.vcl d = true) {x y z : UInt8} (h : (Pt.fieldT 3 d).data.toList = [x, y, z]) : gE x y z = (d.ef, d.pa) := by
  cases hs : Pt.isSet (Pt.pv 3 d) with
  | false =>
    have e0 : (d.ef, d.pa) = (0, 0) := Pt.zero_pv (k := 3) (by decide) hv hs
    rw [Pt.field_un hs] at h
    have e : (Pt.dots (Pt.wid 3)).data.toList = [46, 46, 46] := by decide
    rw [e] at h
    obtain ⟨rfl, rfl, rfl⟩ : 46 = x ∧ 46 = y ∧ 46 = z := by simpa using h
    rw [e0]
    rfl
  | true =>
    have hk := Pt.vcl_ok hv (k := 3) (by decide) hs
    simp only [Pt.okV, Pt.pv] at hk
    rw [Pt.field_set hs, Pt.part_3] at h
    have h' : (Pt.dg (d.ef.toNat - 1) ++ Pt.txt2 d.pa.toNat 16).data.toList = [x, y, z] := h
    have a1 : ∀ i : Fin 36, ((Pt.D36.getD i.val 0).toNat : Int) ≠ 46 ∧ Lib.indexByte Pt.D36 (Pt.D36.getD i.val 0) = (i.val : Int) := by decide +kernel
    have a2 : ∀ i : Fin 256, 16 * Lib.indexByte Pt.D16 ((Pt.txt2 i.val 16).data.toList.getD 0 0) + Lib.indexByte Pt.D16 ((Pt.txt2 i.val 16).data.toList.getD 1 0) = (i.val : Int) := by decide +kernel
    obtain ⟨b0, b1⟩ := a1 ⟨d.ef.toNat - 1, by omega⟩
    have b2 := a2 ⟨d.pa.toNat, by omega⟩
    simp only at b0 b1 b2
    rw [Pt.ls_app, Pt.dg_ls (by omega), List.singleton_append] at h'
    obtain ⟨rfl, h2⟩ := List.cons.inj h'
    rw [h2] at b2
    have e4 : 16 * Lib.indexByte Pt.D16 y + Lib.indexByte Pt.D16 z = ((d.pa.toNat : Nat) : Int) := b2
    unfold gE
    rw [if_neg b0, e4, b1]
    exact Prod.ext (by show 1 + ((d.ef.toNat - 1 : Nat) : Int) = d.ef; omega) (by show ((d.pa.toNat : Nat) : Int) = d.pa; omega)
/-- The cell that the reference guesses. -/
noncomputable def guess (s : ByteArray) : Pt.Cl := ⟨gN (s.extract 0 3), gI (b8 s 4) (b8 s 5), (gV (b8 s 7) (b8 s 8) (b8 s 9)).1, (gV (b8 s 7) (b8 s 8) (b8 s 9)).2, (gE (b8 s 11) (b8 s 12) (b8 s 13)).1, (gE (b8 s 11) (b8 s 12) (b8 s 13)).2⟩
theorem guess_of {s : ByteArray} {d : Pt.Cl} (h : Pt.IsT s d) : guess s = d := by
  obtain ⟨-, h0, h1, h2, h3⟩ := b8_text h
  have hv := h.1
  have hn := hv
  simp only [Pt.vcl, Bool.and_eq_true] at hn
  obtain ⟨g1, -⟩ := hn
  simp only [Pt.vnt, decide_eq_true_eq] at g1
  rw [← nR_field d] at h0
  have e0 := gN_of (n := d.nt) (by omega) h0
  have e1 := gI_of hv h1
  have e2 := gV_of hv h2
  have e3 := gE_of hv h3
  unfold guess
  rw [e0, e1, e2, e3]
theorem told_guess {s : ByteArray} (h : Pt.vcl (guess s) = true ∧ Pt.textT (guess s) = s) : Pt.Told s (guess s) 0 := .inl ⟨h, rfl⟩
theorem told_none {s : ByteArray} (h : ¬ (Pt.vcl (guess s) = true ∧ Pt.textT (guess s) = s)) : Pt.Told s Pt.zc 2 := .inr ⟨fun d hd => by
  have e := guess_of hd
  subst e
  exact h hd, rfl, rfl⟩
theorem told_size {s : ByteArray} (h : s.size ≠ 14) : Pt.Told s Pt.zc 2 := .inr ⟨fun _ hd => h (b8_text hd).1, rfl, rfl⟩
end Go.Proofs.YtfjfnbeegojlbaaDoor

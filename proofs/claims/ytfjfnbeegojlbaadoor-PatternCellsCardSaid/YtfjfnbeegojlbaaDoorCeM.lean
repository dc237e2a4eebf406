/-
  Mathematics of a cell's text: how a text is read; what is read is the cell whose text it is. No program.
-/
import Derived.Test.YtfjfnbeegojlbaaDoorPTxt
import Derived.Test.YtfjfnbeegojlbaaDoorPuM
import Derived.Lib.SplitLaws
import Derived.Lib.IndexLaws
import Derived.Lib.IndexBytes
namespace Go.Proofs.YtfjfnbeegojlbaaDoor
open Go.RowKit

namespace Pt
theorem ext_ls {a b : ByteArray} (h : a.data.toList = b.data.toList) : a = b := by
  cases a; cases b; congr; exact Array.toList_inj.1 h
theorem ls_app (a b : ByteArray) : (a ++ b).data.toList = a.data.toList ++ b.data.toList := by
  simp
/-! What stands in a field. -/
def ns (b : ByteArray) : Prop := ∀ x ∈ b.data.toList, x ≠ 32
theorem ns_ext {b : ByteArray} (h : ns b) (i j : Nat) : ns (b.extract i j) := fun x hx => by
  rw [Lib.extract_data] at hx
  exact h x (List.mem_of_mem_drop (List.mem_of_mem_take hx))
theorem ns_app {a b : ByteArray} (h : ns a) (h' : ns b) : ns (a ++ b) := fun x hx => by
  rw [ls_app, List.mem_append] at hx
  exact hx.elim (h x) (h' x)
theorem ns_DG : ns DG := by unfold ns DG; decide
theorem ns_NM : ns NM := by unfold ns NM; decide
theorem ns_VO : ns VO := by unfold ns VO; decide
theorem ns_dg (k : Nat) : ns (dg k) := ns_ext (ns_ext ns_DG _ _) _ _
theorem ns_txt2 (n b : Nat) : ns (txt2 n b) := ns_app (ns_dg _) (ns_dg _)
theorem ns_note (n : Int) : ns (noteT n) := by
  unfold noteT
  split
  · unfold ns; decide
  · split
    · unfold ns; decide
    · split
      · unfold ns; decide
      · exact ns_app (ns_ext (ns_ext ns_NM _ _) _ _) (ns_dg _)
theorem ns_part (k : Nat) (v : Int × Int) : ns (partT k v) := by
  unfold partT
  split
  · exact ns_note _
  · exact ns_txt2 _ _
  · exact ns_app (ns_ext (ns_ext ns_VO _ _) _ _) (ns_txt2 _ _)
  · exact ns_app (ns_dg _) (ns_txt2 _ _)
theorem ns_field (k : Nat) (c : Cl) : ns (fieldT k c) := by
  unfold fieldT
  split
  · exact ns_part _ _
  · exact ns_ext (by unfold ns; decide) _ _
theorem part_wid {k : Nat} (hk : k < 4) {v : Int × Int} (h : okV k v) : (partT k v).size = wid k := by
  match k, hk with
  | 0, _ =>
    simp only [okV] at h
    show (noteT v.1).size = 3
    unfold noteT
    split
    · rfl
    · split
      · rfl
      · split
        · rfl
        · rw [ByteArray.size_append, ext_size NM _ 24 2 (by omega) (by decide), dg_size (by omega)]
  | 1, _ =>
    simp only [okV] at h
    exact txt2_size (by omega) (by omega)
  | 2, _ =>
    simp only [okV] at h
    show ((VO.extract (v.1.toNat - 1) 12).extract 0 1 ++ txt2 v.2.toNat 10).size = 3
    rw [ByteArray.size_append, ext_size VO _ 12 1 (by omega) (by decide), txt2_size (by omega) (by omega)]
  | 3, _ =>
    simp only [okV] at h
    show (dg (v.1.toNat - 1) ++ txt2 v.2.toNat 16).size = 3
    rw [ByteArray.size_append, dg_size (by omega), txt2_size (by omega) (by omega)]
theorem wid_le (k : Nat) : wid k ≤ 3 := by unfold wid; split <;> decide
theorem dots_size (k : Nat) : (dots (wid k)).size = wid k := by
  unfold dots
  rw [ByteArray.size_extract]
  show min (wid k) 3 - 0 = _
  have := wid_le k
  omega
theorem field_wid {k : Nat} (hk : k < 4) {c : Cl} (h : vcl c = true) : (fieldT k c).size = wid k := by
  unfold fieldT
  by_cases hs : isSet (pv k c) = true
  · rw [if_pos hs]; exact part_wid hk (vcl_ok h hk hs)
  · rw [if_neg hs]; exact dots_size k
theorem zero_pv {k : Nat} (hk : k < 4) {c : Cl} (h : vcl c = true) (hs : isSet (pv k c) = false) : pv k c = (0, 0) := by
  simp only [vcl, Bool.and_eq_true, wth_iff] at h
  obtain ⟨h1, h2, h3, h4, z1, h5, h6, z2⟩ := h
  simp only [zro, decide_eq_true_eq] at z1 z2
  have e : (pv k c).1 = 0 := by simpa [isSet] using hs
  match k, hk with
  | 0, _ => simp only [pv] at e ⊢; rw [e]
  | 1, _ => simp only [pv] at e ⊢; rw [e]
  | 2, _ => simp only [pv] at e ⊢; rw [e, show c.va = 0 by omega]
  | 3, _ => simp only [pv] at e ⊢; rw [e, show c.pa = 0 by omega]
/-! A field read. -/
def D36 : List UInt8 := DG.data.toList
def D10 : List UInt8 := D36.take 10
def D16 : List UInt8 := D36.take 16
def V12 : List UInt8 := VO.data.toList
def NL : List UInt8 := NM.data.toList
def nm2 (d : List UInt8) (b : Nat) : List UInt8 → Option Int
  | [x, y] => if 0 ≤ Lib.indexByte d x ∧ 0 ≤ Lib.indexByte d y then some (b * Lib.indexByte d x + Lib.indexByte d y) else none
  | _ => none
def rdN : List UInt8 → Option Int
  | [a, b, c] => if [a, b, c] = [61, 61, 61] then some 255 else if [a, b, c] = [94, 94, 94] then some 254 else if [a, b, c] = [126, 126, 126] then some 253 else
    if 0 ≤ Lib.index NL [a, b] ∧ Lib.index NL [a, b] % 2 = 0 ∧ 0 ≤ Lib.indexByte D10 c then some (12 * Lib.indexByte D10 c + Lib.index NL [a, b] / 2 + 1) else none
  | _ => none
def rdC (h d : List UInt8) (b : Nat) : List UInt8 → Option (Int × Int)
  | a :: r => if 0 ≤ Lib.indexByte h a then (nm2 d b r).map fun n => (Lib.indexByte h a + 1, n) else none
  | _ => none
def rd : Nat → List UInt8 → Option (Int × Int)
  | 0, f => (rdN f).map fun n => (n, 0)
  | 1, f => (nm2 D10 10 f).map fun n => (n, 0)
  | 2, f => rdC V12 D10 10 f
  | _, f => rdC D36 D16 16 f
theorem rd_0 (f : List UInt8) : rd 0 f = (rdN f).map fun n => (n, 0) := rfl
theorem rd_1 (f : List UInt8) : rd 1 f = (nm2 D10 10 f).map fun n => (n, 0) := rfl
theorem rd_2 (f : List UInt8) : rd 2 f = rdC V12 D10 10 f := rfl
theorem rd_3 (f : List UInt8) : rd 3 f = rdC D36 D16 16 f := rfl
theorem part_0 (v : Int × Int) : partT 0 v = noteT v.1 := rfl
theorem part_1 (v : Int × Int) : partT 1 v = txt2 v.1.toNat 10 := rfl
theorem part_2 (v : Int × Int) : partT 2 v = (VO.extract (v.1.toNat - 1) 12).extract 0 1 ++ txt2 v.2.toNat 10 := rfl
theorem part_3 (v : Int × Int) : partT 3 v = dg (v.1.toNat - 1) ++ txt2 v.2.toNat 16 := rfl
theorem rdC_cons (h d : List UInt8) (b : Nat) (a : UInt8) (r : List UInt8) : rdC h d b (a :: r) = if 0 ≤ Lib.indexByte h a then (nm2 d b r).map fun n => (Lib.indexByte h a + 1, n) else none := rfl
theorem nm2_10 {n : Nat} (h : n < 100) : nm2 D10 10 (txt2 n 10).data.toList = some (n : Int) := by
  have all : ∀ i : Fin 100, nm2 D10 10 (txt2 i.val 10).data.toList = some (i.val : Int) := by decide +kernel
  exact all ⟨n, h⟩
theorem nm2_16 {n : Nat} (h : n < 256) : nm2 D16 16 (txt2 n 16).data.toList = some (n : Int) := by
  have all : ∀ i : Fin 256, nm2 D16 16 (txt2 i.val 16).data.toList = some (i.val : Int) := by decide +kernel
  exact all ⟨n, h⟩
theorem rdN_back {n : Int} (h : (1 ≤ n ∧ n ≤ 120) ∨ n = 253 ∨ n = 254 ∨ n = 255) : rdN (noteT n).data.toList = some n := by
  rcases h with ⟨h1, h2⟩ | rfl | rfl | rfl
  · have all : ∀ i : Fin 120, rdN (noteT ((i.val : Int) + 1)).data.toList = some ((i.val : Int) + 1) := by decide +kernel
    have := all ⟨n.toNat - 1, by omega⟩
    rw [show ((n.toNat - 1 : Nat) : Int) + 1 = n by omega] at this
    exact this
  · decide +kernel
  · decide +kernel
  · decide +kernel
theorem rd_back {k : Nat} (hk : k < 4) {v : Int × Int} (h : okV k v) (h2 : num k = 2 ∨ v.2 = 0) : rd k (partT k v).data.toList = some v := by
  obtain ⟨a, b⟩ := v
  match k, hk with
  | 0, _ =>
    have e : b = 0 := by simpa [num] using h2
    subst e
    simp only [okV] at h
    rw [rd_0, part_0, rdN_back h]
    rfl
  | 1, _ =>
    have e : b = 0 := by simpa [num] using h2
    subst e
    simp only [okV] at h
    rw [rd_1, part_1, nm2_10 (by simp only; omega)]
    simp only [Option.map_some]
    rw [show ((a.toNat : Nat) : Int) = a by omega]
  | 2, _ =>
    simp only [okV] at h
    have all : ∀ i : Fin 12, ((VO.extract i.val 12).extract 0 1).data.toList = [V12.getD i.val 0] ∧ Lib.indexByte V12 (V12.getD i.val 0) = (i.val : Int) := by decide +kernel
    obtain ⟨e1, e2⟩ := all ⟨a.toNat - 1, by omega⟩
    simp only at e1 e2
    rw [rd_2, part_2, ls_app, e1, List.singleton_append, rdC_cons, e2, if_pos (by omega), nm2_10 (by omega)]
    simp only [Option.map_some]
    rw [show (((a.toNat - 1 : Nat) : Int) + 1) = a by omega, show ((b.toNat : Nat) : Int) = b by omega]
  | 3, _ =>
    simp only [okV] at h
    have all : ∀ i : Fin 36, (dg i.val).data.toList = [D36.getD i.val 0] ∧ Lib.indexByte D36 (D36.getD i.val 0) = (i.val : Int) := by decide +kernel
    obtain ⟨e1, e2⟩ := all ⟨a.toNat - 1, by omega⟩
    simp only at e1 e2
    rw [rd_3, part_3, ls_app, e1, List.singleton_append, rdC_cons, e2, if_pos (by omega), nm2_16 (by omega)]
    simp only [Option.map_some]
    rw [show (((a.toNat - 1 : Nat) : Int) + 1) = a by omega, show ((b.toNat : Nat) : Int) = b by omega]
theorem dg_ls {k : Nat} (h : k < 36) : (dg k).data.toList = [D36.getD k 0] := by
  have all : ∀ i : Fin 36, (dg i.val).data.toList = [D36.getD i.val 0] := by decide +kernel
  exact all ⟨k, h⟩
theorem vo_ls {k : Nat} (h : k < 12) : ((VO.extract k 12).extract 0 1).data.toList = [V12.getD k 0] := by
  have all : ∀ i : Fin 12, ((VO.extract i.val 12).extract 0 1).data.toList = [V12.getD i.val 0] := by decide +kernel
  exact all ⟨k, h⟩
/-- Where a byte stands in a list. -/
theorem ix_at {l : List UInt8} {x : UInt8} (h : 0 ≤ Lib.indexByte l x) : ∃ i : Nat, Lib.indexByte l x = i ∧ i < l.length ∧ l.getD i 0 = x := by
  obtain ⟨i, hi⟩ : ∃ i : Nat, Lib.indexByte l x = i := ⟨(Lib.indexByte l x).toNat, by omega⟩
  obtain ⟨h1, -⟩ := Lib.indexByte_some hi
  refine ⟨i, hi, ?_, by rw [List.getD_eq_getElem?_getD, h1]; rfl⟩
  by_cases hl : i < l.length
  · exact hl
  · rw [List.getElem?_eq_none (by omega)] at h1
    exact absurd h1 (by simp)
theorem getD_take (l : List UInt8) {n i : Nat} (h : i < n) : (l.take n).getD i 0 = l.getD i 0 := by
  rw [List.getD_eq_getElem?_getD, List.getD_eq_getElem?_getD, List.getElem?_take_of_lt h]
theorem nm2_fwd {b : Nat} (hb : b = 10 ∨ b = 16) {f : List UInt8} {n : Int} (h : nm2 (D36.take b) b f = some n) : 0 ≤ n ∧ n < b * b ∧ (txt2 n.toNat b).data.toList = f := by
  match f, h with
  | [x, y], h =>
    simp only [nm2] at h
    split at h
    · rename_i hc
      obtain ⟨i, hi, hil, hix⟩ := ix_at hc.1
      obtain ⟨j, hj, hjl, hjx⟩ := ix_at hc.2
      rw [hi, hj] at h
      have e : n = b * i + j := by simpa using h.symm
      have hl : (D36.take b).length = b := by rcases hb with rfl | rfl <;> decide
      rw [hl] at hil hjl
      rw [getD_take _ hil] at hix
      rw [getD_take _ hjl] at hjx
      have hn : n.toNat = b * i + j := by omega
      have hbi : b * i + j < b * b := by
        have : b * (i + 1) ≤ b * b := Nat.mul_le_mul_left b hil
        rw [Nat.mul_add, Nat.mul_one] at this
        omega
      refine ⟨by omega, by rw [e]; exact_mod_cast hbi, ?_⟩
      unfold txt2
      rw [hn, Nat.mul_add_div (by omega), Nat.div_eq_of_lt hjl, Nat.add_zero, Nat.mul_add_mod, Nat.mod_eq_of_lt hjl, ls_app, dg_ls (by omega), dg_ls (by omega), hix, hjx]
      rfl
    · exact absurd h (by simp)
  | [], h => exact absurd h (by simp [nm2])
  | [_], h => exact absurd h (by simp [nm2])
  | _ :: _ :: _ :: _, h => exact absurd h (by simp [nm2])
theorem rdN_fwd {f : List UInt8} {n : Int} (h : rdN f = some n) : 1 ≤ n ∧ (noteT n).data.toList = f := by
  match f, h with
  | [a, b, c], h =>
    rw [rdN] at h
    split at h
    · rename_i e
      obtain rfl : n = 255 := by simpa using h.symm
      exact ⟨by decide, by rw [e]; rfl⟩
    · split at h
      · rename_i e
        obtain rfl : n = 254 := by simpa using h.symm
        exact ⟨by decide, by rw [e]; rfl⟩
      · split at h
        · rename_i e
          obtain rfl : n = 253 := by simpa using h.symm
          exact ⟨by decide, by rw [e]; rfl⟩
        · split at h
          · rename_i hc
            obtain ⟨h0, h1, h2⟩ := hc
            obtain ⟨o, ho, hol, hox⟩ := ix_at h2
            obtain ⟨t, ht⟩ : ∃ t : Nat, Lib.index NL [a, b] = t := ⟨(Lib.index NL [a, b]).toNat, by omega⟩
            have hroom := Lib.index_room NL [a, b] h0
            have hocc : Lib.occAt NL [a, b] t = true := by
              rcases Lib.index_spec NL [a, b] with ⟨e, -⟩ | ⟨i, e, -, hi, -⟩
              · omega
              · obtain rfl : i = t := by omega
                exact hi
            have hNL : NL.length = 24 := by decide
            have h2' : ([a, b] : List UInt8).length = 2 := rfl
            rw [hNL, h2', ht] at hroom
            rw [Lib.occAt_iff_take _ _ _ (by rw [hNL, h2']; omega)] at hocc
            have hocc' : (NL.drop t).take 2 = [a, b] := by simpa using hocc
            rw [ho, ht] at h
            rw [ht] at h1
            have hl : D10.length = 10 := by decide
            rw [hl] at hol
            have e : n = 12 * o + t / 2 + 1 := by simpa using h.symm
            have h12 : t / 2 < 12 := by omega
            have hn : n.toNat - 1 = 12 * o + t / 2 := by omega
            refine ⟨by omega, ?_⟩
            unfold noteT
            rw [if_neg (by omega), if_neg (by omega), if_neg (by omega), hn, Nat.mul_add_mod, Nat.mod_eq_of_lt h12, Nat.mul_add_div (by omega), Nat.div_eq_of_lt h12, Nat.add_zero, ls_app, dg_ls (by omega), Lib.extract_data, Lib.extract_data, show 2 * (t / 2) = t by omega]
            have ex : ((NM.data.toList.drop t).take (24 - t)).drop 0 = (NL.drop t).take (24 - t) := rfl
            rw [ex, List.take_take, show min (2 - 0) (24 - t) = 2 by omega, hocc']
            have : D36.getD o 0 = c := by rw [← hox]; exact (getD_take _ hol).symm
            rw [this]
            rfl
          · exact absurd h (by simp)
  | [], h => exact absurd h (by simp [rdN])
  | [_], h => exact absurd h (by simp [rdN])
  | [_, _], h => exact absurd h (by simp [rdN])
  | _ :: _ :: _ :: _ :: _, h => exact absurd h (by simp [rdN])
theorem rd_fwd {k : Nat} (hk : k < 4) {f : List UInt8} {v : Int × Int} (h : rd k f = some v) : (partT k v).data.toList = f ∧ (num k = 2 ∨ v.2 = 0) := by
  match k, hk with
  | 0, _ =>
    obtain ⟨n, hn, rfl⟩ := Option.map_eq_some_iff.1 h
    exact ⟨(rdN_fwd hn).2, .inr rfl⟩
  | 1, _ =>
    obtain ⟨n, hn, rfl⟩ := Option.map_eq_some_iff.1 h
    exact ⟨(nm2_fwd (b := 10) (.inl rfl) hn).2.2, .inr rfl⟩
  | 2, _ =>
    refine ⟨?_, .inl rfl⟩
    rw [rd_2] at h
    match f, h with
    | a :: r, h' =>
      rw [rdC_cons] at h'
      split at h'
      · rename_i hc
        obtain ⟨i, hi, hil, hix⟩ := ix_at hc
        obtain ⟨n, hn, e⟩ := Option.map_eq_some_iff.1 h'
        have hl : V12.length = 12 := by decide
        rw [hl] at hil
        subst e
        rw [part_2]
        simp only
        rw [hi, show ((i : Int) + 1).toNat - 1 = i by omega, ls_app, vo_ls hil, hix, (nm2_fwd (b := 10) (.inl rfl) hn).2.2]
        rfl
      · exact absurd h' (by simp)
  | 3, _ =>
    refine ⟨?_, .inl rfl⟩
    rw [rd_3] at h
    match f, h with
    | a :: r, h' =>
      rw [rdC_cons] at h'
      split at h'
      · rename_i hc
        obtain ⟨i, hi, hil, hix⟩ := ix_at hc
        obtain ⟨n, hn, e⟩ := Option.map_eq_some_iff.1 h'
        have hl : D36.length = 36 := by decide
        rw [hl] at hil
        subst e
        rw [part_3]
        simp only
        rw [hi, show ((i : Int) + 1).toNat - 1 = i by omega, ls_app, dg_ls hil, hix, (nm2_fwd (b := 16) (.inr rfl) hn).2.2]
        rfl
      · exact absurd h' (by simp)
theorem rd_dots {k : Nat} (hk : k < 4) : rd k (dots (wid k)).data.toList = none := by
  match k, hk with
  | 0, _ => decide +kernel
  | 1, _ => decide +kernel
  | 2, _ => decide +kernel
  | 3, _ => decide +kernel
/-! All fields read. -/
def stepP (k : Nat) (f : List UInt8) (c : Cl) : Option Cl :=
  if f.length = wid k then (if f = (dots (wid k)).data.toList then some c else match rd k f with | some v => if isSet v then some (pw k c v) else none | none => none) else none
def prF (fs : List (List UInt8)) : Nat → Option Cl
  | 0 => some zc
  | k + 1 => match prF fs k with | some c => stepP k (fs.getD k []) c | none => none
def prT (fs : List (List UInt8)) : Option Cl := if fs.length = 4 then (match prF fs 4 with | some c => if vcl c then some c else none | none => none) else none
theorem prF_go {fs : List (List UInt8)} {k : Nat} {c : Cl} (h : prF fs k = some c) : prF fs (k + 1) = stepP k (fs.getD k []) c := by
  show (match prF fs k with | some c => stepP k (fs.getD k []) c | none => none) = _
  rw [h]
theorem prF_none {fs : List (List UInt8)} : ∀ {m k : Nat}, prF fs k = none → prF fs (k + m) = none
  | 0, _, h => h
  | m + 1, k, h => by
    show (match prF fs (k + m) with | some c => stepP (k + m) (fs.getD (k + m) []) c | none => none) = _
    rw [prF_none h]
theorem prT_none {fs : List (List UInt8)} {k : Nat} (hk : k ≤ 4) (h : prF fs k = none) : prT fs = none := by
  have h4 : prF fs 4 = none := by
    have := prF_none (m := 4 - k) h
    rwa [show k + (4 - k) = 4 by omega] at this
  unfold prT
  rw [h4]
  split <;> rfl
theorem stepP_len {k : Nat} {f : List UInt8} {c : Cl} (h : f.length ≠ wid k) : stepP k f c = none := by unfold stepP; rw [if_neg h]
theorem stepP_dots {k : Nat} {f : List UInt8} {c : Cl} (h : f = (dots (wid k)).data.toList) : stepP k f c = some c := by
  unfold stepP
  rw [if_pos (by rw [h]; exact dots_size k), if_pos h]
theorem stepP_bad {k : Nat} {f : List UInt8} {c : Cl} (h : f ≠ (dots (wid k)).data.toList) (h2 : rd k f = none) : stepP k f c = none := by
  unfold stepP
  rw [if_neg h, h2]
  split <;> rfl
theorem stepP_zero {k : Nat} {f : List UInt8} {c : Cl} {v : Int × Int} (h : f ≠ (dots (wid k)).data.toList) (h2 : rd k f = some v) (h3 : isSet v = false) : stepP k f c = none := by
  unfold stepP
  rw [if_neg h, h2]
  simp only [h3]
  split <;> rfl
theorem stepP_set {k : Nat} {f : List UInt8} {c : Cl} {v : Int × Int} (hl : f.length = wid k) (h : f ≠ (dots (wid k)).data.toList) (h2 : rd k f = some v) (h3 : isSet v = true) : stepP k f c = some (pw k c v) := by
  unfold stepP
  rw [if_pos hl, if_neg h, h2]
  simp only [h3, if_true]
theorem field_of {j : Nat} {c d : Cl} (h : pv j c = pv j d) : fieldT j c = fieldT j d := by unfold fieldT; rw [h]
theorem field_set {j : Nat} {c : Cl} (h : isSet (pv j c) = true) : fieldT j c = partT j (pv j c) := by unfold fieldT; rw [if_pos h]
theorem field_un {j : Nat} {c : Cl} (h : isSet (pv j c) = false) : fieldT j c = dots (wid j) := by unfold fieldT; rw [h]; rfl
theorem prF_fwd {fs : List (List UInt8)} : ∀ {k : Nat} {c : Cl}, k ≤ 4 → prF fs k = some c → (∀ j, j < k → (fieldT j c).data.toList = fs.getD j []) ∧ ∀ j, k ≤ j → j < 4 → pv j c = (0, 0)
  | 0, c, _, h => by
    obtain rfl : zc = c := by simpa [prF] using h
    refine ⟨fun j hj => absurd hj (by omega), fun j _ hj => ?_⟩
    match j, hj with
    | 0, _ => rfl
    | 1, _ => rfl
    | 2, _ => rfl
    | 3, _ => rfl
  | k + 1, c, hk, h => by
    cases e : prF fs k with
    | none => rw [prF_none (m := 1) e] at h; exact absurd h (by simp)
    | some d =>
      obtain ⟨a1, a2⟩ := prF_fwd (by omega) e
      rw [prF_go e] at h
      by_cases hd : fs.getD k [] = (dots (wid k)).data.toList
      · rw [stepP_dots hd] at h
        obtain rfl : d = c := by simpa using h
        refine ⟨fun j hj => ?_, fun j h1 h2 => a2 j (by omega) h2⟩
        by_cases hjk : j = k
        · subst hjk
          rw [hd, field_un]
          rw [a2 j (Nat.le_refl _) (by omega)]
          rfl
        · exact a1 j (by omega)
      · cases hr : rd k (fs.getD k []) with
        | none => rw [stepP_bad hd hr] at h; exact absurd h (by simp)
        | some v =>
          cases hs : isSet v with
          | false => rw [stepP_zero hd hr hs] at h; exact absurd h (by simp)
          | true =>
            by_cases hl : (fs.getD k []).length = wid k
            · rw [stepP_set hl hd hr hs] at h
              obtain rfl : pw k d v = c := by simpa using h
              obtain ⟨b1, b2⟩ := rd_fwd (by omega) hr
              refine ⟨fun j hj => ?_, fun j h1 h2 => ?_⟩
              · by_cases hjk : j = k
                · subst hjk
                  have e1 := pv_pw (k := j) (c := d) b2
                  rw [field_set (by rw [e1]; exact hs), e1]
                  exact b1
                · rw [field_of (pv_pw_ne (j := k) (k := j) (by omega) (by omega) (fun h => hjk h.symm) d v)]
                  exact a1 j (by omega)
              · rw [pv_pw_ne (j := k) (k := j) (by omega) h2 (by omega) d v]
                exact a2 j (by omega) h2
            · rw [stepP_len hl] at h; exact absurd h (by simp)
theorem prF_back {c : Cl} (hv : vcl c = true) {fs : List (List UInt8)} (hf : ∀ j, j < 4 → fs.getD j [] = (fieldT j c).data.toList) : ∀ k, k ≤ 4 → ∃ d, prF fs k = some d ∧ (∀ j, j < k → pv j d = pv j c) ∧ ∀ j, k ≤ j → j < 4 → pv j d = (0, 0)
  | 0, _ => ⟨zc, rfl, fun j hj => absurd hj (by omega), fun j _ hj => by
    match j, hj with
    | 0, _ => rfl
    | 1, _ => rfl
    | 2, _ => rfl
    | 3, _ => rfl⟩
  | k + 1, hk => by
    obtain ⟨d, e, a1, a2⟩ := prF_back hv hf k (by omega)
    rw [prF_go e, hf k (by omega)]
    cases hs : isSet (pv k c) with
    | false =>
      refine ⟨d, stepP_dots (by rw [field_un hs]), fun j hj => ?_, fun j h1 h2 => a2 j (by omega) h2⟩
      by_cases hjk : j = k
      · subst hjk
        rw [a2 j (Nat.le_refl _) (by omega), zero_pv (by omega) hv hs]
      · exact a1 j (by omega)
    | true =>
      have hb := rd_back (by omega) (vcl_ok hv (by omega) hs) (pv_ok k c)
      have hne : (fieldT k c).data.toList ≠ (dots (wid k)).data.toList := fun h => by
        rw [field_set hs] at h
        rw [h, rd_dots (by omega)] at hb
        exact absurd hb (by simp)
      refine ⟨pw k d (pv k c), stepP_set (field_wid (by omega) hv) hne (by rw [field_set hs]; exact hb) hs, fun j hj => ?_, fun j h1 h2 => ?_⟩
      · by_cases hjk : j = k
        · subst hjk
          exact pv_pw (pv_ok j c)
        · rw [pv_pw_ne (j := k) (k := j) (by omega) (by omega) (fun h => hjk h.symm)]
          exact a1 j (by omega)
      · rw [pv_pw_ne (j := k) (k := j) (by omega) h2 (by omega)]
        exact a2 j (by omega) h2
def fls4 (c : Cl) : List (List UInt8) := (fields c).map (·.data.toList)
theorem prT_iff {fs : List (List UInt8)} {c : Cl} : prT fs = some c ↔ vcl c = true ∧ fs = fls4 c := by
  constructor
  · intro h
    unfold prT at h
    split at h
    · rename_i hl
      split at h
      · rename_i d hd
        split at h
        · rename_i hv
          obtain rfl : d = c := by simpa using h
          obtain ⟨a1, -⟩ := prF_fwd (Nat.le_refl 4) hd
          refine ⟨hv, ?_⟩
          match fs, hl, a1 with
          | [f0, f1, f2, f3], _, a1 =>
            have b0 := a1 0 (by decide)
            have b1 := a1 1 (by decide)
            have b2 := a1 2 (by decide)
            have b3 := a1 3 (by decide)
            simp only [List.getD_cons_zero, List.getD_cons_succ] at b0 b1 b2 b3
            unfold fls4 fields
            simp only [List.map_cons, List.map_nil]
            rw [b0, b1, b2, b3]
        · exact absurd h (by simp)
      · exact absurd h (by simp)
    · exact absurd h (by simp)
  · rintro ⟨hv, rfl⟩
    obtain ⟨d, e, a1, -⟩ := prF_back hv (fs := fls4 c) (fun j hj => by
      match j, hj with
      | 0, _ => rfl
      | 1, _ => rfl
      | 2, _ => rfl
      | 3, _ => rfl) 4 (Nat.le_refl 4)
    obtain rfl : d = c := ext_pv fun k hk => a1 k hk
    unfold prT
    rw [if_pos (by rfl), e]
    simp only [hv, if_true]
/-! A text cut into fields. -/
def spl (s : List UInt8) : List (List UInt8) := Lib.splitK [32] 0 (min 4 (s.length + 1) - 1) s
theorem join_two (a : List UInt8) (r : List (List UInt8)) (h : r ≠ []) : Lib.join (a :: r) [32] = a ++ 32 :: Lib.join r [32] := by
  cases r with
  | nil => exact absurd rfl h
  | cons b r => simp [Lib.join, List.intercalate]
theorem splitK_ne (k : Nat) (s : List UInt8) : Lib.splitK [32] 0 k s ≠ [] := by
  cases k with
  | zero => exact List.cons_ne_nil _ _
  | succ k =>
    unfold Lib.splitK
    split
    · exact List.cons_ne_nil _ _
    · exact List.cons_ne_nil _ _
theorem splitK_join : ∀ (k : Nat) (s : List UInt8), Lib.join (Lib.splitK [32] 0 k s) [32] = s
  | 0, s => Lib.join_one s [32]
  | k + 1, s => by
    unfold Lib.splitK
    by_cases h : (Lib.index s [32] == -1) = true
    · rw [if_pos h]; exact Lib.join_one s [32]
    · rw [if_neg h, join_two _ _ (splitK_ne _ _), splitK_join k]
      have hne : Lib.index s [32] ≠ -1 := fun e => h (beq_iff_eq.2 e)
      rcases Lib.index_spec s [32] with ⟨e, -⟩ | ⟨i, e, -, hi, -⟩
      · exact absurd e hne
      · rw [e, Int.toNat_natCast, Nat.add_zero]
        have hh := Lib.occAt_head rfl hi
        have hl : i < s.length := by
          by_cases hl : i < s.length
          · exact hl
          · rw [List.getElem?_eq_none (by omega)] at hh
            exact absurd hh (by simp)
        have h32 : s[i] = 32 := by rw [List.getElem?_eq_getElem hl] at hh; simpa using hh
        show s.take i ++ 32 :: s.drop (i + 1) = s
        rw [← h32, ← List.drop_eq_getElem_cons hl, List.take_append_drop]
theorem index_ns {f r : List UInt8} (h : ∀ x ∈ f, x ≠ 32) : Lib.index (f ++ 32 :: r) [32] = f.length := by
  refine Lib.index_first (by simp) (by simp [Lib.occAt]) fun j hj => ?_
  cases e : Lib.occAt (f ++ 32 :: r) [32] j with
  | false => rfl
  | true =>
    have hh := Lib.occAt_head rfl e
    rw [List.getElem?_append_left hj, List.getElem?_eq_getElem hj] at hh
    exact absurd (by simpa using hh) (h _ (List.getElem_mem hj))
theorem splitK_hit {f r : List UInt8} (h : ∀ x ∈ f, x ≠ 32) (k : Nat) : Lib.splitK [32] 0 (k + 1) (f ++ 32 :: r) = f :: Lib.splitK [32] 0 k r := by
  unfold Lib.splitK
  rw [index_ns h, if_neg (by simp), Int.toNat_natCast, Nat.add_zero]
  have e1 : (f ++ 32 :: r).take f.length = f := by simp
  have e2 : (f ++ 32 :: r).drop (f.length + ([32] : List UInt8).length) = r := by
    show (f ++ 32 :: r).drop (f.length + 1) = r
    simp [List.drop_append]
  rw [e1, e2]
  cases k <;> rfl
theorem textT_ls (c : Cl) : (textT c).data.toList = (fieldT 0 c).data.toList ++ 32 :: ((fieldT 1 c).data.toList ++ 32 :: ((fieldT 2 c).data.toList ++ 32 :: (fieldT 3 c).data.toList)) := by
  show Lib.join (fls4 c) [32] = _
  unfold fls4 fields
  simp only [List.map_cons, List.map_nil]
  rw [join_two _ _ (by simp), join_two _ _ (by simp), join_two _ _ (by simp), Lib.join_one]
theorem textT_size {c : Cl} (h : vcl c = true) : (textT c).size = 14 := by
  have e : (textT c).data.toList.length = 14 := by
    rw [textT_ls]
    have h0 := field_wid (k := 0) (by decide) h
    have h1 := field_wid (k := 1) (by decide) h
    have h2 := field_wid (k := 2) (by decide) h
    have h3 := field_wid (k := 3) (by decide) h
    have g : ∀ b : ByteArray, b.data.toList.length = b.size := fun b => by simp
    simp only [List.length_append, List.length_cons, g, h0, h1, h2, h3, wid]
  simpa using e
/-- It is the text of a cell. -/
def IsT (s : ByteArray) (c : Cl) : Prop := vcl c = true ∧ textT c = s
theorem prT_is {s : ByteArray} {c : Cl} : prT (spl s.data.toList) = some c ↔ IsT s c := by
  rw [prT_iff]
  constructor
  · rintro ⟨hv, he⟩
    refine ⟨hv, ext_ls ?_⟩
    show Lib.join (fls4 c) [32] = _
    rw [← he]
    exact splitK_join _ _
  · rintro ⟨hv, rfl⟩
    refine ⟨hv, ?_⟩
    unfold spl
    have hl : (textT c).data.toList.length = 14 := by have := textT_size hv; simpa using this
    rw [hl, show min 4 (14 + 1) - 1 = 3 from rfl, textT_ls, splitK_hit (ns_field 0 c), splitK_hit (ns_field 1 c), splitK_hit (ns_field 2 c)]
    rfl
theorem isT_inj {s : ByteArray} {c d : Cl} (h : IsT s c) (h' : IsT s d) : c = d := Option.some.inj ((prT_is.2 h).symm.trans (prT_is.2 h'))
/-- What is told of a text. -/
def Told (s : ByteArray) (c : Cl) (e : Int) : Prop := (IsT s c ∧ e = 0) ∨ ((∀ d, ¬ IsT s d) ∧ c = zc ∧ e = 2)
theorem told_one {s : ByteArray} {c d : Cl} {e f : Int} (h : Told s c e) (h' : Told s d f) : c = d ∧ e = f := by
  rcases h with ⟨h, rfl⟩ | ⟨h, rfl, rfl⟩
  · rcases h' with ⟨h', rfl⟩ | ⟨h', -, -⟩
    · exact ⟨isT_inj h h', rfl⟩
    · exact absurd h (h' c)
  · rcases h' with ⟨h', -⟩ | ⟨-, rfl, rfl⟩
    · exact absurd h' (h d)
    · exact ⟨rfl, rfl⟩
end Pt
end Go.Proofs.YtfjfnbeegojlbaaDoor

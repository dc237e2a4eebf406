/-
  The reference's two and noted.
-/
import Derived.Test.YtfjfnbeegojlbaaDoorCeM
import Derived.Test.YtfjfnbeegojlbaaDoorCNt
import Derived.Test.YtfjfnbeegojlbaaDoorRVal
import Derived.IntWalk
namespace Go.Proofs.YtfjfnbeegojlbaaDoor
open Go.RowKit

theorem note_tm {k : Nat} (h : k < 120) : Pt.noteT ((k : Int) + 1) = Tm.nameOf k := by
  have all : ∀ i : Fin 120, (Pt.noteT ((i.val : Int) + 1)).data.toList = (Tm.nameOf i.val).data.toList := by decide +kernel
  exact Pt.ext_ls (all ⟨k, h⟩)
/-- A note's text, or dots. -/
def nR (n : Int) : ByteArray := if n = 0 then ⟨#[46, 46, 46]⟩ else Pt.noteT n
theorem nR_zero : nR 0 = ⟨#[46, 46, 46]⟩ := rfl
theorem nR_at {n : Int} (h : n ≠ 0) : nR n = Pt.noteT n := if_neg h
theorem nR_field (c : Pt.Cl) : nR c.nt = Pt.fieldT 0 c := by
  unfold nR Pt.fieldT Pt.isSet
  show _ = if (c.nt != 0) = true then Pt.noteT c.nt else Pt.dots 3
  by_cases h : c.nt = 0
  · rw [if_pos h, if_neg (by simp [h])]; rfl
  · rw [if_neg h, if_pos (by simpa using h)]
set_option maxRecDepth 20000 in
theorem r_noted (n : Int) (w : World) (hv : n = 0 ∨ (1 ≤ n ∧ n ≤ 120) ∨ n = 253 ∨ n = 254 ∨ n = 255) :
    Calls Tryd.prog 15 #[.int .i64 n] w fun e w' => e = .returned (.string (nR n)) ∧ Below w.heap.size w w' := by
  rcases hv with rfl | ⟨h1, h2⟩ | rfl | rfl | rfl
  · go_enter Tryd.func15, Tryd.ntmps15
    go_wp2
    go_ret
    exact ⟨rfl, Below.refl _ _⟩
  · obtain ⟨k, rfl⟩ : ∃ k : Nat, n = (k : Int) + 1 := ⟨(n - 1).toNat, by omega⟩
    rw [nR_at (by omega), note_tm (by omega)]
    have C := Lib.hid (fun u => rname_in k u (by omega))
    have d0 : ((k : Int) + 1 == 0) = false := beq_eq_false_iff_ne.2 (by omega)
    have d5 : ((k : Int) + 1 == 255) = false := beq_eq_false_iff_ne.2 (by omega)
    have d4 : ((k : Int) + 1 == 254) = false := beq_eq_false_iff_ne.2 (by omega)
    have d3 : ((k : Int) + 1 == 253) = false := beq_eq_false_iff_ne.2 (by omega)
    have i1 : IntKind.i64.wrap ((k : Int) + 1 - 1) = (k : Int) := by rw [IntKind.wrap_i64]; omega
    have i2 : IntKind.i64.wrap (k : Int) = (k : Int) := by rw [IntKind.wrap_i64]; omega
    clear h1 h2
    go_enter Tryd.func15, Tryd.ntmps15
    go_wp2_with (first | (go_at_call 43; ((with_reducible refine (C.out _).mono ?_); rintro x' w1 ⟨rfl, hb1⟩)))
    go_ret
    exact ⟨rfl, hb1⟩
  · go_enter Tryd.func15, Tryd.ntmps15
    go_wp2
    go_ret
    exact ⟨rfl, Below.refl _ _⟩
  · go_enter Tryd.func15, Tryd.ntmps15
    go_wp2
    go_ret
    exact ⟨rfl, Below.refl _ _⟩
  · go_enter Tryd.func15, Tryd.ntmps15
    go_wp2
    go_ret
    exact ⟨rfl, Below.refl _ _⟩
/-- string(b) of some bytes in a block. -/
def bys (xs : List Int) : ByteArray := xs.foldl (fun r n => r.push (UInt8.ofNat n.toNat)) ByteArray.empty
theorem run_string_of (W : World) (b : Nat) (xs : List Int) (hc : W.rangeAt b 0 (xs.map (Value.int .u8))) :
    (convert 46 9 (.slice (some ⟨b, 0, none⟩) xs.length xs.length)).run Tryd.prog W = .ok (.string (bys xs)) W := by
  rw [run_convert_bytes_string W _ _ _ _ _ _ Tryd.underlying46 Tryd.underlying5 Tryd.underlying9]
  have h := run_loadCells_list (P := Tryd.prog) W ⟨b, 0, none⟩ (xs.map (Value.int .u8)) (fun j v h => by
    have e : (⟨b, 0, none⟩ : Addr).add j = ⟨b, 0 + j, none⟩ := by
      unfold Addr.add
      by_cases h0 : j = 0 <;> simp [h0]
    rw [e]
    exact hc j v h)
  rw [List.length_map] at h
  rw [run_bytesToString W ⟨b, 0, none⟩ xs.length xs.length xs h]
  rfl
theorem txt2_two {n : Nat} (h : n < 100) : (⟨#[UInt8.ofNat (48 + n / 10), UInt8.ofNat (48 + n % 10)]⟩ : ByteArray) = Pt.txt2 n 10 := by
  have all : ∀ i : Fin 100, ([UInt8.ofNat (48 + i.val / 10), UInt8.ofNat (48 + i.val % 10)] : List UInt8) = (Pt.txt2 i.val 10).data.toList := by decide +kernel
  exact Pt.ext_ls (all ⟨n, h⟩)
theorem r_two (n : Nat) (w : World) (hn : n < 100) :
    Calls Tryd.prog 14 #[.int .i64 n] w fun e w' => e = .returned (.string (Pt.txt2 n 10)) ∧ Below w.heap.size w w' := by
  obtain ⟨q, hq⟩ : ∃ q, n / 10 = q := ⟨_, rfl⟩
  obtain ⟨r, hr⟩ : ∃ r, n % 10 = r := ⟨_, rfl⟩
  have hq9 : q ≤ 9 := by omega
  have hr9 : r ≤ 9 := by omega
  have e1 : (n : Int).tdiv 10 = (q : Int) := by rw [Int.tdiv_eq_ediv_of_nonneg (by omega)]; omega
  have e2 : (n : Int).tmod 10 = (r : Int) := by rw [Int.tmod_eq_emod_of_nonneg (by omega)]; omega
  have e3 : (n : Int) / 10 = (q : Int) := by omega
  have e4 : (n : Int) % 10 = (r : Int) := by omega
  have u1 : IntKind.i64.wrap (q : Int) = (q : Int) := IntWalk.i64_in _ (by omega)
  have u2 : IntKind.u8.wrap (q : Int) = (q : Int) := IntWalk.u8_in _ (by omega)
  have u3 : IntKind.u8.wrap (48 + (q : Int)) = 48 + (q : Int) := IntWalk.u8_in _ (by omega)
  have u4 : IntKind.u8.wrap (r : Int) = (r : Int) := IntWalk.u8_in _ (by omega)
  have u5 : IntKind.u8.wrap (48 + (r : Int)) = 48 + (r : Int) := IntWalk.u8_in _ (by omega)
  have hrun := run_string_of (w.alloc (Obj.cells #[Value.int IntKind.u8 (48 + (q : Int)), Value.int IntKind.u8 (48 + (r : Int))] 5)) w.heap.size [48 + (q : Int), 48 + (r : Int)] (range_box w [.int .u8 (48 + (q : Int)), .int .u8 (48 + (r : Int))] _)
  have ht : bys [48 + (q : Int), 48 + (r : Int)] = Pt.txt2 n 10 := by
    rw [← txt2_two hn, hq, hr]
    show ((ByteArray.empty.push (UInt8.ofNat (48 + (q : Int)).toNat)).push (UInt8.ofNat (48 + (r : Int)).toNat)) = _
    rw [show (48 + (q : Int)).toNat = 48 + q by omega, show (48 + (r : Int)).toNat = 48 + r by omega]
    rfl
  rw [ht] at hrun
  simp only [List.length_cons, List.length_nil, Nat.zero_add, Nat.reduceAdd] at hrun
  have i1 : (q : Int) ≤ 9 := by omega
  have i2 : (r : Int) ≤ 9 := by omega
  clear hq hr hq9 hr9 ht hn
  go_enter Tryd.func14, Tryd.ntmps14
  go_wp2_with (fail)
  go_ret
  exact ⟨rfl, below_box _ _⟩
end Go.Proofs.YtfjfnbeegojlbaaDoor

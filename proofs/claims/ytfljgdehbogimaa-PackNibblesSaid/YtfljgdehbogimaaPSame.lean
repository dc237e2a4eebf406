/-
  The contract of the law package's same: for any two lists; nothing that was there is changed.
-/
import Derived.Test.YtfljgdehbogimaaBase
import Derived.OneCell
namespace Go.Proofs.Ytfljgdehbogimaa
open Go.RowKit

/-- Whether two lists are one. -/
def sml (a b : List Int) : Bool := decide (a = b)
theorem sml_len {a b : List Int} (h : a.length ≠ b.length) : sml a b = false := decide_eq_false (fun e => h (by rw [e]))
theorem sml_at {a b : List Int} (k : Nat) (h : a.getD k 0 ≠ b.getD k 0) : sml a b = false := decide_eq_false (fun e => h (by rw [e]))
theorem sml_yes {a b : List Int} (hl : a.length = b.length) (h : ∀ i, i < a.length → a.getD i 0 = b.getD i 0) : sml a b = true := by
  refine decide_eq_true (List.ext_getElem hl fun i h1 h2 => ?_)
  have := h i h1
  simpa [List.getD_eq_getElem?_getD, List.getElem?_eq_getElem h1, List.getElem?_eq_getElem h2] using this
theorem below_draws {B : Nat} {a w : World} (h : Below B a w) (n : Nat) : Below B a (w.drewN n) := ⟨h.os, h.tape, h.output, h.size, h.block⟩
theorem p_same_len (za zb : List Int) (pa pb : Option Addr) (n m ca cb : Nat) (w : World) (ha : za.length = n) (hb : zb.length = m) (l1 : (n : Int) ≤ 4611686018427387904) (l2 : (m : Int) ≤ 4611686018427387904) (hnm : n ≠ m) :
    Calls Try.prog 15 #[.slice pa n ca, .slice pb m cb] w fun x w' => x = .returned (.bool (sml za zb)) ∧ Below w.heap.size w w' := by
  have HS := Lib.hid (sml_len (a := za) (b := zb) (by omega))
  have _u := And.intro l1 l2
  clear ha hb _u
  have t : ((n : Int) != (m : Int)) = true := by simp; omega
  have t2 : ((n : Int) == (m : Int)) = false := by simp; omega
  clear hnm
  go_enter Try.func15, Try.ntmps15
  go_wp2
  go_ret
  exact ⟨ret_bool HS.out.symm, Below.refl _ _⟩
theorem p_same_eq (za zb : List Int) (pa pb : Option Addr) (n ca cb : Nat) (w : World) (ha : za.length = n) (hb : zb.length = n) (l1 : (n : Int) ≤ 4611686018427387904) (da : DatAt w pa za) (db : DatAt w pb zb) :
    Calls Try.prog 15 #[.slice pa n ca, .slice pb n cb] w fun x w' => x = .returned (.bool (sml za zb)) ∧ Below w.heap.size w w' := by
  have HA := Lib.hid ha
  have HB := Lib.hid hb
  have DA := Lib.hid da
  have DB := Lib.hid db
  clear ha hb da db
  go_enter Try.func15, Try.ntmps15
  go_wp2
  go_loopw [13] (fun i wr => ∃ k : Nat, (k : Int) ≤ n ∧ i = .int .i64 k ∧ Hid (∀ j, j < k → za.getD j 0 = zb.getD j 0) ∧ Hid (Below w.heap.size w wr)) (fun i _ => n - (intOf i).toNat)
  case atStart => exact ⟨0, by omega, rfl, fun _ h => by omega, Below.refl _ _⟩
  case round =>
    obtain ⟨k, hk, rfl, HN, hbw⟩ := hrel
    by_cases hlt : k < n
    · obtain ⟨b1, o1, hp1, hc1⟩ := (DA.out.below hbw.out).at (i := k) (by rw [HA.out]; exact hlt)
      obtain ⟨b2, o2, hp2, hc2⟩ := (DB.out.below hbw.out).at (i := k) (by rw [HB.out]; exact hlt)
      subst hp1 hp2
      obtain ⟨x, hx⟩ : ∃ x, za.getD k 0 = x := ⟨_, rfl⟩
      obtain ⟨y, hy⟩ : ∃ y, zb.getD k 0 = y := ⟨_, rfl⟩
      rw [hx] at hc1
      rw [hy] at hc2
      have HX := Lib.hid hx
      have HY := Lib.hid hy
      clear hx hy
      have hltI : (k : Int) < n := by omega
      by_cases he : x = y
      · subst he
        go_wp2
        go_quiet (fail)
        go_wp2
        go_roundw
        case rel => exact ⟨k + 1, by omega, by go_num, fun j hj => by
          by_cases e : j = k
          · subst e; rw [HX.out, HY.out]
          · exact HN.out j (by omega), below_draws hbw.out _⟩
        case measure => simp [intOf]; omega
      · have HS := Lib.hid (sml_at (a := za) (b := zb) k (by rw [HX.out, HY.out]; exact he))
        have t : (x != y) = true := by simpa using he
        have t2 : (x == y) = false := by simpa using he
        clear he
        go_wp2
        go_quiet (fail)
        go_wp2
        go_ret
        exact ⟨ret_bool HS.out.symm, below_draws hbw.out _⟩
    · have HS := Lib.hid (sml_yes (a := za) (b := zb) (by rw [HA.out, HB.out]) (fun i hi => HN.out i (by rw [HA.out] at hi; omega)))
      go_wp2
      go_ret
      exact ⟨ret_bool HS.out.symm, hbw.out⟩
theorem p_same (za zb : List Int) (pa pb : Option Addr) (n m ca cb : Nat) (w : World) (ha : za.length = n) (hb : zb.length = m) (l1 : (n : Int) ≤ 4611686018427387904) (l2 : (m : Int) ≤ 4611686018427387904) (da : DatAt w pa za) (db : DatAt w pb zb) :
    Calls Try.prog 15 #[.slice pa n ca, .slice pb m cb] w fun x w' => x = .returned (.bool (sml za zb)) ∧ Below w.heap.size w w' := by
  by_cases h : n = m
  · subst h; exact p_same_eq za zb pa pb n ca cb w ha hb l1 da db
  · exact p_same_len za zb pa pb n m ca cb w ha hb l1 l2 h
end Go.Proofs.Ytfljgdehbogimaa

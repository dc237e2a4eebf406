/-
  The reference's place and Parse.
-/
import Derived.Test.YtfjfnbeegojlbaaDoorCGs
import Derived.Test.YtfjfnbeegojlbaaDoorCRc
import Derived.Test.YtfjfnbeegojlbaaDoorCPa
import Derived.Test.YtfjfnbeegojlbaaDoorCRx
import Derived.StillTailTactics
import Derived.Deep.DeepCutAuto
import Derived.Deep.Light
namespace Go.Proofs.YtfjfnbeegojlbaaDoor
open Go.RowKit

theorem ix_hit {l : List UInt8} {b : UInt8} {k : Nat} (h : l[k]? = some b) (hn : ∀ j, j < k → l[j]? ≠ some b) : Lib.indexByte l b = k := by
  have hg := Lib.indexByte_ge l b
  by_cases hm : Lib.indexByte l b = -1
  · exact absurd h (Lib.indexByte_none hm k)
  · obtain ⟨o, ho⟩ : ∃ o : Nat, Lib.indexByte l b = o := ⟨(Lib.indexByte l b).toNat, by omega⟩
    obtain ⟨h1, h2⟩ := Lib.indexByte_some ho
    have : o = k := by
      rcases Nat.lt_trichotomy o k with c | c | c
      · exact absurd h1 (hn o c)
      · exact c
      · exact absurd h (h2 k c)
    rw [ho, this]
theorem ix_miss {l : List UInt8} {b : UInt8} (hn : ∀ j, j < l.length → l[j]? ≠ some b) : Lib.indexByte l b = -1 := by
  have hg := Lib.indexByte_ge l b
  by_cases hm : Lib.indexByte l b = -1
  · exact hm
  · obtain ⟨o, ho⟩ : ∃ o : Nat, Lib.indexByte l b = o := ⟨(Lib.indexByte l b).toNat, by omega⟩
    obtain ⟨h1, -⟩ := Lib.indexByte_some ho
    exact absurd h1 (hn o (List.getElem?_eq_some_iff.1 h1).1)
theorem r_place (s : ByteArray) (b : UInt8) (w : World) (hs : s.size ≤ 1000) {z : Int} (hz : Lib.indexByte s.data.toList b = z) :
    Calls Tryd.prog 22 #[.string s, .int .u8 (b.toNat : Int)] w fun e w' => e = .returned (.int .i64 z) ∧ w = w' := by
  have HZ := Lib.hid hz
  have HL := Lib.hid (show s.data.toList.length = s.size by simp)
  have i1 : (s.size : Int) ≤ 1000 := by omega
  clear hz
  go_enter Tryd.func22, Tryd.ntmps22
  go_wp2
  go_loop [5] (fun i => ∃ k : Nat, k ≤ s.size ∧ i = .int .i64 k ∧ Hid (∀ j, j < k → s.data.toList[j]? ≠ some b)) (fun i => s.size - (intOf i).toNat)
  case atStart => exact ⟨0, Nat.zero_le _, rfl, fun j hj => absurd hj (Nat.not_lt_zero _)⟩
  case round =>
    obtain ⟨k, hk, rfl, HN⟩ := hrel
    by_cases hlt : k < s.size
    · have HLT := Lib.hid hlt
      have hlt' : (k : Int) < (s.size : Int) := by omega
      have hg : s.data.toList[k]? = some (s[k]) := by
        rw [List.getElem?_eq_getElem (by rw [HL.out]; exact hlt)]; rfl
      have HG := Lib.hid hg
      clear hg
      by_cases hb : s[k] = b
      · have e1 : ((s[k].toNat : Int) == (b.toNat : Int)) = true := by rw [hb]; exact beq_self_eq_true _
        have HE := Lib.hid (show z = (k : Int) by rw [← HZ.out]; exact ix_hit (by have := HG.out; rw [hb] at this; exact this) HN.out)
        clear hb
        go_wp2
        go_ret
        exact ⟨by rw [HE.out]; rfl, rfl⟩
      · have e1 : ((s[k].toNat : Int) == (b.toNat : Int)) = false := beq_eq_false_iff_ne.2 (fun e => hb (UInt8.toNat_inj.1 (by omega)))
        have HB := Lib.hid hb
        clear hb
        go_wp2
        go_round
        case rel => exact ⟨k + 1, by have := HLT.out; omega, by go_num, fun j hj => by
          by_cases e : j = k
          · subst e; rw [HG.out]; simpa using HB.out
          · exact HN.out j (by omega)⟩
        case measure => simp [intOf]; have := HLT.out; omega
    · have hkz : k = s.size := by omega
      have HE := Lib.hid (show z = -1 by rw [← HZ.out]; exact ix_miss (fun j hj => HN.out j (by rw [HL.out] at hj; omega)))
      have hlt' : ¬ (k : Int) < (s.size : Int) := by omega
      clear hlt hkz
      go_wp2
      go_ret
      exact ⟨by rw [HE.out]; rfl, rfl⟩
end Go.Proofs.YtfjfnbeegojlbaaDoor

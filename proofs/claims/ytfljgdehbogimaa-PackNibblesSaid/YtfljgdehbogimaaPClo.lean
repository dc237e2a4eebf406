/-
  Contracts of package pack's closures: differences, sums, joined and their function literals.
-/
import Derived.Test.YtfljgdehbogimaaPMid
import Derived.Shelf.Abstract
import Derived.Deep.RegionWith
namespace Go.Proofs.Ytfljgdehbogimaa
open Go.RowKit

theorem c_dif (x p b : Int) (c d : Nat) (w : World) (hc : One w c (.int .i64 p) 3) (hd : One w d (.int .i64 b) 3) (x1 : -1099511627776 ≤ x) (x2 : x ≤ 1099511627776) (p1 : -1099511627776 ≤ p) (p2 : p ≤ 1099511627776) (b1 : 1 ≤ b) (b2 : b ≤ 17) :
    Calls Try.prog 53 #[.int .i64 x, .pointer (some ⟨c, 0, none⟩), .pointer (some ⟨d, 0, none⟩)] w fun e w' => e = .returned (.int .i64 (Pk.wrp (hlf b) (x - p))) ∧ w.setCell ⟨c, 0, none⟩ (.int .i64 x) = w' := by
  have c0 := hc.cell
  have c1 := hc.free
  have d0 := hd.cell
  have C := Lib.hid (p_wrap (x - p) b w (by omega) (by omega) b1 b2)
  obtain ⟨y, hy⟩ : ∃ y, Pk.wrp (hlf b) (x - p) = y := ⟨_, rfl⟩
  rw [hy] at C ⊢
  clear hy hc hd
  go_enter Try.func53, Try.ntmps53
  go_wp2_with (first | (go_at_call 43; ((with_reducible refine C.out.mono ?_); rintro x' w' ⟨rfl, rfl⟩)))
  go_ret
  exact ⟨rfl, rfl⟩
theorem c_sum (x p b : Int) (c d : Nat) (w : World) (hc : One w c (.int .i64 p) 3) (hd : One w d (.int .i64 b) 3) (x1 : -1099511627776 ≤ x) (x2 : x ≤ 1099511627776) (p1 : -1099511627776 ≤ p) (p2 : p ≤ 1099511627776) (b1 : 1 ≤ b) (b2 : b ≤ 17) :
    Calls Try.prog 61 #[.int .i64 x, .pointer (some ⟨c, 0, none⟩), .pointer (some ⟨d, 0, none⟩)] w fun e w' => e = .returned (.int .i64 (Pk.wrp (hlf b) (p + x))) ∧ w.setCell ⟨c, 0, none⟩ (.int .i64 (Pk.wrp (hlf b) (p + x))) = w' := by
  have c0 := hc.cell
  have c1 := hc.free
  have d0 := hd.cell
  have C := Lib.hid (p_wrap (p + x) b w (by omega) (by omega) b1 b2)
  obtain ⟨y, hy⟩ : ∃ y, Pk.wrp (hlf b) (p + x) = y := ⟨_, rfl⟩
  rw [hy] at C ⊢
  have s0 := (hc.set (.int .i64 y)).cell
  clear hy hc hd
  go_enter Try.func61, Try.ntmps61
  go_wp2_with (first | (go_at_call 43; ((with_reducible refine C.out.mono ?_); rintro x' w' ⟨rfl, rfl⟩)))
  go_ret
  exact ⟨rfl, rfl⟩
theorem ent_dif (args : Array Value) (w : World) : (callFunc 53 args).run Try.prog w = .ok (.enter 53 args) w := by kernel_rfl
theorem ent_sum (args : Array Value) (w : World) : (callFunc 61 args).run Try.prog w = .ok (.enter 61 args) w := by kernel_rfl
theorem ent_join (args : Array Value) (w : World) : (callFunc 67 args).run Try.prog w = .ok (.enter 67 args) w := by kernel_rfl
/-- What differences' literal keeps. -/
def SDif (c d : Nat) (b : Int) (a : List Int) (w : World) : Prop := One w c (.int .i64 (lst a)) 3 ∧ One w d (.int .i64 b) 3 ∧ -1048576 ≤ lst a ∧ lst a ≤ 1048576
/-- What sums' literal keeps. -/
def SSum (c d : Nat) (b : Int) (a : List Int) (w : World) : Prop := One w c (.int .i64 (lst (Pk.sums (hlf b) 0 a))) 3 ∧ One w d (.int .i64 b) 3
theorem difs_last (h : Int) (a : List Int) (x : Int) : (Pk.difs h 0 (a ++ [x])).getD a.length 0 = Pk.wrp h (x - lst a) := by
  rw [difs_snoc]
  exact getD_snoc (Pk.difs_length h 0 a)
theorem sums_last (h : Int) (a : List Int) (x : Int) : (Pk.sums h 0 (a ++ [x])).getD a.length 0 = Pk.wrp h (lst (Pk.sums h 0 a) + x) := by
  rw [sums_snoc]
  exact getD_snoc (Pk.sums_length h 0 a)
theorem lst_in {h : Int} (hh : 0 < h) {l : List Int} (hl : ∀ x ∈ l, -h ≤ x ∧ x < h) : -h ≤ lst l ∧ lst l < h := by
  unfold lst
  cases l with
  | nil => simp [List.getLastD]; omega
  | cons x l => rw [List.getLastD_cons, ← List.getLast_eq_getLastD (by simp : x :: l ≠ [])]; exact hl _ (List.getLast_mem _)
theorem t_dif (c d lo hi : Nat) (b : Int) (hcd : c ≠ d) (c1 : lo ≤ c) (c2 : c < hi) (d1 : lo ≤ d) (d2 : d < hi) (b1 : 1 ≤ b) (b2 : b ≤ 17) :
    Trans 53 #[.pointer (some ⟨c, 0, none⟩), .pointer (some ⟨d, 0, none⟩)] lo hi (Pk.difs (hlf b) 0) (SDif c d b) where
  enters := ent_dif
  calls a x w x1 x2 := fun ⟨hc, hd, l1, l2⟩ => by
    refine (c_dif x (lst a) b c d w hc hd (by omega) (by omega) (by omega) (by omega) b1 b2).mono ?_
    rintro e w' ⟨rfl, rfl⟩
    refine ⟨by rw [difs_last], ⟨?_, ?_, ?_⟩, mid_set w _ c1 c2⟩
    · rw [lst_snoc]; exact hc.set _
    · exact hd.other (fun e => hcd e.symm) _
    · rw [lst_snoc]; omega
  stays := fun a w w' ⟨hc, hd, l⟩ ho => ⟨hc.out ho c1 c2, hd.out ho d1 d2, l⟩
  len := fun a => Pk.difs_length _ 0 a
  snoc := fun a x => by rw [difs_last, difs_snoc]; rfl
  bound := fun a x => by
    rw [difs_last]
    have h0 := hlf_le b2
    have h1 := Pk.wrp_lo (x := x - lst a) (hlf_pos b)
    have h2 := Pk.wrp_hi (x := x - lst a) (hlf_pos b)
    omega
theorem t_sum (c d lo hi : Nat) (b : Int) (hcd : c ≠ d) (c1 : lo ≤ c) (c2 : c < hi) (d1 : lo ≤ d) (d2 : d < hi) (b1 : 1 ≤ b) (b2 : b ≤ 17) :
    Trans 61 #[.pointer (some ⟨c, 0, none⟩), .pointer (some ⟨d, 0, none⟩)] lo hi (Pk.sums (hlf b) 0) (SSum c d b) where
  enters := ent_sum
  calls a x w x1 x2 := fun ⟨hc, hd⟩ => by
    have l := lst_in (hlf_pos b) (Pk.sums_in (hlf_pos b) 0 a)
    have h0 := hlf_le b2
    refine (c_sum x (lst (Pk.sums (hlf b) 0 a)) b c d w hc hd (by omega) (by omega) (by omega) (by omega) b1 b2).mono ?_
    rintro e w' ⟨rfl, rfl⟩
    refine ⟨by rw [sums_last], ⟨?_, ?_⟩, mid_set w _ c1 c2⟩
    · rw [sums_snoc, lst_snoc]; exact hc.set _
    · exact hd.other (fun e => hcd e.symm) _
  stays := fun a w w' ⟨hc, hd⟩ ho => ⟨hc.out ho c1 c2, hd.out ho d1 d2⟩
  len := fun a => Pk.sums_length _ 0 a
  snoc := fun a x => by rw [sums_last, sums_snoc]; rfl
  bound := fun a x => by
    rw [sums_last]
    have h0 := hlf_le b2
    have h1 := Pk.wrp_lo (x := lst (Pk.sums (hlf b) 0 a) + x) (hlf_pos b)
    have h2 := Pk.wrp_hi (x := lst (Pk.sums (hlf b) 0 a) + x) (hlf_pos b)
    omega
/-- What joined's literal keeps. -/
def SJoin (F1 F2 : Nat) (cb1 cb2 : Array Value) (q1 q2 : Nat) (T1 : List Int → List Int) (S1 S2 : List Int → World → Prop) (a : List Int) (w : World) : Prop :=
  One w q1 (.func (.func F1) #[] cb1) 44 ∧ One w q2 (.func (.func F2) #[] cb2) 44 ∧ S1 a w ∧ S2 (T1 a) w
set_option maxHeartbeats 1600000 in
theorem c_join (F1 F2 : Nat) (cb1 cb2 : Array Value) (q1 q2 lo1 hi1 lo2 hi2 : Nat) (T1 T2 : List Int → List Int) (S1 S2 : List Int → World → Prop) (H1 : Trans F1 cb1 lo1 hi1 T1 S1) (H2 : Trans F2 cb2 lo2 hi2 T2 S2)
    (a : List Int) (x : Int) (w : World) (x1 : -1048576 ≤ x) (x2 : x ≤ 1048576) (hS : SJoin F1 F2 cb1 cb2 q1 q2 T1 S1 S2 a w) (o1 : hi1 ≤ lo2) (o2 : hi2 ≤ q1) (o3 : hi2 ≤ q2) (o4 : hi2 ≤ w.heap.size) (o5 : lo1 ≤ hi1) (o6 : lo2 ≤ hi2) :
    Calls Try.prog 67 #[.int .i64 x, .pointer (some ⟨q2, 0, none⟩), .pointer (some ⟨q1, 0, none⟩)] w fun e w' => e = .returned (.int .i64 ((T2 (T1 (a ++ [x]))).getD a.length 0)) ∧ SJoin F1 F2 cb1 cb2 q1 q2 T1 S1 S2 (a ++ [x]) w' ∧ Mid lo1 hi2 w w' := by
  obtain ⟨hq1, hq2, hS1, hS2⟩ := hS
  have C1 := Lib.hid (fun w1 (h : S1 a w1) => H1.calls a x w1 x1 x2 h)
  have e1 := H1.enters
  have e2 := H2.enters
  obtain ⟨y, hy⟩ : ∃ y, (T1 (a ++ [x])).getD a.length 0 = y := ⟨_, rfl⟩
  obtain ⟨z, hz⟩ : ∃ z, (T2 (T1 (a ++ [x]))).getD a.length 0 = z := ⟨_, rfl⟩
  have hyb := H1.bound a x
  have hsn := H1.snoc a x
  rw [hy] at C1 hyb hsn
  have C2 := Lib.hid (show ∀ w1, S2 (T1 a) w1 → Calls Try.prog F2 (#[.int .i64 y] ++ cb2) w1 fun e w' => e = .returned (.int .i64 z) ∧ S2 (T1 (a ++ [x])) w' ∧ Mid lo2 hi2 w1 w' from fun w1 h => by
    have := H2.calls (T1 a) y w1 (by omega) (by omega) h
    rw [← hsn, H1.len a, hz] at this
    exact this)
  have r1 := Lib.hid (fun w' (he : w'.heap = w.heap) => H1.stays _ _ w' hS1 ⟨Nat.le_of_eq (by rw [he]), fun _ _ _ => by rw [he]⟩)
  have k1 := Lib.hid (fun w' (hm : Mid lo1 hi1 w w') => H2.stays _ _ _ hS2 (hm.out (a := lo2) (b := hi2) o4 (.inr o1)))
  have k2 := Lib.hid (fun w1 w' (h : S1 (a ++ [x]) w1) (hs : w.heap.size ≤ w1.heap.size) (hm : Mid lo2 hi2 w1 w') => H1.stays _ _ _ h (hm.out (a := lo1) (b := hi1) (by omega) (.inl o1)))
  have K1 := Lib.hid hq1
  have K2 := Lib.hid hq2
  have c1 := hq1.cell
  have c2 := hq2.cell
  rw [hz]
  clear hy hz hsn hq1 hq2 hS1 hS2 H1 H2
  go_enter Try.func67, Try.ntmps67
  go_wp2
  go_region_with (first | (go_at_fn F1; ((with_reducible refine (C1.out w.drew (r1.out w.drew rfl)).mono ?_); rintro e' w1 ⟨rfl, hs1, hm0⟩; have hm1 : Mid lo1 hi1 w w1 := ⟨hm0.os, hm0.tape, hm0.output, hm0.size, hm0.block⟩; have HM1 := Lib.hid hm1; clear hm0; have HS1 := Lib.hid hs1; have c2' := (K2.out.mid hm1 (.inr (by omega))).cell; clear hm1 hs1)) | (go_at_fn F2; ((with_reducible refine (C2.out _ (k1.out _ HM1.out)).mono ?_); rintro e' w2 ⟨rfl, hs2, hm2⟩; have HM2 := Lib.hid hm2; have HS2 := Lib.hid hs2; clear hm2 hs2)))
  all_goals
    go_wp2
    go_ret
    exact ⟨rfl, ⟨(K1.out.mid HM1.out (.inr (by omega))).mid HM2.out (.inr o2), (K2.out.mid HM1.out (.inr (by omega))).mid HM2.out (.inr o3), k2.out w1 w2 HS1.out HM1.out.size HM2.out, HS2.out⟩, (HM1.out.mono (Nat.le_refl _) (by omega)).trans (HM2.out.mono (by omega) (Nat.le_refl _))⟩
theorem t_join (F1 F2 : Nat) (cb1 cb2 : Array Value) (q1 q2 lo1 hi1 lo2 hi2 hi : Nat) (T1 T2 : List Int → List Int) (S1 S2 : List Int → World → Prop) (H1 : Trans F1 cb1 lo1 hi1 T1 S1) (H2 : Trans F2 cb2 lo2 hi2 T2 S2)
    (o1 : hi1 ≤ lo2) (o2 : hi2 ≤ q1) (o3 : hi2 ≤ q2) (o5 : lo1 ≤ hi1) (o6 : lo2 ≤ hi2) (o7 : q1 < hi) (o8 : q2 < hi) :
    Trans 67 #[.pointer (some ⟨q2, 0, none⟩), .pointer (some ⟨q1, 0, none⟩)] lo1 hi (fun a => T2 (T1 a)) (SJoin F1 F2 cb1 cb2 q1 q2 T1 S1 S2) where
  enters := ent_join
  calls a x w x1 x2 := fun hS => (c_join F1 F2 cb1 cb2 q1 q2 lo1 hi1 lo2 hi2 T1 T2 S1 S2 H1 H2 a x w x1 x2 hS o1 o2 o3 (by have := hS.1.lt; omega) o5 o6).mono fun _ _ ⟨h1, h2, h3⟩ => ⟨h1, h2, h3.mono (Nat.le_refl _) (by omega)⟩
  stays := fun a w w' ⟨h1, h2, h3, h4⟩ ho => ⟨h1.out ho (by omega) o7, h2.out ho (by omega) o8, H1.stays _ _ _ h3 ⟨ho.size, fun k a b => ho.block k (by omega) (by omega)⟩, H2.stays _ _ _ h4 ⟨ho.size, fun k a b => ho.block k (by omega) (by omega)⟩⟩
  len := fun a => by rw [H2.len, H1.len]
  snoc := fun a x => by
    have h1 := H1.snoc a x
    have h2 := H2.snoc (T1 a) ((T1 (a ++ [x])).getD a.length 0)
    rw [← h1, H1.len] at h2
    exact h2
  bound := fun a x => by
    have h1 := H1.snoc a x
    have h2 := H2.bound (T1 a) ((T1 (a ++ [x])).getD a.length 0)
    rw [← h1, H1.len] at h2
    exact h2
end Go.Proofs.Ytfljgdehbogimaa

/-
  Contracts of package pack's differences, sums, joined and of the two versions of codings: the function values that they make.
-/
import Derived.Test.YtfljgdehbogimaaPClo
import Derived.Laws.EntriesVeiled
namespace Go.Proofs.Ytfljgdehbogimaa
open Go.RowKit

/-- A maker's end: two new blocks of one cell. -/
def Made2 (w w' : World) (s : Nat) (u v : Value) (t t' : TypeId) : Prop := One w' s u t ∧ One w' (s + 1) v t' ∧ w'.heap.size = s + 2 ∧ Below w.heap.size w w'
theorem made2_of (w : World) (s : Nat) (hs : w.heap.size = s) (u v : Value) (t t' : TypeId) : Made2 w ((w.alloc (.cells #[u] t)).alloc (.cells #[v] t')) s u v t t' := by
  subst hs
  refine ⟨(one_alloc w u t).kept (below_box _ _), ?_, by simp, ((Below.refl _ _).alloc (Nat.le_refl _) _).alloc (by simp) _⟩
  have := one_alloc (w.alloc (.cells #[u] t)) v t'
  simpa using this
theorem p_differences (b : Int) (w : World) (s : Nat) (hs : w.heap.size = s) :
    Calls Try.prog 25 #[.int .i64 b] w fun e w' => e = .returned (.func (.func 53) #[] #[.pointer (some ⟨s + 1, 0, none⟩), .pointer (some ⟨s, 0, none⟩)]) ∧ Made2 w w' s (.int .i64 b) (.int .i64 0) 3 3 := by
  have HM := Lib.hid (made2_of w s hs (.int .i64 b) (.int .i64 0) 3 3)
  subst hs
  go_enter Try.func25, Try.ntmps25
  go_wp2
  go_ret
  exact ⟨rfl, HM.out⟩
theorem p_sums (b : Int) (w : World) (s : Nat) (hs : w.heap.size = s) :
    Calls Try.prog 35 #[.int .i64 b] w fun e w' => e = .returned (.func (.func 61) #[] #[.pointer (some ⟨s + 1, 0, none⟩), .pointer (some ⟨s, 0, none⟩)]) ∧ Made2 w w' s (.int .i64 b) (.int .i64 0) 3 3 := by
  have HM := Lib.hid (made2_of w s hs (.int .i64 b) (.int .i64 0) 3 3)
  subst hs
  go_enter Try.func35, Try.ntmps35
  go_wp2
  go_ret
  exact ⟨rfl, HM.out⟩
theorem p_joined (F1 F2 : Nat) (cb1 cb2 : Array Value) (w : World) (s : Nat) (hs : w.heap.size = s) :
    Calls Try.prog 57 #[.func (.func F1) #[] cb1, .func (.func F2) #[] cb2] w fun e w' => e = .returned (.func (.func 67) #[] #[.pointer (some ⟨s + 1, 0, none⟩), .pointer (some ⟨s, 0, none⟩)]) ∧ Made2 w w' s (.func (.func F1) #[] cb1) (.func (.func F2) #[] cb2) 44 44 := by
  have HM := Lib.hid (made2_of w s hs (.func (.func F1) #[] cb1) (.func (.func F2) #[] cb2) 44 44)
  subst hs
  go_enter Try.func57, Try.ntmps57
  go_wp2
  go_ret
  exact ⟨rfl, HM.out⟩
/-- What a version makes: a function value that turns frames into values, and one that turns them back. -/
def Coded (T T' : List Int → List Int) (lo : Nat) (e : Ending) (w' : World) : Prop :=
  ∃ F cb F' cb' S S' hi, e = .returned (.agg #[.func (.func F) #[] cb, .func (.func F') #[] cb']) ∧ Trans F cb lo hi T S ∧ S [] w' ∧ Trans F' cb' lo hi T' S' ∧ S' [] w' ∧ hi = w'.heap.size
theorem made2_ones {w w' : World} {s : Nat} {u v : Value} {t t' : TypeId} (h : Made2 w w' s u v t t') : One w' s u t ∧ One w' (s + 1) v t' := ⟨h.1, h.2.1⟩
/-- The result's two cells, still nil, before they are stored. -/
def Nil2 (w : World) (b : Nat) : Prop := w.cell? ⟨b, 0, none⟩ = some .nilFunc ∧ w.cell? ⟨b, 1, none⟩ = some .nilFunc ∧ w.frozen? ⟨b, 0, none⟩ = false ∧ w.frozen? ⟨b, 1, none⟩ = false ∧ b < w.heap.size
theorem nil2_new (w : World) : Nil2 (w.alloc (.cells #[.nilFunc, .nilFunc] 53)) w.heap.size := by
  refine ⟨?_, ?_, ?_, ?_, ?_⟩ <;> go_simp
theorem Nil2.kept {w w' : World} {b : Nat} (h : Nil2 w b) (hb : Below w.heap.size w w') : Nil2 w' b :=
  ⟨kept_cell hb h.1, kept_cell hb h.2.1, (hb.frozen (p := ⟨b, 0, none⟩) h.2.2.2.2).trans h.2.2.1, (hb.frozen (p := ⟨b, 1, none⟩) h.2.2.2.2).trans h.2.2.2.1, Nat.lt_of_lt_of_le h.2.2.2.2 hb.size⟩
theorem set2_size (w : World) (a b : Addr) (u v : Value) : ((w.setCell a u).setCell b v).heap.size = w.heap.size := by simp [World.setCell]
theorem One.set2 {w : World} {c s : Nat} {v : Value} {t : TypeId} (h : One w c v t) (hc : c ≠ s) (u u' : Value) : One ((w.setCell ⟨s, 0, none⟩ u).setCell ⟨s, 1, none⟩ u') c v t := (h.other hc u).other hc u'
theorem below_set2 {W w : World} {s : Nat} (h : Below W.heap.size W w) (hs : W.heap.size ≤ s) (u u' : Value) : Below W.heap.size W ((w.setCell ⟨s, 0, none⟩ u).setCell ⟨s, 1, none⟩ u') := (h.setCell hs u).setCell hs u'
theorem agg2_cells {w : World} {b : Nat} {u v : Value} (h : Nil2 w b) : ((w.setCell ⟨b, 0, none⟩ u).setCell ⟨b, 1, none⟩ v).cell? ⟨b, 0, none⟩ = some u ∧ ((w.setCell ⟨b, 0, none⟩ u).setCell ⟨b, 1, none⟩ v).cell? ⟨b, 1, none⟩ = some v := by
  have ne : ∀ (x y : Nat), x ≠ y → (⟨b, x, none⟩ : Addr) ≠ ⟨b, y, none⟩ := fun x y hxy e => hxy (congrArg Addr.off e)
  refine ⟨?_, ?_⟩
  · rw [World.cell?_setCell_other _ _ _ _ (ne 1 0 (by omega))]
    exact World.cell?_setCell_same _ _ _ h.1
  · exact World.cell?_setCell_same _ _ _ (by rw [World.cell?_setCell_other _ _ _ _ (ne 0 1 (by omega))]; exact h.2.1)
theorem enc1_start (b : Int) (w : World) (c d : Nat) (hc : One w c (.int .i64 0) 3) (hd : One w d (.int .i64 b) 3) : SDif c d b [] w := ⟨hc, hd, by decide, by decide⟩
theorem dec1_start (b : Int) (w : World) (c d : Nat) (hc : One w c (.int .i64 0) 3) (hd : One w d (.int .i64 b) 3) : SSum c d b [] w := ⟨hc, hd⟩
set_option maxHeartbeats 1600000 in
theorem p_cod1 (b : Int) (w : World) (b1 : 1 ≤ b) (b2 : b ≤ 17) :
    Calls Try.prog 55 #[.int .i64 b] w fun e w' => Coded (Pk.difs (hlf b) 0) (Pk.sums (hlf b) 0) w.heap.size e w' ∧ Below w.heap.size w w' := by
  have HN := Lib.hid (nil2_new w)
  have HB0 := Lib.hid (below_box w (.cells #[.nilFunc, .nilFunc] 53))
  have C1 := Lib.hid (fun w1 => p_differences b w1 _ rfl)
  have C2 := Lib.hid (fun w1 => p_sums b w1 _ rfl)
  go_enter Try.func55, Try.ntmps55
  go_wp2_with (first | (go_at_call 25; ((with_reducible refine (C1.out _).mono ?_); rintro e' w1 ⟨rfl, hm1⟩; have HM1 := Lib.hid hm1; have HN1 := Lib.hid (HN.out.kept hm1.2.2.2); have HB1 := Lib.hid (stepB HB0.out hm1.2.2.2); clear hm1)) | (go_at_call 35; ((with_reducible refine (C2.out _).mono ?_); rintro e' w2 ⟨rfl, hm2⟩; have HM2 := Lib.hid hm2; have HN2 := Lib.hid (HN1.out.kept hm2.2.2.2); have HB2 := Lib.hid (stepB HB1.out hm2.2.2.2); clear hm2; obtain ⟨n0, n1, n2, n3, n4⟩ := HN2.out)))
  obtain ⟨m0, m1, m2, m3⟩ := HM1.out
  rw [World.size_alloc] at m0 m1 m2
  obtain ⟨l0, l1, l2, l3⟩ := HM2.out
  obtain ⟨r0, r1⟩ := agg2_cells (u := .func (.func 53) #[] #[.pointer (some ⟨w.heap.size + 1 + 1, 0, none⟩), .pointer (some ⟨w.heap.size + 1, 0, none⟩)]) (v := .func (.func 61) #[] #[.pointer (some ⟨w1.heap.size + 1, 0, none⟩), .pointer (some ⟨w1.heap.size, 0, none⟩)]) HN2.out
  refine bodyPost_ret (v := .agg #[.func (.func 53) #[] #[.pointer (some ⟨w.heap.size + 1 + 1, 0, none⟩), .pointer (some ⟨w.heap.size + 1, 0, none⟩)], .func (.func 61) #[] #[.pointer (some ⟨w1.heap.size + 1, 0, none⟩), .pointer (some ⟨w1.heap.size, 0, none⟩)]]) ?_ rfl ⟨⟨_, _, _, _, SDif (w.heap.size + 1 + 1) (w.heap.size + 1) b, SSum (w1.heap.size + 1) w1.heap.size b, _, rfl, t_dif _ _ _ _ b (by omega) (by omega) ?_ (by omega) ?_ b1 b2, enc1_start _ _ _ _ ?_ ?_, t_sum _ _ _ _ b (by omega) (by omega) ?_ (by omega) ?_ b1 b2, dec1_start _ _ _ _ ?_ ?_, rfl⟩, below_set2 HB2.out (Nat.le_refl _) _ _⟩
  · simp [results, Try.results55, go_sem, r0, r1]
  · rw [set2_size]; omega
  · rw [set2_size]; omega
  · exact (m1.kept l3).set2 (s := w.heap.size) (by omega) _ _
  · exact (m0.kept l3).set2 (s := w.heap.size) (by omega) _ _
  · rw [set2_size]; omega
  · rw [set2_size]; omega
  · exact l1.set2 (s := w.heap.size) (by omega) _ _
  · exact l0.set2 (s := w.heap.size) (by omega) _ _
end Go.Proofs.Ytfljgdehbogimaa

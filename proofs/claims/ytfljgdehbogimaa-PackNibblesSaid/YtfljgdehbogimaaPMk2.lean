/-
  The contract of the second version of codings: differences of differences, sums of sums.
-/
import Derived.Test.YtfljgdehbogimaaPMk
namespace Go.Proofs.Ytfljgdehbogimaa
open Go.RowKit

theorem Made2.keptD {w w' w2 : World} {s : Nat} {u v : Value} {t t' : TypeId} (h : Made2 w w' s u v t t') (hb : Below w'.heap.size w' w2) : One w2 s u t ∧ One w2 (s + 1) v t' := ⟨h.1.kept hb, h.2.1.kept hb⟩
theorem Made2.size {w w' : World} {s : Nat} {u v : Value} {t t' : TypeId} (h : Made2 w w' s u v t t') : w'.heap.size = s + 2 := h.2.2.1
theorem Made2.below {w w' : World} {s : Nat} {u v : Value} {t t' : TypeId} (h : Made2 w w' s u v t t') : Below w.heap.size w w' := h.2.2.2
theorem pair_kept {w w' : World} {s : Nat} {u v : Value} {t t' : TypeId} (h : One w s u t ∧ One w (s + 1) v t') (hb : Below w.heap.size w w') : One w' s u t ∧ One w' (s + 1) v t' := ⟨h.1.kept hb, h.2.kept hb⟩
set_option maxHeartbeats 3200000 in
theorem p_cod2 (b : Int) (w : World) (b1 : 1 ≤ b) (b2 : b ≤ 17) :
    Calls Try.prog 56 #[.int .i64 b] w fun e w' => Coded (fun a => Pk.difs (hlf b) 0 (Pk.difs (hlf b) 0 a)) (fun a => Pk.sums (hlf b) 0 (Pk.sums (hlf b) 0 a)) w.heap.size e w' ∧ Below w.heap.size w w' := by
  have HN := Lib.hid (nil2_new w)
  have HB0 := Lib.hid (below_box w (.cells #[.nilFunc, .nilFunc] 53))
  have C1 := Lib.hid (fun w1 => p_differences b w1 _ rfl)
  have C2 := Lib.hid (fun w1 => p_sums b w1 _ rfl)
  have C3 := Lib.hid (fun F1 F2 cb1 cb2 w1 => p_joined F1 F2 cb1 cb2 w1 _ rfl)
  go_enter Try.func56, Try.ntmps56
  go_wp2_with (first
    | (go_at_call 25; (have hx := HM1.out); ((with_reducible refine (C1.out _).mono ?_); rintro e' w2 ⟨rfl, hm2⟩; have HM2 := Lib.hid hm2; have HN2 := Lib.hid (HN1.out.kept hm2.2.2.2); have HB2 := Lib.hid (stepB HB1.out hm2.2.2.2); have H1 := Lib.hid (HM1.out.keptD hm2.2.2.2); have H2 := Lib.hid (made2_ones hm2); clear hm2 hx))
    | (go_at_call 25; ((with_reducible refine (C1.out _).mono ?_); rintro e' w1 ⟨rfl, hm1⟩; have HM1 := Lib.hid hm1; have HN1 := Lib.hid (HN.out.kept hm1.2.2.2); have HB1 := Lib.hid (stepB HB0.out hm1.2.2.2); clear hm1))
    | (go_at_call 57; (have hx := HM5.out); ((with_reducible refine (C3.out _ _ _ _ _).mono ?_); rintro e' w6 ⟨rfl, hm6⟩; have HM6 := Lib.hid hm6; have HN6 := Lib.hid (HN5.out.kept hm6.2.2.2); have HB6 := Lib.hid (stepB HB5.out hm6.2.2.2); have H1 := Lib.hid (pair_kept H1.out hm6.2.2.2); have H2 := Lib.hid (pair_kept H2.out hm6.2.2.2); have H3 := Lib.hid (pair_kept H3.out hm6.2.2.2); have H4 := Lib.hid (pair_kept H4.out hm6.2.2.2); have H5 := Lib.hid (pair_kept H5.out hm6.2.2.2); have H6 := Lib.hid (made2_ones hm6); clear hm6 hx; obtain ⟨n0, n1, n2, n3, n4⟩ := HN6.out))
    | (go_at_call 57; ((with_reducible refine (C3.out _ _ _ _ _).mono ?_); rintro e' w3 ⟨rfl, hm3⟩; have HM3 := Lib.hid hm3; have HN3 := Lib.hid (HN2.out.kept hm3.2.2.2); have HB3 := Lib.hid (stepB HB2.out hm3.2.2.2); have H1 := Lib.hid (pair_kept H1.out hm3.2.2.2); have H2 := Lib.hid (pair_kept H2.out hm3.2.2.2); have H3 := Lib.hid (made2_ones hm3); clear hm3))
    | (go_at_call 35; (have hx := HM4.out); ((with_reducible refine (C2.out _).mono ?_); rintro e' w5 ⟨rfl, hm5⟩; have HM5 := Lib.hid hm5; have HN5 := Lib.hid (HN4.out.kept hm5.2.2.2); have HB5 := Lib.hid (stepB HB4.out hm5.2.2.2); have H1 := Lib.hid (pair_kept H1.out hm5.2.2.2); have H2 := Lib.hid (pair_kept H2.out hm5.2.2.2); have H3 := Lib.hid (pair_kept H3.out hm5.2.2.2); have H4 := Lib.hid (pair_kept H4.out hm5.2.2.2); have H5 := Lib.hid (made2_ones hm5); clear hm5 hx))
    | (go_at_call 35; ((with_reducible refine (C2.out _).mono ?_); rintro e' w4 ⟨rfl, hm4⟩; have HM4 := Lib.hid hm4; have HN4 := Lib.hid (HN3.out.kept hm4.2.2.2); have HB4 := Lib.hid (stepB HB3.out hm4.2.2.2); have H1 := Lib.hid (pair_kept H1.out hm4.2.2.2); have H2 := Lib.hid (pair_kept H2.out hm4.2.2.2); have H3 := Lib.hid (pair_kept H3.out hm4.2.2.2); have H4 := Lib.hid (made2_ones hm4); clear hm4)))
  have z1 := HM1.out.size
  have z2 := HM2.out.size
  have z3 := HM3.out.size
  have z4 := HM4.out.size
  have z5 := HM5.out.size
  have z6 := HM6.out.size
  rw [World.size_alloc] at z1
  obtain ⟨k1, k1'⟩ := H1.out
  rw [World.size_alloc] at k1 k1'
  obtain ⟨k2, k2'⟩ := H2.out
  obtain ⟨k3, k3'⟩ := H3.out
  obtain ⟨k4, k4'⟩ := H4.out
  obtain ⟨k5, k5'⟩ := H5.out
  obtain ⟨k6, k6'⟩ := H6.out
  obtain ⟨r0, r1⟩ := agg2_cells (u := .func (.func 67) #[] #[.pointer (some ⟨w2.heap.size + 1, 0, none⟩), .pointer (some ⟨w2.heap.size, 0, none⟩)]) (v := .func (.func 67) #[] #[.pointer (some ⟨w5.heap.size + 1, 0, none⟩), .pointer (some ⟨w5.heap.size, 0, none⟩)]) HN6.out
  obtain ⟨W, hW⟩ : ∃ W, W = (w6.setCell ⟨w.heap.size, 0, none⟩ (.func (.func 67) #[] #[.pointer (some ⟨w2.heap.size + 1, 0, none⟩), .pointer (some ⟨w2.heap.size, 0, none⟩)])).setCell ⟨w.heap.size, 1, none⟩ (.func (.func 67) #[] #[.pointer (some ⟨w5.heap.size + 1, 0, none⟩), .pointer (some ⟨w5.heap.size, 0, none⟩)]) := ⟨_, rfl⟩
  have zW : W.heap.size = w6.heap.size := by rw [hW, set2_size]
  have st : ∀ {c : Nat} {x : Value} {t : TypeId}, One w6 c x t → c ≠ w.heap.size → One W c x t := fun h hc => hW ▸ h.set2 hc _ _
  have hB := below_set2 (s := w.heap.size) HB6.out (Nat.le_refl _) (.func (.func 67) #[] #[.pointer (some ⟨w2.heap.size + 1, 0, none⟩), .pointer (some ⟨w2.heap.size, 0, none⟩)]) (.func (.func 67) #[] #[.pointer (some ⟨w5.heap.size + 1, 0, none⟩), .pointer (some ⟨w5.heap.size, 0, none⟩)])
  rw [← hW] at r0 r1 hB ⊢
  clear hW
  refine bodyPost_ret (v := .agg #[.func (.func 67) #[] #[.pointer (some ⟨w2.heap.size + 1, 0, none⟩), .pointer (some ⟨w2.heap.size, 0, none⟩)], .func (.func 67) #[] #[.pointer (some ⟨w5.heap.size + 1, 0, none⟩), .pointer (some ⟨w5.heap.size, 0, none⟩)]]) ?_ rfl ⟨⟨_, _, _, _,
    SJoin 53 53 #[.pointer (some ⟨w.heap.size + 1 + 1, 0, none⟩), .pointer (some ⟨w.heap.size + 1, 0, none⟩)] #[.pointer (some ⟨w1.heap.size + 1, 0, none⟩), .pointer (some ⟨w1.heap.size, 0, none⟩)] w2.heap.size (w2.heap.size + 1) (Pk.difs (hlf b) 0) (SDif (w.heap.size + 1 + 1) (w.heap.size + 1) b) (SDif (w1.heap.size + 1) w1.heap.size b),
    SJoin 61 61 #[.pointer (some ⟨w3.heap.size + 1, 0, none⟩), .pointer (some ⟨w3.heap.size, 0, none⟩)] #[.pointer (some ⟨w4.heap.size + 1, 0, none⟩), .pointer (some ⟨w4.heap.size, 0, none⟩)] w5.heap.size (w5.heap.size + 1) (Pk.sums (hlf b) 0) (SSum (w3.heap.size + 1) w3.heap.size b) (SSum (w4.heap.size + 1) w4.heap.size b), W.heap.size, rfl, ?_, ?_, ?_, ?_, rfl⟩, hB⟩
  · simp [results, Try.results56, go_sem, r0, r1]
  · exact t_join _ _ _ _ _ _ _ w1.heap.size w1.heap.size w2.heap.size _ _ _ _ _ (t_dif _ _ _ _ b (by omega) (by omega) (by omega) (by omega) (by omega) b1 b2) (t_dif _ _ _ _ b (by omega) (by omega) (by omega) (by omega) (by omega) b1 b2) (by omega) (by omega) (by omega) (by omega) (by omega) (by omega) (by omega)
  · exact ⟨st k3 (by omega), st k3' (by omega), enc1_start _ _ _ _ (st k1' (by omega)) (st k1 (by omega)), enc1_start _ _ _ _ (st k2' (by omega)) (st k2 (by omega))⟩
  · exact t_join _ _ _ _ _ _ _ w4.heap.size w4.heap.size w5.heap.size _ _ _ _ _ (t_sum _ _ _ _ b (by omega) (by omega) (by omega) (by omega) (by omega) b1 b2) (t_sum _ _ _ _ b (by omega) (by omega) (by omega) (by omega) (by omega) b1 b2) (by omega) (by omega) (by omega) (by omega) (by omega) (by omega) (by omega)
  · exact ⟨st k6 (by omega), st k6' (by omega), dec1_start _ _ _ _ (st k4' (by omega)) (st k4 (by omega)), dec1_start _ _ _ _ (st k5' (by omega)) (st k5 (by omega))⟩
end Go.Proofs.Ytfljgdehbogimaa

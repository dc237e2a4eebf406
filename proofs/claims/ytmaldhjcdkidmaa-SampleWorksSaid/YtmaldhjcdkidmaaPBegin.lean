/-
  Contracts of package sample's route.move (any cursor), validCursor and Begin; nothing that was there is changed.
-/
import Derived.Test.YtmaldhjcdkidmaaPMove
import Derived.Test.YtmaldhjcdkidmaaPValid
namespace Go.Proofs.Ytmaldhjcdkidmaa
open Go.RowKit

theorem p_moved_0 (n f t po fr st : Int) (bk : Bool) (w : World) :
    Calls Try.prog 51 #[.agg #[.int .i64 n, .int .i64 f, .int .i64 t, .func (.func 74) #[] #[], .func (.func 75) #[] #[]], .agg #[.int .i64 po, .int .i64 fr, .bool bk, .bool true], .int .i64 st] w fun x w' => RetCur (Sm.gone 0 f t n ⟨po, fr, bk, true⟩ st) x ∧ Below w.heap.size w w' := by
  go_enter Try.func51, Try.ntmps51
  go_wp2
  exact bodyPost_ret (v := .agg #[.int .i64 po, .int .i64 fr, .bool bk, .bool true]) (by simp [results, Try.results51, go_sem]) rfl ⟨⟨_, _, _, _, rfl, rfl⟩, below3m _ _ _⟩
theorem p_mv0 (n f t po fr st : Int) (bk dn : Bool) (w : World) (hr : Sm.Ring 0 f t n) (hn : n ≤ 268435456) (hc : dn = true ∨ (0 ≤ po ∧ po ≤ 4095 ∧ 0 ≤ fr ∧ fr ≤ 65535 ∧ po * 65536 + fr < n)) (s0 : 0 ≤ st) (s1 : st ≤ 536870912) :
    Calls Try.prog 51 #[.agg #[.int .i64 n, .int .i64 f, .int .i64 t, .func (.func 74) #[] #[], .func (.func 75) #[] #[]], .agg #[.int .i64 po, .int .i64 fr, .bool bk, .bool dn], .int .i64 st] w fun x w' => RetCur (Sm.gone 0 f t n ⟨po, fr, bk, dn⟩ st) x ∧ Below w.heap.size w w' := by
  cases dn with
  | true => exact p_moved_0 n f t po fr st bk w
  | false =>
    rcases hc with hc | ⟨c1, c2, c3, c4, c5⟩
    · cases hc
    cases bk with
    | false =>
      rw [show Sm.gone 0 f t n ⟨po, fr, false, false⟩ st = _ from Sm.fore_mv hr (x := po * 65536 + fr) (by omega) s0]
      by_cases hin : 0 ≤ Sm.fP 0 f t (po * 65536 + fr) st ∧ Sm.fP 0 f t (po * 65536 + fr) st < n
      · exact p_move_00i n f t po fr st _ _ w hr hn c1 c2 c3 c4 c5 s0 s1 ⟨rfl, rfl⟩ hin
      · exact p_move_00o n f t po fr st _ _ w hr hn c1 c2 c3 c4 c5 s0 s1 ⟨rfl, rfl⟩ (by omega)
    | true =>
      rw [show Sm.gone 0 f t n ⟨po, fr, true, false⟩ st = _ from Sm.aft_mv hr (x := po * 65536 + fr) c5 s0]
      by_cases hin : 0 ≤ Sm.aP 0 f t (po * 65536 + fr) st ∧ Sm.aP 0 f t (po * 65536 + fr) st < n
      · exact p_move_01i n f t po fr st _ _ w hr hn c1 c2 c3 c4 c5 s0 s1 ⟨rfl, rfl⟩ hin
      · exact p_move_01o n f t po fr st _ _ w hr hn c1 c2 c3 c4 c5 s0 s1 ⟨rfl, rfl⟩ (by omega)
theorem p_moved_1 (n f t po fr st : Int) (bk : Bool) (w : World) :
    Calls Try.prog 51 #[.agg #[.int .i64 n, .int .i64 f, .int .i64 t, .func (.func 76) #[] #[], .func (.func 77) #[] #[]], .agg #[.int .i64 po, .int .i64 fr, .bool bk, .bool true], .int .i64 st] w fun x w' => RetCur (Sm.gone 1 f t n ⟨po, fr, bk, true⟩ st) x ∧ Below w.heap.size w w' := by
  go_enter Try.func51, Try.ntmps51
  go_wp2
  exact bodyPost_ret (v := .agg #[.int .i64 po, .int .i64 fr, .bool bk, .bool true]) (by simp [results, Try.results51, go_sem]) rfl ⟨⟨_, _, _, _, rfl, rfl⟩, below3m _ _ _⟩
theorem p_mv1 (n f t po fr st : Int) (bk dn : Bool) (w : World) (hr : Sm.Ring 1 f t n) (hn : n ≤ 268435456) (hc : dn = true ∨ (0 ≤ po ∧ po ≤ 4095 ∧ 0 ≤ fr ∧ fr ≤ 65535 ∧ po * 65536 + fr < n)) (s0 : 0 ≤ st) (s1 : st ≤ 536870912) :
    Calls Try.prog 51 #[.agg #[.int .i64 n, .int .i64 f, .int .i64 t, .func (.func 76) #[] #[], .func (.func 77) #[] #[]], .agg #[.int .i64 po, .int .i64 fr, .bool bk, .bool dn], .int .i64 st] w fun x w' => RetCur (Sm.gone 1 f t n ⟨po, fr, bk, dn⟩ st) x ∧ Below w.heap.size w w' := by
  cases dn with
  | true => exact p_moved_1 n f t po fr st bk w
  | false =>
    rcases hc with hc | ⟨c1, c2, c3, c4, c5⟩
    · cases hc
    cases bk with
    | false =>
      rw [show Sm.gone 1 f t n ⟨po, fr, false, false⟩ st = _ from Sm.fore_mv hr (x := po * 65536 + fr) (by omega) s0]
      by_cases hin : 0 ≤ Sm.fP 1 f t (po * 65536 + fr) st ∧ Sm.fP 1 f t (po * 65536 + fr) st < n
      · exact p_move_10i n f t po fr st _ _ w hr hn c1 c2 c3 c4 c5 s0 s1 ⟨rfl, rfl⟩ hin
      · exact p_move_10o n f t po fr st _ _ w hr hn c1 c2 c3 c4 c5 s0 s1 ⟨rfl, rfl⟩ (by omega)
    | true =>
      rw [show Sm.gone 1 f t n ⟨po, fr, true, false⟩ st = _ from Sm.aft_mv hr (x := po * 65536 + fr) c5 s0]
      by_cases hin : 0 ≤ Sm.aP 1 f t (po * 65536 + fr) st ∧ Sm.aP 1 f t (po * 65536 + fr) st < n
      · exact p_move_11i n f t po fr st _ _ w hr hn c1 c2 c3 c4 c5 s0 s1 ⟨rfl, rfl⟩ hin
      · exact p_move_11o n f t po fr st _ _ w hr hn c1 c2 c3 c4 c5 s0 s1 ⟨rfl, rfl⟩ (by omega)
theorem p_moved_2 (n f t po fr st : Int) (bk : Bool) (w : World) :
    Calls Try.prog 51 #[.agg #[.int .i64 n, .int .i64 f, .int .i64 t, .func (.func 78) #[] #[], .func (.func 79) #[] #[]], .agg #[.int .i64 po, .int .i64 fr, .bool bk, .bool true], .int .i64 st] w fun x w' => RetCur (Sm.gone 2 f t n ⟨po, fr, bk, true⟩ st) x ∧ Below w.heap.size w w' := by
  go_enter Try.func51, Try.ntmps51
  go_wp2
  exact bodyPost_ret (v := .agg #[.int .i64 po, .int .i64 fr, .bool bk, .bool true]) (by simp [results, Try.results51, go_sem]) rfl ⟨⟨_, _, _, _, rfl, rfl⟩, below3m _ _ _⟩
theorem p_mv2 (n f t po fr st : Int) (bk dn : Bool) (w : World) (hr : Sm.Ring 2 f t n) (hn : n ≤ 268435456) (hc : dn = true ∨ (0 ≤ po ∧ po ≤ 4095 ∧ 0 ≤ fr ∧ fr ≤ 65535 ∧ po * 65536 + fr < n)) (s0 : 0 ≤ st) (s1 : st ≤ 536870912) :
    Calls Try.prog 51 #[.agg #[.int .i64 n, .int .i64 f, .int .i64 t, .func (.func 78) #[] #[], .func (.func 79) #[] #[]], .agg #[.int .i64 po, .int .i64 fr, .bool bk, .bool dn], .int .i64 st] w fun x w' => RetCur (Sm.gone 2 f t n ⟨po, fr, bk, dn⟩ st) x ∧ Below w.heap.size w w' := by
  cases dn with
  | true => exact p_moved_2 n f t po fr st bk w
  | false =>
    rcases hc with hc | ⟨c1, c2, c3, c4, c5⟩
    · cases hc
    cases bk with
    | false =>
      rw [show Sm.gone 2 f t n ⟨po, fr, false, false⟩ st = _ from Sm.fore_mv hr (x := po * 65536 + fr) (by omega) s0]
      by_cases hin : 0 ≤ Sm.fP 2 f t (po * 65536 + fr) st ∧ Sm.fP 2 f t (po * 65536 + fr) st < n
      · exact p_move_20i n f t po fr st _ _ w hr hn c1 c2 c3 c4 c5 s0 s1 ⟨rfl, rfl⟩ hin
      · exact p_move_20o n f t po fr st _ _ w hr hn c1 c2 c3 c4 c5 s0 s1 ⟨rfl, rfl⟩ (by omega)
    | true =>
      rw [show Sm.gone 2 f t n ⟨po, fr, true, false⟩ st = _ from Sm.aft_mv hr (x := po * 65536 + fr) c5 s0]
      by_cases hin : 0 ≤ Sm.aP 2 f t (po * 65536 + fr) st ∧ Sm.aP 2 f t (po * 65536 + fr) st < n
      · exact p_move_21i n f t po fr st _ _ w hr hn c1 c2 c3 c4 c5 s0 s1 ⟨rfl, rfl⟩ hin
      · exact p_move_21o n f t po fr st _ _ w hr hn c1 c2 c3 c4 c5 s0 s1 ⟨rfl, rfl⟩ (by omega)
theorem p_vcur_d1 (n po fr : Int) (bk : Bool) (w : World) (h : (po == 0) = false) :
    Calls Try.prog 49 #[.agg #[.int .i64 po, .int .i64 fr, .bool bk, .bool true], .int .i64 n] w fun x w' => x = .returned (.bool false) ∧ Below w.heap.size w w' := by
  go_enter Try.func49, Try.ntmps49
  go_wp2_with (first | (go_at_call 39; ((with_reducible refine (p_within_yes _ _ _ _ (by assumption) (by assumption)).mono ?_); rintro x w' ⟨rfl, rfl⟩)) | (go_at_call 39; ((with_reducible refine (p_within_no _ _ _ _ HI.out).mono ?_); rintro x w' ⟨rfl, rfl⟩)))
  go_ret
  exact ⟨rfl, below_box _ _⟩
theorem p_vcur_d2 (n fr : Int) (bk : Bool) (w : World) (h : (fr == 0) = false) :
    Calls Try.prog 49 #[.agg #[.int .i64 0, .int .i64 fr, .bool bk, .bool true], .int .i64 n] w fun x w' => x = .returned (.bool false) ∧ Below w.heap.size w w' := by
  go_enter Try.func49, Try.ntmps49
  go_wp2_with (first | (go_at_call 39; ((with_reducible refine (p_within_yes _ _ _ _ (by assumption) (by assumption)).mono ?_); rintro x w' ⟨rfl, rfl⟩)) | (go_at_call 39; ((with_reducible refine (p_within_no _ _ _ _ HI.out).mono ?_); rintro x w' ⟨rfl, rfl⟩)))
  go_ret
  exact ⟨rfl, below_box _ _⟩
theorem p_vcur_d3 (n : Int) (w : World)  :
    Calls Try.prog 49 #[.agg #[.int .i64 0, .int .i64 0, .bool true, .bool true], .int .i64 n] w fun x w' => x = .returned (.bool false) ∧ Below w.heap.size w w' := by
  go_enter Try.func49, Try.ntmps49
  go_wp2_with (first | (go_at_call 39; ((with_reducible refine (p_within_yes _ _ _ _ (by assumption) (by assumption)).mono ?_); rintro x w' ⟨rfl, rfl⟩)) | (go_at_call 39; ((with_reducible refine (p_within_no _ _ _ _ HI.out).mono ?_); rintro x w' ⟨rfl, rfl⟩)))
  go_ret
  exact ⟨rfl, below_box _ _⟩
theorem p_vcur_d4 (n : Int) (w : World)  :
    Calls Try.prog 49 #[.agg #[.int .i64 0, .int .i64 0, .bool false, .bool true], .int .i64 n] w fun x w' => x = .returned (.bool true) ∧ Below w.heap.size w w' := by
  go_enter Try.func49, Try.ntmps49
  go_wp2_with (first | (go_at_call 39; ((with_reducible refine (p_within_yes _ _ _ _ (by assumption) (by assumption)).mono ?_); rintro x w' ⟨rfl, rfl⟩)) | (go_at_call 39; ((with_reducible refine (p_within_no _ _ _ _ HI.out).mono ?_); rintro x w' ⟨rfl, rfl⟩)))
  go_ret
  exact ⟨rfl, below_box _ _⟩
theorem p_vcur_y (n po fr : Int) (bk : Bool) (w : World) (n0 : 0 ≤ n) (n1 : n ≤ 4611686018427387904) (h1 : 0 ≤ po) (h2 : po ≤ n - 1) (h3 : 0 ≤ fr) (h4 : fr ≤ 65535) :
    Calls Try.prog 49 #[.agg #[.int .i64 po, .int .i64 fr, .bool bk, .bool false], .int .i64 n] w fun x w' => x = .returned (.bool true) ∧ Below w.heap.size w w' := by
  have _u := And.intro n0 n1
  go_enter Try.func49, Try.ntmps49
  go_wp2_with (first | (go_at_call 39; ((with_reducible refine (p_within_yes _ _ _ _ (by assumption) (by assumption)).mono ?_); rintro x w' ⟨rfl, rfl⟩)) | (go_at_call 39; ((with_reducible refine (p_within_no _ _ _ _ HI.out).mono ?_); rintro x w' ⟨rfl, rfl⟩)))
  go_ret
  exact ⟨rfl, below_box _ _⟩
theorem p_vcur_n1 (n po fr : Int) (bk : Bool) (w : World) (n0 : 0 ≤ n) (n1 : n ≤ 4611686018427387904) (h : po < 0 ∨ n - 1 < po) :
    Calls Try.prog 49 #[.agg #[.int .i64 po, .int .i64 fr, .bool bk, .bool false], .int .i64 n] w fun x w' => x = .returned (.bool false) ∧ Below w.heap.size w w' := by
  have _u := And.intro n0 n1
  have HI := Lib.hid h
  clear h
  go_enter Try.func49, Try.ntmps49
  go_wp2_with (first | (go_at_call 39; ((with_reducible refine (p_within_yes _ _ _ _ (by assumption) (by assumption)).mono ?_); rintro x w' ⟨rfl, rfl⟩)) | (go_at_call 39; ((with_reducible refine (p_within_no _ _ _ _ HI.out).mono ?_); rintro x w' ⟨rfl, rfl⟩)))
  go_ret
  exact ⟨rfl, below_box _ _⟩
theorem p_vcur_n2 (n po fr : Int) (bk : Bool) (w : World) (n0 : 0 ≤ n) (n1 : n ≤ 4611686018427387904) (h1 : 0 ≤ po) (h2 : po ≤ n - 1) (h : fr < 0 ∨ 65535 < fr) :
    Calls Try.prog 49 #[.agg #[.int .i64 po, .int .i64 fr, .bool bk, .bool false], .int .i64 n] w fun x w' => x = .returned (.bool false) ∧ Below w.heap.size w w' := by
  have _u := And.intro n0 n1
  have HI := Lib.hid h
  clear h
  go_enter Try.func49, Try.ntmps49
  go_wp2_with (first | (go_at_call 39; ((with_reducible refine (p_within_yes _ _ _ _ (by assumption) (by assumption)).mono ?_); rintro x w' ⟨rfl, rfl⟩)) | (go_at_call 39; ((with_reducible refine (p_within_no _ _ _ _ HI.out).mono ?_); rintro x w' ⟨rfl, rfl⟩)))
  go_ret
  exact ⟨rfl, below_box _ _⟩
theorem p_vcur (n po fr : Int) (bk dn : Bool) (w : World) (n0 : 0 ≤ n) (n1 : n ≤ 4611686018427387904) :
    Calls Try.prog 49 #[.agg #[.int .i64 po, .int .i64 fr, .bool bk, .bool dn], .int .i64 n] w fun x w' => x = .returned (.bool (std n po fr bk dn)) ∧ Below w.heap.size w w' := by
  cases dn with
  | true =>
    have HS : std n po fr bk true = decide (po = 0 ∧ fr = 0 ∧ bk = false) := by unfold std; rw [if_pos rfl]
    rw [HS]
    by_cases h1 : po = 0
    · subst h1
      by_cases h2 : fr = 0
      · subst h2
        cases bk
        · exact p_vcur_d4 n w
        · exact p_vcur_d3 n w
      · rw [decide_eq_false (by omega)]; exact p_vcur_d2 n fr bk w (by simpa using h2)
    · rw [decide_eq_false (by omega)]; exact p_vcur_d1 n po fr bk w (by simpa using h1)
  | false =>
    have HS : std n po fr bk false = decide (0 ≤ po ∧ po < n ∧ 0 ≤ fr ∧ fr ≤ 65535) := by unfold std; rw [if_neg (by simp)]
    rw [HS]
    by_cases h1 : 0 ≤ po ∧ po ≤ n - 1
    · by_cases h2 : 0 ≤ fr ∧ fr ≤ 65535
      · rw [decide_eq_true (by omega)]; exact p_vcur_y n po fr bk w n0 n1 h1.1 h1.2 h2.1 h2.2
      · rw [decide_eq_false (by omega)]; exact p_vcur_n2 n po fr bk w n0 n1 h1.1 h1.2 (by omega)
    · rw [decide_eq_false (by omega)]; exact p_vcur_n1 n po fr bk w n0 n1 (by omega)
theorem p_begin_back (s : Sm.Smp) (p : Option Addr) (cap : Nat) (o : Int) (w : World) (hm : s.name.size ≤ maxLen) (hd : DatAt w p s.dat) (hv : Sm.vld s = true) (h1 : 0 ≤ o) (h2 : o ≤ s.dat.length - 1) (h3 : (s.dat.length : Int) ≤ 4096) :
    Calls Try.prog 15 #[SV s p cap, .int .i64 o, .bool true] w fun x w' => RetCur (bgn s o true) x ∧ Below w.heap.size w w' := by
  have HE := Lib.hid (show bgn s o true = ⟨s.dat.length - 1 - o, 0, true, false⟩ by unfold bgn; rw [if_pos ⟨hv, h1, by omega⟩, if_pos rfl]; unfold Sm.curAt; rw [Int.mul_ediv_cancel _ (by omega), Int.mul_emod_left])
  unfold SV
  go_enter Try.func15, Try.ntmps15
  go_wp2_with (first | (go_at_call 13; refine (p_valid s p cap _ hm (hd.below (below2 w s p cap))).mono ?_; rintro x w1 ⟨rfl, hb1⟩; have HO1 := Lib.hid ((res_new w s p cap).kept hb1); obtain ⟨⟨r0, r1, r2, r3⟩, ⟨f0, f1, f2, f3⟩⟩ := HO1.out) | (go_at_call 39; ((with_reducible refine (p_within_yes _ _ _ _ h1 h2).mono ?_); rintro x w' ⟨rfl, rfl⟩)))
  exact bodyPost_ret (v := .agg #[.int .i64 (s.dat.length - 1 - o), .int .i64 0, .bool true, .bool false]) (by simp [results, Try.results15, go_sem, r0, r1, r2, r3]) rfl ⟨⟨_, _, _, _, rfl, HE.out⟩, end2 _ _ _ _ ((below2 w s p cap).trans (hb1.mono (by simp; omega)))⟩
theorem p_begin_fore (s : Sm.Smp) (p : Option Addr) (cap : Nat) (o : Int) (w : World) (hm : s.name.size ≤ maxLen) (hd : DatAt w p s.dat) (hv : Sm.vld s = true) (h1 : 0 ≤ o) (h2 : o ≤ s.dat.length - 1) (h3 : (s.dat.length : Int) ≤ 4096) :
    Calls Try.prog 15 #[SV s p cap, .int .i64 o, .bool false] w fun x w' => RetCur (bgn s o false) x ∧ Below w.heap.size w w' := by
  have HE := Lib.hid (show bgn s o false = ⟨o, 0, false, false⟩ by unfold bgn; rw [if_pos ⟨hv, h1, by omega⟩, if_neg (by simp)]; unfold Sm.curAt; rw [Int.mul_ediv_cancel _ (by omega), Int.mul_emod_left])
  unfold SV
  go_enter Try.func15, Try.ntmps15
  go_wp2_with (first | (go_at_call 13; refine (p_valid s p cap _ hm (hd.below (below2 w s p cap))).mono ?_; rintro x w1 ⟨rfl, hb1⟩; have HO1 := Lib.hid ((res_new w s p cap).kept hb1); obtain ⟨⟨r0, r1, r2, r3⟩, ⟨f0, f1, f2, f3⟩⟩ := HO1.out) | (go_at_call 39; ((with_reducible refine (p_within_yes _ _ _ _ h1 h2).mono ?_); rintro x w' ⟨rfl, rfl⟩)))
  exact bodyPost_ret (v := .agg #[.int .i64 o, .int .i64 0, .bool false, .bool false]) (by simp [results, Try.results15, go_sem, r0, r1, r2, r3]) rfl ⟨⟨_, _, _, _, rfl, HE.out⟩, end2 _ _ _ _ ((below2 w s p cap).trans (hb1.mono (by simp; omega)))⟩
theorem p_begin_bad (s : Sm.Smp) (p : Option Addr) (cap : Nat) (o : Int) (w : World) (hm : s.name.size ≤ maxLen) (hd : DatAt w p s.dat) (b : Bool) (h3 : (s.dat.length : Int) ≤ 9223372036854775807) (hv : Sm.vld s = false) :
    Calls Try.prog 15 #[SV s p cap, .int .i64 o, .bool b] w fun x w' => RetCur (bgn s o b) x ∧ Below w.heap.size w w' := by
  have HE := Lib.hid (show bgn s o b = Sm.over by unfold bgn; rw [if_neg (by simp [hv])])
  unfold SV
  go_enter Try.func15, Try.ntmps15
  go_wp2_with (first | (go_at_call 13; refine (p_valid s p cap _ hm (hd.below (below2 w s p cap))).mono ?_; rintro x w1 ⟨rfl, hb1⟩; have HO1 := Lib.hid ((res_new w s p cap).kept hb1); obtain ⟨⟨r0, r1, r2, r3⟩, ⟨f0, f1, f2, f3⟩⟩ := HO1.out))
  exact bodyPost_ret (v := .agg #[.int .i64 0, .int .i64 0, .bool false, .bool true]) (by simp [results, Try.results15, go_sem, r0, r1, r2, r3]) rfl ⟨⟨_, _, _, _, rfl, HE.out⟩, end2 _ _ _ _ ((below2 w s p cap).trans (hb1.mono (by simp; omega)))⟩
theorem p_begin_out (s : Sm.Smp) (p : Option Addr) (cap : Nat) (o : Int) (w : World) (hm : s.name.size ≤ maxLen) (hd : DatAt w p s.dat) (b : Bool) (hv : Sm.vld s = true) (h3 : (s.dat.length : Int) ≤ 4096) (h : o < 0 ∨ s.dat.length - 1 < o) :
    Calls Try.prog 15 #[SV s p cap, .int .i64 o, .bool b] w fun x w' => RetCur (bgn s o b) x ∧ Below w.heap.size w w' := by
  have HE := Lib.hid (show bgn s o b = Sm.over by unfold bgn; rw [if_neg (by omega)])
  have HI := Lib.hid h
  clear h
  unfold SV
  go_enter Try.func15, Try.ntmps15
  go_wp2_with (first | (go_at_call 13; refine (p_valid s p cap _ hm (hd.below (below2 w s p cap))).mono ?_; rintro x w1 ⟨rfl, hb1⟩; have HO1 := Lib.hid ((res_new w s p cap).kept hb1); obtain ⟨⟨r0, r1, r2, r3⟩, ⟨f0, f1, f2, f3⟩⟩ := HO1.out) | (go_at_call 39; ((with_reducible refine (p_within_no _ _ _ _ HI.out).mono ?_); rintro x w' ⟨rfl, rfl⟩)))
  exact bodyPost_ret (v := .agg #[.int .i64 0, .int .i64 0, .bool false, .bool true]) (by simp [results, Try.results15, go_sem, r0, r1, r2, r3]) rfl ⟨⟨_, _, _, _, rfl, HE.out⟩, end2 _ _ _ _ ((below2 w s p cap).trans (hb1.mono (by simp; omega)))⟩
theorem p_begin (s : Sm.Smp) (p : Option Addr) (cap : Nat) (o : Int) (b : Bool) (w : World) (hm : s.name.size ≤ maxLen) (hd : DatAt w p s.dat) (h3 : (s.dat.length : Int) ≤ 9223372036854775807) :
    Calls Try.prog 15 #[SV s p cap, .int .i64 o, .bool b] w fun x w' => RetCur (bgn s o b) x ∧ Below w.heap.size w w' := by
  by_cases hv : Sm.vld s = true
  · have hl := vld_len hv
    by_cases h1 : 0 ≤ o ∧ o ≤ s.dat.length - 1
    · cases b
      · exact p_begin_fore s p cap o w hm hd hv h1.1 h1.2 hl
      · exact p_begin_back s p cap o w hm hd hv h1.1 h1.2 hl
    · exact p_begin_out s p cap o w hm hd b hv hl (by omega)
  · exact p_begin_bad s p cap o w hm hd b h3 (by simpa using hv)
end Go.Proofs.Ytmaldhjcdkidmaa

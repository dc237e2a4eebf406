/-
  Contracts of package pattern's ValidCell and Valid, with the library's slices.IndexFunc and slices.ContainsFunc at cells; nothing that was there is changed.
-/
import Derived.Test.YtfjfnbeegojlbaaDoorPNum
namespace Go.Proofs.YtfjfnbeegojlbaaDoor
open Go.RowKit

theorem zro_set {c a : Int} (h : (c != 0) = true) : Pt.zro c a = true := by
  unfold Pt.zro
  exact decide_eq_true (.inl (by simpa using h))
theorem zro_not {c a : Int} (h : (c != 0) = false) : Pt.zro c a = (a == 0) := by
  obtain rfl : c = 0 := by simpa using h
  unfold Pt.zro
  by_cases e : a = 0
  · subst e; rfl
  · rw [decide_eq_false (by simpa using e), beq_eq_false_iff_ne.2 e]
theorem zro_ways (c a : Int) (v : Bool) (h : Pt.zro c a = v) : ((c != 0) = true ∧ v = true) ∨ ((c != 0) = false ∧ (a == 0) = v) := by
  cases e : c != 0 with
  | true => exact .inl ⟨rfl, by rw [← h, zro_set e]⟩
  | false => exact .inr ⟨rfl, by rw [← h, zro_not e]⟩
set_option maxRecDepth 20000 in
set_option maxHeartbeats 6400000 in
theorem p_ValidCell (c : Pt.Cl) (w : World) :
    Calls Tryd.prog 6 #[.agg (CL c).toArray] w fun x w' => x = .returned (.bool (Pt.vcl c)) ∧ Below w.heap.size w w' := by
  rw [cl_arr]
  cases h0 : Pt.vnt c.nt with
  | false =>
    have HV := Lib.hid (show Pt.vcl c = false by unfold Pt.vcl; rw [h0]; rfl)
    have C0 := Lib.hid (fun w => show Calls _ _ _ w fun x w' => x = .returned (.bool false) ∧ w = w' from h0 ▸ p_validNote c.nt w)
    clear h0
    go_enter Tryd.func6, Tryd.ntmps6
    go_wp2_with (first | (go_at_call 16; ((with_reducible refine (C0.out _).mono ?_); rintro x' w1 ⟨rfl, rfl⟩)))
    go_ret
    exact ⟨ret_bool HV.out.symm, below_box _ _⟩
  | true =>
    have C0 := Lib.hid (fun w => show Calls _ _ _ w fun x w' => x = .returned (.bool true) ∧ w = w' from h0 ▸ p_validNote c.nt w)
    cases h1 : Pt.wth c.it 0 31 with
    | false =>
      have HV := Lib.hid (show Pt.vcl c = false by unfold Pt.vcl; rw [h0, h1]; rfl)
      have C1 := Lib.hid (fun w => p_within_v c.it 0 31 w h1)
      clear h0 h1
      go_enter Tryd.func6, Tryd.ntmps6
      go_wp2_with (first | (go_at_call 16; ((with_reducible refine (C0.out _).mono ?_); rintro x' w1 ⟨rfl, rfl⟩)) | (go_at_call 17; ((with_reducible refine (C1.out _).mono ?_); rintro x' w1 ⟨rfl, rfl⟩)))
      go_ret
      exact ⟨ret_bool HV.out.symm, below_box _ _⟩
    | true =>
      have C1 := Lib.hid (fun w => p_within_v c.it 0 31 w h1)
      cases h2 : Pt.wth c.vc 0 12 with
      | false =>
        have HV := Lib.hid (show Pt.vcl c = false by unfold Pt.vcl; rw [h0, h1, h2]; rfl)
        have C2 := Lib.hid (fun w => p_within_v c.vc 0 12 w h2)
        clear h0 h1 h2
        go_enter Tryd.func6, Tryd.ntmps6
        go_wp2_with (first | (go_at_call 16; ((with_reducible refine (C0.out _).mono ?_); rintro x' w1 ⟨rfl, rfl⟩)) | (go_at_call 17; ((with_reducible refine (C1.out _).mono ?_); rintro x' w1 ⟨rfl, rfl⟩)) | (go_at_call 17; ((with_reducible refine (C2.out _).mono ?_); rintro x' w1 ⟨rfl, rfl⟩)))
        go_ret
        exact ⟨ret_bool HV.out.symm, below_box _ _⟩
      | true =>
        have C2 := Lib.hid (fun w => p_within_v c.vc 0 12 w h2)
        cases h3 : Pt.wth c.va 0 99 with
        | false =>
          have HV := Lib.hid (show Pt.vcl c = false by unfold Pt.vcl; rw [h0, h1, h2, h3]; rfl)
          have C3 := Lib.hid (fun w => p_within_v c.va 0 99 w h3)
          clear h0 h1 h2 h3
          go_enter Tryd.func6, Tryd.ntmps6
          go_wp2_with (first | (go_at_call 16; ((with_reducible refine (C0.out _).mono ?_); rintro x' w1 ⟨rfl, rfl⟩)) | (go_at_call 17; ((with_reducible refine (C1.out _).mono ?_); rintro x' w1 ⟨rfl, rfl⟩)) | (go_at_call 17; ((with_reducible refine (C2.out _).mono ?_); rintro x' w1 ⟨rfl, rfl⟩)) | (go_at_call 17; ((with_reducible refine (C3.out _).mono ?_); rintro x' w1 ⟨rfl, rfl⟩)))
          go_ret
          exact ⟨ret_bool HV.out.symm, below_box _ _⟩
        | true =>
          have C3 := Lib.hid (fun w => p_within_v c.va 0 99 w h3)
          cases h4 : Pt.zro c.vc c.va with
          | false =>
            have HV := Lib.hid (show Pt.vcl c = false by unfold Pt.vcl; rw [h0, h1, h2, h3, h4]; rfl)
            obtain ⟨e4, f4⟩ | ⟨e4, f4⟩ := zro_ways _ _ _ h4
            · exact absurd f4 (by simp)
            clear h0 h1 h2 h3 h4
            go_enter Tryd.func6, Tryd.ntmps6
            go_wp2_with (first | (go_at_call 16; ((with_reducible refine (C0.out _).mono ?_); rintro x' w1 ⟨rfl, rfl⟩)) | (go_at_call 17; ((with_reducible refine (C1.out _).mono ?_); rintro x' w1 ⟨rfl, rfl⟩)) | (go_at_call 17; ((with_reducible refine (C2.out _).mono ?_); rintro x' w1 ⟨rfl, rfl⟩)) | (go_at_call 17; ((with_reducible refine (C3.out _).mono ?_); rintro x' w1 ⟨rfl, rfl⟩)))
            go_ret
            exact ⟨ret_bool HV.out.symm, below_box _ _⟩
          | true =>
            have e4 := zro_ways _ _ _ h4
            cases h5 : Pt.wth c.ef 0 36 with
            | false =>
              have HV := Lib.hid (show Pt.vcl c = false by unfold Pt.vcl; rw [h0, h1, h2, h3, h4, h5]; rfl)
              have C5 := Lib.hid (fun w => p_within_v c.ef 0 36 w h5)
              clear h0 h1 h2 h3 h4 h5
              rcases e4 with ⟨e4, -⟩ | ⟨e4, f4⟩
              all_goals
                go_enter Tryd.func6, Tryd.ntmps6
                go_wp2_with (first | (go_at_call 16; ((with_reducible refine (C0.out _).mono ?_); rintro x' w1 ⟨rfl, rfl⟩)) | (go_at_call 17; ((with_reducible refine (C1.out _).mono ?_); rintro x' w1 ⟨rfl, rfl⟩)) | (go_at_call 17; ((with_reducible refine (C2.out _).mono ?_); rintro x' w1 ⟨rfl, rfl⟩)) | (go_at_call 17; ((with_reducible refine (C3.out _).mono ?_); rintro x' w1 ⟨rfl, rfl⟩)) | (go_at_call 17; ((with_reducible refine (C5.out _).mono ?_); rintro x' w1 ⟨rfl, rfl⟩)))
                go_ret
                exact ⟨ret_bool HV.out.symm, below_box _ _⟩
            | true =>
              have C5 := Lib.hid (fun w => p_within_v c.ef 0 36 w h5)
              cases h6 : Pt.wth c.pa 0 255 with
              | false =>
                have HV := Lib.hid (show Pt.vcl c = false by unfold Pt.vcl; rw [h0, h1, h2, h3, h4, h5, h6]; rfl)
                have C6 := Lib.hid (fun w => p_within_v c.pa 0 255 w h6)
                clear h0 h1 h2 h3 h4 h5 h6
                rcases e4 with ⟨e4, -⟩ | ⟨e4, f4⟩
                all_goals
                  go_enter Tryd.func6, Tryd.ntmps6
                  go_wp2_with (first | (go_at_call 16; ((with_reducible refine (C0.out _).mono ?_); rintro x' w1 ⟨rfl, rfl⟩)) | (go_at_call 17; ((with_reducible refine (C1.out _).mono ?_); rintro x' w1 ⟨rfl, rfl⟩)) | (go_at_call 17; ((with_reducible refine (C2.out _).mono ?_); rintro x' w1 ⟨rfl, rfl⟩)) | (go_at_call 17; ((with_reducible refine (C3.out _).mono ?_); rintro x' w1 ⟨rfl, rfl⟩)) | (go_at_call 17; ((with_reducible refine (C5.out _).mono ?_); rintro x' w1 ⟨rfl, rfl⟩)) | (go_at_call 17; ((with_reducible refine (C6.out _).mono ?_); rintro x' w1 ⟨rfl, rfl⟩)))
                  go_ret
                  exact ⟨ret_bool HV.out.symm, below_box _ _⟩
              | true =>
                have C6 := Lib.hid (fun w => p_within_v c.pa 0 255 w h6)
                cases h7 : Pt.zro c.ef c.pa with
                | false =>
                  have HV := Lib.hid (show Pt.vcl c = false by unfold Pt.vcl; rw [h0, h1, h2, h3, h4, h5, h6, h7]; rfl)
                  obtain ⟨e7, f7⟩ | ⟨e7, f7⟩ := zro_ways _ _ _ h7
                  · exact absurd f7 (by simp)
                  clear h0 h1 h2 h3 h4 h5 h6 h7
                  rcases e4 with ⟨e4, -⟩ | ⟨e4, f4⟩
                  all_goals
                    go_enter Tryd.func6, Tryd.ntmps6
                    go_wp2_with (first | (go_at_call 16; ((with_reducible refine (C0.out _).mono ?_); rintro x' w1 ⟨rfl, rfl⟩)) | (go_at_call 17; ((with_reducible refine (C1.out _).mono ?_); rintro x' w1 ⟨rfl, rfl⟩)) | (go_at_call 17; ((with_reducible refine (C2.out _).mono ?_); rintro x' w1 ⟨rfl, rfl⟩)) | (go_at_call 17; ((with_reducible refine (C3.out _).mono ?_); rintro x' w1 ⟨rfl, rfl⟩)) | (go_at_call 17; ((with_reducible refine (C5.out _).mono ?_); rintro x' w1 ⟨rfl, rfl⟩)) | (go_at_call 17; ((with_reducible refine (C6.out _).mono ?_); rintro x' w1 ⟨rfl, rfl⟩)))
                    go_ret
                    exact ⟨ret_bool HV.out.symm, below_box _ _⟩
                | true =>
                  have e7 := zro_ways _ _ _ h7
                  have HV := Lib.hid (show Pt.vcl c = true by unfold Pt.vcl; rw [h0, h1, h2, h3, h4, h5, h6, h7]; rfl)
                  clear h0 h1 h2 h3 h4 h5 h6 h7
                  rcases e4 with ⟨e4, -⟩ | ⟨e4, f4⟩ <;> rcases e7 with ⟨e7, -⟩ | ⟨e7, f7⟩
                  all_goals
                    go_enter Tryd.func6, Tryd.ntmps6
                    go_wp2_with (first | (go_at_call 16; ((with_reducible refine (C0.out _).mono ?_); rintro x' w1 ⟨rfl, rfl⟩)) | (go_at_call 17; ((with_reducible refine (C1.out _).mono ?_); rintro x' w1 ⟨rfl, rfl⟩)) | (go_at_call 17; ((with_reducible refine (C2.out _).mono ?_); rintro x' w1 ⟨rfl, rfl⟩)) | (go_at_call 17; ((with_reducible refine (C3.out _).mono ?_); rintro x' w1 ⟨rfl, rfl⟩)) | (go_at_call 17; ((with_reducible refine (C5.out _).mono ?_); rintro x' w1 ⟨rfl, rfl⟩)) | (go_at_call 17; ((with_reducible refine (C6.out _).mono ?_); rintro x' w1 ⟨rfl, rfl⟩)))
                    go_ret
                    exact ⟨ret_bool HV.out.symm, below_box _ _⟩
end Go.Proofs.YtfjfnbeegojlbaaDoor

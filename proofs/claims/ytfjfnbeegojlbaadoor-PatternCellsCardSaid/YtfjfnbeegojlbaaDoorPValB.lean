/-
  The library's slices.IndexFunc and slices.ContainsFunc at cells, and package pattern's Valid.
-/
import Derived.Test.YtfjfnbeegojlbaaDoorPVal
namespace Go.Proofs.YtfjfnbeegojlbaaDoor
open Go.RowKit

theorem p_lit (c : Pt.Cl) (w : World) :
    Calls Tryd.prog 62 #[.agg (CL c).toArray] w fun x w' => x = .returned (.bool (!Pt.vcl c)) ∧ Below w.heap.size w w' := by
  have C := Lib.hid (fun w => p_ValidCell c w)
  obtain ⟨v, hv⟩ : ∃ v, Pt.vcl c = v := ⟨_, rfl⟩
  rw [hv] at C ⊢
  clear hv
  have HR := Lib.hid (fun (w : World) => range_box w (CL c) 23)
  go_enter Tryd.func62, Tryd.ntmps62
  go_wp2_with (first | (refine ld_cell (by rfl) _ rfl rfl (HR.out _) ?_) | (go_at_call 6; ((with_reducible refine (C.out _).mono ?_); rintro x' w1 ⟨rfl, hb1⟩)))
  go_ret
  exact ⟨rfl, stepB (below_box _ _) hb1⟩
set_option maxHeartbeats 1600000 in
theorem p_index (l : List Pt.Cl) (p : Option Addr) (cap : Nat) (w : World) (hd : CellsAt w p l) (hl : (l.length : Int) ≤ 1024) :
    Calls Tryd.prog 69 #[.slice p l.length cap, .func (.func 62) #[] #[]] w fun x w' => (∃ z, x = .returned (.int .i64 z) ∧ Hid (decide (0 ≤ z) = !Pt.all l)) ∧ Below w.heap.size w w' := by
  have HD := Lib.hid hd
  clear hd
  go_enter Tryd.func69, Tryd.ntmps69
  go_wp2
  go_loopw [8] (fun i wr => ∃ k : Nat, k ≤ l.length ∧ i = .int .i64 k ∧ Hid (∀ j, j < k → Pt.vcl (Pt.at' l j) = true) ∧ Hid (Below w.heap.size w wr)) (fun i _ => l.length - (intOf i).toNat)
  case atStart => exact ⟨0, by omega, rfl, fun _ h => by omega, Below.refl _ _⟩
  case round =>
    obtain ⟨k, hk, rfl, HN, HB⟩ := hrel
    by_cases hlt : k < l.length
    · obtain ⟨b, off, hp, _, hr⟩ := (HD.out.below HB.out).at hlt
      subst hp
      have HR := Lib.hid hr
      clear hr
      obtain ⟨c, hc⟩ : ∃ c, Pt.at' l k = c := ⟨_, rfl⟩
      have C := Lib.hid (fun w => p_lit c w)
      rw [hc] at HR
      obtain ⟨v, hv⟩ : ∃ v, Pt.vcl c = v := ⟨_, rfl⟩
      have HV := Lib.hid (show Pt.vcl (Pt.at' l k) = v by rw [hc]; exact hv)
      rw [hv] at C
      clear hv hc
      cases v
      · have HE := Lib.hid (show decide (0 ≤ (k : Int)) = !Pt.all l by rw [Pt.all_bad k hlt HV.out]; exact decide_eq_true (by omega))
        go_wp2_with (first | (refine ld_cell (by rfl) _ rfl rfl HR.out ?_) | (go_at_call 62; ((with_reducible refine (C.out _).mono ?_); rintro x' w1 ⟨rfl, hb1⟩)))
        go_ret
        exact ⟨⟨_, rfl, HE.out⟩, stepB HB.out hb1⟩
      · go_wp2_with (first | (refine ld_cell (by rfl) _ rfl rfl HR.out ?_) | (go_at_call 62; ((with_reducible refine (C.out _).mono ?_); rintro x' w1 ⟨rfl, hb1⟩)))
        go_roundw
        case rel => exact ⟨k + 1, by omega, by go_num, fun j hj => by
          by_cases e : j = k
          · subst e; exact HV.out
          · exact HN.out j (by omega), stepB HB.out hb1⟩
        case measure => simp [intOf]; omega
    · have HE := Lib.hid (show decide ((0 : Int) ≤ -1) = !Pt.all l by rw [Pt.all_mk fun j hj => HN.out j (by omega)]; rfl)
      go_wp2
      go_ret
      exact ⟨⟨_, rfl, HE.out⟩, HB.out⟩
theorem p_anybad (l : List Pt.Cl) (p : Option Addr) (cap : Nat) (w : World) (hd : CellsAt w p l) (hl : (l.length : Int) ≤ 1024) :
    Calls Tryd.prog 61 #[.slice p l.length cap, .func (.func 62) #[] #[]] w fun x w' => x = .returned (.bool (!Pt.all l)) ∧ Below w.heap.size w w' := by
  have C := Lib.hid (p_index l p cap w hd hl)
  clear hd
  obtain ⟨v, hv⟩ : ∃ v, (!Pt.all l) = v := ⟨_, rfl⟩
  rw [hv] at C ⊢
  clear hv
  go_enter Tryd.func61, Tryd.ntmps61
  go_wp2_with (first | (go_at_call 69; ((with_reducible refine (C.out).mono ?_); rintro x' w1 ⟨⟨z, rfl, HZ⟩, hb1⟩)))
  go_ret
  exact ⟨ret_bool HZ.out, hb1⟩
set_option maxHeartbeats 1600000 in
theorem p_Valid (r : Int) (l : List Pt.Cl) (p : Option Addr) (cap : Nat) (ch : Int) (w : World) (hd : CellsAt w p l) :
    Calls Tryd.prog 48 #[PV r p l.length cap, .int .i64 ch] w fun x w' => x = .returned (.bool (Pt.vpat r l ch)) ∧ Below w.heap.size w w' := by
  have C1 := Lib.hid (fun w => p_validChannels ch w)
  have C2 := Lib.hid (fun w => p_validRows r w)
  unfold PV
  cases h1 : Pt.wth ch 1 16 with
  | false =>
    have HE := Lib.hid (show Pt.vpat r l ch = false by unfold Pt.vpat; rw [h1]; rfl)
    rw [h1] at C1
    clear h1 C2 hd
    go_enter Tryd.func48, Tryd.ntmps48
    go_wp2_with (first | (go_at_call 59; ((with_reducible refine (C1.out _).mono ?_); rintro x' w1 ⟨rfl, rfl⟩)))
    go_ret
    exact ⟨ret_bool HE.out.symm, below_box _ _⟩
  | true =>
    cases h2 : Pt.wth r 1 64 with
    | false =>
      have HE := Lib.hid (show Pt.vpat r l ch = false by unfold Pt.vpat; rw [h1, h2]; rfl)
      rw [h1] at C1
      rw [h2] at C2
      clear h1 h2 hd
      go_enter Tryd.func48, Tryd.ntmps48
      go_wp2_with (first | (go_at_call 59; ((with_reducible refine (C1.out _).mono ?_); rintro x' w1 ⟨rfl, rfl⟩)) | (go_at_call 60; ((with_reducible refine (C2.out _).mono ?_); rintro x' w1 ⟨rfl, rfl⟩)))
      go_ret
      exact ⟨ret_bool HE.out.symm, below_box _ _⟩
    | true =>
      have hm : 1 ≤ r * ch ∧ r * ch ≤ 1024 := by
        obtain ⟨a1, a2⟩ := Pt.wth_iff.1 h1
        obtain ⟨b1, b2⟩ := Pt.wth_iff.1 h2
        obtain ⟨R, rfl⟩ : ∃ R : Nat, r = R := ⟨r.toNat, by omega⟩
        obtain ⟨C, rfl⟩ : ∃ C : Nat, ch = C := ⟨ch.toNat, by omega⟩
        have h1 := Pt.rc_bound (R := R) (C := C) (by omega) (by omega)
        have h2 := Nat.mul_le_mul (show 1 ≤ R by omega) (show 1 ≤ C by omega)
        rw [← Int.natCast_mul]
        omega
      by_cases h3 : (l.length : Int) = r * ch
      · have HE := Lib.hid (show Pt.vpat r l ch = Pt.all l by unfold Pt.vpat; rw [h1, h2, decide_eq_true h3]; rfl)
        rw [h1] at C1
        rw [h2] at C2
        have C3 := Lib.hid (fun u (hu : Below w.heap.size w u) => p_anybad l p cap u (hd.below hu) (by omega))
        obtain ⟨v, hv⟩ : ∃ v, Pt.all l = v := ⟨_, rfl⟩
        rw [hv] at C3 HE
        obtain ⟨m, hm0⟩ : ∃ m, r * ch = m := ⟨_, rfl⟩
        obtain ⟨n, hn0⟩ : ∃ n, l.length = n := ⟨_, rfl⟩
        rw [hn0] at C3 h3 ⊢
        rw [hm0] at h3 hm
        have hz : ((n : Int) == m) = true := by rw [h3]; simp
        have HB := Lib.hid (below_box w (.cells #[.int .i64 r, .slice p n cap] 59))
        clear h1 h2 hd hv hn0 h3
        go_enter Tryd.func48, Tryd.ntmps48
        go_wp2_with (first | (go_at_call 59; ((with_reducible refine (C1.out _).mono ?_); rintro x' w1 ⟨rfl, rfl⟩)) | (go_at_call 60; ((with_reducible refine (C2.out _).mono ?_); rintro x' w1 ⟨rfl, rfl⟩)) | (go_at_call 61; ((with_reducible refine (C3.out _ HB.out).mono ?_); rintro x' w1 ⟨rfl, hb1⟩)))
        go_ret
        exact ⟨ret_bool (by rw [HE.out]), stepB HB.out hb1⟩
      · have HE := Lib.hid (show Pt.vpat r l ch = false by unfold Pt.vpat; rw [h1, h2, decide_eq_false h3]; rfl)
        rw [h1] at C1
        rw [h2] at C2
        obtain ⟨m, hm0⟩ : ∃ m, r * ch = m := ⟨_, rfl⟩
        obtain ⟨n, hn0⟩ : ∃ n, l.length = n := ⟨_, rfl⟩
        rw [hn0] at h3 ⊢
        rw [hm0] at h3 hm
        have hz : ((n : Int) == m) = false := beq_eq_false_iff_ne.2 h3
        clear h1 h2 hd hn0 h3
        go_enter Tryd.func48, Tryd.ntmps48
        go_wp2_with (first | (go_at_call 59; ((with_reducible refine (C1.out _).mono ?_); rintro x' w1 ⟨rfl, rfl⟩)) | (go_at_call 60; ((with_reducible refine (C2.out _).mono ?_); rintro x' w1 ⟨rfl, rfl⟩)))
        go_ret
        exact ⟨ret_bool HE.out.symm, below_box _ _⟩
theorem p_Valid_v {r : Int} {l : List Pt.Cl} {p : Option Addr} {cap : Nat} {ch : Int} {w : World} (hd : CellsAt w p l) {v : Bool} (h : Pt.vpat r l ch = v) :
    Calls Tryd.prog 48 #[PV r p l.length cap, .int .i64 ch] w fun x w' => x = .returned (.bool v) ∧ Below w.heap.size w w' := h ▸ p_Valid r l p cap ch w hd
end Go.Proofs.YtfjfnbeegojlbaaDoor

/-
  Contracts of package sample's firstLoop, secondLoop, validLoop and Valid: for any sample, what the call returns; nothing that was there is changed.
-/
import Derived.Test.YtmaldhjcdkidmaaPVal
import Derived.Test.YtmaldhjcdkidmaaLex
import Derived.Deep.RegionHeld3
import Derived.Deep.DeepCutAuto
namespace Go.Proofs.Ytmaldhjcdkidmaa
open Go.RowKit

theorem p_first (s : Sm.Smp) (p : Option Addr) (cap : Nat) (w : World) :
    Calls Try.prog 41 #[SV s p cap] w fun x w' => x = .returned (.agg #[.int .i64 s.loop, .int .i64 s.start, .int .i64 s.fin]) ∧ Below w.heap.size w w' := by
  unfold SV
  go_enter Try.func41, Try.ntmps41
  go_wp2
  exact bodyPost_ret (v := .agg #[.int .i64 s.loop, .int .i64 s.start, .int .i64 s.fin]) (by simp [results, Try.results41, go_sem]) rfl ⟨rfl, ((Below.refl _ _).alloc (Nat.le_refl _) _).alloc (by simp) _⟩
theorem p_second (s : Sm.Smp) (p : Option Addr) (cap : Nat) (w : World) :
    Calls Try.prog 42 #[SV s p cap] w fun x w' => x = .returned (.agg #[.int .i64 s.sus, .int .i64 s.sstart, .int .i64 s.sfin]) ∧ Below w.heap.size w w' := by
  unfold SV
  go_enter Try.func42, Try.ntmps42
  go_wp2
  exact bodyPost_ret (v := .agg #[.int .i64 s.sus, .int .i64 s.sstart, .int .i64 s.sfin]) (by simp [results, Try.results42, go_sem]) rfl ⟨rfl, ((Below.refl _ _).alloc (Nat.le_refl _) _).alloc (by simp) _⟩
theorem p_loop (k s e n : Int) (w : World) :
    Calls Try.prog 40 #[.agg #[.int .i64 k, .int .i64 s, .int .i64 e], .int .i64 n] w fun x w' => x = .returned (.bool (Sm.lpd k s e n)) ∧ Below w.heap.size w w' := by
  by_cases h0 : k = 0
  · subst h0
    by_cases hs : s = 0
    · by_cases he : e = 0
      · have HB := Lib.hid (show Sm.lpd 0 s e n = true by rw [lpd_zero]; exact decide_eq_true ⟨hs, he⟩)
        go_enter Try.func40, Try.ntmps40
        go_wp2
        go_ret
        exact ⟨ret_bool HB.out.symm, below_box _ _⟩
      · have HB := Lib.hid (show Sm.lpd 0 s e n = false by rw [lpd_zero]; exact decide_eq_false (by omega))
        have he' : (e == 0) = false := by simpa using he
        go_enter Try.func40, Try.ntmps40
        go_wp2
        go_ret
        exact ⟨ret_bool HB.out.symm, below_box _ _⟩
    · have HB := Lib.hid (show Sm.lpd 0 s e n = false by rw [lpd_zero]; exact decide_eq_false (by omega))
      have hs' : (s == 0) = false := by simpa using hs
      go_enter Try.func40, Try.ntmps40
      go_wp2
      go_ret
      exact ⟨ret_bool HB.out.symm, below_box _ _⟩
  by_cases h1 : k = 1 ∨ k = 2
  · by_cases ha : 0 ≤ s
    · by_cases hb : s < e
      · by_cases hc : e ≤ n
        · have HB := Lib.hid (show Sm.lpd k s e n = true by rw [lpd_one h1]; exact decide_eq_true ⟨ha, hb, hc⟩)
          rcases h1 with rfl | rfl
          all_goals
            go_enter Try.func40, Try.ntmps40
            go_wp2
            go_ret
            exact ⟨ret_bool HB.out.symm, below_box _ _⟩
        · have HB := Lib.hid (show Sm.lpd k s e n = false by rw [lpd_one h1]; exact decide_eq_false (by omega))
          have hc' : decide (e ≤ n) = false := decide_eq_false hc
          rcases h1 with rfl | rfl
          all_goals
            go_enter Try.func40, Try.ntmps40
            go_wp2
            go_ret
            exact ⟨ret_bool HB.out.symm, below_box _ _⟩
      · have HB := Lib.hid (show Sm.lpd k s e n = false by rw [lpd_one h1]; exact decide_eq_false (by omega))
        have hb' : decide (s < e) = false := decide_eq_false hb
        rcases h1 with rfl | rfl
        all_goals
          go_enter Try.func40, Try.ntmps40
          go_wp2
          go_ret
          exact ⟨ret_bool HB.out.symm, below_box _ _⟩
    · have HB := Lib.hid (show Sm.lpd k s e n = false by rw [lpd_one h1]; exact decide_eq_false (by omega))
      have ha' : decide (0 ≤ s) = false := decide_eq_false ha
      rcases h1 with rfl | rfl
      all_goals
        go_enter Try.func40, Try.ntmps40
        go_wp2
        go_ret
        exact ⟨ret_bool HB.out.symm, below_box _ _⟩
  · have HB := Lib.hid (lpd_else (s := s) (e := e) (n := n) h0 (by omega) (by omega))
    have h2 : k ≠ 1 := by omega
    have h3 : k ≠ 2 := by omega
    go_enter Try.func40, Try.ntmps40
    go_wp2
    go_ret
    exact ⟨ret_bool HB.out.symm, below_box _ _⟩
theorem p_name_v (s : ByteArray) (w : World) {v : Bool} (hm : s.size ≤ maxLen) (h : Sm.nmd s = v) :
    Calls Try.prog 37 #[.string s] w fun x w' => x = .returned (.bool v) ∧ w = w' := h ▸ p_name s w hm
theorem p_loop_v (k s e n : Int) (w : World) {v : Bool} (h : Sm.lpd k s e n = v) :
    Calls Try.prog 40 #[.agg #[.int .i64 k, .int .i64 s, .int .i64 e], .int .i64 n] w fun x w' => x = .returned (.bool v) ∧ Below w.heap.size w w' := h ▸ p_loop k s e n w
/-- What stays of a sample's block. -/
theorem heldK {W : World} {b : Nat} {s : Sm.Smp} {p : Option Addr} {cap : Nat} (hb : b < W.heap.size) (hc : Hid (Boxed W b s p cap)) : (∀ u : Kin W, u.w.cell? ⟨b, 0, none⟩ = some (.string s.name)) ∧ (∀ u : Kin W, u.w.cell? ⟨b, 1, none⟩ = some (.slice p s.dat.length cap)) ∧ (∀ u : Kin W, u.w.cell? ⟨b, 2, none⟩ = some (.int .i64 s.bits)) ∧ (∀ u : Kin W, u.w.cell? ⟨b, 3, none⟩ = some (.int .i64 s.rate)) ∧ (∀ u : Kin W, u.w.cell? ⟨b, 4, none⟩ = some (.int .i64 s.vol)) ∧ (∀ u : Kin W, u.w.cell? ⟨b, 5, none⟩ = some (.int .i64 s.pan)) ∧ (∀ u : Kin W, u.w.cell? ⟨b, 6, none⟩ = some (.int .i64 s.fine)) ∧ (∀ u : Kin W, u.w.cell? ⟨b, 7, none⟩ = some (.int .i64 s.loop)) ∧ (∀ u : Kin W, u.w.cell? ⟨b, 8, none⟩ = some (.int .i64 s.start)) ∧ (∀ u : Kin W, u.w.cell? ⟨b, 9, none⟩ = some (.int .i64 s.fin)) ∧ (∀ u : Kin W, u.w.cell? ⟨b, 10, none⟩ = some (.int .i64 s.sus)) ∧ (∀ u : Kin W, u.w.cell? ⟨b, 11, none⟩ = some (.int .i64 s.sstart)) ∧ (∀ u : Kin W, u.w.cell? ⟨b, 12, none⟩ = some (.int .i64 s.sfin)) := by
  have h : ∀ (u : Kin W) j, u.w.cell? ⟨b, j, none⟩ = W.cell? ⟨b, j, none⟩ := fun u j => u.below.cell hb
  simp only [h]
  have := hc.out
  unfold Boxed at this
  simpa using this
theorem vld_no {s : Sm.Smp} (h : ¬ (Sm.nmd s.name = true ∧ (s.bits = 8 ∨ s.bits = 16) ∧ (1 ≤ s.rate ∧ s.rate ≤ 65535) ∧ (0 ≤ s.vol ∧ s.vol ≤ 64) ∧ (-1 ≤ s.pan ∧ s.pan ≤ 256) ∧ (-64 ≤ s.fine ∧ s.fine ≤ 63) ∧ Sm.lpd s.loop s.start s.fin s.dat.length = true ∧ Sm.lpd s.sus s.sstart s.sfin s.dat.length = true)) : Sm.vld s = false := by
  rw [Bool.eq_false_iff]
  intro hv
  simp only [Sm.vld, Bool.and_eq_true] at hv
  obtain ⟨⟨⟨h1, _⟩, l1⟩, l2⟩ := hv
  simp only [Sm.headOk, Bool.and_eq_true, decide_eq_true_eq] at h1
  exact h ⟨h1.1, h1.2.1, h1.2.2.2.1, h1.2.2.2.2.1, h1.2.2.2.2.2.1, h1.2.2.2.2.2.2, l1, l2⟩
theorem vld_dok {s : Sm.Smp} (h : Sm.nmd s.name = true ∧ (s.bits = 8 ∨ s.bits = 16) ∧ (1 ≤ s.rate ∧ s.rate ≤ 65535) ∧ (0 ≤ s.vol ∧ s.vol ≤ 64) ∧ (-1 ≤ s.pan ∧ s.pan ≤ 256) ∧ (-64 ≤ s.fine ∧ s.fine ≤ 63) ∧ Sm.lpd s.loop s.start s.fin s.dat.length = true ∧ Sm.lpd s.sus s.sstart s.sfin s.dat.length = true) : Sm.vld s = dok s.dat s.bits := by
  obtain ⟨h1, h2, h3, h4, h5, h6, h7, h8⟩ := h
  by_cases hl : (s.dat.length : Int) ≤ 4096
  · have : Sm.headOk s = true := by
      simp only [Sm.headOk, h1, Bool.true_and]
      exact decide_eq_true ⟨h2, hl, h3, h4, h5, h6⟩
    simp only [Sm.vld, this, h7, h8, dok, decide_eq_true hl, Bool.true_and, Bool.and_true]
  · rw [dok_long (by omega)]
    exact headOk_num (by omega)
set_option maxHeartbeats 2000000 in
theorem p_valid_0 (s : Sm.Smp) (p : Option Addr) (cap : Nat) (w : World) (hm : s.name.size ≤ maxLen) (hd : DatAt w p s.dat)  (bad : Sm.nmd s.name = false) :
    Calls Try.prog 13 #[SV s p cap] w fun x w' => x = .returned (.bool (Sm.vld s)) ∧ Below w.heap.size w w' := by
  have HV := Lib.hid (vld_no (s := s) (fun h => by have := h.1; rw [bad] at this; exact absurd this (by simp)))
  have HX0 := Lib.hid bad
  clear bad
  unfold SV
  obtain ⟨W, hW⟩ : ∃ W, W = w.alloc (.cells #[.string s.name, .slice p s.dat.length cap, .int .i64 s.bits, .int .i64 s.rate, .int .i64 s.vol, .int .i64 s.pan, .int .i64 s.fine, .int .i64 s.loop, .int .i64 s.start, .int .i64 s.fin, .int .i64 s.sus, .int .i64 s.sstart, .int .i64 s.sfin] 24) := ⟨_, rfl⟩
  have hWb : Below w.heap.size w W := by rw [hW]; exact below_box _ _
  obtain ⟨b, hbe⟩ : ∃ b, b = w.heap.size := ⟨_, rfl⟩
  have hb : b < W.heap.size := by rw [hW, hbe]; simp
  have hc : Hid (Boxed W b s p cap) := by rw [hW, hbe]; exact boxed_new _ _ _ _ _
  have HD := Lib.hid (hd.below hWb)
  have HWb := Lib.hid hWb
  have hg : Below W.heap.size W W := Below.refl _ _
  have hgd : Below W.heap.size W W.drew := hg.drew
  clear hd hWb
  go_enter Try.func13, Try.ntmps13
  go_upto_region 1 with fail
  rw [← hW, ← hbe]
  clear hW hbe
  have ⟨k0, k1, k2, k3, k4, k5, k6, k7, k8, k9, k10, k11, k12⟩ := heldK hb hc
  refine kin_region (by kernel_rfl) (by kernel_rfl) hg ?_
  repeat (go_big_quiet_step (first | (go_at_call 37; exact kinS (p_name_v _ _ hm HX0.out))))
  refine wpQuiet_nil ?_
  intro w' hw
  go_wp2_with fail
  go_ret
  exact ⟨ret_bool HV.out.symm, HWb.out.trans (hw.mono HWb.out.size)⟩
set_option maxHeartbeats 2000000 in
theorem p_valid_1 (s : Sm.Smp) (p : Option Addr) (cap : Nat) (w : World) (hm : s.name.size ≤ maxLen) (hd : DatAt w p s.dat) (hn : Sm.nmd s.name = true) (bad : ¬ (s.bits = 8 ∨ s.bits = 16)) :
    Calls Try.prog 13 #[SV s p cap] w fun x w' => x = .returned (.bool (Sm.vld s)) ∧ Below w.heap.size w w' := by
  have HV := Lib.hid (vld_no (s := s) (by omega))
  have HX0 := Lib.hid hn
  clear hn
  have HX1 := Lib.hid bad
  clear bad
  unfold SV
  obtain ⟨W, hW⟩ : ∃ W, W = w.alloc (.cells #[.string s.name, .slice p s.dat.length cap, .int .i64 s.bits, .int .i64 s.rate, .int .i64 s.vol, .int .i64 s.pan, .int .i64 s.fine, .int .i64 s.loop, .int .i64 s.start, .int .i64 s.fin, .int .i64 s.sus, .int .i64 s.sstart, .int .i64 s.sfin] 24) := ⟨_, rfl⟩
  have hWb : Below w.heap.size w W := by rw [hW]; exact below_box _ _
  obtain ⟨b, hbe⟩ : ∃ b, b = w.heap.size := ⟨_, rfl⟩
  have hb : b < W.heap.size := by rw [hW, hbe]; simp
  have hc : Hid (Boxed W b s p cap) := by rw [hW, hbe]; exact boxed_new _ _ _ _ _
  have HD := Lib.hid (hd.below hWb)
  have HWb := Lib.hid hWb
  have hg : Below W.heap.size W W := Below.refl _ _
  have hgd : Below W.heap.size W W.drew := hg.drew
  clear hd hWb
  go_enter Try.func13, Try.ntmps13
  go_upto_region 1 with fail
  rw [← hW, ← hbe]
  clear hW hbe
  have ⟨k0, k1, k2, k3, k4, k5, k6, k7, k8, k9, k10, k11, k12⟩ := heldK hb hc
  refine kin_region (by kernel_rfl) (by kernel_rfl) hg ?_
  repeat (go_big_quiet_step (first | (go_at_call 37; exact kinS (p_name_v _ _ hm HX0.out)) | (go_at_call 38; exact kinS (p_bits_no _ _ HX1.out))))
  refine wpQuiet_nil ?_
  intro w' hw
  go_wp2_with fail
  go_ret
  exact ⟨ret_bool HV.out.symm, HWb.out.trans (hw.mono HWb.out.size)⟩
set_option maxHeartbeats 2000000 in
theorem p_valid_2 (s : Sm.Smp) (p : Option Addr) (cap : Nat) (w : World) (hm : s.name.size ≤ maxLen) (hd : DatAt w p s.dat) (hn : Sm.nmd s.name = true) (h2 : (s.bits = 8 ∨ s.bits = 16)) (bad : (s.rate < 1 ∨ 65535 < s.rate)) :
    Calls Try.prog 13 #[SV s p cap] w fun x w' => x = .returned (.bool (Sm.vld s)) ∧ Below w.heap.size w w' := by
  have HV := Lib.hid (vld_no (s := s) (by omega))
  have HX0 := Lib.hid hn
  clear hn
  have HX1 := Lib.hid h2
  clear h2
  have HX2 := Lib.hid bad
  clear bad
  unfold SV
  obtain ⟨W, hW⟩ : ∃ W, W = w.alloc (.cells #[.string s.name, .slice p s.dat.length cap, .int .i64 s.bits, .int .i64 s.rate, .int .i64 s.vol, .int .i64 s.pan, .int .i64 s.fine, .int .i64 s.loop, .int .i64 s.start, .int .i64 s.fin, .int .i64 s.sus, .int .i64 s.sstart, .int .i64 s.sfin] 24) := ⟨_, rfl⟩
  have hWb : Below w.heap.size w W := by rw [hW]; exact below_box _ _
  obtain ⟨b, hbe⟩ : ∃ b, b = w.heap.size := ⟨_, rfl⟩
  have hb : b < W.heap.size := by rw [hW, hbe]; simp
  have hc : Hid (Boxed W b s p cap) := by rw [hW, hbe]; exact boxed_new _ _ _ _ _
  have HD := Lib.hid (hd.below hWb)
  have HWb := Lib.hid hWb
  have hg : Below W.heap.size W W := Below.refl _ _
  have hgd : Below W.heap.size W W.drew := hg.drew
  clear hd hWb
  go_enter Try.func13, Try.ntmps13
  go_upto_region 1 with fail
  rw [← hW, ← hbe]
  clear hW hbe
  have ⟨k0, k1, k2, k3, k4, k5, k6, k7, k8, k9, k10, k11, k12⟩ := heldK hb hc
  refine kin_region (by kernel_rfl) (by kernel_rfl) hg ?_
  repeat (go_big_quiet_step (first | (go_at_call 37; exact kinS (p_name_v _ _ hm HX0.out)) | (go_at_call 38; exact kinS (p_bits_yes _ _ HX1.out)) | (go_at_call 39; exact kinS (p_within_no _ _ _ _ HX2.out))))
  refine wpQuiet_nil ?_
  intro w' hw
  go_wp2_with fail
  go_ret
  exact ⟨ret_bool HV.out.symm, HWb.out.trans (hw.mono HWb.out.size)⟩
set_option maxHeartbeats 2000000 in
theorem p_valid_3 (s : Sm.Smp) (p : Option Addr) (cap : Nat) (w : World) (hm : s.name.size ≤ maxLen) (hd : DatAt w p s.dat) (hn : Sm.nmd s.name = true) (h2 : (s.bits = 8 ∨ s.bits = 16)) (h3 : (1 ≤ s.rate ∧ s.rate ≤ 65535)) (bad : (s.vol < 0 ∨ 64 < s.vol)) :
    Calls Try.prog 13 #[SV s p cap] w fun x w' => x = .returned (.bool (Sm.vld s)) ∧ Below w.heap.size w w' := by
  have HV := Lib.hid (vld_no (s := s) (by omega))
  have HX0 := Lib.hid hn
  clear hn
  have HX1 := Lib.hid h2
  clear h2
  have HX2 := Lib.hid h3
  clear h3
  have HX3 := Lib.hid bad
  clear bad
  unfold SV
  obtain ⟨W, hW⟩ : ∃ W, W = w.alloc (.cells #[.string s.name, .slice p s.dat.length cap, .int .i64 s.bits, .int .i64 s.rate, .int .i64 s.vol, .int .i64 s.pan, .int .i64 s.fine, .int .i64 s.loop, .int .i64 s.start, .int .i64 s.fin, .int .i64 s.sus, .int .i64 s.sstart, .int .i64 s.sfin] 24) := ⟨_, rfl⟩
  have hWb : Below w.heap.size w W := by rw [hW]; exact below_box _ _
  obtain ⟨b, hbe⟩ : ∃ b, b = w.heap.size := ⟨_, rfl⟩
  have hb : b < W.heap.size := by rw [hW, hbe]; simp
  have hc : Hid (Boxed W b s p cap) := by rw [hW, hbe]; exact boxed_new _ _ _ _ _
  have HD := Lib.hid (hd.below hWb)
  have HWb := Lib.hid hWb
  have hg : Below W.heap.size W W := Below.refl _ _
  have hgd : Below W.heap.size W W.drew := hg.drew
  clear hd hWb
  go_enter Try.func13, Try.ntmps13
  go_upto_region 1 with fail
  rw [← hW, ← hbe]
  clear hW hbe
  have ⟨k0, k1, k2, k3, k4, k5, k6, k7, k8, k9, k10, k11, k12⟩ := heldK hb hc
  refine kin_region (by kernel_rfl) (by kernel_rfl) hg ?_
  repeat (go_big_quiet_step (first | (go_at_call 37; exact kinS (p_name_v _ _ hm HX0.out)) | (go_at_call 38; exact kinS (p_bits_yes _ _ HX1.out)) | (go_at_call 39; exact kinS (p_within_yes _ _ _ _ HX2.out.1 HX2.out.2)) | (go_at_call 39; exact kinS (p_within_no _ _ _ _ HX3.out))))
  refine wpQuiet_nil ?_
  intro w' hw
  go_wp2_with fail
  go_ret
  exact ⟨ret_bool HV.out.symm, HWb.out.trans (hw.mono HWb.out.size)⟩
set_option maxHeartbeats 2000000 in
theorem p_valid_4 (s : Sm.Smp) (p : Option Addr) (cap : Nat) (w : World) (hm : s.name.size ≤ maxLen) (hd : DatAt w p s.dat) (hn : Sm.nmd s.name = true) (h2 : (s.bits = 8 ∨ s.bits = 16)) (h3 : (1 ≤ s.rate ∧ s.rate ≤ 65535)) (h4 : (0 ≤ s.vol ∧ s.vol ≤ 64)) (bad : (s.pan < -1 ∨ 256 < s.pan)) :
    Calls Try.prog 13 #[SV s p cap] w fun x w' => x = .returned (.bool (Sm.vld s)) ∧ Below w.heap.size w w' := by
  have HV := Lib.hid (vld_no (s := s) (by omega))
  have HX0 := Lib.hid hn
  clear hn
  have HX1 := Lib.hid h2
  clear h2
  have HX2 := Lib.hid h3
  clear h3
  have HX3 := Lib.hid h4
  clear h4
  have HX4 := Lib.hid bad
  clear bad
  unfold SV
  obtain ⟨W, hW⟩ : ∃ W, W = w.alloc (.cells #[.string s.name, .slice p s.dat.length cap, .int .i64 s.bits, .int .i64 s.rate, .int .i64 s.vol, .int .i64 s.pan, .int .i64 s.fine, .int .i64 s.loop, .int .i64 s.start, .int .i64 s.fin, .int .i64 s.sus, .int .i64 s.sstart, .int .i64 s.sfin] 24) := ⟨_, rfl⟩
  have hWb : Below w.heap.size w W := by rw [hW]; exact below_box _ _
  obtain ⟨b, hbe⟩ : ∃ b, b = w.heap.size := ⟨_, rfl⟩
  have hb : b < W.heap.size := by rw [hW, hbe]; simp
  have hc : Hid (Boxed W b s p cap) := by rw [hW, hbe]; exact boxed_new _ _ _ _ _
  have HD := Lib.hid (hd.below hWb)
  have HWb := Lib.hid hWb
  have hg : Below W.heap.size W W := Below.refl _ _
  have hgd : Below W.heap.size W W.drew := hg.drew
  clear hd hWb
  go_enter Try.func13, Try.ntmps13
  go_upto_region 1 with fail
  rw [← hW, ← hbe]
  clear hW hbe
  have ⟨k0, k1, k2, k3, k4, k5, k6, k7, k8, k9, k10, k11, k12⟩ := heldK hb hc
  refine kin_region (by kernel_rfl) (by kernel_rfl) hg ?_
  repeat (go_big_quiet_step (first | (go_at_call 37; exact kinS (p_name_v _ _ hm HX0.out)) | (go_at_call 38; exact kinS (p_bits_yes _ _ HX1.out)) | (go_at_call 39; exact kinS (p_within_yes _ _ _ _ HX2.out.1 HX2.out.2)) | (go_at_call 39; exact kinS (p_within_yes _ _ _ _ HX3.out.1 HX3.out.2)) | (go_at_call 39; exact kinS (p_within_no _ _ _ _ HX4.out))))
  refine wpQuiet_nil ?_
  intro w' hw
  go_wp2_with fail
  go_ret
  exact ⟨ret_bool HV.out.symm, HWb.out.trans (hw.mono HWb.out.size)⟩
set_option maxHeartbeats 2000000 in
theorem p_valid_5 (s : Sm.Smp) (p : Option Addr) (cap : Nat) (w : World) (hm : s.name.size ≤ maxLen) (hd : DatAt w p s.dat) (hn : Sm.nmd s.name = true) (h2 : (s.bits = 8 ∨ s.bits = 16)) (h3 : (1 ≤ s.rate ∧ s.rate ≤ 65535)) (h4 : (0 ≤ s.vol ∧ s.vol ≤ 64)) (h5 : (-1 ≤ s.pan ∧ s.pan ≤ 256)) (bad : (s.fine < -64 ∨ 63 < s.fine)) :
    Calls Try.prog 13 #[SV s p cap] w fun x w' => x = .returned (.bool (Sm.vld s)) ∧ Below w.heap.size w w' := by
  have HV := Lib.hid (vld_no (s := s) (by omega))
  have HX0 := Lib.hid hn
  clear hn
  have HX1 := Lib.hid h2
  clear h2
  have HX2 := Lib.hid h3
  clear h3
  have HX3 := Lib.hid h4
  clear h4
  have HX4 := Lib.hid h5
  clear h5
  have HX5 := Lib.hid bad
  clear bad
  unfold SV
  obtain ⟨W, hW⟩ : ∃ W, W = w.alloc (.cells #[.string s.name, .slice p s.dat.length cap, .int .i64 s.bits, .int .i64 s.rate, .int .i64 s.vol, .int .i64 s.pan, .int .i64 s.fine, .int .i64 s.loop, .int .i64 s.start, .int .i64 s.fin, .int .i64 s.sus, .int .i64 s.sstart, .int .i64 s.sfin] 24) := ⟨_, rfl⟩
  have hWb : Below w.heap.size w W := by rw [hW]; exact below_box _ _
  obtain ⟨b, hbe⟩ : ∃ b, b = w.heap.size := ⟨_, rfl⟩
  have hb : b < W.heap.size := by rw [hW, hbe]; simp
  have hc : Hid (Boxed W b s p cap) := by rw [hW, hbe]; exact boxed_new _ _ _ _ _
  have HD := Lib.hid (hd.below hWb)
  have HWb := Lib.hid hWb
  have hg : Below W.heap.size W W := Below.refl _ _
  have hgd : Below W.heap.size W W.drew := hg.drew
  clear hd hWb
  go_enter Try.func13, Try.ntmps13
  go_upto_region 1 with fail
  rw [← hW, ← hbe]
  clear hW hbe
  have ⟨k0, k1, k2, k3, k4, k5, k6, k7, k8, k9, k10, k11, k12⟩ := heldK hb hc
  refine kin_region (by kernel_rfl) (by kernel_rfl) hg ?_
  repeat (go_big_quiet_step (first | (go_at_call 37; exact kinS (p_name_v _ _ hm HX0.out)) | (go_at_call 38; exact kinS (p_bits_yes _ _ HX1.out)) | (go_at_call 39; exact kinS (p_within_yes _ _ _ _ HX2.out.1 HX2.out.2)) | (go_at_call 39; exact kinS (p_within_yes _ _ _ _ HX3.out.1 HX3.out.2)) | (go_at_call 39; exact kinS (p_within_yes _ _ _ _ HX4.out.1 HX4.out.2)) | (go_at_call 39; exact kinS (p_within_no _ _ _ _ HX5.out))))
  refine wpQuiet_nil ?_
  intro w' hw
  go_wp2_with fail
  go_ret
  exact ⟨ret_bool HV.out.symm, HWb.out.trans (hw.mono HWb.out.size)⟩
set_option maxHeartbeats 2000000 in
theorem p_valid_6 (s : Sm.Smp) (p : Option Addr) (cap : Nat) (w : World) (hm : s.name.size ≤ maxLen) (hd : DatAt w p s.dat) (hn : Sm.nmd s.name = true) (h2 : (s.bits = 8 ∨ s.bits = 16)) (h3 : (1 ≤ s.rate ∧ s.rate ≤ 65535)) (h4 : (0 ≤ s.vol ∧ s.vol ≤ 64)) (h5 : (-1 ≤ s.pan ∧ s.pan ≤ 256)) (h6 : (-64 ≤ s.fine ∧ s.fine ≤ 63)) (bad : Sm.lpd s.loop s.start s.fin s.dat.length = false) :
    Calls Try.prog 13 #[SV s p cap] w fun x w' => x = .returned (.bool (Sm.vld s)) ∧ Below w.heap.size w w' := by
  have HV := Lib.hid (vld_no (s := s) (fun h => by have := h.2.2.2.2.2.2.1; rw [bad] at this; exact absurd this (by simp)))
  have HX0 := Lib.hid hn
  clear hn
  have HX1 := Lib.hid h2
  clear h2
  have HX2 := Lib.hid h3
  clear h3
  have HX3 := Lib.hid h4
  clear h4
  have HX4 := Lib.hid h5
  clear h5
  have HX5 := Lib.hid h6
  clear h6
  have HX6 := Lib.hid bad
  clear bad
  unfold SV
  obtain ⟨W, hW⟩ : ∃ W, W = w.alloc (.cells #[.string s.name, .slice p s.dat.length cap, .int .i64 s.bits, .int .i64 s.rate, .int .i64 s.vol, .int .i64 s.pan, .int .i64 s.fine, .int .i64 s.loop, .int .i64 s.start, .int .i64 s.fin, .int .i64 s.sus, .int .i64 s.sstart, .int .i64 s.sfin] 24) := ⟨_, rfl⟩
  have hWb : Below w.heap.size w W := by rw [hW]; exact below_box _ _
  obtain ⟨b, hbe⟩ : ∃ b, b = w.heap.size := ⟨_, rfl⟩
  have hb : b < W.heap.size := by rw [hW, hbe]; simp
  have hc : Hid (Boxed W b s p cap) := by rw [hW, hbe]; exact boxed_new _ _ _ _ _
  have HD := Lib.hid (hd.below hWb)
  have HWb := Lib.hid hWb
  have hg : Below W.heap.size W W := Below.refl _ _
  have hgd : Below W.heap.size W W.drew := hg.drew
  clear hd hWb
  go_enter Try.func13, Try.ntmps13
  go_upto_region 1 with fail
  rw [← hW, ← hbe]
  clear hW hbe
  have ⟨k0, k1, k2, k3, k4, k5, k6, k7, k8, k9, k10, k11, k12⟩ := heldK hb hc
  refine kin_region (by kernel_rfl) (by kernel_rfl) hg ?_
  repeat (go_big_quiet_step (first | (go_at_call 37; exact kinS (p_name_v _ _ hm HX0.out)) | (go_at_call 38; exact kinS (p_bits_yes _ _ HX1.out)) | (go_at_call 39; exact kinS (p_within_yes _ _ _ _ HX2.out.1 HX2.out.2)) | (go_at_call 39; exact kinS (p_within_yes _ _ _ _ HX3.out.1 HX3.out.2)) | (go_at_call 39; exact kinS (p_within_yes _ _ _ _ HX4.out.1 HX4.out.2)) | (go_at_call 39; exact kinS (p_within_yes _ _ _ _ HX5.out.1 HX5.out.2)) | (go_at_call 41; exact kinB (p_first s p cap _)) | (go_at_call 40; exact kinB (p_loop_v _ _ _ _ _ HX6.out))))
  refine wpQuiet_nil ?_
  intro w' hw
  go_wp2_with fail
  go_ret
  exact ⟨ret_bool HV.out.symm, HWb.out.trans (hw.mono HWb.out.size)⟩
set_option maxHeartbeats 2000000 in
theorem p_valid_7 (s : Sm.Smp) (p : Option Addr) (cap : Nat) (w : World) (hm : s.name.size ≤ maxLen) (hd : DatAt w p s.dat) (hn : Sm.nmd s.name = true) (h2 : (s.bits = 8 ∨ s.bits = 16)) (h3 : (1 ≤ s.rate ∧ s.rate ≤ 65535)) (h4 : (0 ≤ s.vol ∧ s.vol ≤ 64)) (h5 : (-1 ≤ s.pan ∧ s.pan ≤ 256)) (h6 : (-64 ≤ s.fine ∧ s.fine ≤ 63)) (h7 : Sm.lpd s.loop s.start s.fin s.dat.length = true) (bad : Sm.lpd s.sus s.sstart s.sfin s.dat.length = false) :
    Calls Try.prog 13 #[SV s p cap] w fun x w' => x = .returned (.bool (Sm.vld s)) ∧ Below w.heap.size w w' := by
  have HV := Lib.hid (vld_no (s := s) (fun h => by have := h.2.2.2.2.2.2.2; rw [bad] at this; exact absurd this (by simp)))
  have HX0 := Lib.hid hn
  clear hn
  have HX1 := Lib.hid h2
  clear h2
  have HX2 := Lib.hid h3
  clear h3
  have HX3 := Lib.hid h4
  clear h4
  have HX4 := Lib.hid h5
  clear h5
  have HX5 := Lib.hid h6
  clear h6
  have HX6 := Lib.hid h7
  clear h7
  have HX7 := Lib.hid bad
  clear bad
  unfold SV
  obtain ⟨W, hW⟩ : ∃ W, W = w.alloc (.cells #[.string s.name, .slice p s.dat.length cap, .int .i64 s.bits, .int .i64 s.rate, .int .i64 s.vol, .int .i64 s.pan, .int .i64 s.fine, .int .i64 s.loop, .int .i64 s.start, .int .i64 s.fin, .int .i64 s.sus, .int .i64 s.sstart, .int .i64 s.sfin] 24) := ⟨_, rfl⟩
  have hWb : Below w.heap.size w W := by rw [hW]; exact below_box _ _
  obtain ⟨b, hbe⟩ : ∃ b, b = w.heap.size := ⟨_, rfl⟩
  have hb : b < W.heap.size := by rw [hW, hbe]; simp
  have hc : Hid (Boxed W b s p cap) := by rw [hW, hbe]; exact boxed_new _ _ _ _ _
  have HD := Lib.hid (hd.below hWb)
  have HWb := Lib.hid hWb
  have hg : Below W.heap.size W W := Below.refl _ _
  have hgd : Below W.heap.size W W.drew := hg.drew
  clear hd hWb
  go_enter Try.func13, Try.ntmps13
  go_upto_region 1 with fail
  rw [← hW, ← hbe]
  clear hW hbe
  have ⟨k0, k1, k2, k3, k4, k5, k6, k7, k8, k9, k10, k11, k12⟩ := heldK hb hc
  refine kin_region (by kernel_rfl) (by kernel_rfl) hg ?_
  repeat (go_big_quiet_step (first | (go_at_call 37; exact kinS (p_name_v _ _ hm HX0.out)) | (go_at_call 38; exact kinS (p_bits_yes _ _ HX1.out)) | (go_at_call 39; exact kinS (p_within_yes _ _ _ _ HX2.out.1 HX2.out.2)) | (go_at_call 39; exact kinS (p_within_yes _ _ _ _ HX3.out.1 HX3.out.2)) | (go_at_call 39; exact kinS (p_within_yes _ _ _ _ HX4.out.1 HX4.out.2)) | (go_at_call 39; exact kinS (p_within_yes _ _ _ _ HX5.out.1 HX5.out.2)) | (go_at_call 41; exact kinB (p_first s p cap _)) | (go_at_call 40; exact kinB (p_loop_v _ _ _ _ _ HX6.out)) | (go_at_call 42; exact kinB (p_second s p cap _)) | (go_at_call 40; exact kinB (p_loop_v _ _ _ _ _ HX7.out))))
  refine wpQuiet_nil ?_
  intro w' hw
  go_wp2_with fail
  go_ret
  exact ⟨ret_bool HV.out.symm, HWb.out.trans (hw.mono HWb.out.size)⟩
set_option maxHeartbeats 2000000 in
theorem p_valid_8 (s : Sm.Smp) (p : Option Addr) (cap : Nat) (w : World) (hm : s.name.size ≤ maxLen) (hd : DatAt w p s.dat) (hn : Sm.nmd s.name = true) (h2 : (s.bits = 8 ∨ s.bits = 16)) (h3 : (1 ≤ s.rate ∧ s.rate ≤ 65535)) (h4 : (0 ≤ s.vol ∧ s.vol ≤ 64)) (h5 : (-1 ≤ s.pan ∧ s.pan ≤ 256)) (h6 : (-64 ≤ s.fine ∧ s.fine ≤ 63)) (h7 : Sm.lpd s.loop s.start s.fin s.dat.length = true) (h8 : Sm.lpd s.sus s.sstart s.sfin s.dat.length = true)  :
    Calls Try.prog 13 #[SV s p cap] w fun x w' => x = .returned (.bool (Sm.vld s)) ∧ Below w.heap.size w w' := by
  have HV := Lib.hid (vld_dok (s := s) ⟨hn, h2, h3, h4, h5, h6, h7, h8⟩)
  have HX0 := Lib.hid hn
  clear hn
  have HX1 := Lib.hid h2
  clear h2
  have HX2 := Lib.hid h3
  clear h3
  have HX3 := Lib.hid h4
  clear h4
  have HX4 := Lib.hid h5
  clear h5
  have HX5 := Lib.hid h6
  clear h6
  have HX6 := Lib.hid h7
  clear h7
  have HX7 := Lib.hid h8
  clear h8
  unfold SV
  obtain ⟨W, hW⟩ : ∃ W, W = w.alloc (.cells #[.string s.name, .slice p s.dat.length cap, .int .i64 s.bits, .int .i64 s.rate, .int .i64 s.vol, .int .i64 s.pan, .int .i64 s.fine, .int .i64 s.loop, .int .i64 s.start, .int .i64 s.fin, .int .i64 s.sus, .int .i64 s.sstart, .int .i64 s.sfin] 24) := ⟨_, rfl⟩
  have hWb : Below w.heap.size w W := by rw [hW]; exact below_box _ _
  obtain ⟨b, hbe⟩ : ∃ b, b = w.heap.size := ⟨_, rfl⟩
  have hb : b < W.heap.size := by rw [hW, hbe]; simp
  have hc : Hid (Boxed W b s p cap) := by rw [hW, hbe]; exact boxed_new _ _ _ _ _
  have HD := Lib.hid (hd.below hWb)
  have HWb := Lib.hid hWb
  have hg : Below W.heap.size W W := Below.refl _ _
  have hgd : Below W.heap.size W W.drew := hg.drew
  clear hd hWb
  go_enter Try.func13, Try.ntmps13
  go_upto_region 1 with fail
  rw [← hW, ← hbe]
  clear hW hbe
  have ⟨k0, k1, k2, k3, k4, k5, k6, k7, k8, k9, k10, k11, k12⟩ := heldK hb hc
  refine kin_region (by kernel_rfl) (by kernel_rfl) hg ?_
  repeat (go_big_quiet_step (first | (go_at_call 37; exact kinS (p_name_v _ _ hm HX0.out)) | (go_at_call 38; exact kinS (p_bits_yes _ _ HX1.out)) | (go_at_call 39; exact kinS (p_within_yes _ _ _ _ HX2.out.1 HX2.out.2)) | (go_at_call 39; exact kinS (p_within_yes _ _ _ _ HX3.out.1 HX3.out.2)) | (go_at_call 39; exact kinS (p_within_yes _ _ _ _ HX4.out.1 HX4.out.2)) | (go_at_call 39; exact kinS (p_within_yes _ _ _ _ HX5.out.1 HX5.out.2)) | (go_at_call 41; exact kinB (p_first s p cap _)) | (go_at_call 40; exact kinB (p_loop_v _ _ _ _ _ HX6.out)) | (go_at_call 42; exact kinB (p_second s p cap _)) | (go_at_call 40; exact kinB (p_loop_v _ _ _ _ _ HX7.out)) | (go_at_call 43; exact kinS (p_data _ _ _ _ _ HX1.out (HD.out.below (Kin.below _))))))
  refine wpQuiet_nil ?_
  intro w' hw
  go_wp2_with fail
  go_ret
  exact ⟨ret_bool HV.out.symm, HWb.out.trans (hw.mono HWb.out.size)⟩
/-- The contract of sample.Valid. -/
theorem p_valid (s : Sm.Smp) (p : Option Addr) (cap : Nat) (w : World) (hm : s.name.size ≤ maxLen) (hd : DatAt w p s.dat) :
    Calls Try.prog 13 #[SV s p cap] w fun x w' => x = .returned (.bool (Sm.vld s)) ∧ Below w.heap.size w w' := by
  by_cases hn : Sm.nmd s.name = true
  · by_cases h2 : (s.bits = 8 ∨ s.bits = 16)
    · by_cases h3 : (1 ≤ s.rate ∧ s.rate ≤ 65535)
      · by_cases h4 : (0 ≤ s.vol ∧ s.vol ≤ 64)
        · by_cases h5 : (-1 ≤ s.pan ∧ s.pan ≤ 256)
          · by_cases h6 : (-64 ≤ s.fine ∧ s.fine ≤ 63)
            · by_cases h7 : Sm.lpd s.loop s.start s.fin s.dat.length = true
              · by_cases h8 : Sm.lpd s.sus s.sstart s.sfin s.dat.length = true
                · exact p_valid_8 s p cap w hm hd hn h2 h3 h4 h5 h6 h7 h8
                · exact p_valid_7 s p cap w hm hd hn h2 h3 h4 h5 h6 h7 (by simpa using h8)
              · exact p_valid_6 s p cap w hm hd hn h2 h3 h4 h5 h6 (by simpa using h7)
            · exact p_valid_5 s p cap w hm hd hn h2 h3 h4 h5 (by omega)
          · exact p_valid_4 s p cap w hm hd hn h2 h3 h4 (by omega)
        · exact p_valid_3 s p cap w hm hd hn h2 h3 (by omega)
      · exact p_valid_2 s p cap w hm hd hn h2 (by omega)
    · exact p_valid_1 s p cap w hm hd hn (h2)
  · exact p_valid_0 s p cap w hm hd  (by simpa using hn)
end Go.Proofs.Ytmaldhjcdkidmaa

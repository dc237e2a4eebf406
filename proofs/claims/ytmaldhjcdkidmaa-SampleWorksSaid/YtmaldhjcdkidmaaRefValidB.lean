/-
  The contract of the reference's function Valid, for any sample: what the call returns; nothing that was there is changed.
-/
import Derived.Test.YtmaldhjcdkidmaaRefValid
namespace Go.Proofs.Ytmaldhjcdkidmaa
open Go.RowKit

theorem rfits' (x b : Int) (w : World) (hb : b = 8 ∨ b = 16) :
    Calls Try.prog 45 #[.int .i64 x, .int .i64 b] w fun e w' => e = .returned (.bool (Sm.fts x b)) ∧ w' = w :=
  (rfits x b w hb).mono fun _ _ ⟨he, hw⟩ => ⟨he, hw.symm⟩
set_option maxHeartbeats 1000000 in
theorem rvalid_head (s : Sm.Smp) (p : Option Addr) (cap : Nat) (w : World) (hm : s.name.size ≤ maxLen) (hd : DatAt w p s.dat) (hn : Sm.nmd s.name = true) (h2 : s.bits = 8 ∨ s.bits = 16) (h3 : (s.dat.length : Int) ≤ 4096) (h4 : 1 ≤ s.rate) (h5 : s.rate ≤ 65535) (h6 : 0 ≤ s.vol) (h7 : s.vol ≤ 64) (h8 : -1 ≤ s.pan) (h9 : s.pan ≤ 256) (h10 : -64 ≤ s.fine) (h11 : s.fine ≤ 63) :
    Calls Try.prog 14 #[SV s p cap] w fun x w' => x = .returned (.bool (Sm.vld s)) ∧ Below w.heap.size w w' := by
  have HV := Lib.hid (vld_loops hn h2 h3 h4 h5 h6 h7 h8 h9 h10 h11)
  have H2 := Lib.hid h2
  have HD := Lib.hid hd
  clear hd
  unfold SV
  obtain ⟨W, hW⟩ : ∃ W, W = w.alloc (.cells #[.string s.name, .slice p s.dat.length cap, .int .i64 s.bits, .int .i64 s.rate, .int .i64 s.vol, .int .i64 s.pan, .int .i64 s.fine, .int .i64 s.loop, .int .i64 s.start, .int .i64 s.fin, .int .i64 s.sus, .int .i64 s.sstart, .int .i64 s.sfin] 24) := ⟨_, rfl⟩
  obtain ⟨B, hB⟩ : ∃ B, B = w.heap.size := ⟨_, rfl⟩
  have hWb : Below w.heap.size w W := by rw [hW]; exact below_box _ _
  have hBx : Hid (Boxed W B s p cap) := by rw [hW, hB]; exact boxed_new _ _ _ _ _
  have hBW : B < W.heap.size := by rw [hW, hB]; simp
  have HD' := Lib.hid (HD.out.below hWb)
  have HWb := Lib.hid hWb
  clear hWb HD
  have hbit : (s.bits != 8) = false ∨ ((s.bits != 8) = true ∧ (s.bits != 16) = false) := by
    rcases h2 with h2 | h2
    · left; simp [h2]
    · right; simp [h2]
  clear h2
  rcases hbit with hbit | ⟨hbit, hbit'⟩
  all_goals
    go_enter Try.func14, Try.ntmps14
    go_wp2_with (first | (go_at_call 44; ((with_reducible refine (rnamed _ _ hm).mono ?_); rintro x w' ⟨rfl, rfl⟩)))
    rw [← hW, ← hB]
    have HW := Lib.hid hW
    have HB := Lib.hid hB
    clear hW hB
    go_loopw [4] (fun i wr => ∃ k : Nat, (k : Int) ≤ s.dat.length ∧ i = .int .i64 k ∧ Below W.heap.size W wr ∧ Hid (∀ j, j < k → Sm.fts (s.dat.getD j 0) s.bits = true)) (fun i _ => s.dat.length - (intOf i).toNat)
    case atStart => exact ⟨0, by omega, rfl, Below.refl _ _, fun _ h => by omega⟩
    case round =>
      obtain ⟨k, hk, rfl, hb, HN⟩ := hrel
      have HBx := hBx.out.below hb hBW
      by_cases hlt : (k : Int) < s.dat.length
      · obtain ⟨b, off, hp, hc⟩ := (HD'.out.below hb).at (k := k) (by omega)
        have c1 := HBx.2.1
        have c2 := HBx.2.2.1
        clear HBx
        subst hp
        obtain ⟨z, hz⟩ : ∃ z, s.dat.getD k 0 = z := ⟨_, rfl⟩
        rw [hz] at hc
        have HZ := Lib.hid hz
        clear hz
        by_cases ht : Sm.fts z s.bits = true
        · go_wp2
          go_quiet ((go_at_call 45; exact Calls.quiet_of_same (rfits' _ _ _ H2.out)))
          go_wp2
          go_roundw
          case rel => exact ⟨k + 1, by omega, by go_num, below_drewN' hb _, fun j hj => by
            by_cases e : j = k
            · subst e; rw [HZ.out]; exact ht
            · exact HN.out j (by omega)⟩
          case measure => simp [intOf]; omega
        · have ht' : Sm.fts z s.bits = false := by simpa using ht
          clear ht
          have HF := Lib.hid (vld_frame (s := s) k (by omega) (by rw [HZ.out]; exact ht'))
          go_wp2
          go_quiet ((go_at_call 45; exact Calls.quiet_of_same (rfits' _ _ _ H2.out)))
          go_wp2
          go_ret
          exact ⟨ret_bool HF.out.symm, HWb.out.trans ((below_drewN' hb _).mono HWb.out.size)⟩
      · have HV' := Lib.hid (HV.out fun i hi => HN.out i (by omega))
        obtain ⟨_, c1, _, _, _, _, _, c7, c8, c9, c10, c11, c12⟩ := HBx
        by_cases hl : Sm.lpd s.loop s.start s.fin s.dat.length = true
        · go_wp2_with (first | (go_at_call 46; ((with_reducible refine (rlooped _ _ _ _ _).mono ?_); rintro x w' ⟨rfl, rfl⟩)))
          go_ret
          exact ⟨ret_bool (by rw [HV'.out, hl, Bool.true_and]), HWb.out.trans (hb.mono HWb.out.size)⟩
        · have hl' : Sm.lpd s.loop s.start s.fin s.dat.length = false := by simpa using hl
          clear hl
          go_wp2_with (first | (go_at_call 46; ((with_reducible refine (rlooped _ _ _ _ _).mono ?_); rintro x w' ⟨rfl, rfl⟩)))
          go_ret
          exact ⟨ret_bool (by rw [HV'.out, hl', Bool.false_and]), HWb.out.trans (hb.mono HWb.out.size)⟩

theorem rvalid (s : Sm.Smp) (p : Option Addr) (cap : Nat) (w : World) (hm : s.name.size ≤ maxLen) (hd : DatAt w p s.dat) :
    Calls Try.prog 14 #[SV s p cap] w fun x w' => x = .returned (.bool (Sm.vld s)) ∧ Below w.heap.size w w' := by
  by_cases hn : Sm.nmd s.name = true
  · by_cases h2 : s.bits = 8 ∨ s.bits = 16
    · by_cases h3 : (s.dat.length : Int) ≤ 4096
      · by_cases h4 : 1 ≤ s.rate
        · by_cases h5 : s.rate ≤ 65535
          · by_cases h6 : 0 ≤ s.vol
            · by_cases h7 : s.vol ≤ 64
              · by_cases h8 : -1 ≤ s.pan
                · by_cases h9 : s.pan ≤ 256
                  · by_cases h10 : -64 ≤ s.fine
                    · by_cases h11 : s.fine ≤ 63
                      · exact rvalid_head s p cap w hm hd hn h2 h3 h4 h5 h6 h7 h8 h9 h10 h11
                      · exact rvalid_bad9 s p cap w hm hn h2 h3 h4 h5 h6 h7 h8 h9 h10 (by omega)
                    · exact rvalid_bad8 s p cap w hm hn h2 h3 h4 h5 h6 h7 h8 h9 (by omega)
                  · exact rvalid_bad7 s p cap w hm hn h2 h3 h4 h5 h6 h7 h8 (by omega)
                · exact rvalid_bad6 s p cap w hm hn h2 h3 h4 h5 h6 h7 (by omega)
              · exact rvalid_bad5 s p cap w hm hn h2 h3 h4 h5 h6 (by omega)
            · exact rvalid_bad4 s p cap w hm hn h2 h3 h4 h5 (by omega)
          · exact rvalid_bad3 s p cap w hm hn h2 h3 h4 (by omega)
        · exact rvalid_bad2 s p cap w hm hn h2 h3 (by omega)
      · exact rvalid_bad1 s p cap w hm hn h2 (by omega)
    · exact rvalid_bad0 s p cap w hm hn (by omega)
  · exact rvalid_named s p cap w hm (by simpa using hn)
end Go.Proofs.Ytmaldhjcdkidmaa

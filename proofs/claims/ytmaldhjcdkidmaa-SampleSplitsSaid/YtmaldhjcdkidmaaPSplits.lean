/-
  The walk of the law SampleSplits: for any sample, place and steps it returns true; nothing that was there is changed.
-/
import Derived.Test.YtmaldhjcdkidmaaPAsk
import Derived.Test.YtmaldhjcdkidmaaPAwake
import Derived.Test.YtmaldhjcdkidmaaPValid
namespace Go.Proofs.Ytmaldhjcdkidmaa
open Go.RowKit

set_option maxHeartbeats 1600000 in
theorem splits_n1 (x : Ak) (p : Option Addr) (cap : Nat) (a b : Int) (w : World)  (h1 : a < 0) :
    Calls Try.prog 6 #[AV x p cap, .int .i64 a, .int .i64 b] w fun z w' => z = .returned (.bool true) ∧ Below w.heap.size w w' := by
  unfold AV
  go_enter Try.func6, Try.ntmps6
  go_wp2_with (first | (go_at_call 22; ((with_reducible refine (p_awake _).mono ?_); rintro z w1 ⟨rfl, hb1⟩)))
  go_ret
  exact ⟨rfl, (below_box _ _).trans (hb1.mono (by simp))⟩
set_option maxHeartbeats 1600000 in
theorem splits_n2 (x : Ak) (p : Option Addr) (cap : Nat) (a b : Int) (w : World)  (h1 : 0 ≤ a) (h2 : b < 0) :
    Calls Try.prog 6 #[AV x p cap, .int .i64 a, .int .i64 b] w fun z w' => z = .returned (.bool true) ∧ Below w.heap.size w w' := by
  unfold AV
  go_enter Try.func6, Try.ntmps6
  go_wp2_with (first | (go_at_call 22; ((with_reducible refine (p_awake _).mono ?_); rintro z w1 ⟨rfl, hb1⟩)))
  go_ret
  exact ⟨rfl, (below_box _ _).trans (hb1.mono (by simp))⟩
set_option maxHeartbeats 1600000 in
theorem splits_n3 (x : Ak) (p : Option Addr) (cap : Nat) (a b : Int) (w : World)  (h1 : 0 ≤ a) (h2 : 0 ≤ b) (h3 : 268435456 < a) :
    Calls Try.prog 6 #[AV x p cap, .int .i64 a, .int .i64 b] w fun z w' => z = .returned (.bool true) ∧ Below w.heap.size w w' := by
  unfold AV
  go_enter Try.func6, Try.ntmps6
  go_wp2_with (first | (go_at_call 22; ((with_reducible refine (p_awake _).mono ?_); rintro z w1 ⟨rfl, hb1⟩)))
  go_ret
  exact ⟨rfl, (below_box _ _).trans (hb1.mono (by simp))⟩
set_option maxHeartbeats 1600000 in
theorem splits_n4 (x : Ak) (p : Option Addr) (cap : Nat) (a b : Int) (w : World)  (h1 : 0 ≤ a) (h2 : 0 ≤ b) (h3 : a ≤ 268435456) (h4 : 268435456 - a < b) :
    Calls Try.prog 6 #[AV x p cap, .int .i64 a, .int .i64 b] w fun z w' => z = .returned (.bool true) ∧ Below w.heap.size w w' := by
  unfold AV
  go_enter Try.func6, Try.ntmps6
  go_wp2_with (first | (go_at_call 22; ((with_reducible refine (p_awake _).mono ?_); rintro z w1 ⟨rfl, hb1⟩)))
  go_ret
  exact ⟨rfl, (below_box _ _).trans (hb1.mono (by simp))⟩
set_option maxHeartbeats 1600000 in
theorem splits_ok (x : Ak) (p : Option Addr) (cap : Nat) (a b : Int) (w : World) (hm : x.s.name.size ≤ maxLen) (hd : DatAt w p x.s.dat) (hl : (x.s.dat.length : Int) ≤ 9223372036854775807) (h1 : 0 ≤ a) (h2 : 0 ≤ b) (h3 : a ≤ 268435456) (h4 : b ≤ 268435456 - a) (hv : Sm.vld x.s = true) :
    Calls Try.prog 6 #[AV x p cap, .int .i64 a, .int .i64 b] w fun z w' => z = .returned (.bool true) ∧ Below w.heap.size w w' := by
  obtain ⟨c, hc⟩ : ∃ c, bgn x.s x.off false = c := ⟨_, rfl⟩
  obtain ⟨m, hmm⟩ : ∃ m, mvS x.s x.held c a = m := ⟨_, rfl⟩
  obtain ⟨n, hn⟩ : ∃ n, mvS x.s x.held m b = n := ⟨_, rfl⟩
  have hs : mvS x.s x.held c (a + b) = n := by
    have hr := ring_of hv x.held
    rw [← hn, ← hmm, ← hc]
    unfold bgn
    split
    · rw [if_neg (by simp)]
      exact (Sm.gone_split hr h2).symm
    · rfl
  have oc : Okc x.s.dat.length c := hc ▸ okc_bgn _ _
  have om : Okc x.s.dat.length m := hmm ▸ okc_move hv _ oc h1
  have HBg := Lib.hid (p_Begin_to x.s p cap x.off false c (w.alloc (.cells #[.string x.s.name, .slice p x.s.dat.length cap, .int .i64 x.s.bits, .int .i64 x.s.rate, .int .i64 x.s.vol, .int .i64 x.s.pan, .int .i64 x.s.fine, .int .i64 x.s.loop, .int .i64 x.s.start, .int .i64 x.s.fin, .int .i64 x.s.sus, .int .i64 x.s.sstart, .int .i64 x.s.sfin, .int .i64 x.po, .int .i64 x.fr, .bool x.bk, .bool x.dn, .int .i64 x.step, .int .i64 x.k, .int .i64 x.n, .int .i64 x.off, .int .i64 x.frm, .int .i64 x.til, .int .i64 x.num, .int .i64 x.den, .int .i64 x.bits, .bool x.held, .bool x.back] 28)) hm (hd.below (below_box _ _)) hl hc)
  have HM1 := Lib.hid (fun w hd => p_Move_to x.s p cap c m a x.held w hm hd hv oc h1 (by omega) hmm)
  have HM2 := Lib.hid (fun w hd => p_Move_to x.s p cap m n b x.held w hm hd hv om h2 (by omega) hn)
  have HM3 := Lib.hid (fun w hd => p_Move_to x.s p cap c n (a + b) x.held w hm hd hv oc (by omega) (by omega) hs)
  obtain ⟨cp, cf, cb, cd⟩ := c
  obtain ⟨mp, mf, mb, md⟩ := m
  obtain ⟨np, nf, nb, nd⟩ := n
  dsimp only at HBg HM1 HM2 HM3
  clear hc hmm hn hs oc om hv hl
  unfold SV at HBg HM1 HM2 HM3
  unfold AV
  go_enter Try.func6, Try.ntmps6
  go_wp2_with (first | (go_at_call 15; ((with_reducible refine (HBg.out).mono ?_); rintro z w1 ⟨rfl, hb1⟩; have HB1 := Lib.hid (stepB (below_box _ _) hb1); have HA1 := Lib.hid (((ab_new w x p cap).kept hb1).kept (below_box w1 (.cells #[.int .i64 cp, .int .i64 cf, .bool cb, .bool cd] 26))); have HC1 := Lib.hid (ca_new w1 cp cf cb cd); have HD1 := Lib.hid ((hd.below HB1.out).below (below_box w1 (.cells #[.int .i64 cp, .int .i64 cf, .bool cb, .bool cd] 26))); obtain ⟨⟨x0, x1, x2, x3, x4, x5, x6, x7, x8, x9, x10, x11, x12⟩, y13, y14, y15, y16, y17, y18, y19, y20, y21, y22, y23, y24, y25, y26, y27⟩ := HA1.out; obtain ⟨c0, c1, c2, c3⟩ := HC1.out)) | (go_at_call 17; ((with_reducible refine (HM1.out _ HD1.out).mono ?_); rintro z w2 ⟨rfl, hb2⟩; have HB2 := Lib.hid (stepB (stepB HB1.out (below_box w1 (.cells #[.int .i64 cp, .int .i64 cf, .bool cb, .bool cd] 26))) hb2); have HA2 := Lib.hid ((HA1.out.kept hb2).kept (below_box w2 (.cells #[.int .i64 mp, .int .i64 mf, .bool mb, .bool md] 26))); have HC2 := Lib.hid ((HC1.out.kept hb2).kept (below_box w2 (.cells #[.int .i64 mp, .int .i64 mf, .bool mb, .bool md] 26))); have HMc := Lib.hid (ca_new w2 mp mf mb md); have HD2 := Lib.hid ((hd.below HB2.out).below (below_box w2 (.cells #[.int .i64 mp, .int .i64 mf, .bool mb, .bool md] 26))); obtain ⟨⟨x0, x1, x2, x3, x4, x5, x6, x7, x8, x9, x10, x11, x12⟩, y13, y14, y15, y16, y17, y18, y19, y20, y21, y22, y23, y24, y25, y26, y27⟩ := HA2.out; obtain ⟨c0, c1, c2, c3⟩ := HC2.out; obtain ⟨m0, m1, m2, m3⟩ := HMc.out)) | (go_at_call 17; ((with_reducible refine (HM2.out _ HD2.out).mono ?_); rintro z w3 ⟨rfl, hb3⟩; have HB3 := Lib.hid (stepB (stepB HB2.out (below_box w2 (.cells #[.int .i64 mp, .int .i64 mf, .bool mb, .bool md] 26))) hb3); have HA3 := Lib.hid ((HA2.out.kept hb3).kept (below_box w3 (.cells #[.int .i64 np, .int .i64 nf, .bool nb, .bool nd] 26))); have HC3 := Lib.hid ((HC2.out.kept hb3).kept (below_box w3 (.cells #[.int .i64 np, .int .i64 nf, .bool nb, .bool nd] 26))); have HN3 := Lib.hid (ca_new w3 np nf nb nd); have HD3 := Lib.hid ((hd.below HB3.out).below (below_box w3 (.cells #[.int .i64 np, .int .i64 nf, .bool nb, .bool nd] 26))); obtain ⟨⟨x0, x1, x2, x3, x4, x5, x6, x7, x8, x9, x10, x11, x12⟩, y13, y14, y15, y16, y17, y18, y19, y20, y21, y22, y23, y24, y25, y26, y27⟩ := HA3.out; obtain ⟨c0, c1, c2, c3⟩ := HC3.out)) | (go_at_call 17; ((with_reducible refine (HM3.out _ HD3.out).mono ?_); rintro z w4 ⟨rfl, hb4⟩; have HB4 := Lib.hid (stepB (stepB HB3.out (below_box w3 (.cells #[.int .i64 np, .int .i64 nf, .bool nb, .bool nd] 26))) hb4); obtain ⟨n0, n1, n2, n3⟩ := (HN3.out.kept hb4).kept (below_box w4 (.cells #[.int .i64 np, .int .i64 nf, .bool nb, .bool nd] 26)))) | (go_at_call 22; ((with_reducible refine (p_awake _).mono ?_); rintro z w5 ⟨rfl, hb5⟩)))
  go_ret
  exact ⟨rfl, stepB (stepB HB4.out (below_box w4 (.cells #[.int .i64 np, .int .i64 nf, .bool nb, .bool nd] 26))) hb5⟩
set_option maxHeartbeats 1600000 in
theorem splits_bad (x : Ak) (p : Option Addr) (cap : Nat) (a b : Int) (w : World) (hm : x.s.name.size ≤ maxLen) (hd : DatAt w p x.s.dat) (hl : (x.s.dat.length : Int) ≤ 9223372036854775807) (h1 : 0 ≤ a) (h2 : 0 ≤ b) (h3 : a ≤ 268435456) (h4 : b ≤ 268435456 - a) (hv : Sm.vld x.s = false) :
    Calls Try.prog 6 #[AV x p cap, .int .i64 a, .int .i64 b] w fun z w' => z = .returned (.bool true) ∧ Below w.heap.size w w' := by
  obtain ⟨c, hc⟩ : ∃ c, bgn x.s x.off false = c := ⟨_, rfl⟩
  have HBg := Lib.hid (p_Begin_to x.s p cap x.off false c (w.alloc (.cells #[.string x.s.name, .slice p x.s.dat.length cap, .int .i64 x.s.bits, .int .i64 x.s.rate, .int .i64 x.s.vol, .int .i64 x.s.pan, .int .i64 x.s.fine, .int .i64 x.s.loop, .int .i64 x.s.start, .int .i64 x.s.fin, .int .i64 x.s.sus, .int .i64 x.s.sstart, .int .i64 x.s.sfin, .int .i64 x.po, .int .i64 x.fr, .bool x.bk, .bool x.dn, .int .i64 x.step, .int .i64 x.k, .int .i64 x.n, .int .i64 x.off, .int .i64 x.frm, .int .i64 x.til, .int .i64 x.num, .int .i64 x.den, .int .i64 x.bits, .bool x.held, .bool x.back] 28)) hm (hd.below (below_box _ _)) hl hc)
  obtain ⟨cp, cf, cb, cd⟩ := c
  have HM1 := Lib.hid (fun w hd => p_Move_bad x.s p cap cp cf a cb cd x.held w hm hd hv)
  have HVd := Lib.hid (fun w hd => p_valid_v x.s p cap w hm hd hv)
  dsimp only at HBg
  clear hc hv hl
  unfold SV at HBg HM1 HVd
  unfold AV
  go_enter Try.func6, Try.ntmps6
  go_wp2_with (first | (go_at_call 15; ((with_reducible refine (HBg.out).mono ?_); rintro z w1 ⟨rfl, hb1⟩; have HB1 := Lib.hid (stepB (below_box _ _) hb1); have HA1 := Lib.hid (((ab_new w x p cap).kept hb1).kept (below_box w1 (.cells #[.int .i64 cp, .int .i64 cf, .bool cb, .bool cd] 26))); have HC1 := Lib.hid (ca_new w1 cp cf cb cd); have HD1 := Lib.hid ((hd.below HB1.out).below (below_box w1 (.cells #[.int .i64 cp, .int .i64 cf, .bool cb, .bool cd] 26))); obtain ⟨⟨x0, x1, x2, x3, x4, x5, x6, x7, x8, x9, x10, x11, x12⟩, y13, y14, y15, y16, y17, y18, y19, y20, y21, y22, y23, y24, y25, y26, y27⟩ := HA1.out; obtain ⟨c0, c1, c2, c3⟩ := HC1.out)) | (go_at_call 17; ((with_reducible refine (HM1.out _ HD1.out).mono ?_); rintro z w2 ⟨rfl, hb2⟩; have HB2 := Lib.hid (stepB (stepB HB1.out (below_box w1 (.cells #[.int .i64 cp, .int .i64 cf, .bool cb, .bool cd] 26))) hb2); have HA2 := Lib.hid ((HA1.out.kept hb2).kept (below_box w2 (.cells #[.int .i64 0, .int .i64 0, .bool false, .bool false] 26))); have HD2 := Lib.hid ((hd.below HB2.out).below (below_box w2 (.cells #[.int .i64 0, .int .i64 0, .bool false, .bool false] 26))); obtain ⟨⟨x0, x1, x2, x3, x4, x5, x6, x7, x8, x9, x10, x11, x12⟩, y13, y14, y15, y16, y17, y18, y19, y20, y21, y22, y23, y24, y25, y26, y27⟩ := HA2.out)) | (go_at_call 13; ((with_reducible refine (HVd.out _ HD2.out).mono ?_); rintro z w3 ⟨rfl, hb3⟩)) | (go_at_call 22; ((with_reducible refine (p_awake _).mono ?_); rintro z w5 ⟨rfl, hb5⟩)))
  go_ret
  exact ⟨rfl, stepB (stepB (stepB HB2.out (below_box w2 (.cells #[.int .i64 0, .int .i64 0, .bool false, .bool false] 26))) hb3) hb5⟩
/-- The law SampleSplits' walk. -/
theorem splits_any (x : Ak) (p : Option Addr) (cap : Nat) (a b : Int) (w : World) (hm : x.s.name.size ≤ maxLen) (hd : DatAt w p x.s.dat) (hl : (x.s.dat.length : Int) ≤ 9223372036854775807) :
    Calls Try.prog 6 #[AV x p cap, .int .i64 a, .int .i64 b] w fun z w' => z = .returned (.bool true) ∧ Below w.heap.size w w' := by
  by_cases h1 : 0 ≤ a
  · by_cases h2 : 0 ≤ b
    · by_cases h3 : a ≤ 268435456
      · by_cases h4 : b ≤ 268435456 - a
        · cases hv : Sm.vld x.s
          · exact splits_bad x p cap a b w hm hd hl h1 h2 h3 h4 hv
          · exact splits_ok x p cap a b w hm hd hl h1 h2 h3 h4 hv
        · exact splits_n4 x p cap a b w h1 h2 h3 (by omega)
      · exact splits_n3 x p cap a b w h1 h2 (by omega)
    · exact splits_n2 x p cap a b w h1 (by omega)
  · exact splits_n1 x p cap a b w (by omega)
end Go.Proofs.Ytmaldhjcdkidmaa

/-
  The walk of the law SampleTells: for any sample, cursor and numbers it returns true; nothing that was there is changed.
-/
import Derived.Test.YtmaldhjcdkidmaaPPairs
import Derived.Test.YtmaldhjcdkidmaaPAwake
import Derived.Test.YtmaldhjcdkidmaaPAlike
import Derived.Test.YtmaldhjcdkidmaaPAmp
import Derived.Outline
namespace Go.Proofs.Ytmaldhjcdkidmaa
open Go.RowKit

theorem Cop.kept {w w' : World} {g : Nat} {s : Sm.Smp} (h : Cop w g s) (hb : Below w.heap.size w w') : Cop w' g s := ⟨h.1.below hb, kept_cell hb h.2⟩
theorem Cop.dat {w : World} {g : Nat} {s : Sm.Smp} (h : Cop w g s) : DatAt w (some ⟨g, 0, none⟩) s.dat := h.1
theorem bxk {w w' : World} {b : Nat} {s : Sm.Smp} {p : Option Addr} {cap : Nat} (h : Boxed w b s p cap) (hb : Below w.heap.size w w') : Boxed w' b s p cap := h.below hb (cell_lt h.1)
set_option maxRecDepth 100000 in
set_option maxHeartbeats 6400000 in
theorem tells_any (x : Ak) (p : Option Addr) (cap : Nat) (w : World) (hm : x.s.name.size ≤ maxLen) (hd : DatAt w p x.s.dat) (hcap : x.s.dat.length ≤ cap) (hcw : (cap : Int) * 8 ≤ 140737488351232) :
    Calls Try.prog 3 #[AV x p cap] w fun z w' => z = .returned (.bool true) ∧ Below w.heap.size w w' := by
  have hl : (x.s.dat.length : Int) ≤ 9223372036854775807 := by omega
  have HCp := Lib.hid (l_copy x.s p cap (w.alloc (.cells #[.string x.s.name, .slice p x.s.dat.length cap, .int .i64 x.s.bits, .int .i64 x.s.rate, .int .i64 x.s.vol, .int .i64 x.s.pan, .int .i64 x.s.fine, .int .i64 x.s.loop, .int .i64 x.s.start, .int .i64 x.s.fin, .int .i64 x.s.sus, .int .i64 x.s.sstart, .int .i64 x.s.sfin, .int .i64 x.po, .int .i64 x.fr, .bool x.bk, .bool x.dn, .int .i64 x.step, .int .i64 x.k, .int .i64 x.n, .int .i64 x.off, .int .i64 x.frm, .int .i64 x.til, .int .i64 x.num, .int .i64 x.den, .int .i64 x.bits, .bool x.held, .bool x.back] 28)) (hd.below (below_box _ _)) (by omega))
  obtain ⟨ak, aa, ab, hap, har⟩ := pair_applies x.s hm hl x.held
  obtain ⟨v, hvp, hvr⟩ := pair_valid x.s hm hl
  obtain ⟨cp, cf, cb, cd, hbp, hbr⟩ := pair_begin x.s hm hl x.off x.back
  obtain ⟨mp, mf, mb, md, er, hmp, hmr⟩ := pair_move x.s hm hl x.po x.fr x.step x.bk x.dn x.held
  obtain ⟨y, htp, htr⟩ := pair_tap x.s hm hl x.po x.fr x.k x.bk x.dn x.held
  obtain ⟨l, eu, hll, hup, hur⟩ := pair_unroll x.s hm x.n x.held
  have HUt := Lib.hid (fun g w' hc hp => l_untouched x.s p g cap w' hc hp (by omega))
  have HSm := Lib.hid (fun q1 k1 q2 k2 w' h1 h2 => same_v (p_same l l q1 q2 l.length l.length k1 k2 w' rfl rfl hll hll h1 h2) (show sml l l = true from decide_eq_true rfl))
  have HApP := Lib.hid hap
  have HApR := Lib.hid har
  have HVlP := Lib.hid hvp
  have HVlR := Lib.hid hvr
  have HBgP := Lib.hid hbp
  have HBgR := Lib.hid hbr
  have HMvP := Lib.hid hmp
  have HMvR := Lib.hid hmr
  have HTpP := Lib.hid htp
  have HTpR := Lib.hid htr
  have HUnP := Lib.hid hup
  have HUnR := Lib.hid hur
  have HD0 := Lib.hid hd
  clear hap har hvp hvr hbp hbr hmp hmr htp htr hup hur hd hm hl hcap hcw hll
  unfold RetCopy SV at HCp
  unfold SV at HUt HApP HApR HVlP HVlR HBgP HBgR HMvP HMvR HTpP HTpR HUnP HUnR
  unfold RetL at HUnP HUnR
  unfold AV
  go_enter Try.func3, Try.ntmps3
  go_wp2_with (first | (go_at_call 10; ((with_reducible refine (HCp.out).mono ?_); rintro z w1 ⟨⟨g, rfl, hcop⟩, hb1⟩; have HB1 := Lib.hid (stepB (stepB (below_box _ _) hb1) (below_box w1 (.cells #[.string x.s.name, .slice (some ⟨g, 0, none⟩) x.s.dat.length (x.s.dat.length + 1), .int .i64 x.s.bits, .int .i64 x.s.rate, .int .i64 x.s.vol, .int .i64 x.s.pan, .int .i64 x.s.fine, .int .i64 x.s.loop, .int .i64 x.s.start, .int .i64 x.s.fin, .int .i64 x.s.sus, .int .i64 x.s.sstart, .int .i64 x.s.sfin] 24))); have HA1 := Lib.hid (((ab_new w x p cap).kept hb1).kept (below_box w1 (.cells #[.string x.s.name, .slice (some ⟨g, 0, none⟩) x.s.dat.length (x.s.dat.length + 1), .int .i64 x.s.bits, .int .i64 x.s.rate, .int .i64 x.s.vol, .int .i64 x.s.pan, .int .i64 x.s.fine, .int .i64 x.s.loop, .int .i64 x.s.start, .int .i64 x.s.fin, .int .i64 x.s.sus, .int .i64 x.s.sstart, .int .i64 x.s.sfin] 24))); have HS1 := Lib.hid (boxed_new w1 x.s (some ⟨g, 0, none⟩) (x.s.dat.length + 1) 24); have HC1 := Lib.hid (hcop.kept (below_box w1 (.cells #[.string x.s.name, .slice (some ⟨g, 0, none⟩) x.s.dat.length (x.s.dat.length + 1), .int .i64 x.s.bits, .int .i64 x.s.rate, .int .i64 x.s.vol, .int .i64 x.s.pan, .int .i64 x.s.fine, .int .i64 x.s.loop, .int .i64 x.s.start, .int .i64 x.s.fin, .int .i64 x.s.sus, .int .i64 x.s.sstart, .int .i64 x.s.sfin] 24))); obtain ⟨⟨x0, x1, x2, x3, x4, x5, x6, x7, x8, x9, x10, x11, x12⟩, y13, y14, y15, y16, y17, y18, y19, y20, y21, y22, y23, y24, y25, y26, y27⟩ := HA1.out; obtain ⟨s0, s1, s2, s3, s4, s5, s6, s7, s8, s9, s10, s11, s12⟩ := HS1.out; clear hcop)) | (go_at_call 11; ((with_reducible refine (HApP.out _ _ _ HC1.out.dat).mono ?_); rintro z w2 ⟨rfl, hb2⟩; have HB2 := Lib.hid (stepB HB1.out hb2); have HA2 := Lib.hid (HA1.out.kept hb2); have HS2 := Lib.hid (bxk HS1.out hb2); have HC2 := Lib.hid (HC1.out.kept hb2); obtain ⟨⟨x0, x1, x2, x3, x4, x5, x6, x7, x8, x9, x10, x11, x12⟩, y13, y14, y15, y16, y17, y18, y19, y20, y21, y22, y23, y24, y25, y26, y27⟩ := HA2.out; obtain ⟨s0, s1, s2, s3, s4, s5, s6, s7, s8, s9, s10, s11, s12⟩ := HS2.out)) | (go_at_call 12; ((with_reducible refine (HApR.out _ _ _ (HD0.out.below HB2.out)).mono ?_); rintro z w3 ⟨rfl, hb3⟩; have HB3 := Lib.hid (stepB HB2.out hb3); have HA3 := Lib.hid (HA2.out.kept hb3); have HS3 := Lib.hid (bxk HS2.out hb3); have HC3 := Lib.hid (HC2.out.kept hb3); obtain ⟨⟨x0, x1, x2, x3, x4, x5, x6, x7, x8, x9, x10, x11, x12⟩, y13, y14, y15, y16, y17, y18, y19, y20, y21, y22, y23, y24, y25, y26, y27⟩ := HA3.out; obtain ⟨s0, s1, s2, s3, s4, s5, s6, s7, s8, s9, s10, s11, s12⟩ := HS3.out)))
  have hg : Below w3.heap.size w3 w3 := Below.refl _ _
  have kx0 := kin_cells x0
  have kx1 := kin_cells x1
  have kx2 := kin_cells x2
  have kx3 := kin_cells x3
  have kx4 := kin_cells x4
  have kx5 := kin_cells x5
  have kx6 := kin_cells x6
  have kx7 := kin_cells x7
  have kx8 := kin_cells x8
  have kx9 := kin_cells x9
  have kx10 := kin_cells x10
  have kx11 := kin_cells x11
  have kx12 := kin_cells x12
  have ks0 := kin_cells s0
  have ks1 := kin_cells s1
  have ks2 := kin_cells s2
  have ks3 := kin_cells s3
  have ks4 := kin_cells s4
  have ks5 := kin_cells s5
  have ks6 := kin_cells s6
  have ks7 := kin_cells s7
  have ks8 := kin_cells s8
  have ks9 := kin_cells s9
  have ks10 := kin_cells s10
  have ks11 := kin_cells s11
  have ks12 := kin_cells s12
  have ky20 := kin_cells y20
  have ky27 := kin_cells y27
  clear x0 x1 x2 x3 x4 x5 x6 x7 x8 x9 x10 x11 x12 s0 s1 s2 s3 s4 s5 s6 s7 s8 s9 s10 s11 s12 y13 y14 y15 y16 y17 y18 y19 y20 y21 y22 y23 y24 y25 y26 y27
  refine kin_region (W := w3) (by kernel_rfl) (by kernel_rfl) hg ?_
  repeat (go_big_quiet_step (first | (go_at_call 13; exact kinB (HVlP.out _ _ _ (HC3.out.dat.below (Kin.below _)))) | (go_at_call 14; exact kinB (HVlR.out _ _ _ ((HD0.out.below HB3.out).below (Kin.below _)))) | (go_at_call 15; exact kinB (HBgP.out _ _ _ (HC3.out.dat.below (Kin.below _)))) | (go_at_call 16; exact kinB (HBgR.out _ _ _ ((HD0.out.below HB3.out).below (Kin.below _))))))
  refine wpQuiet_nil ?_
  intro w4 hb4
  clear kx0 kx1 kx2 kx3 kx4 kx5 kx6 kx7 kx8 kx9 kx10 kx11 kx12 ks0 ks1 ks2 ks3 ks4 ks5 ks6 ks7 ks8 ks9 ks10 ks11 ks12 ky20 ky27 hg
  have HB4 := Lib.hid (stepB HB3.out hb4)
  have HA4 := Lib.hid (HA3.out.kept hb4)
  have HS4 := Lib.hid (bxk HS3.out hb4)
  have HC4 := Lib.hid (HC3.out.kept hb4)
  obtain ⟨⟨x0, x1, x2, x3, x4, x5, x6, x7, x8, x9, x10, x11, x12⟩, y13, y14, y15, y16, y17, y18, y19, y20, y21, y22, y23, y24, y25, y26, y27⟩ := HA4.out
  obtain ⟨s0, s1, s2, s3, s4, s5, s6, s7, s8, s9, s10, s11, s12⟩ := HS4.out
  clear HA1 HA2 HA3 HS1 HS2 HS3 HC1 HC2 HC3 HB1 HB2 HB3 HCp HApP HApR HVlP HVlR HBgP HBgR
  go_wp2_with (first | (go_at_call 17; ((with_reducible refine (HMvP.out _ _ _ HC4.out.dat).mono ?_); rintro z w5 ⟨rfl, hb5⟩; have HB5 := Lib.hid (stepB (stepB HB4.out hb5) (below_box w5 (.cells #[.int .i64 mp, .int .i64 mf, .bool mb, .bool md] 26))); have HA5 := Lib.hid ((HA4.out.kept hb5).kept (below_box w5 (.cells #[.int .i64 mp, .int .i64 mf, .bool mb, .bool md] 26))); have HS5 := Lib.hid (bxk (bxk HS4.out hb5) (below_box w5 (.cells #[.int .i64 mp, .int .i64 mf, .bool mb, .bool md] 26))); have HC5 := Lib.hid ((HC4.out.kept hb5).kept (below_box w5 (.cells #[.int .i64 mp, .int .i64 mf, .bool mb, .bool md] 26))); obtain ⟨⟨x0, x1, x2, x3, x4, x5, x6, x7, x8, x9, x10, x11, x12⟩, y13, y14, y15, y16, y17, y18, y19, y20, y21, y22, y23, y24, y25, y26, y27⟩ := HA5.out; obtain ⟨s0, s1, s2, s3, s4, s5, s6, s7, s8, s9, s10, s11, s12⟩ := HS5.out; have HM5 := Lib.hid (ca_new w5 mp mf mb md))) | (go_at_call 18; ((with_reducible refine (HMvR.out _ _ _ (HD0.out.below HB5.out)).mono ?_); rintro z w6 ⟨rfl, hb6⟩; have HB6 := Lib.hid (stepB (stepB HB5.out hb6) (below_box w6 (.cells #[.int .i64 mp, .int .i64 mf, .bool mb, .bool md] 26))); have HA6 := Lib.hid ((HA5.out.kept hb6).kept (below_box w6 (.cells #[.int .i64 mp, .int .i64 mf, .bool mb, .bool md] 26))); have HS6 := Lib.hid (bxk (bxk HS5.out hb6) (below_box w6 (.cells #[.int .i64 mp, .int .i64 mf, .bool mb, .bool md] 26))); have HC6 := Lib.hid ((HC5.out.kept hb6).kept (below_box w6 (.cells #[.int .i64 mp, .int .i64 mf, .bool mb, .bool md] 26))); obtain ⟨⟨x0, x1, x2, x3, x4, x5, x6, x7, x8, x9, x10, x11, x12⟩, y13, y14, y15, y16, y17, y18, y19, y20, y21, y22, y23, y24, y25, y26, y27⟩ := HA6.out; obtain ⟨s0, s1, s2, s3, s4, s5, s6, s7, s8, s9, s10, s11, s12⟩ := HS6.out; have HM6 := Lib.hid ((HM5.out.kept hb6).kept (below_box w6 (.cells #[.int .i64 mp, .int .i64 mf, .bool mb, .bool md] 26))); have HN6 := Lib.hid (ca_new w6 mp mf mb md); obtain ⟨m0, m1, m2, m3⟩ := HM6.out; obtain ⟨n0, n1, n2, n3⟩ := HN6.out)))
  have hg : Below (w6.alloc (.cells #[.int .i64 mp, .int .i64 mf, .bool mb, .bool md] 26)).heap.size (w6.alloc (.cells #[.int .i64 mp, .int .i64 mf, .bool mb, .bool md] 26)) (w6.alloc (.cells #[.int .i64 mp, .int .i64 mf, .bool mb, .bool md] 26)) := Below.refl _ _
  have kx0 := kin_cells x0
  have kx1 := kin_cells x1
  have kx2 := kin_cells x2
  have kx3 := kin_cells x3
  have kx4 := kin_cells x4
  have kx5 := kin_cells x5
  have kx6 := kin_cells x6
  have kx7 := kin_cells x7
  have kx8 := kin_cells x8
  have kx9 := kin_cells x9
  have kx10 := kin_cells x10
  have kx11 := kin_cells x11
  have kx12 := kin_cells x12
  have ks0 := kin_cells s0
  have ks1 := kin_cells s1
  have ks2 := kin_cells s2
  have ks3 := kin_cells s3
  have ks4 := kin_cells s4
  have ks5 := kin_cells s5
  have ks6 := kin_cells s6
  have ks7 := kin_cells s7
  have ks8 := kin_cells s8
  have ks9 := kin_cells s9
  have ks10 := kin_cells s10
  have ks11 := kin_cells s11
  have ks12 := kin_cells s12
  have ky13 := kin_cells y13
  have ky14 := kin_cells y14
  have ky15 := kin_cells y15
  have ky16 := kin_cells y16
  have ky18 := kin_cells y18
  have ky26 := kin_cells y26
  have km0 := kin_cells m0
  have km1 := kin_cells m1
  have km2 := kin_cells m2
  have km3 := kin_cells m3
  have kn0 := kin_cells n0
  have kn1 := kin_cells n1
  have kn2 := kin_cells n2
  have kn3 := kin_cells n3
  clear x0 x1 x2 x3 x4 x5 x6 x7 x8 x9 x10 x11 x12 s0 s1 s2 s3 s4 s5 s6 s7 s8 s9 s10 s11 s12 y13 y14 y15 y16 y17 y18 y19 y20 y21 y22 y23 y24 y25 y26 y27 m0 m1 m2 m3 n0 n1 n2 n3
  refine kin_region (W := w6.alloc (.cells #[.int .i64 mp, .int .i64 mf, .bool mb, .bool md] 26)) (by kernel_rfl) (by kernel_rfl) hg ?_
  repeat (go_big_quiet_step (first | (go_at_call 19; exact kinB (HTpP.out _ _ _ (HC6.out.dat.below (Kin.below _)))) | (go_at_call 20; exact kinB (HTpR.out _ _ _ ((HD0.out.below HB6.out).below (Kin.below _)))) | (go_at_call 21; exact kinB (HUt.out _ _ (HC6.out.kept (Kin.below _)) ((HD0.out.below HB6.out).below (Kin.below _))))))
  refine wpQuiet_nil ?_
  intro w7 hb7
  clear kx0 kx1 kx2 kx3 kx4 kx5 kx6 kx7 kx8 kx9 kx10 kx11 kx12 ks0 ks1 ks2 ks3 ks4 ks5 ks6 ks7 ks8 ks9 ks10 ks11 ks12 ky13 ky14 ky15 ky16 ky18 ky26 km0 km1 km2 km3 kn0 kn1 kn2 kn3 hg
  have HB7 := Lib.hid (stepB HB6.out hb7)
  have HA7 := Lib.hid (HA6.out.kept hb7)
  have HS7 := Lib.hid (bxk HS6.out hb7)
  have HC7 := Lib.hid (HC6.out.kept hb7)
  obtain ⟨⟨x0, x1, x2, x3, x4, x5, x6, x7, x8, x9, x10, x11, x12⟩, y13, y14, y15, y16, y17, y18, y19, y20, y21, y22, y23, y24, y25, y26, y27⟩ := HA7.out
  obtain ⟨s0, s1, s2, s3, s4, s5, s6, s7, s8, s9, s10, s11, s12⟩ := HS7.out
  clear HA4 HA5 HA6 HS4 HS5 HS6 HC4 HC5 HC6 HB4 HB5 HB6 HM5 HM6 HN6 HMvP HMvR HTpP HTpR
  rcases (show (2000 < x.n ∧ x.n ≤ 200000) ∨ x.n ≤ 2000 ∨ (2000 < x.n ∧ 200000 < x.n) by omega) with ⟨h1, h2⟩ | h1 | ⟨h1, h2⟩
  · go_wp2_with (first | (go_at_call 22; ((with_reducible refine (p_awake _).mono ?_); rintro z w8 ⟨rfl, hb8⟩)))
    go_ret
    exact ⟨rfl, stepB HB7.out hb8⟩
  · go_wp2_with (first | (go_at_call 23; ((with_reducible refine (HUnP.out _ _ _ HC7.out.dat).mono ?_); rintro z w8 ⟨⟨q1, k1, rfl, hq1⟩, hb8⟩; have HB8 := Lib.hid (stepB HB7.out hb8); have HA8 := Lib.hid (HA7.out.kept hb8); have HS8 := Lib.hid (bxk HS7.out hb8); have HC8 := Lib.hid (HC7.out.kept hb8); obtain ⟨⟨x0, x1, x2, x3, x4, x5, x6, x7, x8, x9, x10, x11, x12⟩, y13, y14, y15, y16, y17, y18, y19, y20, y21, y22, y23, y24, y25, y26, y27⟩ := HA8.out; obtain ⟨s0, s1, s2, s3, s4, s5, s6, s7, s8, s9, s10, s11, s12⟩ := HS8.out; have HQ8 := Lib.hid hq1; clear hq1)) | (go_at_call 24; ((with_reducible refine (HUnR.out _ _ _ (HD0.out.below HB8.out)).mono ?_); rintro z w9 ⟨⟨q2, k2, rfl, hq2⟩, hb9⟩; have HB9 := Lib.hid (stepB HB8.out hb9); have HA9 := Lib.hid (HA8.out.kept hb9); have HS9 := Lib.hid (bxk HS8.out hb9); have HC9 := Lib.hid (HC8.out.kept hb9); obtain ⟨⟨x0, x1, x2, x3, x4, x5, x6, x7, x8, x9, x10, x11, x12⟩, y13, y14, y15, y16, y17, y18, y19, y20, y21, y22, y23, y24, y25, y26, y27⟩ := HA9.out; obtain ⟨s0, s1, s2, s3, s4, s5, s6, s7, s8, s9, s10, s11, s12⟩ := HS9.out; have HQ9 := Lib.hid (HQ8.out.below hb9); have HR9 := Lib.hid hq2; clear hq2)) | (go_at_call 25; ((with_reducible refine (HSm.out _ _ _ _ _ HQ9.out HR9.out).mono ?_); rintro z w10 ⟨rfl, hb10⟩; have HB10 := Lib.hid (stepB HB9.out hb10); have HA10 := Lib.hid (HA9.out.kept hb10); have HS10 := Lib.hid (bxk HS9.out hb10); have HC10 := Lib.hid (HC9.out.kept hb10); obtain ⟨⟨x0, x1, x2, x3, x4, x5, x6, x7, x8, x9, x10, x11, x12⟩, y13, y14, y15, y16, y17, y18, y19, y20, y21, y22, y23, y24, y25, y26, y27⟩ := HA10.out; obtain ⟨s0, s1, s2, s3, s4, s5, s6, s7, s8, s9, s10, s11, s12⟩ := HS10.out)) | (go_at_call 21; ((with_reducible refine (HUt.out _ _ HC10.out (HD0.out.below HB10.out)).mono ?_); rintro z w11 ⟨rfl, hb11⟩; have HB11 := Lib.hid (stepB HB10.out hb11); have HA11 := Lib.hid (HA10.out.kept hb11); have HS11 := Lib.hid (bxk HS10.out hb11); have HC11 := Lib.hid (HC10.out.kept hb11); obtain ⟨⟨x0, x1, x2, x3, x4, x5, x6, x7, x8, x9, x10, x11, x12⟩, y13, y14, y15, y16, y17, y18, y19, y20, y21, y22, y23, y24, y25, y26, y27⟩ := HA11.out; obtain ⟨s0, s1, s2, s3, s4, s5, s6, s7, s8, s9, s10, s11, s12⟩ := HS11.out)) | (go_at_call 22; ((with_reducible refine (p_awake _).mono ?_); rintro z w12 ⟨rfl, hb12⟩)))
    go_ret
    exact ⟨rfl, stepB HB11.out hb12⟩
  · go_wp2_with (first | (go_at_call 23; ((with_reducible refine (HUnP.out _ _ _ HC7.out.dat).mono ?_); rintro z w8 ⟨⟨q1, k1, rfl, hq1⟩, hb8⟩; have HB8 := Lib.hid (stepB HB7.out hb8); have HA8 := Lib.hid (HA7.out.kept hb8); have HS8 := Lib.hid (bxk HS7.out hb8); have HC8 := Lib.hid (HC7.out.kept hb8); obtain ⟨⟨x0, x1, x2, x3, x4, x5, x6, x7, x8, x9, x10, x11, x12⟩, y13, y14, y15, y16, y17, y18, y19, y20, y21, y22, y23, y24, y25, y26, y27⟩ := HA8.out; obtain ⟨s0, s1, s2, s3, s4, s5, s6, s7, s8, s9, s10, s11, s12⟩ := HS8.out; have HQ8 := Lib.hid hq1; clear hq1)) | (go_at_call 24; ((with_reducible refine (HUnR.out _ _ _ (HD0.out.below HB8.out)).mono ?_); rintro z w9 ⟨⟨q2, k2, rfl, hq2⟩, hb9⟩; have HB9 := Lib.hid (stepB HB8.out hb9); have HA9 := Lib.hid (HA8.out.kept hb9); have HS9 := Lib.hid (bxk HS8.out hb9); have HC9 := Lib.hid (HC8.out.kept hb9); obtain ⟨⟨x0, x1, x2, x3, x4, x5, x6, x7, x8, x9, x10, x11, x12⟩, y13, y14, y15, y16, y17, y18, y19, y20, y21, y22, y23, y24, y25, y26, y27⟩ := HA9.out; obtain ⟨s0, s1, s2, s3, s4, s5, s6, s7, s8, s9, s10, s11, s12⟩ := HS9.out; have HQ9 := Lib.hid (HQ8.out.below hb9); have HR9 := Lib.hid hq2; clear hq2)) | (go_at_call 25; ((with_reducible refine (HSm.out _ _ _ _ _ HQ9.out HR9.out).mono ?_); rintro z w10 ⟨rfl, hb10⟩; have HB10 := Lib.hid (stepB HB9.out hb10); have HA10 := Lib.hid (HA9.out.kept hb10); have HS10 := Lib.hid (bxk HS9.out hb10); have HC10 := Lib.hid (HC9.out.kept hb10); obtain ⟨⟨x0, x1, x2, x3, x4, x5, x6, x7, x8, x9, x10, x11, x12⟩, y13, y14, y15, y16, y17, y18, y19, y20, y21, y22, y23, y24, y25, y26, y27⟩ := HA10.out; obtain ⟨s0, s1, s2, s3, s4, s5, s6, s7, s8, s9, s10, s11, s12⟩ := HS10.out)) | (go_at_call 21; ((with_reducible refine (HUt.out _ _ HC10.out (HD0.out.below HB10.out)).mono ?_); rintro z w11 ⟨rfl, hb11⟩; have HB11 := Lib.hid (stepB HB10.out hb11); have HA11 := Lib.hid (HA10.out.kept hb11); have HS11 := Lib.hid (bxk HS10.out hb11); have HC11 := Lib.hid (HC10.out.kept hb11); obtain ⟨⟨x0, x1, x2, x3, x4, x5, x6, x7, x8, x9, x10, x11, x12⟩, y13, y14, y15, y16, y17, y18, y19, y20, y21, y22, y23, y24, y25, y26, y27⟩ := HA11.out; obtain ⟨s0, s1, s2, s3, s4, s5, s6, s7, s8, s9, s10, s11, s12⟩ := HS11.out)) | (go_at_call 22; ((with_reducible refine (p_awake _).mono ?_); rintro z w12 ⟨rfl, hb12⟩)))
    go_ret
    exact ⟨rfl, stepB HB11.out hb12⟩
end Go.Proofs.Ytmaldhjcdkidmaa

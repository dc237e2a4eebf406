/-
  The walk of the law SampleWalks: for any sample and steps it returns true; nothing that was there is changed.
-/
import Derived.Test.YtmaldhjcdkidmaaPTurns
import Derived.Test.YtmaldhjcdkidmaaRefMoveB
import Derived.Test.YtmaldhjcdkidmaaBits
import Derived.Outline
import Derived.Deep.DeepCutAuto
namespace Go.Proofs.Ytmaldhjcdkidmaa
open Go.RowKit

/-- What the loop keeps. -/
structure WR (w : World) (x : Ak) (p : Option Addr) (cap n b dd : Nat) (i : Value) (wr : World) : Prop where
  out : ∃ k : Nat, (k : Int) ≤ n ∧ i = .int .i64 k ∧ Hid (∃ po' fr' bk' dn', Okc x.s.dat.length ⟨po', fr', bk', dn'⟩ ∧ CF wr dd po' fr' bk' dn') ∧ Hid (AB wr b x p cap) ∧ Hid (Below w.heap.size w wr)
/-- The reference's move of a valid sample's valid cursor, into a cursor written out. -/
theorem r_Move_to (s : Sm.Smp) (p : Option Addr) (cap : Nat) (c d : Sm.Cur) (st : Int) (h : Bool) (w : World) (hm : s.name.size ≤ maxLen) (hd : DatAt w p s.dat) (hv : Sm.vld s = true) (hs : Okc s.dat.length c) (s1 : 0 ≤ st) (s2 : st ≤ 268435456) (hcd : mvS s h c st = d) :
    Calls Try.prog 18 #[SV s p cap, .agg #[.int .i64 c.pos, .int .i64 c.frac, .bool c.back, .bool c.done], .int .i64 st, .bool h] w fun x w' => x = .returned (.tuple #[.agg #[.int .i64 d.pos, .int .i64 d.frac, .bool d.back, .bool d.done], .int .i64 0]) ∧ Below w.heap.size w w' := by
  subst hcd
  exact (rmove_ok s p cap c.pos c.frac st c.back c.done h w hm hd hv hs s1 s2).mono fun _ _ ⟨he, hb⟩ => ⟨retE he, hb⟩
theorem r_Move_rng (s : Sm.Smp) (p : Option Addr) (cap : Nat) (c : Sm.Cur) (st : Int) (h : Bool) (w : World) (hm : s.name.size ≤ maxLen) (hd : DatAt w p s.dat) (hv : Sm.vld s = true) (hs : Okc s.dat.length c) (hr : st < 0 ∨ 268435456 < st) :
    Calls Try.prog 18 #[SV s p cap, .agg #[.int .i64 c.pos, .int .i64 c.frac, .bool c.back, .bool c.done], .int .i64 st, .bool h] w fun x w' => x = .returned (.tuple #[.agg #[.int .i64 0, .int .i64 0, .bool false, .bool false], .int .i64 5]) ∧ Below w.heap.size w w' :=
  (rmove_range s p cap c.pos c.frac st c.back c.done h w hm hd hv hs hr).mono fun _ _ ⟨he, hb⟩ => ⟨retE he, hb⟩
theorem p_Move_rng (s : Sm.Smp) (p : Option Addr) (cap : Nat) (c : Sm.Cur) (st : Int) (h : Bool) (w : World) (hm : s.name.size ≤ maxLen) (hd : DatAt w p s.dat) (hv : Sm.vld s = true) (hs : Okc s.dat.length c) (hr : st < 0 ∨ 268435456 < st) :
    Calls Try.prog 17 #[SV s p cap, .agg #[.int .i64 c.pos, .int .i64 c.frac, .bool c.back, .bool c.done], .int .i64 st, .bool h] w fun x w' => x = .returned (.tuple #[.agg #[.int .i64 0, .int .i64 0, .bool false, .bool false], .int .i64 5]) ∧ Below w.heap.size w w' :=
  (p_Move_range s p cap c.pos c.frac st c.back c.done h w hm hd hv hs hr).mono fun _ _ ⟨he, hb⟩ => ⟨retE he, hb⟩
theorem getD_mem (zs : List Int) (w : World) (q : Option Addr) {k : Nat} (h : DatAt w q zs) (hk : k < zs.length) : ∃ b o, q = some ⟨b, o, none⟩ ∧ w.cell? ⟨b, o + k, none⟩ = some (.int .i64 (zs.getD k 0)) := h.at hk
set_option maxRecDepth 100000 in
set_option maxHeartbeats 6400000 in
theorem walks_bad (x : Ak) (p : Option Addr) (cap : Nat) (zs : List Int) (q : Option Addr) (qc : Nat) (w : World) (hm : x.s.name.size ≤ maxLen) (hd : DatAt w p x.s.dat) (hl : (x.s.dat.length : Int) ≤ 9223372036854775807) (hq : DatAt w q zs) (hz : (zs.length : Int) ≤ 9223372036854775807) (hv : Sm.vld x.s = false) :
    Calls Try.prog 5 #[AV x p cap, .slice q zs.length qc] w fun z w' => z = .returned (.bool true) ∧ Below w.heap.size w w' := by
  have _u := And.intro hl (And.intro hq hz)
  clear _u hl hq
  have HVd := Lib.hid (p_valid_v x.s p cap (w.alloc (.cells #[.string x.s.name, .slice p x.s.dat.length cap, .int .i64 x.s.bits, .int .i64 x.s.rate, .int .i64 x.s.vol, .int .i64 x.s.pan, .int .i64 x.s.fine, .int .i64 x.s.loop, .int .i64 x.s.start, .int .i64 x.s.fin, .int .i64 x.s.sus, .int .i64 x.s.sstart, .int .i64 x.s.sfin, .int .i64 x.po, .int .i64 x.fr, .bool x.bk, .bool x.dn, .int .i64 x.step, .int .i64 x.k, .int .i64 x.n, .int .i64 x.off, .int .i64 x.frm, .int .i64 x.til, .int .i64 x.num, .int .i64 x.den, .int .i64 x.bits, .bool x.held, .bool x.back] 28)) hm (hd.below (below_box _ _)) hv)
  clear hv
  unfold SV at HVd
  unfold AV
  go_enter Try.func5, Try.ntmps5
  go_wp2_with (first | (go_at_call 13; ((with_reducible refine (HVd.out).mono ?_); rintro z w1 ⟨rfl, hb1⟩; have HB1 := Lib.hid (stepB (below_box _ _) hb1); have HA1 := Lib.hid ((ab_new w x p cap).kept hb1); obtain ⟨⟨x0, x1, x2, x3, x4, x5, x6, x7, x8, x9, x10, x11, x12⟩, y13, y14, y15, y16, y17, y18, y19, y20, y21, y22, y23, y24, y25, y26, y27⟩ := HA1.out)) | (go_at_call 22; ((with_reducible refine (p_awake _).mono ?_); rintro z w2 ⟨rfl, hb2⟩)))
  go_ret
  exact ⟨rfl, stepB HB1.out hb2⟩
set_option maxRecDepth 100000 in
set_option maxHeartbeats 6400000 in
theorem walks_long (x : Ak) (p : Option Addr) (cap : Nat) (zs : List Int) (q : Option Addr) (qc : Nat) (w : World) (hm : x.s.name.size ≤ maxLen) (hd : DatAt w p x.s.dat) (hl : (x.s.dat.length : Int) ≤ 9223372036854775807) (hq : DatAt w q zs) (hz : (zs.length : Int) ≤ 9223372036854775807) (hv : Sm.vld x.s = true) (hlong : 200 < (zs.length : Int)) :
    Calls Try.prog 5 #[AV x p cap, .slice q zs.length qc] w fun z w' => z = .returned (.bool true) ∧ Below w.heap.size w w' := by
  have _u := And.intro hl (And.intro hq hz)
  clear _u hl hq
  have HVd := Lib.hid (p_valid_v x.s p cap (w.alloc (.cells #[.string x.s.name, .slice p x.s.dat.length cap, .int .i64 x.s.bits, .int .i64 x.s.rate, .int .i64 x.s.vol, .int .i64 x.s.pan, .int .i64 x.s.fine, .int .i64 x.s.loop, .int .i64 x.s.start, .int .i64 x.s.fin, .int .i64 x.s.sus, .int .i64 x.s.sstart, .int .i64 x.s.sfin, .int .i64 x.po, .int .i64 x.fr, .bool x.bk, .bool x.dn, .int .i64 x.step, .int .i64 x.k, .int .i64 x.n, .int .i64 x.off, .int .i64 x.frm, .int .i64 x.til, .int .i64 x.num, .int .i64 x.den, .int .i64 x.bits, .bool x.held, .bool x.back] 28)) hm (hd.below (below_box _ _)) hv)
  clear hv
  unfold SV at HVd
  unfold AV
  go_enter Try.func5, Try.ntmps5
  go_wp2_with (first | (go_at_call 13; ((with_reducible refine (HVd.out).mono ?_); rintro z w1 ⟨rfl, hb1⟩; have HB1 := Lib.hid (stepB (below_box _ _) hb1); have HA1 := Lib.hid ((ab_new w x p cap).kept hb1); obtain ⟨⟨x0, x1, x2, x3, x4, x5, x6, x7, x8, x9, x10, x11, x12⟩, y13, y14, y15, y16, y17, y18, y19, y20, y21, y22, y23, y24, y25, y26, y27⟩ := HA1.out)) | (go_at_call 22; ((with_reducible refine (p_awake _).mono ?_); rintro z w2 ⟨rfl, hb2⟩)))
  go_ret
  exact ⟨rfl, stepB HB1.out hb2⟩
/-- One round: the key held or not. -/
theorem held_or (x : Ak) (k : Nat) : (x.held = false) ∨ (x.held = true ∧ (k : Int) < x.n) ∨ (x.held = true ∧ ¬ (k : Int) < x.n) := by
  cases x.held
  · exact .inl rfl
  · by_cases h : (k : Int) < x.n
    · exact .inr (.inl ⟨rfl, h⟩)
    · exact .inr (.inr ⟨rfl, h⟩)
set_option maxRecDepth 100000 in
set_option maxHeartbeats 6400000 in
theorem walks_ok (x : Ak) (p : Option Addr) (cap : Nat) (zs : List Int) (q : Option Addr) (qc : Nat) (w : World) (hm : x.s.name.size ≤ maxLen) (hd : DatAt w p x.s.dat) (hl : (x.s.dat.length : Int) ≤ 9223372036854775807) (hq : DatAt w q zs) (hz : (zs.length : Int) ≤ 9223372036854775807) (hv : Sm.vld x.s = true) (hshort : (zs.length : Int) ≤ 200) :
    Calls Try.prog 5 #[AV x p cap, .slice q zs.length qc] w fun z w' => z = .returned (.bool true) ∧ Below w.heap.size w w' := by
  have _u := And.intro hl hz
  clear _u hz hl
  have hl : (x.s.dat.length : Int) ≤ 4096 := vld_len hv
  have HVd := Lib.hid (p_valid_v x.s p cap (w.alloc (.cells #[.string x.s.name, .slice p x.s.dat.length cap, .int .i64 x.s.bits, .int .i64 x.s.rate, .int .i64 x.s.vol, .int .i64 x.s.pan, .int .i64 x.s.fine, .int .i64 x.s.loop, .int .i64 x.s.start, .int .i64 x.s.fin, .int .i64 x.s.sus, .int .i64 x.s.sstart, .int .i64 x.s.sfin, .int .i64 x.po, .int .i64 x.fr, .bool x.bk, .bool x.dn, .int .i64 x.step, .int .i64 x.k, .int .i64 x.n, .int .i64 x.off, .int .i64 x.frm, .int .i64 x.til, .int .i64 x.num, .int .i64 x.den, .int .i64 x.bits, .bool x.held, .bool x.back] 28)) hm (hd.below (below_box _ _)) hv)
  obtain ⟨c, hc⟩ : ∃ c, bgn x.s x.off x.back = c := ⟨_, rfl⟩
  have HBg := Lib.hid (fun w hd => p_Begin_to x.s p cap x.off x.back c w hm hd (by omega) hc)
  have HO0 := Lib.hid (show Okc x.s.dat.length c from hc ▸ okc_bgn _ _)
  have hqq := Lib.hid hq
  have HV := Lib.hid hv
  obtain ⟨cp, cf, cb, cd⟩ := c
  dsimp only at HBg
  clear hc hq hv
  unfold SV at HVd HBg
  unfold AV
  go_enter Try.func5, Try.ntmps5
  go_wp2_with (first | (go_at_call 13; ((with_reducible refine (HVd.out).mono ?_); rintro z w1 ⟨rfl, hb1⟩; have HB1 := Lib.hid (stepB (below_box _ _) hb1); have HA1 := Lib.hid ((ab_new w x p cap).kept hb1); obtain ⟨⟨x0, x1, x2, x3, x4, x5, x6, x7, x8, x9, x10, x11, x12⟩, y13, y14, y15, y16, y17, y18, y19, y20, y21, y22, y23, y24, y25, y26, y27⟩ := HA1.out)) | (go_at_call 15; ((with_reducible refine (HBg.out _ (hd.below HB1.out)).mono ?_); rintro z w2 ⟨rfl, hb2⟩)))
  have HWB := Lib.hid (stepB (stepB HB1.out hb2) (below_box w2 (.cells #[.int .i64 cp, .int .i64 cf, .bool cb, .bool cd] 26)))
  have HAB := Lib.hid ((HA1.out.kept hb2).kept (below_box w2 (.cells #[.int .i64 cp, .int .i64 cf, .bool cb, .bool cd] 26)))
  have HCF := Lib.hid (cf_new w2 cp cf cb cd)
  have z1 : w.heap.size + 1 ≤ w1.heap.size := by have := hb1.size; simp at this; omega
  have z2 := hb2.size
  obtain ⟨W, hW⟩ : ∃ W, W = w2.alloc (.cells #[.int .i64 cp, .int .i64 cf, .bool cb, .bool cd] 26) := ⟨_, rfl⟩
  obtain ⟨dd, hde⟩ : ∃ dd, dd = w2.heap.size := ⟨_, rfl⟩
  obtain ⟨b, hbe⟩ : ∃ b, b = w.heap.size := ⟨_, rfl⟩
  have nb : b ≠ dd := by omega
  have ld : w.heap.size ≤ dd := by omega
  rw [← hW] at HWB HAB HCF
  rw [← hbe] at HAB
  rw [← hde] at HCF
  rw [← hW, ← hde, ← hbe]
  clear x0 x1 x2 x3 x4 x5 x6 x7 x8 x9 x10 x11 x12 y13 y14 y15 y16 y17 y18 y19 y20 y21 y22 y23 y24 y25 y26 y27 hW hde hbe HA1 HB1 hb1 hb2 z1 z2
  go_loopw [32] (fun i wr => WR w x p cap zs.length b dd i wr) (fun i _ => zs.length - (intOf i).toNat)
  case atStart => exact ⟨⟨0, by omega, rfl, ⟨_, _, _, _, HO0.out, HCF.out⟩, HAB.out, HWB.out⟩⟩
  case round =>
    clear HWB HAB HCF
    obtain ⟨k, hk, rfl, HF, HAB, hbw⟩ := hrel.out
    by_cases hlt : (k : Int) < zs.length
    · obtain ⟨po, fr, bk, dn, hok, hcf⟩ := HF.out
      have HCF := Lib.hid hcf
      have HD := Lib.hid (hd.below hbw.out)
      clear HF hcf
      obtain ⟨b1, o1, hp1, hc1⟩ := (hqq.out.below hbw.out).at (k := k) (by omega)
      obtain ⟨y, hy⟩ : ∃ y, zs.getD k 0 = y := ⟨_, rfl⟩
      rw [hy] at hc1
      clear hy
      obtain ⟨st, hst⟩ : ∃ st, y % 536870912 = st := ⟨_, rfl⟩
      have st0 : 0 ≤ st := by omega
      have st1 : st < 536870912 := by omega
      have hand : bits .and .i64 y 536870911 = st := (Tm.and536870911 y).trans hst
      clear hst
      subst hp1
      have HOK0 := Lib.hid hok
      clear hok
      obtain ⟨⟨x0, x1, x2, x3, x4, x5, x6, x7, x8, x9, x10, x11, x12⟩, _, _, _, _, _, _, y19, _, _, _, _, _, _, y26, _⟩ := HAB.out
      obtain ⟨⟨c0, c1, c2, c3⟩, f0, f1, f2, f3⟩ := HCF.out
      go_upto_region 8 with fail
      go_cut [8] (fun t8 wx => (∃ hb, t8 = .bool hb) ∧ wx = wr)
      case first =>
        rcases held_or x k with hH | ⟨hh, hi⟩ | ⟨hh, hi0⟩
        · rw [hH] at y26
          clear hH
          go_wp2
          go_meet
          exact ⟨⟨_, rfl⟩, rfl⟩
        · rw [hh] at y26
          clear hh
          go_wp2
          go_meet
          exact ⟨⟨_, rfl⟩, rfl⟩
        · have hi : decide ((k : Int) < x.n) = false := decide_eq_false hi0
          rw [hh] at y26
          clear hh hi0
          go_wp2
          go_meet
          exact ⟨⟨_, rfl⟩, rfl⟩
      case rest =>
        obtain ⟨⟨hb, rfl⟩, rfl⟩ := hcut
        clear y19 y26
        by_cases hr : st ≤ 268435456
        · have hP := fun w hd => p_Move_to x.s p cap ⟨po, fr, bk, dn⟩ (mvS x.s hb ⟨po, fr, bk, dn⟩ st) st hb w hm hd HV.out HOK0.out st0 hr rfl
          have hR := fun w hd => r_Move_to x.s p cap ⟨po, fr, bk, dn⟩ (mvS x.s hb ⟨po, fr, bk, dn⟩ st) st hb w hm hd HV.out HOK0.out st0 hr rfl
          have hO := okc_move (c := ⟨po, fr, bk, dn⟩) HV.out hb HOK0.out st0
          generalize mvS x.s hb ⟨po, fr, bk, dn⟩ st = qq at hP hR hO
          obtain ⟨qp, qf, qb, qd⟩ := qq
          dsimp only at hP hR
          unfold SV at hP hR
          have HP := Lib.hid hP
          have HR := Lib.hid hR
          have HO := Lib.hid hO
          have hfl := okc_fields hO
          clear hP hR hO hr
          cases qd
          · have hfl' := hfl.resolve_left (by simp)
            obtain ⟨g1, g2, g3, g4⟩ := hfl'
            clear hfl
            go_wp2_with (first | (go_at_call 17; ((with_reducible refine (HP.out _ HD.out).mono ?_); rintro z w1 ⟨rfl, hb1⟩; have HB1' := Lib.hid (stepB (stepB hbw.out hb1) (below_box w1 (.cells #[.int .i64 qp, .int .i64 qf, .bool qb, .bool false] 26))); have HA1' := Lib.hid ((HAB.out.kept hb1).kept (below_box w1 (.cells #[.int .i64 qp, .int .i64 qf, .bool qb, .bool false] 26))); have HF1 := Lib.hid ((HCF.out.kept hb1).kept (below_box w1 (.cells #[.int .i64 qp, .int .i64 qf, .bool qb, .bool false] 26))); have HM1 := Lib.hid (ca_new w1 qp qf qb false); obtain ⟨⟨x0, x1, x2, x3, x4, x5, x6, x7, x8, x9, x10, x11, x12⟩, _, _, _, _, _, _, _, _, _, _, _, _, _, _, _⟩ := HA1'.out; obtain ⟨⟨c0, c1, c2, c3⟩, f0, f1, f2, f3⟩ := HF1.out)) | (go_at_call 18; ((with_reducible refine (HR.out _ (hd.below HB1'.out)).mono ?_); rintro z w2 ⟨rfl, hb2⟩; have HB2' := Lib.hid (stepB (stepB HB1'.out hb2) (below_box w2 (.cells #[.int .i64 qp, .int .i64 qf, .bool qb, .bool false] 26))); have HA2' := Lib.hid ((HA1'.out.kept hb2).kept (below_box w2 (.cells #[.int .i64 qp, .int .i64 qf, .bool qb, .bool false] 26))); have HF2 := Lib.hid ((HF1.out.kept hb2).kept (below_box w2 (.cells #[.int .i64 qp, .int .i64 qf, .bool qb, .bool false] 26))); have HQ2 := Lib.hid ((hqq.out.below HB2'.out)); obtain ⟨⟨x0, x1, x2, x3, x4, x5, x6, x7, x8, x9, x10, x11, x12⟩, _, _, _, _, _, _, _, _, _, _, _, _, _, _, _⟩ := HA2'.out; obtain ⟨⟨c0, c1, c2, c3⟩, f0, f1, f2, f3⟩ := HF2.out; obtain ⟨m0, m1, m2, m3⟩ := (HM1.out.kept hb2).kept (below_box w2 (.cells #[.int .i64 qp, .int .i64 qf, .bool qb, .bool false] 26)); obtain ⟨n0, n1, n2, n3⟩ := ca_new w2 qp qf qb false; have HAS := ((((HA2'.out.store nb 0 (.int .i64 qp)).store nb 1 (.int .i64 qf)).store nb 2 (.bool qb)).store nb 3 (.bool false)); obtain ⟨⟨_, sl, _, _, _, _, _, _, _, _, _, _, _⟩, _, _, _, _, _, _, _, _, _, _, _, _, _, _, _⟩ := HAS; obtain ⟨⟨d0, d1, d2, d3⟩, _, _, _, _⟩ := HF2.out.go qp qf qb false)))
            go_roundw
            case rel => exact ⟨⟨k + 1, by omega, by go_num, ⟨qp, qf, qb, false, HO.out, HF2.out.go qp qf qb false⟩, ((((HA2'.out).store nb _ _).store nb _ _).store nb _ _).store nb _ _, ((((HB2'.out).setCell ld _).setCell ld _).setCell ld _).setCell ld _⟩⟩
            case measure => simp [intOf]; omega
          · clear hfl
            go_wp2_with (first | (go_at_call 17; ((with_reducible refine (HP.out _ HD.out).mono ?_); rintro z w1 ⟨rfl, hb1⟩; have HB1' := Lib.hid (stepB (stepB hbw.out hb1) (below_box w1 (.cells #[.int .i64 qp, .int .i64 qf, .bool qb, .bool true] 26))); have HA1' := Lib.hid ((HAB.out.kept hb1).kept (below_box w1 (.cells #[.int .i64 qp, .int .i64 qf, .bool qb, .bool true] 26))); have HF1 := Lib.hid ((HCF.out.kept hb1).kept (below_box w1 (.cells #[.int .i64 qp, .int .i64 qf, .bool qb, .bool true] 26))); have HM1 := Lib.hid (ca_new w1 qp qf qb true); obtain ⟨⟨x0, x1, x2, x3, x4, x5, x6, x7, x8, x9, x10, x11, x12⟩, _, _, _, _, _, _, _, _, _, _, _, _, _, _, _⟩ := HA1'.out; obtain ⟨⟨c0, c1, c2, c3⟩, f0, f1, f2, f3⟩ := HF1.out)) | (go_at_call 18; ((with_reducible refine (HR.out _ (hd.below HB1'.out)).mono ?_); rintro z w2 ⟨rfl, hb2⟩; have HB2' := Lib.hid (stepB (stepB HB1'.out hb2) (below_box w2 (.cells #[.int .i64 qp, .int .i64 qf, .bool qb, .bool true] 26))); have HA2' := Lib.hid ((HA1'.out.kept hb2).kept (below_box w2 (.cells #[.int .i64 qp, .int .i64 qf, .bool qb, .bool true] 26))); have HF2 := Lib.hid ((HF1.out.kept hb2).kept (below_box w2 (.cells #[.int .i64 qp, .int .i64 qf, .bool qb, .bool true] 26))); have HQ2 := Lib.hid ((hqq.out.below HB2'.out)); obtain ⟨⟨x0, x1, x2, x3, x4, x5, x6, x7, x8, x9, x10, x11, x12⟩, _, _, _, _, _, _, _, _, _, _, _, _, _, _, _⟩ := HA2'.out; obtain ⟨⟨c0, c1, c2, c3⟩, f0, f1, f2, f3⟩ := HF2.out; obtain ⟨m0, m1, m2, m3⟩ := (HM1.out.kept hb2).kept (below_box w2 (.cells #[.int .i64 qp, .int .i64 qf, .bool qb, .bool true] 26)); obtain ⟨n0, n1, n2, n3⟩ := ca_new w2 qp qf qb true; have HAS := ((((HA2'.out.store nb 0 (.int .i64 qp)).store nb 1 (.int .i64 qf)).store nb 2 (.bool qb)).store nb 3 (.bool true)); obtain ⟨⟨_, sl, _, _, _, _, _, _, _, _, _, _, _⟩, _, _, _, _, _, _, _, _, _, _, _, _, _, _, _⟩ := HAS; obtain ⟨⟨d0, d1, d2, d3⟩, _, _, _, _⟩ := HF2.out.go qp qf qb true)))
            go_roundw
            case rel => exact ⟨⟨k + 1, by omega, by go_num, ⟨qp, qf, qb, true, HO.out, HF2.out.go qp qf qb true⟩, ((((HA2'.out).store nb _ _).store nb _ _).store nb _ _).store nb _ _, ((((HB2'.out).setCell ld _).setCell ld _).setCell ld _).setCell ld _⟩⟩
            case measure => simp [intOf]; omega
        · have hr' : st < 0 ∨ 268435456 < st := by omega
          have HP := Lib.hid (fun w hd => p_Move_rng x.s p cap ⟨po, fr, bk, dn⟩ st hb w hm hd HV.out HOK0.out hr')
          have HR := Lib.hid (fun w hd => r_Move_rng x.s p cap ⟨po, fr, bk, dn⟩ st hb w hm hd HV.out HOK0.out hr')
          dsimp only at HP HR
          unfold SV at HP HR
          clear hr hr'
          go_wp2_with (first | (go_at_call 17; ((with_reducible refine (HP.out _ HD.out).mono ?_); rintro z w1 ⟨rfl, hb1⟩; have HB1' := Lib.hid (stepB (stepB hbw.out hb1) (below_box w1 (.cells #[.int .i64 0, .int .i64 0, .bool false, .bool false] 26))); have HA1' := Lib.hid ((HAB.out.kept hb1).kept (below_box w1 (.cells #[.int .i64 0, .int .i64 0, .bool false, .bool false] 26))); have HF1 := Lib.hid ((HCF.out.kept hb1).kept (below_box w1 (.cells #[.int .i64 0, .int .i64 0, .bool false, .bool false] 26))); have HM1 := Lib.hid (ca_new w1 0 0 false false); obtain ⟨⟨x0, x1, x2, x3, x4, x5, x6, x7, x8, x9, x10, x11, x12⟩, _, _, _, _, _, _, _, _, _, _, _, _, _, _, _⟩ := HA1'.out; obtain ⟨⟨c0, c1, c2, c3⟩, f0, f1, f2, f3⟩ := HF1.out)) | (go_at_call 18; ((with_reducible refine (HR.out _ (hd.below HB1'.out)).mono ?_); rintro z w2 ⟨rfl, hb2⟩; have HB2' := Lib.hid (stepB (stepB HB1'.out hb2) (below_box w2 (.cells #[.int .i64 0, .int .i64 0, .bool false, .bool false] 26))); have HA2' := Lib.hid ((HA1'.out.kept hb2).kept (below_box w2 (.cells #[.int .i64 0, .int .i64 0, .bool false, .bool false] 26))); have HF2 := Lib.hid ((HF1.out.kept hb2).kept (below_box w2 (.cells #[.int .i64 0, .int .i64 0, .bool false, .bool false] 26))); have HQ2 := Lib.hid ((hqq.out.below HB2'.out)); obtain ⟨⟨x0, x1, x2, x3, x4, x5, x6, x7, x8, x9, x10, x11, x12⟩, _, _, _, _, _, _, _, _, _, _, _, _, _, _, _⟩ := HA2'.out; obtain ⟨⟨c0, c1, c2, c3⟩, f0, f1, f2, f3⟩ := HF2.out; obtain ⟨m0, m1, m2, m3⟩ := (HM1.out.kept hb2).kept (below_box w2 (.cells #[.int .i64 0, .int .i64 0, .bool false, .bool false] 26)); obtain ⟨n0, n1, n2, n3⟩ := ca_new w2 0 0 false false)))
          go_roundw
          case rel => exact ⟨⟨k + 1, by omega, by go_num, ⟨po, fr, bk, dn, HOK0.out, HF2.out⟩, HA2'.out, HB2'.out⟩⟩
          case measure => simp [intOf]; omega
    · go_wp2_with (first | (go_at_call 22; ((with_reducible refine (p_awake _).mono ?_); rintro z w3 ⟨rfl, hb3⟩)))
      go_ret
      exact ⟨rfl, stepB hbw.out hb3⟩
end Go.Proofs.Ytmaldhjcdkidmaa

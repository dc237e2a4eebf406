/-
  The reference's Parse.
-/
import Derived.Test.YtfjfnbeegojlbaaDoorCRp
namespace Go.Proofs.YtfjfnbeegojlbaaDoor
open Go.RowKit

theorem Rs.fld {w u : World} {g b : Nat} {pcs : List ByteArray} {c c' : Pt.Cl} (h : Rs w g b pcs c u) (f : Nat) (hf : f < 6) (x : Value) (hc : CL c' = (CL c).set f x) : Rs w g b pcs c' (u.setCell ⟨b, f, none⟩ x) :=
  h.put (by have := (Put.start (Below.refl _ _) h.cel h.th).set hf hc; rwa [Nat.zero_add] at this)
theorem Rs.drewN {w u : World} {g b : Nat} {pcs : List ByteArray} {c : Pt.Cl} (h : Rs w g b pcs c u) (n : Nat) : Rs w g b pcs c (u.drewN n) := h.below (below_drewN' (Below.refl _ _) _)
theorem Rs.cells {w u : World} {g b : Nat} {pcs : List ByteArray} {c : Pt.Cl} (h : Rs w g b pcs c u) (f : Nat) (hf : f < 6) : (∃ v, u.cell? ⟨b, f, none⟩ = some v) ∧ u.frozen? ⟨b, f, none⟩ = false := by
  obtain ⟨a, z⟩ := h.th f hf
  rw [Nat.zero_add] at a z
  exact ⟨Option.isSome_iff_exists.1 a, z⟩
theorem r_notedq (n : Int) (w : World) (hn : n = 255 ∨ n = 254 ∨ n = 253) :
    Calls Tryd.prog 15 #[.int .i64 n] w fun e w' => e = .returned (.string (Pt.noteT n)) ∧ w = w' := by
  rcases hn with rfl | rfl | rfl
  all_goals
    go_enter Tryd.func15, Tryd.ntmps15
    go_wp2
    go_ret
    exact ⟨rfl, rfl⟩
theorem r_noteq (q : ByteArray) (w : World) :
    Calls Tryd.prog 21 #[.string q] w fun e w' => e = .returned (.tuple #[.int .i64 (Tm.noteN q), .int .i64 (Tm.noteE q)]) ∧ Below w.heap.size w w' :=
  (rnote_any q w).mono fun e w' ⟨⟨n, x, he, hn⟩, hb⟩ => by
    obtain ⟨rfl, rfl⟩ := Tm.note_eq hn
    exact ⟨he, hb⟩
theorem noteN_le (q : ByteArray) : 0 ≤ Tm.noteN q ∧ Tm.noteN q ≤ 120 := by
  rcases Tm.note_is q with ⟨k, hk, -, e, -⟩ | ⟨e, -, -⟩ <;> omega
theorem ix_le (l : List UInt8) (x : UInt8) : -1 ≤ Lib.indexByte l x ∧ Lib.indexByte l x < l.length := by
  have hg := Lib.indexByte_ge l x
  by_cases h : 0 ≤ Lib.indexByte l x
  · obtain ⟨i, hi, hl, -⟩ := Pt.ix_at h
    omega
  · omega
def A3 : List Value := [.int .i64 255, .int .i64 254, .int .i64 253]
theorem a3_at {k : Nat} (hk : k < 3) : A3[k]? = some (.int .i64 (255 - (k : Int))) := by
  match k, hk with
  | 0, _ => rfl
  | 1, _ => rfl
  | 2, _ => rfl
set_option maxRecDepth 100000 in
theorem r_Parse_size (s : ByteArray) (w : World) (hs : s.size ≠ 14) :
    Calls Tryd.prog 9 #[.string s] w fun x w' => RetPa s x ∧ Below w.heap.size w w' := by
  have HTO := Lib.hid (told_size hs)
  have e1 : ((s.size : Int) != 14) = true := by simp; omega
  obtain ⟨W, hW⟩ : ∃ W, W = w.alloc (.cells (CL Pt.zc).toArray 23) := ⟨_, rfl⟩
  obtain ⟨b2, hb2⟩ : ∃ b2, b2 = w.heap.size := ⟨_, rfl⟩
  have HW := Lib.hid (show Below w.heap.size w W ∧ W.there b2 0 6 ∧ b2 = w.heap.size by rw [hW, hb2]; exact ⟨below_box _ _, there_box _ (CL Pt.zc) _, rfl⟩)
  unfold CL Pt.zc at hW
  clear hs
  go_enter Tryd.func9, Tryd.ntmps9
  go_upto_region 1 with fail
  rw [← hW, ← hb2]
  clear hW hb2
  go_wp2_with (first | ((refine st_cell (c := Pt.zc) (by rfl) _ _ rfl rfl rfl HW.out.2.1 ?_); rintro w2 e2; have HR2 := Lib.hid (show w2.rangeAt b2 0 (CL Pt.zc) ∧ W.grownBy w2 (some b2) by rw [e2]; exact ⟨World.rangeAt_setCells_same W b2 0 (CL Pt.zc) HW.out.2.1, grown_setCells _ _ _ _⟩); clear e2))
  exact bodyPost_ret (res_ce rfl rfl HR2.out.1 rfl) rfl ⟨⟨_, _, rfl, HTO.out⟩, grown_at HW.out.1 (by rw [HW.out.2.2]; exact Nat.le_refl _) HW.out.1.size HR2.out.2⟩
set_option maxRecDepth 100000 in
set_option maxHeartbeats 3200000 in
theorem r_Parse_ok (s : ByteArray) (w : World) (hs : s.size = 14) :
    Calls Tryd.prog 9 #[.string s] w fun x w' => RetPa s x ∧ Below w.heap.size w w' := by
  have e1 : ((s.size : Int) != 14) = false := by rw [hs]; rfl
  obtain ⟨W, hW⟩ : ∃ W, W = ((w.alloc (.cells (CL Pt.zc).toArray 23)).alloc (.cells (CL Pt.zc).toArray 23)).alloc (.cells A3.toArray 3) := ⟨_, rfl⟩
  obtain ⟨b, hb⟩ : ∃ b, b = w.heap.size + 1 := ⟨_, rfl⟩
  obtain ⟨g, hg⟩ : ∃ g, g = w.heap.size + 1 + 1 := ⟨_, rfl⟩
  have HW := Lib.hid (show Rs w w.heap.size b [] Pt.zc W ∧ W.rangeAt g 0 A3 ∧ g ≠ b ∧ g < W.heap.size by
    have t2 := there_box w (CL Pt.zc) 23
    have t4 := there_box (w.alloc (.cells (CL Pt.zc).toArray 23)) (CL Pt.zc) 23
    have r4 := range_box (w.alloc (.cells (CL Pt.zc).toArray 23)) (CL Pt.zc) 23
    have r5 := range_box ((w.alloc (.cells (CL Pt.zc).toArray 23)).alloc (.cells (CL Pt.zc).toArray 23)) A3 3
    have ez1 : (w.alloc (.cells (CL Pt.zc).toArray 23)).heap.size = w.heap.size + 1 := by simp
    have ez2 : ((w.alloc (.cells (CL Pt.zc).toArray 23)).alloc (.cells (CL Pt.zc).toArray 23)).heap.size = w.heap.size + 1 + 1 := by simp
    rw [ez1] at t4 r4
    rw [ez2] at r5
    rw [cl_len] at t2 t4
    have B1 := below_box (w.alloc (.cells (CL Pt.zc).toArray 23)) (.cells (CL Pt.zc).toArray 23)
    have B2 := below_box ((w.alloc (.cells (CL Pt.zc).toArray 23)).alloc (.cells (CL Pt.zc).toArray 23)) (.cells A3.toArray 3)
    rw [hW, hb, hg]
    refine ⟨⟨stepB (below_box _ _) (stepB B1 B2), fun j x hx => by simp at hx, range_below r4 B2 (by omega), there_below t4 B2 (by omega), by simp; omega, there_below t2 (stepB B1 B2) (by omega)⟩, r5, by omega, by simp⟩)
  unfold CL Pt.zc A3 at hW
  have HS := Lib.hid hs
  have HB := Lib.hid hb
  have HG := Lib.hid hg
  clear hs hb hg
  go_enter Tryd.func9, Tryd.ntmps9
  go_wp2_with (fail)
  rw [← hW, ← HG.out, ← HB.out]
  clear hW HG HB
  obtain ⟨q, hq⟩ : ∃ q, s.extract 0 3 = q := ⟨_, rfl⟩
  have HQ := Lib.hid hq
  have hs14 : s.size = 14 := HS.out
  go_loopw [18] (fun i wr => ∃ k : Nat, k ≤ 3 ∧ i = .int .i64 k ∧ Hid (Rs w w.heap.size b [] ⟨lp q k, 0, 0, 0, 0, 0⟩ wr) ∧ Hid (wr.rangeAt g 0 A3 ∧ g < wr.heap.size)) (fun i _ => 3 - (intOf i).toNat)
  case atStart => exact ⟨0, by omega, rfl, HW.out.1, HW.out.2.1, HW.out.2.2.2⟩
  case round =>
    obtain ⟨k, hk, rfl, HX, HA⟩ := hrel
    by_cases hlt : k < 3
    · have HLT := Lib.hid hlt
      have hlt' : (k : Int) < 3 := by omega
      have k0 := HA.out.1 k _ (a3_at hlt)
      rw [Nat.zero_add] at k0
      obtain ⟨v, hv⟩ : ∃ v : Int, 255 - (k : Int) = v := ⟨_, rfl⟩
      have hvv : v = 255 ∨ v = 254 ∨ v = 253 := by omega
      obtain ⟨nt, hnt⟩ : ∃ nt, Pt.noteT v = nt := ⟨_, rfl⟩
      have CN := Lib.hid (fun u => r_notedq v u hvv)
      rw [hnt] at CN
      rw [hv] at k0
      have HV := Lib.hid hv
      have HNT := Lib.hid hnt
      obtain ⟨⟨f0, y0⟩, y1⟩ := HX.out.cells 0 (by decide)
      clear hlt hv hvv hnt
      by_cases ht : q = nt
      · have t1 : (q.toList == nt.toList) = true := by rw [ht]; exact beq_self_eq_true _
        have HE := Lib.hid (show lp q (k + 1) = v by rw [← HV.out]; exact lp_hit (by rw [HV.out, HNT.out]; exact ht))
        clear ht
        go_upto_region 7 with fail
        go_quiet ((go_at_call 15; exact (CN.out _).mono fun e w' ⟨h1, h2⟩ => ⟨h1, _, h2.symm⟩))
        have HX1 := Lib.hid ((HX.out.drewN nq).fld 0 (by decide) (.int .i64 v) (c' := ⟨lp q (k + 1), 0, 0, 0, 0, 0⟩) (by rw [HE.out]; rfl))
        go_wp2
        go_roundw
        case rel => exact ⟨k + 1, by have := HLT.out; omega, by go_num, HX1.out, range_grown (w := wr.drewN nq) HA.out.1 (grown_set _ _ _ _) HW.out.2.2.1 HA.out.2, by have := HA.out.2; simpa [World.setCell] using this⟩
        case measure => simp [intOf]; have := HLT.out; omega
      · have t1 : (q.toList == nt.toList) = false := beq_eq_false_iff_ne.2 (fun e => ht (Pt.ext_ls (by rw [Lib.toList_data, Lib.toList_data] at e; exact e)))
        have HE := Lib.hid (show lp q (k + 1) = lp q k from lp_miss (by rw [HV.out, HNT.out]; exact ht))
        clear ht
        go_upto_region 7 with fail
        go_quiet ((go_at_call 15; exact (CN.out _).mono fun e w' ⟨h1, h2⟩ => ⟨h1, _, h2.symm⟩))
        go_wp2
        go_roundw
        case rel => exact ⟨k + 1, by have := HLT.out; omega, by go_num, by rw [HE.out]; exact HX.out.drewN nq, HA.out⟩
        case measure => simp [intOf]; have := HLT.out; omega
    · obtain rfl : k = 3 := by omega
      have hlt' : ¬ ((3 : Nat) : Int) < 3 := by omega
      obtain ⟨nn, hnn⟩ : ∃ n, Tm.noteN q = n := ⟨_, rfl⟩
      obtain ⟨ne, hne⟩ : ∃ n, Tm.noteE q = n := ⟨_, rfl⟩
      obtain ⟨G0, hG0⟩ : ∃ n, gN q = n := ⟨_, rfl⟩
      have NQ := Lib.hid (fun u => r_noteq q u)
      have HNB := Lib.hid (noteN_le q)
      rw [hnn] at HNB
      have HG0 := Lib.hid (show (if ne = 0 then nn + 1 else lp q 3) = G0 by rw [← hG0, ← hnn, ← hne]; rfl)
      rw [hnn, hne] at NQ
      have HGQ := Lib.hid hG0
      clear hnn hne hG0
      go_upto_if 37 with (first | (go_at_call 21; ((with_reducible refine (NQ.out _).mono ?_); rintro x' w5 ⟨rfl, hb5⟩; have HX5 := Lib.hid (HX.out.below hb5); clear hb5)))
      go_cut [8] (fun _ wx => Rs w w.heap.size b [] ⟨G0, 0, 0, 0, 0, 0⟩ wx)
      case first =>
        by_cases hz : ne = 0
        · have t1 : (ne == 0) = true := by rw [hz]; rfl
          have HE := Lib.hid (show G0 = nn + 1 by rw [← HG0.out, if_pos hz])
          obtain ⟨⟨f0, y0⟩, y1⟩ := HX5.out.cells 0 (by decide)
          have i1 : IntKind.i64.wrap (nn + 1) = nn + 1 := by have := HNB.out; rw [IntKind.wrap_i64]; omega
          clear hz
          go_wp2_with (fail)
          go_meet
          rw [HE.out]
          exact HX5.out.fld 0 (by decide) _ rfl
        · have t1 : (ne == 0) = false := beq_eq_false_iff_ne.2 hz
          have HE := Lib.hid (show G0 = lp q 3 by rw [← HG0.out, if_neg hz])
          clear hz
          go_wp2_with (fail)
          go_meet
          rw [HE.out]
          exact HX5.out
      have HX6 := Lib.hid hcut
      clear hcut
      obtain ⟨x4, hx4⟩ : ∃ x, b8 s 4 = x := ⟨_, rfl⟩
      obtain ⟨x5, hx5⟩ : ∃ x, b8 s 5 = x := ⟨_, rfl⟩
      obtain ⟨x7, hx7⟩ : ∃ x, b8 s 7 = x := ⟨_, rfl⟩
      obtain ⟨x8, hx8⟩ : ∃ x, b8 s 8 = x := ⟨_, rfl⟩
      obtain ⟨x9, hx9⟩ : ∃ x, b8 s 9 = x := ⟨_, rfl⟩
      obtain ⟨xa, hxa⟩ : ∃ x, b8 s 11 = x := ⟨_, rfl⟩
      obtain ⟨xb, hxb⟩ : ∃ x, b8 s 12 = x := ⟨_, rfl⟩
      obtain ⟨xc, hxc⟩ : ∃ x, b8 s 13 = x := ⟨_, rfl⟩
      have h4 : s[4]'(by omega) = x4 := (b8_at s 4 _).trans hx4
      have h5 : s[5]'(by omega) = x5 := (b8_at s 5 _).trans hx5
      have h7 : s[7]'(by omega) = x7 := (b8_at s 7 _).trans hx7
      have h8 : s[8]'(by omega) = x8 := (b8_at s 8 _).trans hx8
      have h9 : s[9]'(by omega) = x9 := (b8_at s 9 _).trans hx9
      have ha : s[11]'(by omega) = xa := (b8_at s 11 _).trans hxa
      have hb : s[12]'(by omega) = xb := (b8_at s 12 _).trans hxb
      have hc : s[13]'(by omega) = xc := (b8_at s 13 _).trans hxc
      have HGS := Lib.hid (show guess s = ⟨G0, gI x4 x5, (gV x7 x8 x9).1, (gV x7 x8 x9).2, (gE xa xb xc).1, (gE xa xb xc).2⟩ by unfold guess; rw [HQ.out, HGQ.out, hx4, hx5, hx7, hx8, hx9, hxa, hxb, hxc])
      clear hx4 hx5 hx7 hx8 hx9 hxa hxb hxc
      obtain ⟨GI, hGI⟩ : ∃ n, gI x4 x5 = n := ⟨_, rfl⟩
      have HGI := Lib.hid hGI
      clear hGI
      go_upto_if 43 with fail
      go_cut [54] (fun _ wx => Rs w w.heap.size b [] ⟨G0, GI, 0, 0, 0, 0⟩ wx)
      case first =>
        by_cases hz : (x4.toNat : Int) = 46
        · have t1 : ((x4.toNat : Int) != 46) = false := by rw [hz]; rfl
          have HE := Lib.hid (show GI = 0 by rw [← HGI.out]; unfold gI; rw [if_pos hz])
          clear hz
          go_wp2_with (fail)
          go_meet
          rw [HE.out]
          exact HX6.out
        · have t1 : ((x4.toNat : Int) != 46) = true := by simpa using hz
          obtain ⟨U, hU⟩ : ∃ U, IntKind.u8.wrap ((x4.toNat : Int) - 48) = U := ⟨_, rfl⟩
          have hU1 : 0 ≤ U ∧ U ≤ 255 := by rw [← hU, IntKind.wrap_u8]; omega
          have HE := Lib.hid (show GI = 10 * U + (x5.toNat : Int) - 48 by rw [← HGI.out]; unfold gI; rw [if_neg hz, hU])
          have b5 : (x5.toNat : Int) ≤ 255 := by have := x5.toNat_lt; omega
          have j1 : IntKind.i64.wrap U = U := by rw [IntKind.wrap_i64]; omega
          have j2 : IntKind.i64.wrap (10 * U) = 10 * U := by rw [IntKind.wrap_i64]; omega
          have j3 : IntKind.i64.wrap (x5.toNat : Int) = (x5.toNat : Int) := by rw [IntKind.wrap_i64]; omega
          have j4 : IntKind.i64.wrap (10 * U + (x5.toNat : Int)) = 10 * U + (x5.toNat : Int) := by rw [IntKind.wrap_i64]; omega
          have j5 : IntKind.i64.wrap (10 * U + (x5.toNat : Int) - 48) = 10 * U + (x5.toNat : Int) - 48 := by rw [IntKind.wrap_i64]; omega
          obtain ⟨⟨f0, y0⟩, y1⟩ := HX6.out.cells 1 (by decide)
          clear hz hU1 b5
          go_upto_region 14 with fail
          go_still_tail 11, (by kernel_rfl)
          go_wp2_with (fail)
          go_meet
          rw [HE.out]
          exact (HX6.out.fld 1 (by decide) _ (c' := ⟨G0, 10 * U + (x5.toNat : Int) - 48, 0, 0, 0, 0⟩) rfl).below (Below.refl _ _).drew
      have HX7 := Lib.hid hcut
      clear hcut
      rename World => wd
      obtain ⟨GV, hGV⟩ : ∃ n, gV x7 x8 x9 = n := ⟨_, rfl⟩
      have HGV := Lib.hid hGV
      clear hGV
      go_upto_if 57 with fail
      go_cut [73] (fun _ wx => Rs w w.heap.size b [] ⟨G0, GI, GV.1, GV.2, 0, 0⟩ wx)
      case first =>
        by_cases hz : (x7.toNat : Int) = 46
        · have t1 : ((x7.toNat : Int) != 46) = false := by rw [hz]; rfl
          have HE := Lib.hid (show GV = (0, 0) by rw [← HGV.out]; unfold gV; rw [if_pos hz])
          clear hz
          go_wp2_with (fail)
          go_meet
          rw [HE.out]
          exact HX7.out
        · have t1 : ((x7.toNat : Int) != 46) = true := by simpa using hz
          have HE := Lib.hid (show GV = ((x7.toNat : Int) - 97 + 1, 10 * ((x8.toNat : Int) - 48) + (x9.toNat : Int) - 48) by rw [← HGV.out]; unfold gV; rw [if_neg hz])
          have b7 : (x7.toNat : Int) ≤ 255 := by have := x7.toNat_lt; omega
          have b8' : (x8.toNat : Int) ≤ 255 := by have := x8.toNat_lt; omega
          have b9 : (x9.toNat : Int) ≤ 255 := by have := x9.toNat_lt; omega
          have j1 : IntKind.i64.wrap (x7.toNat : Int) = (x7.toNat : Int) := by rw [IntKind.wrap_i64]; omega
          have j2 : IntKind.i64.wrap ((x7.toNat : Int) - 97) = (x7.toNat : Int) - 97 := by rw [IntKind.wrap_i64]; omega
          have j3 : IntKind.i64.wrap ((x7.toNat : Int) - 97 + 1) = (x7.toNat : Int) - 97 + 1 := by rw [IntKind.wrap_i64]; omega
          have j4 : IntKind.i64.wrap (x8.toNat : Int) = (x8.toNat : Int) := by rw [IntKind.wrap_i64]; omega
          have j5 : IntKind.i64.wrap ((x8.toNat : Int) - 48) = (x8.toNat : Int) - 48 := by rw [IntKind.wrap_i64]; omega
          have j6 : IntKind.i64.wrap (10 * ((x8.toNat : Int) - 48)) = 10 * ((x8.toNat : Int) - 48) := by rw [IntKind.wrap_i64]; omega
          have j7 : IntKind.i64.wrap (x9.toNat : Int) = (x9.toNat : Int) := by rw [IntKind.wrap_i64]; omega
          have j8 : IntKind.i64.wrap (10 * ((x8.toNat : Int) - 48) + (x9.toNat : Int)) = 10 * ((x8.toNat : Int) - 48) + (x9.toNat : Int) := by rw [IntKind.wrap_i64]; omega
          have j9 : IntKind.i64.wrap (10 * ((x8.toNat : Int) - 48) + (x9.toNat : Int) - 48) = 10 * ((x8.toNat : Int) - 48) + (x9.toNat : Int) - 48 := by rw [IntKind.wrap_i64]; omega
          obtain ⟨⟨f2, y2⟩, z2⟩ := HX7.out.cells 2 (by decide)
          obtain ⟨⟨f3, y3⟩, z3⟩ := HX7.out.cells 3 (by decide)
          have hS0 : wd.drew.there b 0 6 := HX7.out.th
          clear hz b7 b8' b9
          go_upto_region 16 with fail
          go_region_held (fun u => u.there b 0 6)
            (first | with_reducible assumption | exact there_set (by assumption))
            (fail)
          all_goals
            go_wp2_with (fail)
            go_meet
            rw [HE.out]
            exact ((HX7.out.below (Below.refl _ _).drew).fld 2 (by decide) _ (c' := ⟨G0, GI, (x7.toNat : Int) - 97 + 1, 0, 0, 0⟩) rfl).fld 3 (by decide) _ rfl
      have HX8 := Lib.hid hcut
      clear hcut
      rename World => we
      obtain ⟨GE, hGE⟩ : ∃ n, gE xa xb xc = n := ⟨_, rfl⟩
      have HGE := Lib.hid hGE
      clear hGE
      go_upto_if 77 with fail
      go_cut [92] (fun _ wx => Rs w w.heap.size b [] ⟨G0, GI, GV.1, GV.2, GE.1, GE.2⟩ wx)
      case first =>
        by_cases hz : (xa.toNat : Int) = 46
        · have t1 : ((xa.toNat : Int) != 46) = false := by rw [hz]; rfl
          have HE := Lib.hid (show GE = (0, 0) by rw [← HGE.out]; unfold gE; rw [if_pos hz])
          clear hz
          go_wp2_with (fail)
          go_meet
          rw [HE.out]
          exact HX8.out
        · have t1 : ((xa.toNat : Int) != 46) = true := by simpa using hz
          obtain ⟨p1, hp1⟩ : ∃ n, Lib.indexByte Pt.D36 xa = n := ⟨_, rfl⟩
          obtain ⟨p2, hp2⟩ : ∃ n, Lib.indexByte Pt.D16 xb = n := ⟨_, rfl⟩
          obtain ⟨p3, hp3⟩ : ∃ n, Lib.indexByte Pt.D16 xc = n := ⟨_, rfl⟩
          have l1 := ix_le Pt.D36 xa
          have l2 := ix_le Pt.D16 xb
          have l3 := ix_le Pt.D16 xc
          rw [hp1] at l1
          rw [hp2] at l2
          rw [hp3] at l3
          have e36 : Pt.D36.length = 36 := by decide
          have e16 : Pt.D16.length = 16 := by decide
          rw [e36] at l1
          rw [e16] at l2 l3
          have HE := Lib.hid (show GE = (1 + p1, 16 * p2 + p3) by rw [← HGE.out]; unfold gE; rw [if_neg hz, hp1, hp2, hp3])
          obtain ⟨D, hD⟩ : ∃ D, Pt.DG.extract 0 16 = D := ⟨_, rfl⟩
          have hDl : D.data.toList = Pt.D16 := by rw [← hD]; exact dig_ls 16
          have hDz : D.size ≤ 1000 := by rw [size_of hDl, e16]; decide
          have C1 := Lib.hid (fun u => r_place Pt.DG xa u (by decide) hp1)
          have C2 := Lib.hid (fun u => r_place D xb u hDz (z := p2) (by rw [hDl, hp2]))
          have C3 := Lib.hid (fun u => r_place D xc u hDz (z := p3) (by rw [hDl, hp3]))
          unfold Pt.DG at C1 hD
          have j1 : IntKind.i64.wrap (1 + p1) = 1 + p1 := by rw [IntKind.wrap_i64]; omega
          have j2 : IntKind.i64.wrap (16 * p2) = 16 * p2 := by rw [IntKind.wrap_i64]; omega
          have j3 : IntKind.i64.wrap (16 * p2 + p3) = 16 * p2 + p3 := by rw [IntKind.wrap_i64]; omega
          obtain ⟨⟨f2, y2⟩, z2⟩ := HX8.out.cells 4 (by decide)
          obtain ⟨⟨f3, y3⟩, z3⟩ := HX8.out.cells 5 (by decide)
          have hS0 : we.drew.there b 0 6 := HX8.out.th
          clear hz hp1 hp2 hp3 l1 l2 l3 e36 e16 hDl hDz
          go_upto_region 18 with fail
          go_region_held (fun u => u.there b 0 6)
            (first | with_reducible assumption | exact there_set (by assumption))
            (first | (go_at_call 22; with_reducible refine (C1.out _).mono ?_; rintro x' w4 ⟨rfl, rfl⟩) | (go_at_call 22; with_reducible refine (C2.out _).mono ?_; rintro x' w4 ⟨rfl, rfl⟩) | (go_at_call 22; with_reducible refine (C3.out _).mono ?_; rintro x' w4 ⟨rfl, rfl⟩))
          all_goals
            go_wp2_with (fail)
            go_meet
            rw [HE.out]
            exact ((HX8.out.below (Below.refl _ _).drew).fld 4 (by decide) _ (c' := ⟨G0, GI, GV.1, GV.2, 1 + p1, 0⟩) rfl).fld 5 (by decide) _ rfl
      have HX9 := Lib.hid (show Rs w w.heap.size b [] (guess s) _ by rw [HGS.out, HGI.out, HGV.out, HGE.out]; exact hcut)
      clear hcut
      obtain ⟨gs, hgs⟩ : ∃ c, guess s = c := ⟨_, rfl⟩
      have HGU := Lib.hid hgs
      rw [hgs] at HX9
      clear hgs h4 h5 h7 h8 h9 ha hb hc
      have CT := Lib.hid (fun u => r_Text gs u)
      by_cases hok : Pt.vcl gs = true ∧ Pt.textT gs = s
      · have HTO := Lib.hid (show Pt.Told s gs 0 by rw [← HGU.out]; exact told_guess (by rw [HGU.out]; exact hok))
        rw [if_pos hok.1, if_pos hok.1, hok.2] at CT
        clear hok
        go_wp2_with (first | (refine ld_cell (by rfl) _ rfl rfl HX9.out.cel ?_) | (refine ld_cell (by rfl) _ rfl rfl HXa.out.cel ?_) | (go_at_call 5; ((with_reducible refine (CT.out _).mono ?_); rintro x' wg ⟨rfl, hbg⟩; have HXa := Lib.hid (HX9.out.below hbg); clear hbg)) | ((refine st_cell (c := gs) (by rfl) _ _ rfl rfl rfl HXa.out.res ?_); rintro wh eh; have HRh := Lib.hid (show wh.rangeAt w.heap.size 0 (CL gs) ∧ Below w.heap.size w wh by rw [eh]; exact ⟨World.rangeAt_setCells_same wg w.heap.size 0 (CL gs) HXa.out.res, grown_at HXa.out.bel (Nat.le_refl _) HXa.out.bel.size (grown_setCells _ _ _ _)⟩); clear eh))
        exact bodyPost_ret (res_ce rfl rfl HRh.out.1 rfl) rfl ⟨⟨_, _, rfl, HTO.out⟩, HRh.out.2⟩
      · have HTO := Lib.hid (show Pt.Told s Pt.zc 2 from told_none (by rw [HGU.out]; exact hok))
        cases hv : Pt.vcl gs with
        | false =>
          rw [hv, if_neg (by decide), if_neg (by decide)] at CT
          clear hok hv
          go_wp2_with (first | (refine ld_cell (by rfl) _ rfl rfl HX9.out.cel ?_) | (go_at_call 5; ((with_reducible refine (CT.out _).mono ?_); rintro x' wg ⟨rfl, hbg⟩; have HXa := Lib.hid (HX9.out.below hbg); clear hbg)) | ((refine st_cell (c := Pt.zc) (by rfl) _ _ rfl rfl rfl HXa.out.res ?_); rintro wh eh; have HRh := Lib.hid (show wh.rangeAt w.heap.size 0 (CL Pt.zc) ∧ Below w.heap.size w wh by rw [eh]; exact ⟨World.rangeAt_setCells_same wg w.heap.size 0 (CL Pt.zc) HXa.out.res, grown_at HXa.out.bel (Nat.le_refl _) HXa.out.bel.size (grown_setCells _ _ _ _)⟩); clear eh))
          exact bodyPost_ret (res_ce rfl rfl HRh.out.1 rfl) rfl ⟨⟨_, _, rfl, HTO.out⟩, HRh.out.2⟩
        | true =>
          rw [hv, if_pos rfl, if_pos rfl] at CT
          obtain ⟨tg, htg⟩ : ∃ t, Pt.textT gs = t := ⟨_, rfl⟩
          rw [htg] at CT
          have t1 : (tg.toList == s.toList) = false := beq_eq_false_iff_ne.2 (fun e => hok ⟨hv, by rw [htg]; exact Pt.ext_ls (by rw [Lib.toList_data, Lib.toList_data] at e; exact e)⟩)
          clear hok hv htg
          go_wp2_with (first | (refine ld_cell (by rfl) _ rfl rfl HX9.out.cel ?_) | (go_at_call 5; ((with_reducible refine (CT.out _).mono ?_); rintro x' wg ⟨rfl, hbg⟩; have HXa := Lib.hid (HX9.out.below hbg); clear hbg)) | ((refine st_cell (c := Pt.zc) (by rfl) _ _ rfl rfl rfl HXa.out.res ?_); rintro wh eh; have HRh := Lib.hid (show wh.rangeAt w.heap.size 0 (CL Pt.zc) ∧ Below w.heap.size w wh by rw [eh]; exact ⟨World.rangeAt_setCells_same wg w.heap.size 0 (CL Pt.zc) HXa.out.res, grown_at HXa.out.bel (Nat.le_refl _) HXa.out.bel.size (grown_setCells _ _ _ _)⟩); clear eh))
          exact bodyPost_ret (res_ce rfl rfl HRh.out.1 rfl) rfl ⟨⟨_, _, rfl, HTO.out⟩, HRh.out.2⟩
theorem r_Parse (s : ByteArray) (w : World) :
    Calls Tryd.prog 9 #[.string s] w fun x w' => RetPa s x ∧ Below w.heap.size w w' := by
  by_cases h : s.size = 14
  · exact r_Parse_ok s w h
  · exact r_Parse_size s w h
end Go.Proofs.YtfjfnbeegojlbaaDoor

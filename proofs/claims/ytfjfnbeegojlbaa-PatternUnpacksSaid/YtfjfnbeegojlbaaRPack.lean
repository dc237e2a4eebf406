/-
  The reference's Pack.
-/
import Derived.Test.YtfjfnbeegojlbaaRPackA
namespace Go.Proofs.Ytfjfnbeegojlbaa
open Go.RowKit

/-- Where Pack stands: its bytes, the last parts of each channel. -/
structure Rx (D bL C : Nat) (V : World) (q : Pt.Pq) (v : Value) (w : World) : Prop where
  row : Br w D v q.bs
  la : La w bL C q.ls (fun g => v.ownBlock ≠ some g)
  fy : Fy D bL V w
  sz : D ≤ w.heap.size
theorem Rx.below {D bL C : Nat} {V w w' : World} {q : Pt.Pq} {v : Value} (h : Rx D bL C V q v w) (hb : Below w.heap.size w w') : Rx D bL C V q v w' :=
  ⟨h.row.kept hb, h.la.below hb, h.fy.trans (Fy.of hb h.sz), Nat.le_trans h.sz hb.size⟩
/-- The bytes are more. -/
theorem Rx.more {D bL C : Nat} {V w w' : World} {q : Pt.Pq} {v : Value} {bs : List Int} {g n cap : Nat} (h : Rx D bL C V q v w) (hl : bL < D) (hr : Br w' D (.slice (some ⟨g, 0, none⟩) n cap) bs) (hg : w.grownBy w' v.ownBlock) (hw : v.ownBlock = some g ∨ w.heap.size ≤ g) : Rx D bL C V ⟨bs, q.ls⟩ (.slice (some ⟨g, 0, none⟩) n cap) w' :=
  ⟨hr, h.la.grown hg (fun e => by have := (h.row.lt bL e).1; omega) (fun _ _ hA => hA) (fun g' hg' hA e => by
    have e' : g = g' := by simpa [Value.ownBlock] using e
    subst e'
    rcases hw with hw | hw
    · exact hA hw
    · omega), h.fy.trans (Fy.grown hg (fun k hk => (h.row.lt k hk).1) h.sz), Nat.le_trans h.sz hg.size⟩
/-- Where a cell stands: the bytes of its parts, the last parts. -/
structure Rd (bL C : Nat) (V : World) (v0 : Value) (ls : List Pt.Cl) (bs : List Int) (vd : Value) (w : World) : Prop where
  row : Br w V.heap.size vd bs
  nil : bs = [] → vd = .slice none 0 0
  la : La w bL C ls (fun g => v0.ownBlock ≠ some g ∧ g < V.heap.size)
  gr : V.grownBy w (some bL)
theorem grown_far {V w w' : World} {bL : Nat} {r : Option Nat} (h : V.grownBy w (some bL)) (h2 : w.grownBy w' r) (hr : ∀ k, r = some k → V.heap.size ≤ k) : V.grownBy w' (some bL) :=
  ⟨h2.os.trans h.os, h2.tape.trans h.tape, h2.output.trans h.output, Nat.le_trans h.size h2.size, fun k hk hne => (h2.block k (Nat.lt_of_lt_of_le hk h.size) (fun e => by have := hr k e.symm; omega)).trans (h.block k hk hne)⟩
/-- One more byte. -/
theorem Rd.app {bL C : Nat} {V : World} {v0 : Value} {ls : List Pt.Cl} {bs : List Int} {vd : Value} {w w' : World} {y : Int} {g n cap : Nat} (h : Rd bL C V v0 ls bs vd w) (hl : bL < V.heap.size) (hr : Br w' V.heap.size (.slice (some ⟨g, 0, none⟩) n cap) (bs ++ [y])) (hg : w.grownBy w' vd.ownBlock) : Rd bL C V v0 ls (bs ++ [y]) (.slice (some ⟨g, 0, none⟩) n cap) w' :=
  ⟨hr, fun e => by simp at e, h.la.grown hg (fun e => by have := (h.row.lt bL e).1; omega) (fun g' _ hA e => by have := (h.row.lt g' e).1; omega) (fun _ _ hA => hA), grown_far h.gr hg fun k hk => (h.row.lt k hk).1⟩
theorem Rd.quiet {bL C : Nat} {V : World} {v0 : Value} {ls : List Pt.Cl} {bs : List Int} {vd : Value} {w : World} (h : Rd bL C V v0 ls bs vd w) (n : Nat) : Rd bL C V v0 ls bs vd (w.drewN n) :=
  ⟨h.row.kept (below_drewN' (Below.refl _ _) n), h.nil, h.la.below (below_drewN' (Below.refl _ _) n), ⟨h.gr.os, h.gr.tape, h.gr.output, h.gr.size, h.gr.block⟩⟩
/-- A part is kept. -/
theorem Rd.put {bL C : Nat} {V : World} {v0 : Value} {ls : List Pt.Cl} {bs : List Int} {vd : Value} {w : World} {x k g : Nat} {d : Pt.Cl} (h : Rd bL C V v0 ls bs vd w) (hb : bL < V.heap.size) (hx : x < C) (hk : k < 4) (hl : x < ls.length) (hs : Sv w k (Pt.pv k d) g) (h1 : (Pt.pv k d).1 ≠ 0) (hg : g ≠ bL) (hA : v0.ownBlock ≠ some g ∧ g < V.heap.size) :
    Rd bL C V v0 (ls.set x (Pt.pw k (Pt.at' ls x) (Pt.pv k d))) bs vd (w.setCell ⟨bL, x * 4 + k, none⟩ (sl k g)).drew := by
  have hgr : w.grownBy (w.setCell ⟨bL, x * 4 + k, none⟩ (sl k g)) (some bL) := grown_set _ _ _ _
  have h2 := h.row.grown hgr (by
    by_cases e : vd.ownBlock = none
    · exact .inl e
    · exact .inr fun e' => by have := (h.row.lt bL e').1; omega)
  have h3 := h.la.put hx hk hl hs h1 hg hA
  have h4 := h.gr.trans hgr
  exact ⟨h2.drew, h.nil, ⟨h3.lt, fun y j hy hj => by
    obtain ⟨o, a1, a2, a3⟩ := h3.cell y j hy hj
    exact ⟨o, a1, by cases o with | none => exact a2 | some g' => exact a2, a3⟩, h3.fz⟩, ⟨h4.os, h4.tape, h4.output, h4.size, h4.block⟩⟩
theorem Rx.cell {D bL C : Nat} {V w0 V8 w : World} {q : Pt.Pq} {v vd : Value} {ls : List Pt.Cl} {bs : List Int} (h : Rx D bL C V q v w0) (hl : bL < D) (hb : Below w0.heap.size w0 V8) (hd : Rd bL C V8 v ls bs vd w) : Rx D bL C V ⟨q.bs, ls⟩ v w := by
  have h1 := h.below hb
  refine ⟨(h1.row).grown hd.gr ?_, hd.la.mono fun _ _ hA => hA.1, h1.fy.trans (Fy.of_put hd.gr h1.sz), Nat.le_trans h1.sz hd.gr.size⟩
  by_cases e : v.ownBlock = none
  · exact .inl e
  · exact .inr fun e' => by have := (h.row.lt bL e').1; omega
theorem Br.range {w : World} {D g n cap : Nat} {l : List Int} (h : Br w D (.slice (some ⟨g, 0, none⟩) n cap) l) : w.rangeAt g 0 (u8s l) := fun j u hu => by
  have hn := h.len
  subst hn
  have := World.ownsRow.cells h (g := g) rfl j u hu
  rwa [Addr.add_mid] at this
set_option maxRecDepth 100000 in
set_option maxHeartbeats 6400000 in
theorem r_Pack_ok (R C : Nat) (l : List Pt.Cl) (b0 off : Nat) (cap : Nat) (w : World) (hb0 : b0 < w.heap.size) (hr0 : w.rangeAt b0 off (cc l)) (hcap : l.length ≤ cap) (hv : Pt.vpat R l C = true) (g2 : R ≤ 64) (g4 : C ≤ 16) (g3 : 1 ≤ C) (hl : l.length = R * C) (hall : Pt.all l = true) :
    Calls Try.prog 17 #[PV R (some ⟨b0, off, none⟩) l.length cap, .int .i64 C] w fun x w' => RetB (Pt.packL l R C) 0 w.heap.size x w' ∧ Below w.heap.size w w' := by
  obtain ⟨i0, hinf, hz0, hz1, hz2⟩ := info_parts Try.infoSs3
  obtain ⟨W, hW⟩ : ∃ W, W = w.alloc (.cells #[.int .i64 (R : Int), .slice (some ⟨b0, off, none⟩) l.length cap] 24) := ⟨_, rfl⟩
  have hB : Below w.heap.size w W := by rw [hW]; exact below_box _ _
  have hsz : W.heap.size = w.heap.size + 1 := by rw [hW]; simp
  have hp : Pb W w.heap.size R (.slice (some ⟨b0, off, none⟩) l.length cap) := by rw [hW]; exact pb_box _ _ _ _
  have C1 := Lib.hid (r_Valid_v (cap := cap) (.inr ⟨b0, off, rfl, Nat.lt_of_lt_of_le hb0 hB.size, range_below hr0 hB hb0⟩ : CellsAt W (some ⟨b0, off, none⟩) l) hv)
  have HB := Lib.hid hB
  obtain ⟨b, hb⟩ : ∃ b, b = w.heap.size := ⟨_, rfl⟩
  rw [← hb] at hp hsz
  have HS := Lib.hid (show W.heap.size = b + 1 ∧ b = w.heap.size ∧ b0 < b from ⟨hsz, hb, by omega⟩)
  obtain ⟨k0, k1⟩ := two_cells' hp
  have HD := Lib.hid (range_below hr0 hB hb0)
  have HL := Lib.hid (show l.length = R * C ∧ R * C ≤ 1024 ∧ R ≤ 64 ∧ C ≤ 16 ∧ 1 ≤ C ∧ l.length ≤ cap from ⟨hl, Pt.rc_bound g2 g4, g2, g4, g3, hcap⟩)
  have HALL := Lib.hid hall
  obtain ⟨n, hn⟩ : ∃ n, l.length = n := ⟨_, rfl⟩
  have HN := Lib.hid hn
  unfold PV at C1 ⊢
  rw [hn] at C1 hp k1 hW ⊢
  have HP := Lib.hid hp
  have i1 : (R : Int) ≤ 64 := by omega
  have i2 : (C : Int) ≤ 16 := by omega
  clear hb0 hr0 hcap hv g2 g4 g3 hl hall hn hB hsz hp
  go_enter Try.func17, Try.ntmps17
  go_upto_region 1 with fail
  rw [← hW, ← hb]
  clear hW hb
  go_upto_region 5 with (first | (go_at_call 38; ((with_reducible refine (C1.out).mono ?_); rintro x' w1 ⟨rfl, hb1⟩; have HB1 := Lib.hid hb1; clear hb1 k0 k1; obtain ⟨k0, k1⟩ := two_cells HP.out HB1.out)) | (at_make; go_loud (refine wpList_make_full _ rfl _ _ 70 rfl w1.heap.size 72 i0 (.agg #[.slice none 0 0, .slice none 0 0, .slice none 0 0, .slice none 0 0]) 4 Try.underlying70 hinf hz0 hz1 .i64 .i64 _ _ C rfl rfl rfl rfl (by rw [hz2]; omega) (by unfold maxLen; omega) (Nat.le_refl _) ?_; intro w2 hown2 hgrow2; have HK2 := Lib.hid (La.made (by rw [← made_ss]; exact hown2) (fun _ => True)); have HB2 := Lib.hid (grown_below hgrow2); clear hown2 hgrow2 k0 k1; obtain ⟨k0, k1⟩ := two_cells HP.out (stepB HB1.out HB2.out))))
  obtain ⟨bL, hbL⟩ : ∃ bL, bL = w1.heap.size := ⟨_, rfl⟩
  rw [← hbL] at HK2 ⊢
  have HDD := Lib.hid (show bL < w2.heap.size ∧ b < bL ∧ b0 < bL by have := HK2.out.lt; have := HS.out; have := HB1.out.size; omega)
  have HP2 := Lib.hid (HP.out.kept (stepB HB1.out HB2.out))
  have HD2 := Lib.hid (range_below HD.out (stepB HB1.out HB2.out) (by have := HS.out; omega))
  have HBL := Lib.hid hbL
  clear hbL k0 k1
  have HX0 := Lib.hid (show Rx (bL + 1) bL C w2 (Pt.pkY l C 0) (.slice none 0 0) w2 from ⟨br_nil _ _, HK2.out.mono (fun _ _ _ => by simp [Value.ownBlock]), Fy.refl _ _ _, HDD.out.1⟩)
  clear HK2
  go_wp2
  go_loopw [6, 8] (fun v i wr => ∃ y : Nat, y ≤ R ∧ i = .int .i64 y ∧ Hid (Rx (bL + 1) bL C w2 (Pt.pkY l C y) v wr)) (fun _ i _ => R - (intOf i).toNat)
  case atStart => exact ⟨0, by omega, rfl, HX0.out⟩
  case round =>
    obtain ⟨y, hy, rfl, HX⟩ := hrel
    have hpw := HX.out.fy.range HP2.out.1 (by have := HDD.out; omega) (by have := HDD.out; omega)
    have k0 : wr.cell? ⟨b, 0, none⟩ = some (.int .i64 (R : Int)) := hpw 0 _ rfl
    clear hpw
    by_cases hlt : y < R
    · have HLT := Lib.hid hlt
      have hlt' : (y : Int) < (R : Int) := by omega
      obtain ⟨S, hS⟩ : ∃ S, y * C = S := ⟨_, rfl⟩
      have hSn : S + C ≤ n := by
        have := Nat.mul_le_mul_right C (show y + 1 ≤ R by omega)
        rw [Nat.add_mul, Nat.one_mul, hS] at this
        rw [← HN.out, HL.out.1]; exact this
      have hS' : (y : Int) * (C : Int) = (S : Int) := by rw [← hS, Int.natCast_mul]
      have HSS := Lib.hid (show y * C = S ∧ S + C ≤ n ∧ n ≤ 1024 from ⟨hS, hSn, by rw [← HN.out, HL.out.1]; exact HL.out.2.1⟩)
      clear hlt hS hSn
      go_wp2
      clear k0
      go_loopw [6, 9] (fun v i u => ∃ x : Nat, x ≤ C ∧ i = .int .i64 x ∧ Hid (Rx (bL + 1) bL C w2 (Pt.pkX l C y x (Pt.pkY l C y)) v u)) (fun _ i _ => C - (intOf i).toNat)
      case atStart => exact ⟨0, by omega, rfl, HX.out⟩
      case round =>
        obtain ⟨x, hx, rfl, HXx⟩ := hrel
        by_cases hlx : x < C
        · have hpw := HXx.out.fy.range HP2.out.1 (by have := HDD.out; omega) (by have := HDD.out; omega)
          have k1 : wr.cell? ⟨b, 1, none⟩ = some (.slice (some ⟨b0, off, none⟩) n cap) := hpw 1 _ rfl
          have hbc := rng_of (HXx.out.fy.range HD2.out (by have := HDD.out; omega) (by have := HDD.out; omega)) (i := S + x) (by have := HSS.out; rw [HN.out]; omega)
          obtain ⟨c, hc⟩ : ∃ c, Pt.at' l (S + x) = c := ⟨_, rfl⟩
          rw [hc] at hbc
          have hvc : Pt.vcl c = true := by rw [← hc]; exact Pt.all_at HALL.out (by have := HSS.out; rw [HN.out]; omega)
          have HVC := Lib.hid hvc
          obtain ⟨q, hq⟩ : ∃ q, Pt.pkX l C y x (Pt.pkY l C y) = q := ⟨_, rfl⟩
          have HQE := Lib.hid (show Pt.pkX l C y (x + 1) (Pt.pkY l C y) = Pt.pkC x c q by rw [Pt.pkX, HSS.out.1, hc, hq])
          have HQL := Lib.hid (show q.ls.length = 16 ∧ q.bs.length ≤ 20000 by
            have a1 := Pt.pkX_bs l C y x (Pt.pkY l C y)
            have a2 := Pt.pkY_bs l C HL.out.2.2.2.1 y
            have a3 := HL.out
            have a4 := HLT.out
            rw [hq] at a1
            refine ⟨by rw [← hq, Pt.pkX_ls, Pt.pkY_ls], by omega⟩)
          rw [hq] at HXx
          have HBC := Lib.hid hbc
          have hlx' : (x : Int) < (C : Int) := by omega
          have HLX := Lib.hid hlx
          obtain ⟨F, hF⟩ : ∃ F, S + x = F := ⟨_, rfl⟩
          have hF' : (S : Int) + (x : Int) = (F : Int) := by omega
          have m1 : (S : Int) ≤ 1024 := by have := HSS.out; omega
          have m2 : (F : Int) < (n : Int) := by have := HSS.out; omega
          have m3 : (n : Int) ≤ 1024 := by have := HSS.out; omega
          rw [hF] at HBC
          obtain ⟨bx, hbx⟩ : ∃ bx, bx = wr.heap.size := ⟨_, rfl⟩
          have HXB := Lib.hid (show ∀ u', u' = (wr.alloc (.cells (CL Pt.zc).toArray 28)).setCells bx 0 (CL c) → Below wr.heap.size wr u' ∧ u'.rangeAt bx 0 (CL c) ∧ bx < u'.heap.size by
            rintro u' rfl
            have ht := there_box wr (CL Pt.zc) 28
            rw [← hbx] at ht
            have hr := World.rangeAt_setCells_same _ bx 0 (CL c) ht
            exact ⟨grown_at (below_box _ _) (Nat.le_of_eq hbx.symm) (by simp) (grown_setCells _ _ _ _), hr, cell_lt (hr 0 _ rfl)⟩)
          have HTB := Lib.hid (show (wr.alloc (.cells (CL Pt.zc).toArray 28)).there bx 0 6 by rw [hbx]; exact there_box wr (CL Pt.zc) _)
          rw [cl_zc] at HXB HTB
          cases hz : Pt.eqC c Pt.zc with
          | true =>
            have EQ := eq_cl_v c Pt.zc hz
            rw [cl_zc] at EQ
            have HZ := Lib.hid hz
            clear hbc hc hvc hq hlx hz hF hpw
            go_wp2_with (first | (refine ld_cell (by rfl) _ rfl rfl HBC.out ?_) | ((refine st_cell (by rfl) _ _ rfl rfl rfl (by rw [← hbx]; exact HTB.out) ?_); intro w6 h6; rw [← hbx] at h6; obtain ⟨hb6, hr6, hl6⟩ := HXB.out _ h6; have HB6 := Lib.hid hb6; have HR6 := Lib.hid hr6; have HL6 := Lib.hid hl6; clear h6 hb6 hr6 hl6) | (refine ld_cell (by rfl) _ rfl (by rw [← hbx]; rfl) HR6.out ?_))
            go_roundw
            case rel =>
              refine ⟨x + 1, HLX.out, by go_num, ?_⟩
              rw [HQE.out, Pt.pkC, if_pos HZ.out]
              exact HXx.out.below HB6.out
            case measure => simp [intOf]; have := HLX.out; omega
          | false =>
            have EQ := eq_cl_v c Pt.zc hz
            rw [cl_zc] at EQ
            have HZ := Lib.hid hz
            clear hbc hc hvc hq hlx hz hF hpw
            go_upto_region 16 with (first | (refine ld_cell (by rfl) _ rfl rfl HBC.out ?_) | ((refine st_cell (by rfl) _ _ rfl rfl rfl (by rw [← hbx]; exact HTB.out) ?_); intro w6 h6; rw [← hbx] at h6; obtain ⟨hb6, hr6, hl6⟩ := HXB.out _ h6; have HB6 := Lib.hid hb6; have HR6 := Lib.hid hr6; have HL6 := Lib.hid hl6; clear h6 hb6 hr6 hl6) | (refine ld_cell (by rfl) _ rfl (by rw [← hbx]; rfl) HR6.out ?_) | (go_at_call 39; ((with_reducible refine (r_parts c w6).mono ?_); rintro x' w7 ⟨⟨gp, rfl, hgp⟩, hb7⟩; have HB7 := Lib.hid hb7; have HG7 := Lib.hid hgp; clear hb7 hgp)) | ((refine st_row (cs := [sl 0 (gp 0), sl 1 (gp 1), sl 2 (gp 2), sl 3 (gp 3)]) Try.infoSs (by simp [sl, Value.oneCell']) (by rfl) _ _ rfl rfl rfl (there_box w7 [_, _, _, _] _) ?_); intro w8 e8; have E8 := Lib.hid e8; clear e8))
            obtain ⟨b13, hb13⟩ : ∃ b13, b13 = w7.heap.size := ⟨_, rfl⟩
            rw [← hb13] at E8 ⊢
            have HB8 := Lib.hid (show Below w7.heap.size w7 w8 by rw [E8.out]; exact grown_at (below_box _ _) (Nat.le_of_eq hb13.symm) (by simp) (grown_setCells _ _ _ _))
            have HR8 := Lib.hid (show w8.rangeAt b13 0 [sl 0 (gp 0), sl 1 (gp 1), sl 2 (gp 2), sl 3 (gp 3)] by rw [E8.out, hb13]; exact World.rangeAt_setCells_same _ _ 0 _ (there_box w7 [_, _, _, _] _))
            have HZ8 := Lib.hid (show b13 < w8.heap.size ∧ w7.heap.size = b13 ∧ w6.heap.size ≤ b13 ∧ wr.heap.size ≤ w6.heap.size ∧ bL < wr.heap.size from ⟨cell_lt (HR8.out 0 _ rfl), hb13.symm, by rw [hb13]; exact HB7.out.size, HB6.out.size, HXx.out.la.lt⟩)
            have HY0 := Lib.hid (show Rd bL C w8 u6 (q.ls.set x (Pt.pst c (Pt.at' q.ls x) 0).la) (Pt.pst c (Pt.at' q.ls x) 0).bs (.slice none 0 0) w8 from by
              refine ⟨br_nil _ _, fun _ => rfl, ?_, ⟨rfl, rfl, rfl, Nat.le_refl _, fun _ _ _ => rfl⟩⟩
              show La w8 bL C (q.ls.set x (Pt.at' q.ls x)) _
              rw [Pt.set_self _ _ (by rw [HQL.out.1]; have := HLX.out; omega)]
              exact (((HXx.out.la.below HB6.out).below HB7.out).below HB8.out).mono fun g hg hA => ⟨hA, hg⟩)
            obtain ⟨la0, hla0⟩ : ∃ la0, Pt.at' q.ls x = la0 := ⟨_, rfl⟩
            have HLA := Lib.hid hla0
            rw [hla0] at HY0
            clear hb13 hla0
            go_wp2
            go_loopw [11, 12, 14] (fun m vd i u => ∃ k : Nat, k ≤ 4 ∧ i = .int .i64 k ∧ m = .int .i64 ((Pt.pst c la0 k).m : Nat) ∧ Hid (Rd bL C w8 u6 (q.ls.set x (Pt.pst c la0 k).la) (Pt.pst c la0 k).bs vd u)) (fun _ _ i _ => 4 - (intOf i).toNat)
            case atStart => exact ⟨0, by omega, rfl, rfl, HY0.out⟩
            case round =>
              obtain ⟨k, hk, rfl, rfl, HY⟩ := hrel
              by_cases hlk : k < 4
              · have HLK := Lib.hid hlk
                have hk4 : (k : Int) < 4 := by omega
                obtain ⟨v, hv⟩ : ∃ v, Pt.pv k c = v := ⟨_, rfl⟩
                obtain ⟨gk, hgk⟩ : ∃ gk, gp k = gk := ⟨_, rfl⟩
                obtain ⟨nk, hnk⟩ : ∃ nk, Pt.num k = nk := ⟨_, rfl⟩
                have HGK := Lib.hid (show (w6.heap.size ≤ gk ∧ Sv w8 k v gk) ∧ gk < w8.heap.size ∧ gk ≠ bL ∧ Sv wr k v gk by
                  have h := HG7.out k hlk
                  have hz := HZ8.out
                  rw [hgk, hv] at h
                  exact ⟨⟨h.1, h.2.below HB8.out⟩, (h.2.below HB8.out).1, by omega, (h.2.below HB8.out).grown HY.out.gr (by omega)⟩)
                have p13 : w8.cell? ⟨b13, k, none⟩ = some (.slice (some ⟨gk, 0, none⟩) nk nk) := by
                  have h : w8.cell? ⟨b13, 0 + k, none⟩ = some (sl k (gp k)) := HR8.out k _ (by match k, hlk with | 0, _ => rfl | 1, _ => rfl | 2, _ => rfl | 3, _ => rfl)
                  rw [Nat.zero_add, hgk] at h
                  unfold sl at h
                  rw [hnk] at h
                  exact h
                have HP13 := Lib.hid (show ∀ u, w8.grownBy u (some bL) → u.cell? ⟨b13, k, none⟩ = some (.slice (some ⟨gk, 0, none⟩) nk nk) from fun u hu => cell_grown hu p13 (by have := HZ8.out; show b13 ≠ bL; omega))
                replace p13 := HP13.out wr HY.out.gr
                have HNK := Lib.hid (show Pt.num k = nk ∧ 1 ≤ nk ∧ nk ≤ 2 by have := Pt.num_le k; omega)
                have n1 : (0 : Int) < (nk : Int) := by have := HNK.out; omega
                have n2 : (nk : Int) ≤ 2 := by have := HNK.out; omega
                have HNU := Lib.hid (show (Pt.numsOf k v).length = nk by rw [nums_len, hnk])
                have q0 : wr.cell? ⟨gk, 0, none⟩ = some (.int .i64 v.1) := by
                  have := HGK.out.2.2.2.2 0 _ (ii_get (by rw [HNU.out]; have := HNK.out; omega))
                  rw [Nat.zero_add] at this
                  rw [this]
                  have e : (Pt.numsOf k v).getD 0 0 = v.1 := by
                    unfold Pt.numsOf
                    rw [hnk]
                    have := HNK.out
                    match nk, this with
                    | 1, _ => rfl
                    | 2, _ => rfl
                  rw [e]
                have HV := Lib.hid hv
                obtain ⟨y0, hy0⟩ : ∃ y0, v.1 = y0 := ⟨_, rfl⟩
                rw [hy0] at q0
                have HYZ := Lib.hid hy0
                clear hv hgk hnk hy0 hlk
                cases hs : Pt.isSet v with
                | false =>
                  have hy0 : (y0 == 0) = true := by unfold Pt.isSet at hs; rw [← HYZ.out]; simpa using hs
                  have HSE := Lib.hid (show Pt.pst c la0 (k + 1) = Pt.pst c la0 k from Pt.pst_unset (by rw [HV.out]; exact hs))
                  clear hs
                  go_wp2
                  go_roundw
                  case rel =>
                    exact ⟨k + 1, HLK.out, by go_num, by rw [HSE.out], by rw [HSE.out]; exact HY.out⟩
                  case measure => simp [intOf]; have := HLK.out; omega
                | true =>
                  have hy0 : (y0 == 0) = false := by unfold Pt.isSet at hs; rw [← HYZ.out]; simpa using hs
                  obtain ⟨o, c1, c2, c3⟩ := HY.out.la.cell x k HLX.out HLK.out
                  rw [Pt.at_set _ _ _ (by rw [HQL.out.1]; have := HLX.out; have := HL.out; omega), if_pos rfl] at c2
                  obtain ⟨po, no, co, ho⟩ : ∃ po no co, sv k o = .slice po no co := by cases o with | none => exact ⟨_, _, _, rfl⟩ | some g => exact ⟨_, _, _, rfl⟩
                  obtain ⟨eq, heq⟩ : ∃ eq, decide (v = Pt.pv k (Pt.pst c la0 k).la) = eq := ⟨_, rfl⟩
                  have CS := Lib.hid (show ∀ n, Calls Try.prog 40 #[.slice (some ⟨gk, 0, none⟩) nk nk, .slice po no co] (wr.drewN n) fun e w'' => e = .returned (.bool eq) ∧ ∃ m, w'' = wr.drewN m from fun n => by
                    refine Calls.quiet_of ?_
                    rw [← heq, ← ho]
                    cases o with
                    | none =>
                      have e : decide (v = Pt.pv k (Pt.pst c la0 k).la) = false := decide_eq_false fun e => by
                        have h1 : (Pt.pv k (Pt.pst c la0 k).la).1 = 0 := c2
                        rw [← e, HYZ.out] at h1
                        rw [h1] at hy0
                        exact absurd hy0 (by decide)
                      rw [e]
                      exact r_same_none nk gk nk HNK.out.2.1 (by have := HNK.out; omega) _
                    | some g2 =>
                      have e : decide (v = Pt.pv k (Pt.pst c la0 k).la) = decide (Pt.numsOf k v = Pt.numsOf k (Pt.pv k (Pt.pst c la0 k).la)) := decide_eq_decide.2 ⟨fun e => by rw [e], fun e => by rw [← HV.out] at e ⊢; exact Pt.pv_inj HLK.out e⟩
                      rw [e]
                      show Calls _ _ #[_, .slice (some ⟨g2, 0, none⟩) (Pt.num k) (Pt.num k)] _ _
                      rw [HNK.out.1]
                      exact r_same nk _ _ gk g2 nk nk HNU.out (by rw [nums_len]; exact HNK.out.1) (by have := HNK.out; omega) _ HGK.out.2.2.2.2 c2.2.2)
                  rw [ho] at c1
                  obtain ⟨mm, hmm⟩ : ∃ mm, (Pt.pst c la0 k).m = mm := ⟨_, rfl⟩
                  have hm256 : mm < 256 := by rw [← hmm]; exact Pt.pst_m c la0 k (by have := HLK.out; omega)
                  have HMM := Lib.hid hmm
                  have HC2 := Lib.hid (show Pt.isSet v = true from hs)
                  have HEQ := Lib.hid heq
                  clear ho c2 c3 heq hs
                  rw [hmm]
                  clear hmm
                  obtain ⟨o1, o2⟩ := or_bit hm256 HLK.out
                  go_upto_region 27 with fail
                  go_quiet ((go_at_call 40; exact CS.out _))
                  obtain ⟨w9, hw9⟩ : ∃ w9, w9 = wr.drewN nq := ⟨_, rfl⟩
                  rw [← hw9]
                  have HY9 := Lib.hid (show Rd bL C w8 u6 (q.ls.set x (Pt.pst c la0 k).la) (Pt.pst c la0 k).bs u12 w9 by rw [hw9]; exact HY.out.quiet nq)
                  have HSV := Lib.hid (show Sv w9 k v gk by rw [hw9]; exact HGK.out.2.2.2)
                  replace p13 : w9.cell? ⟨b13, k, none⟩ = some (.slice (some ⟨gk, 0, none⟩) nk nk) := by rw [hw9]; exact p13
                  clear hw9 q0 c1
                  cases eq with
                  | true =>
                    have HSE := Lib.hid (show Pt.pst c la0 (k + 1) = ⟨mm ||| 16 <<< k, (Pt.pst c la0 k).bs, (Pt.pst c la0 k).la⟩ by
                      rw [Pt.pst_same (by rw [HV.out]; exact HC2.out) (by rw [HV.out]; exact of_decide_eq_true HEQ.out), HMM.out])
                    go_wp2
                    go_roundw
                    case rel => exact ⟨k + 1, HLK.out, by go_num, by rw [HSE.out], by rw [HSE.out]; exact HY9.out⟩
                    case measure => simp [intOf]; have := HLK.out; omega
                  | false =>
                    have HSE := Lib.hid (show Pt.pst c la0 (k + 1) = ⟨mm ||| 1 <<< k, (Pt.pst c la0 k).bs ++ Pt.numsOf k v, Pt.pw k (Pt.pst c la0 k).la v⟩ by
                      rw [Pt.pst_new (by rw [HV.out]; exact HC2.out) (by rw [HV.out]; exact of_decide_eq_false HEQ.out), HMM.out, HV.out])
                    obtain ⟨bs, hbs⟩ : ∃ bs, (Pt.pst c la0 k).bs = bs := ⟨_, rfl⟩
                    have HBS := Lib.hid (show bs.length ≤ 8 by rw [← hbs]; have := Pt.pst_len c la0 k; have := HLK.out; omega)
                    rw [hbs] at HY9
                    have HBE := Lib.hid hbs
                    clear hbs
                    go_wp2
                    go_loopw [12, 16, 60] (fun vd _ i u => ∃ j : Nat, j ≤ nk ∧ i = .int .i64 j ∧ Hid (Rd bL C w8 u6 (q.ls.set x (Pt.pst c la0 k).la) (bs ++ (Pt.numsOf k v).take j) vd u)) (fun _ _ i _ => nk - (intOf i).toNat)
                    case atStart => exact ⟨0, by omega, rfl, by rw [List.take_zero, List.append_nil]; exact HY9.out⟩
                    case round =>
                      obtain ⟨j, hj, rfl, HJ⟩ := hrel
                      by_cases hlj : j < nk
                      · have HLJ := Lib.hid hlj
                        have hlj' : (j : Int) < (nk : Int) := by omega
                        obtain ⟨z, hz⟩ : ∃ z, (Pt.numsOf k v).getD j 0 = z := ⟨_, rfl⟩
                        have HSJ := Lib.hid (show Sv wr k v gk from HGK.out.1.2.grown HJ.out.gr HGK.out.2.2.1)
                        have q1 : wr.cell? ⟨gk, j, none⟩ = some (.int .i64 z) := by
                          have := HSJ.out.2 j _ (ii_get (by rw [HNU.out]; exact hlj))
                          rw [Nat.zero_add, hz] at this
                          exact this
                        have HTK := Lib.hid (show (Pt.numsOf k v).take (j + 1) = (Pt.numsOf k v).take j ++ [z] by
                          have h : j < (Pt.numsOf k v).length := by rw [HNU.out]; exact hlj
                          rw [List.take_succ_eq_append_getElem h, ← hz]
                          simp [List.getD_eq_getElem?_getD, h])
                        have z1 : z % 256 = z := by
                          have hb := Pt.vcl_bytes HVC.out k
                          rw [HV.out] at hb
                          have h : j < (Pt.numsOf k v).length := by rw [HNU.out]; exact hlj
                          have hm : z ∈ Pt.numsOf k v := by rw [← hz]; simp [List.getD_eq_getElem?_getD, h]
                          have hm2 : z ∈ [v.1, v.2] := List.mem_of_mem_take hm
                          simp at hm2
                          rcases hm2 with rfl | rfl <;> omega
                        clear hlj hz
                        go_wp2_with (first | (at_builtin; refine app_one rfl _ _ rfl rfl HJ.out.row HJ.out.gr.size rfl (by have := HBS.out; have := HNU.out; have := HNK.out; simp; omega) ?_; intro g3 cap3 w10 hb10 hg10 hf10 hd10 hl10; have HJ10 := Lib.hid (HJ.out.app (by have := HZ8.out; omega) hb10 hg10); clear hb10 hg10 hf10 hd10 hl10))
                        go_roundw
                        case rel => exact ⟨j + 1, HLJ.out, by go_num, by rw [HTK.out, ← List.append_assoc]; have h := HJ10.out; simp only [List.length_append, List.length_take] at h; exact h⟩
                        case measure => simp [intOf]; have := HLJ.out; omega
                      · obtain rfl : j = nk := by omega
                        have HSJ := Lib.hid (show Sv wr k v gk from HGK.out.1.2.grown HJ.out.gr HGK.out.2.2.1)
                        have p13 : wr.cell? ⟨b13, k, none⟩ = some (.slice (some ⟨gk, 0, none⟩) j j) := HP13.out wr HJ.out.gr
                        obtain ⟨o9, e1, -, -⟩ := HJ.out.la.cell x k HLX.out HLK.out
                        have e2 := HJ.out.la.fz x k HLX.out HLK.out
                        go_upto_region 25 with fail
                        go_region
                        have HPUT := Lib.hid (show Rd bL C w8 u6 (q.ls.set x (Pt.pst c la0 (k + 1)).la) (Pt.pst c la0 (k + 1)).bs u12 (wr.setCell ⟨bL, x * 4 + k, none⟩ (.slice (some ⟨gk, 0, none⟩) j j)).drew by
                          have hz8 := HZ8.out
                          have h := HJ.out.put (d := c) (by omega) HLX.out HLK.out (by rw [List.length_set, HQL.out.1]; have := HLX.out; have := HL.out; omega) (by rw [HV.out]; exact HSJ.out) (by rw [HV.out]; have := HC2.out; unfold Pt.isSet at this; simpa using this) HGK.out.2.2.1 ⟨fun e => by have := (HXx.out.row.lt gk e).2; have := HGK.out.1.1; omega, HGK.out.2.1⟩
                          rw [Pt.at_set _ _ _ (by rw [HQL.out.1]; have := HLX.out; have := HL.out; omega), if_pos rfl, Pt.set_set, HV.out, List.take_of_length_le (by rw [HNU.out]; exact Nat.le_refl _)] at h
                          unfold sl at h
                          rw [HNK.out.1] at h
                          rw [HSE.out, HBE.out]
                          exact h)
                        obtain ⟨w11, hw11⟩ : ∃ w11, w11 = (wr.setCell ⟨bL, x * 4 + k, none⟩ (.slice (some ⟨gk, 0, none⟩) j j)).drew := ⟨_, rfl⟩
                        rw [← hw11] at HPUT ⊢
                        clear hw11 e1 e2
                        go_wp2
                        go_roundw
                        case rel => exact ⟨k + 1, HLK.out, by go_num, by rw [HSE.out], HPUT.out⟩
                        case measure => simp [intOf]; have := HLK.out; omega
              · obtain rfl : k = 4 := by omega
                obtain ⟨mm, hmm⟩ : ∃ mm, (Pt.pst c la0 4).m = mm := ⟨_, rfl⟩
                have hm256 : mm < 256 := by rw [← hmm]; exact Pt.pst_m c la0 4 (by omega)
                have HMM := Lib.hid hmm
                rw [hmm]
                obtain ⟨bs, hbs⟩ : ∃ bs, (Pt.pst c la0 4).bs = bs := ⟨_, rfl⟩
                have HBL8 := Lib.hid (show bs.length ≤ 8 by rw [← hbs]; exact Pt.pst_len c la0 4)
                rw [hbs] at HY
                have HR4 := Lib.hid (HXx.out.cell (by omega) (stepB (stepB HB6.out HB7.out) HB8.out) HY.out)
                have HQC := Lib.hid (show Pt.pkC x c q = ⟨q.bs ++ ((x + 1 : Nat) : Int) :: (mm : Int) :: bs, q.ls.set x (Pt.pst c la0 4).la⟩ by
                  rw [Pt.pkC, if_neg (by rw [HZ.out]; simp), HLA.out, hmm, hbs])
                have x1 : ((x : Int) + 1) % 256 = (x : Int) + 1 := by omega
                have x3 : (x : Int) < 16 := by omega
                have x4 : (mm : Int) % 256 = (mm : Int) := by omega
                clear hmm hbs hlk hk
                by_cases hbz : bs = []
                · have hvd := HY.out.nil hbz
                  subst hbz
                  subst hvd
                  go_wp2_with (first | (at_builtin; (refine app_two rfl (.tmp 100) (.tmp 106) rfl rfl HR4.out.row HR4.out.sz rfl (by have := HQL.out; show q.bs.length ≤ _; omega) ?_; intro g12 cap12 w12 hb12 hg12 hf12 hd12 hl12; have HR5 := Lib.hid (HR4.out.more (by omega) hb12 hg12 hf12); clear hb12 hg12 hf12 hd12 hl12)) | (at_builtin; (refine app_none rfl (.tmp 107) (.tmp 108) rfl rfl HR5.out.row rfl ?_)))
                  go_roundw
                  case rel => exact ⟨x + 1, HLX.out, by go_num, by rw [HQE.out, HQC.out]; exact HR5.out⟩
                  case measure => simp [intOf]; have := HLX.out; omega
                · have hpos : 0 < bs.length := List.length_pos_iff.2 hbz
                  obtain ⟨gd, capd, hvd, hgd, hgd2⟩ := HY.out.row.form hpos
                  subst hvd
                  have HDT := Lib.hid (show ∀ u, wr.grownBy u u6.ownBlock → u.rangeAt gd 0 (u8s bs) from fun u hu => (HY.out.row.grown hu (.inr fun e => by have := (HXx.out.row.lt gd e.symm).2; have := HZ8.out; have := HB8.out.size; omega)).range)
                  clear hbz hgd hgd2
                  go_wp2_with (first | (at_builtin; (refine app_two rfl (.tmp 100) (.tmp 106) rfl rfl HR4.out.row HR4.out.sz rfl (by have := HQL.out; show q.bs.length ≤ _; omega) ?_; intro g12 cap12 w12 hb12 hg12 hf12 hd12 hl12; have HR5 := Lib.hid (HR4.out.more (by omega) hb12 hg12 hf12); have HG12 := Lib.hid hg12; clear hb12 hg12 hf12 hd12 hl12)) | (at_builtin; (refine app_all rfl (.tmp 107) (.tmp 108) rfl rfl HR5.out.row HR5.out.sz rfl (HDT.out _ HG12.out) hpos (by have := HQL.out; simp; omega) (by have := HBL8.out; omega) ?_; intro g13 cap13 w13 hb13 hg13 hf13 hd13 hl13; have HR6 := Lib.hid (HR5.out.more (by omega) hb13 hg13 hf13); clear hb13 hg13 hf13 hd13 hl13)))
                  go_roundw
                  case rel => exact ⟨x + 1, HLX.out, by go_num, by rw [HQE.out, HQC.out]; have h := HR6.out; rw [List.length_append] at h; simp only [List.append_assoc, List.cons_append, List.nil_append] at h; exact h⟩
                  case measure => simp [intOf]; have := HLX.out; omega
        · obtain rfl : x = C := by omega
          go_wp2_with (first | (at_builtin; refine app_one rfl _ _ rfl rfl HXx.out.row HXx.out.sz rfl (by have a1 := Pt.pkX_bs l x y x (Pt.pkY l x y); have a2 := Pt.pkY_bs l x HL.out.2.2.2.1 y; have a3 := HL.out; have a4 := HLT.out; omega) ?_; intro g3 cap3 w9 hb9 hg9 hf9 hd9 hl9; have H9 := Lib.hid (HXx.out.more (by omega) hb9 hg9 hf9); clear hb9 hg9 hf9 hd9 hl9))
          go_roundw
          case rel => exact ⟨y + 1, HLT.out, by go_num, H9.out⟩
          case measure => simp [intOf]; have := HLT.out; omega
    · obtain rfl : y = R := by omega
      obtain ⟨pv, cv, hpv⟩ := HX.out.row.slice
      have HBL9 := Lib.hid (show ((Pt.pkY l C y).bs.length : Int) ≤ 20000 by have a2 := Pt.pkY_bs l C HL.out.2.2.2.1 y; have a3 := HL.out; omega)
      obtain ⟨nv, hnv⟩ : ∃ nv, (Pt.pkY l C y).bs.length = nv := ⟨_, rfl⟩
      rw [hnv] at hpv HBL9
      subst hpv
      have hle : (nv : Int) ≤ 400000 := by have := HBL9.out; omega
      clear hnv
      go_wp2
      go_ret2
      have e1 := HS.out
      have e2 := HDD.out
      have e3 := HBL.out
      have e4 := HB1.out.size
      have hw : Below w.heap.size w w2 := stepB HB.out (stepB HB1.out HB2.out)
      have hf := HX.out.fy
      refine ⟨⟨_, rfl, ?_⟩, ⟨hf.os.trans hw.os, hf.tape.trans hw.tape, hf.output.trans hw.output, Nat.le_trans hw.size hf.size, fun k hk => (hf.block k (by omega) (by omega)).trans (hw.block k hk)⟩⟩
      exact HX.out.row.lower (by omega)
theorem r_Pack_bad (r : Int) (l : List Pt.Cl) (p : Option Addr) (cap : Nat) (ch : Int) (w : World) (hd : CellsAt w p l) (h : Pt.vpat r l ch = false) :
    Calls Try.prog 17 #[PV r p l.length cap, .int .i64 ch] w fun x w' => RetB [] 1 w.heap.size x w' ∧ Below w.heap.size w w' := by
  obtain ⟨W, hW⟩ : ∃ W, W = w.alloc (.cells #[.int .i64 r, .slice p l.length cap] 24) := ⟨_, rfl⟩
  have hB : Below w.heap.size w W := by rw [hW]; exact below_box _ _
  have hp : Pb W w.heap.size r (.slice p l.length cap) := by rw [hW]; exact pb_box _ _ _ _
  have C1 := Lib.hid (r_Valid_v (cap := cap) (hd.below hB) h)
  have HB := Lib.hid hB
  obtain ⟨b, hb⟩ : ∃ b, b = w.heap.size := ⟨_, rfl⟩
  rw [← hb] at hp
  have ⟨k0, k1, _, _⟩ := hp.cells
  unfold PV at C1 ⊢
  clear hd h hB hp
  go_enter Try.func17, Try.ntmps17
  go_upto_region 1 with fail
  rw [← hW, ← hb]
  clear hW hb
  go_wp2_with (first | (go_at_call 38; ((with_reducible refine (C1.out).mono ?_); rintro x' w1 ⟨rfl, hb1⟩)))
  go_ret2
  exact ⟨⟨_, rfl, br_nil _ _⟩, stepB HB.out hb1⟩
theorem r_Pack (r : Int) (l : List Pt.Cl) (p : Option Addr) (cap : Nat) (ch : Int) (w : World) (hd : CellsAt w p l) (hcap : l.length ≤ cap) :
    Calls Try.prog 17 #[PV r p l.length cap, .int .i64 ch] w fun x w' => RetB (if Pt.vpat r l ch then Pt.packL l r.toNat ch.toNat else []) (if Pt.vpat r l ch then 0 else 1) w.heap.size x w' ∧ Below w.heap.size w w' := by
  cases h : Pt.vpat r l ch with
  | false => exact r_Pack_bad r l p cap ch w hd h
  | true =>
    obtain ⟨R, C, rfl, rfl, g1, g2, g3, g4, g5, g6⟩ := Pt.vpat_nat h
    have hp1 := Nat.mul_pos (show 0 < R by omega) (show 0 < C by omega)
    rcases hd with rfl | ⟨b1, o1, rfl, hb1, hr1⟩
    · simp at g5; omega
    exact r_Pack_ok R C l b1 o1 cap w hb1 hr1 hcap h g2 g4 g3 g5 g6
end Go.Proofs.Ytfjfnbeegojlbaa

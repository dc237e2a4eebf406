/-
  Package pattern's Pack.
-/
import Derived.Test.YtfjfnbeegojlbaaDoorPApp
import Derived.Test.YtfjfnbeegojlbaaDoorPkN
import Derived.Test.YtfjfnbeegojlbaaDoorPPst
namespace Go.Proofs.YtfjfnbeegojlbaaDoor
open Go.RowKit

/-- Of what is below D only block bl may have changed. -/
structure Fy (D bl : Nat) (w w' : World) : Prop where
  os : w'.os = w.os
  tape : w'.tape = w.tape
  output : w'.output = w.output
  size : w.heap.size ≤ w'.heap.size
  block : ∀ k, k < D → k ≠ bl → w'.heap[k]? = w.heap[k]?
theorem Fy.refl (D bl : Nat) (w : World) : Fy D bl w w := ⟨rfl, rfl, rfl, Nat.le_refl _, fun _ _ _ => rfl⟩
theorem Fy.trans {D bl : Nat} {w w1 w2 : World} (h : Fy D bl w w1) (h2 : Fy D bl w1 w2) : Fy D bl w w2 := ⟨h2.os.trans h.os, h2.tape.trans h.tape, h2.output.trans h.output, Nat.le_trans h.size h2.size, fun k hk hne => (h2.block k hk hne).trans (h.block k hk hne)⟩
theorem Fy.grown {D bl : Nat} {w w' : World} {r : Option Nat} (hg : w.grownBy w' r) (hr : ∀ k, r = some k → D ≤ k) (hD : D ≤ w.heap.size) : Fy D bl w w' := ⟨hg.os, hg.tape, hg.output, hg.size, fun k hk _ => hg.block k (by omega) (fun e => by have := hr k e.symm; omega)⟩
theorem Fy.of {D bl : Nat} {w w' : World} (hg : Below w.heap.size w w') (hD : D ≤ w.heap.size) : Fy D bl w w' := Fy.grown (r := none) (grownBy_of hg) (fun _ e => by simp at e) hD
theorem Fx.fy {D bl o : Nat} {w w' : World} (h : Fx D bl o w w') : Fy D bl w w' := ⟨h.os, h.tape, h.output, h.size, h.block⟩
theorem Fx.undrew {D bl o : Nat} {w w' : World} (h : Fx D bl o w.drew w') : Fx D bl o w w' := ⟨h.os, h.tape, h.output, h.size, h.block, h.out⟩
theorem Fy.range {D bl b o : Nat} {w w' : World} {cs : List Value} (h : Fy D bl w w') (hr : w.rangeAt b o cs) (hb : b < D) (hne : b ≠ bl) : w'.rangeAt b o cs := fun j v hv => by
  rw [World.cell?_of_block (a := ⟨b, o + j, none⟩) (h.block b hb hne)]
  exact hr j v hv
theorem Fx.kr {D bl x : Nat} {w w' : World} {ls : List Pt.Cl} {c : Pt.Cl} (h : Fx D bl (x * 6) w w') (hk : Kr w bl ls) (hx : x < ls.length) (hr : w'.rangeAt bl (x * 6) (CL c)) (ht : w'.there bl (x * 6) 6) : Kr w' bl (ls.set x c) := by
  refine ⟨Nat.lt_of_lt_of_le hk.1 h.size, rng_mk fun i hi => ?_, ?_⟩
  · rw [Nat.zero_add, Pt.at_set ls x c hx]
    rw [List.length_set] at hi
    by_cases e : i = x
    · subst e; rw [if_pos rfl]; exact hr
    · rw [if_neg e]
      intro j v hv
      have hj : j < 6 := by have := (List.getElem?_eq_some_iff.1 hv).1; rwa [cl_len] at this
      rw [(h.out (i * 6 + j) (by omega)).1]
      exact hk.one hi j v hv
  · intro j hj
    rw [List.length_set] at hj
    rw [Nat.zero_add]
    by_cases e : x * 6 ≤ j ∧ j < x * 6 + 6
    · have := ht (j - x * 6) (by omega)
      rwa [show x * 6 + (j - x * 6) = j by omega] at this
    · obtain ⟨a1, a2⟩ := h.out j (by omega)
      have := hk.2.2 j hj
      rw [Nat.zero_add] at this
      rw [a1, a2]
      exact this
theorem Kr.fy {D bl : Nat} {w w' : World} {r : Option Nat} {ls : List Pt.Cl} (hk : Kr w bl ls) (hg : w.grownBy w' r) (hr : ∀ k, r = some k → D ≤ k) (hb : bl < D) : Kr w' bl ls := by
  have hbl : w'.heap[bl]? = w.heap[bl]? := hg.block bl hk.1 (fun e => by have := hr bl e.symm; omega)
  refine ⟨Nat.lt_of_lt_of_le hk.1 hg.size, fun j v hv => ?_, fun j hj => ?_⟩
  · rw [World.cell?_of_block (a := ⟨bl, 0 + j, none⟩) hbl]; exact hk.2.1 j v hv
  · rw [World.cell?_of_block (a := ⟨bl, 0 + j, none⟩) hbl, World.frozen?_of_block (a := ⟨bl, 0 + j, none⟩) hbl]; exact hk.2.2 j hj
section
variable {ops : Array Oper} {rest : List Oper} {op : Oper} {a : Act} {w : World} {Q : Exit → Act → World → Prop}
set_option maxRecDepth 100000 in
/-- Room for the last parts of all channels. -/
theorem al_lasts (hw : Region.wanted op (yielded ops a.tmps) = true) (ho : op.op = .alloc 75)
    (h : ∀ w', Below w.heap.size w w' → w'.heap.size = w.heap.size + 1 → Kr w' w.heap.size (List.replicate 16 Pt.zc) → wpList Tryd.prog ops Q rest (a.put op.dst (.pointer (some ⟨w.heap.size, 0, none⟩))) w') : wpList Tryd.prog ops Q (op :: rest) a w := by
  simp only [wpList, hw, if_true]
  refine .inl ?_
  unfold Oper.wp execOp
  simp only [ho]
  simp [go_sem]
  refine h _ (below_box _ _) (by simp) ?_
  have hr := range_box w (cc (List.replicate 16 Pt.zc)) 75
  have ht := there_box w (cc (List.replicate 16 Pt.zc)) 75
  exact ⟨by simp, hr, ht⟩
end
/-- What a call hands back: bytes of one's own and an error. -/
def RetB (l : List Int) (e : Int) (B : Nat) (x : Ending) (w' : World) : Prop := ∃ v, x = .returned (.tuple #[v, .int .i64 e]) ∧ Br w' B v l
theorem two_cells' {W : World} {b : Nat} {r : Int} {v : Value} (hp : Pb W b r v) : W.cell? ⟨b, 0, none⟩ = some (.int .i64 r) ∧ W.cell? ⟨b, 1, none⟩ = some v := ⟨hp.1 0 _ rfl, hp.1 1 _ rfl⟩
theorem two_cells {W : World} {b : Nat} {r : Int} {v : Value} (hp : Pb W b r v) {w' : World} (hb : Below W.heap.size W w') : w'.cell? ⟨b, 0, none⟩ = some (.int .i64 r) ∧ w'.cell? ⟨b, 1, none⟩ = some v := ⟨kept_cell hb (hp.1 0 _ rfl), kept_cell hb (hp.1 1 _ rfl)⟩
theorem Br.lower {w : World} {D D' : Nat} {v : Value} {l : List Int} (h : Br w D v l) (hd : D' ≤ D) : Br w D' v l := by
  refine ⟨h.1, ?_⟩
  rcases h.2 with h | ⟨g, cap, cur, a, b, c⟩
  · exact .inl h
  · exact .inr ⟨g, cap, cur, a, Nat.le_trans hd b, c⟩
theorem p_Pack_bad (r : Int) (l : List Pt.Cl) (p : Option Addr) (cap : Nat) (ch : Int) (w : World) (hd : CellsAt w p l) (h : Pt.vpat r l ch = false) :
    Calls Tryd.prog 23 #[PV r p l.length cap, .int .i64 ch] w fun x w' => RetB [] 1 w.heap.size x w' ∧ Below w.heap.size w w' := by
  obtain ⟨W, hW⟩ : ∃ W, W = w.alloc (.cells #[.int .i64 r, .slice p l.length cap] 59) := ⟨_, rfl⟩
  have hB : Below w.heap.size w W := by rw [hW]; exact below_box _ _
  have hp : Pb W w.heap.size r (.slice p l.length cap) := by rw [hW]; exact pb_box _ _ _ _
  have C1 := Lib.hid (p_Valid_v (cap := cap) (hd.below hB) h)
  have HB := Lib.hid hB
  obtain ⟨b, hb⟩ : ∃ b, b = w.heap.size := ⟨_, rfl⟩
  rw [← hb] at hp
  have ⟨k0, k1, _, _⟩ := hp.cells
  unfold PV at C1 ⊢
  clear hd h hB hp
  go_enter Tryd.func23, Tryd.ntmps23
  go_upto_region 1 with fail
  rw [← hW, ← hb]
  clear hW hb
  go_wp2_with (first | (go_at_call 48; ((with_reducible refine (C1.out).mono ?_); rintro x' w1 ⟨rfl, hb1⟩)))
  go_ret2
  exact ⟨⟨_, rfl, br_nil _ _⟩, stepB HB.out hb1⟩
/-- Where Pack stands: its bytes, the last parts of each channel. -/
structure Px (D bL : Nat) (V : World) (q : Pt.Pq) (v : Value) (w : World) : Prop where
  row : Br w D v q.bs
  kr : Kr w bL q.ls
  fy : Fy D bL V w
  sz : D ≤ w.heap.size
theorem Px.below {D bL : Nat} {V w w' : World} {q : Pt.Pq} {v : Value} (h : Px D bL V q v w) (hb : Below w.heap.size w w') (hl : bL < D) : Px D bL V q v w' :=
  ⟨h.row.kept hb, h.kr.fy (r := none) (grownBy_of hb) (fun _ e => by simp at e) hl, h.fy.trans (Fy.of hb h.sz), Nat.le_trans h.sz hb.size⟩
theorem Px.more {D bL : Nat} {V w w' : World} {q : Pt.Pq} {v v' : Value} {x : Int} (h : Px D bL V q v w) (hl : bL < D) (hr : Br w' D v' (q.bs ++ [x])) (hg : w.grownBy w' v.ownBlock) : Px D bL V ⟨q.bs ++ [x], q.ls⟩ v' w' :=
  ⟨hr, h.kr.fy hg (fun k hk => (h.row.lt k hk).1) hl, h.fy.trans (Fy.grown hg (fun k hk => (h.row.lt k hk).1) h.sz), Nat.le_trans h.sz hg.size⟩
set_option maxRecDepth 100000 in
set_option maxHeartbeats 6400000 in
theorem p_Pack_ok (R C : Nat) (l : List Pt.Cl) (b0 off : Nat) (cap : Nat) (w : World) (hb0 : b0 < w.heap.size) (hr0 : w.rangeAt b0 off (cc l)) (hcap : l.length ≤ cap) (hv : Pt.vpat R l C = true) (g2 : R ≤ 64) (g4 : C ≤ 16) (g3 : 1 ≤ C) (hl : l.length = R * C) (hall : Pt.all l = true) :
    Calls Tryd.prog 23 #[PV R (some ⟨b0, off, none⟩) l.length cap, .int .i64 C] w fun x w' => RetB (Pt.packL l R C) 0 w.heap.size x w' ∧ Below w.heap.size w w' := by
  obtain ⟨W, hW⟩ : ∃ W, W = w.alloc (.cells #[.int .i64 (R : Int), .slice (some ⟨b0, off, none⟩) l.length cap] 59) := ⟨_, rfl⟩
  have hB : Below w.heap.size w W := by rw [hW]; exact below_box _ _
  have hsz : W.heap.size = w.heap.size + 1 := by rw [hW]; simp
  have hp : Pb W w.heap.size R (.slice (some ⟨b0, off, none⟩) l.length cap) := by rw [hW]; exact pb_box _ _ _ _
  have C1 := Lib.hid (p_Valid_v (cap := cap) (.inr ⟨b0, off, rfl, Nat.lt_of_lt_of_le hb0 hB.size, range_below hr0 hB hb0⟩ : CellsAt W (some ⟨b0, off, none⟩) l) hv)
  have HB := Lib.hid hB
  obtain ⟨b, hb⟩ : ∃ b, b = w.heap.size := ⟨_, rfl⟩
  rw [← hb] at hp hsz
  have HS := Lib.hid (show W.heap.size = b + 1 ∧ b = w.heap.size ∧ b0 < b from ⟨hsz, hb, by omega⟩)
  obtain ⟨k0, k1⟩ := two_cells' hp
  have HD := Lib.hid (range_below hr0 hB hb0)
  have HL := Lib.hid (show l.length = R * C ∧ R * C ≤ 1024 ∧ R ≤ 64 ∧ C ≤ 16 ∧ 1 ≤ C ∧ l.length ≤ cap from ⟨hl, Pt.rc_bound g2 g4, g2, g4, g3, hcap⟩)
  have HALL := Lib.hid hall
  obtain ⟨n, hn⟩ : ∃ n, l.length = n := ⟨_, rfl⟩
  have HN := Lib.hid hn
  unfold PV at C1 ⊢
  rw [hn] at C1 hp k1 hW ⊢
  have HP := Lib.hid hp
  have i1 : (R : Int) ≤ 64 := by omega
  have i2 : (C : Int) ≤ 16 := by omega
  clear hb0 hr0 hcap hv g2 g4 g3 hl hall hn hB hsz hp
  go_enter Tryd.func23, Tryd.ntmps23
  go_upto_region 1 with fail
  rw [← hW, ← hb]
  clear hW hb
  go_wp2_with (first | (go_at_call 48; ((with_reducible refine (C1.out).mono ?_); rintro x' w1 ⟨rfl, hb1⟩; have HB1 := Lib.hid hb1; clear hb1 k0 k1; obtain ⟨k0, k1⟩ := two_cells HP.out HB1.out)) | ((refine al_lasts (by rfl) rfl ?_); intro w2 hb2 hs2 hk2; have HB2 := Lib.hid hb2; have HS2 := Lib.hid hs2; have HK2 := Lib.hid hk2; clear hk2 hs2 hb2 k0 k1; obtain ⟨k0, k1⟩ := two_cells HP.out (stepB HB1.out HB2.out)))
  obtain ⟨bL, hbL⟩ : ∃ bL, bL = w1.heap.size := ⟨_, rfl⟩
  have HDD := Lib.hid (show w2.heap.size = bL + 1 ∧ b < bL ∧ b0 < bL by have := HS2.out; have := HS.out; have := HB1.out.size; omega)
  have HP2 := Lib.hid (HP.out.kept (stepB HB1.out HB2.out))
  have HD2 := Lib.hid (range_below HD.out (stepB HB1.out HB2.out) (by have := HS.out; omega))
  rw [← hbL] at HK2 ⊢
  have HBL := Lib.hid hbL
  clear hbL k1
  have HX0 := Lib.hid (show Px (bL + 1) bL w2 (Pt.pkY l C 0) (.slice none 0 0) w2 from ⟨br_nil _ _, HK2.out, Fy.refl _ _ _, by rw [HDD.out.1]; exact Nat.le_refl _⟩)
  go_loopw [6, 17] (fun v i wr => ∃ y : Nat, y ≤ R ∧ i = .int .i64 y ∧ Hid (Px (bL + 1) bL w2 (Pt.pkY l C y) v wr)) (fun _ i _ => R - (intOf i).toNat)
  case atStart => exact ⟨0, by omega, rfl, HX0.out⟩
  case round =>
    obtain ⟨y, hy, rfl, HX⟩ := hrel
    by_cases hlt : y < R
    · have HLT := Lib.hid hlt
      have hlt' : (y : Int) < (R : Int) := by omega
      have hpw := HX.out.fy.range HP2.out.1 (by have := HDD.out; omega) (by have := HDD.out; omega)
      have k1 : wr.cell? ⟨b, 1, none⟩ = some (.slice (some ⟨b0, off, none⟩) n cap) := hpw 1 _ rfl
      obtain ⟨S, hS⟩ : ∃ S, y * C = S := ⟨_, rfl⟩
      have hSn : S + C ≤ n := by
        have := Nat.mul_le_mul_right C (show y + 1 ≤ R by omega)
        rw [Nat.add_mul, Nat.one_mul, hS] at this
        rw [← HN.out, HL.out.1]; exact this
      have hS' : (y : Int) * (C : Int) = (S : Int) := by rw [← hS, Int.natCast_mul]
      have hnn : n ≤ 1024 := by rw [← HN.out, HL.out.1]; exact HL.out.2.1
      have hcc : n ≤ cap := by rw [← HN.out]; exact HL.out.2.2.2.2.2
      have j0 : IntKind.i64.wrap (S : Int) = (S : Int) := by rw [IntKind.wrap_i64]; omega
      have j1 : (0 : Int) ≤ (S : Int) := by omega
      have j2 : (S : Int) ≤ (n : Int) := by omega
      have hC1 : 1 ≤ C := HL.out.2.2.2.2.1
      have j3 : ¬ cap = S := by omega
      have j4 : (C : Int) ≤ ((cap - S : Nat) : Int) := by omega
      have j5 : (0 : Int) ≤ (C : Int) := by omega
      have j6 : C ≤ cap - S := by omega
      have j7 : ¬ cap - S = 0 := by omega
      have HSS := Lib.hid (show y * C = S ∧ S + C ≤ n from ⟨hS, hSn⟩)
      clear hlt hpw hS hSn hnn hcc hC1
      go_wp2
      clear k1
      go_loopw [6, 29] (fun v i u => ∃ x : Nat, x ≤ C ∧ i = .int .i64 x ∧ Hid (Px (bL + 1) bL w2 (Pt.pkX l C y x (Pt.pkY l C y)) v u)) (fun _ i _ => C - (intOf i).toNat)
      case atStart => exact ⟨0, by omega, rfl, HX.out⟩
      case round =>
        obtain ⟨x, hx, rfl, HXx⟩ := hrel
        by_cases hlx : x < C
        · have hbc := rng_of (HXx.out.fy.range HD2.out (by have := HDD.out; omega) (by have := HDD.out; omega)) (i := S + x) (by have := HSS.out; rw [HN.out]; omega)
          rw [Nat.add_mul, ← Nat.add_assoc] at hbc
          obtain ⟨c, hc⟩ : ∃ c, Pt.at' l (S + x) = c := ⟨_, rfl⟩
          rw [hc] at hbc
          have hvc : Pt.vcl c = true := by rw [← hc]; exact Pt.all_at HALL.out (by have := HSS.out; rw [HN.out]; omega)
          have HVC := Lib.hid hvc
          obtain ⟨q, hq⟩ : ∃ q, Pt.pkX l C y x (Pt.pkY l C y) = q := ⟨_, rfl⟩
          have HQE := Lib.hid (show Pt.pkX l C y (x + 1) (Pt.pkY l C y) = Pt.pkC x c q by rw [Pt.pkX, HSS.out.1, hc, hq])
          have HQL := Lib.hid (show q.ls.length = 16 ∧ q.bs.length ≤ 20000 by
            have a1 := Pt.pkX_bs l C y x (Pt.pkY l C y)
            have a2 := Pt.pkY_bs l C HL.out.2.2.2.1 y
            have a3 := HL.out
            have a4 := HLT.out
            rw [hq] at a1
            refine ⟨by rw [← hq, Pt.pkX_ls, Pt.pkY_ls], by omega⟩)
          rw [hq] at HXx
          have HBC := Lib.hid hbc
          have hlx' : (x : Int) < (C : Int) := by omega
          have HLX := Lib.hid hlx
          obtain ⟨bx, hbx⟩ : ∃ bx, bx = wr.heap.size := ⟨_, rfl⟩
          have HXB := Lib.hid (show ∀ u', u' = (wr.alloc (.cells (CL Pt.zc).toArray 23)).setCells bx 0 (CL c) → Below wr.heap.size wr u' ∧ u'.rangeAt bx 0 (CL c) ∧ bx < u'.heap.size by
            rintro u' rfl
            have ht := there_box wr (CL Pt.zc) 23
            rw [← hbx] at ht
            have hr := World.rangeAt_setCells_same _ bx 0 (CL c) ht
            exact ⟨grown_at (below_box _ _) (Nat.le_of_eq hbx.symm) (by simp) (grown_setCells _ _ _ _), hr, cell_lt (hr 0 _ rfl)⟩)
          have HTB := Lib.hid (show (wr.alloc (.cells (CL Pt.zc).toArray 23)).there bx 0 6 by rw [hbx]; exact there_box wr (CL Pt.zc) _)
          rw [cl_zc] at HXB HTB
          cases hz : Pt.eqC c Pt.zc with
          | true =>
            have EQ := eq_cl_v c Pt.zc hz
            rw [cl_zc] at EQ
            have HZ := Lib.hid hz
            clear hbc hc hvc hq hlx hz
            go_wp2_with (first | (refine ld_cell (by rfl) _ rfl rfl HBC.out ?_) | ((refine st_cell (by rfl) _ _ rfl rfl rfl (by rw [← hbx]; exact HTB.out) ?_); intro w6 h6; rw [← hbx] at h6; obtain ⟨hb6, hr6, hl6⟩ := HXB.out _ h6; have HB6 := Lib.hid hb6; have HR6 := Lib.hid hr6; have HL6 := Lib.hid hl6; clear h6 hb6 hr6 hl6) | (refine ld_cell (by rfl) _ rfl (by rw [← hbx]; rfl) HR6.out ?_))
            go_roundw
            case rel =>
              refine ⟨x + 1, HLX.out, by go_num, ?_⟩
              rw [HQE.out, Pt.pkC, if_pos HZ.out]
              exact HXx.out.below HB6.out (by omega)
            case measure => simp [intOf]; have := HLX.out; omega
          | false =>
            have EQ := eq_cl_v c Pt.zc hz
            rw [cl_zc] at EQ
            have HZ := Lib.hid hz
            have x1 : ((x : Int) + 1) % 256 = (x : Int) + 1 := by omega
            have x3 : (x : Int) < 16 := by omega
            clear hbc hc hvc hq hlx hz
            go_upto_region 13 with (first | (refine ld_cell (by rfl) _ rfl rfl HBC.out ?_) | ((refine st_cell (by rfl) _ _ rfl rfl rfl (by rw [← hbx]; exact HTB.out) ?_); intro w6 h6; rw [← hbx] at h6; obtain ⟨hb6, hr6, hl6⟩ := HXB.out _ h6; have HB6 := Lib.hid hb6; have HR6 := Lib.hid hr6; have HL6 := Lib.hid hl6; clear h6 hb6 hr6 hl6) | (refine ld_cell (by rfl) _ rfl (by rw [← hbx]; rfl) HR6.out ?_) | (at_builtin; go_loud (refine app_one rfl _ _ rfl rfl (HXx.out.row.kept HB6.out) (Nat.le_trans HXx.out.sz HB6.out.size) rfl (by have := HQL.out; omega) ?_; intro g3 cap3 w7 hb7 hg7 hf7 hd7 hl7; have H7 := Lib.hid hb7; have G7 := Lib.hid hg7; have L7 := Lib.hid (show bL + 1 ≤ w7.heap.size by have := hg7.size; have := HB6.out.size; have := HXx.out.sz; omega); clear hb7 hg7 hf7 hd7 hl7)))
            have hne : ∀ k, Value.ownBlock u6 = some k → bL + 1 ≤ k ∧ k < bx := fun k hk => by rw [hbx]; exact HXx.out.row.lt k hk
            have hr7 : w7.rangeAt bx 0 (CL c) := fun j v hv => by
              rw [World.cell?_of_block (a := ⟨bx, 0 + j, none⟩) (G7.out.block bx HL6.out (fun e => by have := hne bx e.symm; omega))]
              exact HR6.out j v hv
            have hk7 : Kr w7 bL q.ls := (HXx.out.kr.fy (D := bL + 1) (grownBy_of (g := none) HB6.out) (fun _ e => by simp at e) (by omega)).fy (D := bL + 1) G7.out (fun k hk => (hne k hk).1) (by omega)
            have hf7 : Fy (bL + 1) bL w2 w7 := (HXx.out.fy.trans (Fy.of HB6.out HXx.out.sz)).trans (Fy.grown G7.out (fun k hk => (hne k hk).1) (Nat.le_trans HXx.out.sz HB6.out.size))
            have hr7d : w7.drew.rangeAt bx 0 (CL c) := hr7
            obtain ⟨g0, g1, g2, g3', g4, g5⟩ := rng_cells hr7d
            simp only [Nat.zero_add] at g1 g2 g3' g4 g5
            have HK7 := Lib.hid hk7
            have HF7 := Lib.hid hf7
            have CA := Lib.hid (p_appendCell _ _ c (Pt.at' q.ls x) bL (x * 6) (bL + 1) w7.drew H7.out.drew L7.out (by omega) (hk7.one (by rw [HQL.out.1]; omega)) (hk7.th (by rw [HQL.out.1]; omega)) (by have := HQL.out; simp; omega) HVC.out)
            rw [cl_arr c] at CA
            rw [← hbx]
            clear hne hr7 hk7 hf7 hr7d hbx
            go_region_law (first | (go_simp; go_at_call 49; (with_reducible refine CA.out.mono ?_); rintro x' w8 ⟨g8, cap8, n8, rfl, hb8, hr8, ht8, hf8⟩))
            all_goals
              have H8 := Lib.hid (show Px (bL + 1) bL w2 (Pt.pkC x c q) (.slice (some ⟨g8, 0, none⟩) n8 cap8) w8 by
                rw [Pt.pkC, if_neg (by rw [HZ.out]; simp)]
                refine ⟨?_, hf8.undrew.kr HK7.out (by rw [HQL.out.1]; omega) hr8 ht8, HF7.out.trans hf8.undrew.fy, Nat.le_trans L7.out hf8.size⟩
                rw [List.append_assoc] at hb8
                exact hb8)
              clear hb8 hr8 ht8 hf8 g0 g1 g2 g3' g4 g5
              go_wp2
              go_roundw
              case rel => exact ⟨x + 1, HLX.out, by go_num, by rw [HQE.out]; exact H8.out⟩
              case measure => simp [intOf]; have := HLX.out; omega
        · obtain rfl : x = C := by omega
          go_wp2_with (first | (at_builtin; refine app_one rfl _ _ rfl rfl HXx.out.row HXx.out.sz rfl (by have a1 := Pt.pkX_bs l x y x (Pt.pkY l x y); have a2 := Pt.pkY_bs l x HL.out.2.2.2.1 y; have a3 := HL.out; have a4 := HLT.out; omega) ?_; intro g3 cap3 w9 hb9 hg9 hf9 hd9 hl9; have H9 := Lib.hid (HXx.out.more (by omega) hb9 hg9); clear hb9 hg9 hf9 hd9 hl9))
          go_roundw
          case rel => exact ⟨y + 1, HLT.out, by go_num, H9.out⟩
          case measure => simp [intOf]; have := HLT.out; omega
    · obtain rfl : y = R := by omega
      go_wp2
      go_ret2
      have e1 := HS.out
      have e2 := HDD.out
      have e3 := HBL.out
      have e4 := HB1.out.size
      have hw : Below w.heap.size w w2 := stepB HB.out (stepB HB1.out HB2.out)
      have hf := HX.out.fy
      refine ⟨⟨_, rfl, ?_⟩, ⟨hf.os.trans hw.os, hf.tape.trans hw.tape, hf.output.trans hw.output, Nat.le_trans hw.size hf.size, fun k hk => (hf.block k (by omega) (by omega)).trans (hw.block k hk)⟩⟩
      exact HX.out.row.lower (by omega)
theorem p_Pack (r : Int) (l : List Pt.Cl) (p : Option Addr) (cap : Nat) (ch : Int) (w : World) (hd : CellsAt w p l) (hcap : l.length ≤ cap) :
    Calls Tryd.prog 23 #[PV r p l.length cap, .int .i64 ch] w fun x w' => RetB (if Pt.vpat r l ch then Pt.packL l r.toNat ch.toNat else []) (if Pt.vpat r l ch then 0 else 1) w.heap.size x w' ∧ Below w.heap.size w w' := by
  cases h : Pt.vpat r l ch with
  | false => exact p_Pack_bad r l p cap ch w hd h
  | true =>
    obtain ⟨R, C, rfl, rfl, g1, g2, g3, g4, g5, g6⟩ := Pt.vpat_nat h
    have hp1 := Nat.mul_pos (show 0 < R by omega) (show 0 < C by omega)
    rcases hd with rfl | ⟨b1, o1, rfl, hb1, hr1⟩
    · simp at g5; omega
    exact p_Pack_ok R C l b1 o1 cap w hb1 hr1 hcap h g2 g4 g3 g5 g6
end Go.Proofs.YtfjfnbeegojlbaaDoor

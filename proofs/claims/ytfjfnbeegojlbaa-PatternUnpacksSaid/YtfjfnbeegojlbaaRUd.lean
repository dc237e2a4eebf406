/-
  The reference's puller.cell, walked.
-/
import Derived.Test.YtfjfnbeegojlbaaRUc
import Derived.Deep.CutBlock
namespace Go.Proofs.Ytfjfnbeegojlbaa
open Go.RowKit

namespace Pt
theorem vmk_all {m : Nat} {la : Cl} (h : vmask m la = true) {k : Nat} (hk : k < 4) : vmk m la k = true := by
  unfold vmask at h
  simp only [Bool.and_eq_true] at h
  obtain ⟨⟨h0, h1, h2, h3⟩, -⟩ := h
  match k, hk with
  | 0, _ => exact h0
  | 1, _ => exact h1
  | 2, _ => exact h2
  | 3, _ => exact h3
/-- What the second loop has read. -/
def T2 (E : Int) (m : Nat) (s0 : Uc) (k : Nat) : Except Int Uc := if E = 0 then uks m k s0 else .error E
theorem T2_err {E : Int} {m : Nat} {s0 : Uc} {k : Nat} {z : Int} (h : T2 E m s0 k = .error z) : ∀ d, T2 E m s0 (k + d) = .error z
  | 0 => h
  | d + 1 => by
    have ih := T2_err h d
    unfold T2 at ih ⊢
    by_cases he : E = 0
    · rw [if_pos he] at ih ⊢
      rw [show k + (d + 1) = (k + d) + 1 by omega, uks, ih]
    · rw [if_neg he] at ih ⊢
      exact ih
theorem T2_ok {E : Int} {m : Nat} {s0 s : Uc} {k : Nat} (h : T2 E m s0 k = .ok s) : E = 0 ∧ uks m k s0 = .ok s := by
  unfold T2 at h
  by_cases he : E = 0
  · rw [if_pos he] at h; exact ⟨he, h⟩
  · rw [if_neg he] at h; exact absurd h (by simp)
theorem T2_step {E : Int} {m : Nat} {s0 s : Uc} {k : Nat} (h : T2 E m s0 k = .ok s) : T2 E m s0 (k + 1) = uk m k s := by
  obtain ⟨he, h⟩ := T2_ok h
  unfold T2
  rw [if_pos he, uks, h]
def fin2 : Except Int Uc → Except Int Uc | .error z => .error z | .ok s => uend s
theorem ucell_cons (la : Cl) (x : Int) (t : List Int) : ucell la (x :: t) = if vmask x.toNat la then fin2 (uks x.toNat 4 ⟨zc, la, t⟩) else .error 9 := by
  simp only [ucell]
  cases uks x.toNat 4 ⟨zc, la, t⟩ <;> rfl
end Pt
/-- Where the second loop stands. -/
def R2 (W : World) (b6 g bR bL C x : Nat) (xs : List Int) (p : Option Addr) (cap : Nat) (ls : List Pt.Cl) (A : Nat → Prop) (T : Except Int Pt.Uc) (k : Nat) (wr : World) : Prop :=
  match T with
  | .error z => z ≠ 0 ∧ ∃ j c k', Ru wr bR xs p cap j z ∧ Li wr b6 g k' bR bL c ∧ Fz W bR bL wr
  | .ok s => ∃ j, s.b = xs.drop j ∧ Ru wr bR xs p cap j 0 ∧ La wr bL C (ls.set x s.la) (fun h => A h ∧ h < g + k) ∧ Li wr b6 g k bR bL s.c ∧ Fz W bR bL wr
theorem pw_pw (k : Nat) (c : Pt.Cl) (v v' : Int × Int) : Pt.pw k (Pt.pw k c v) v' = Pt.pw k c v' := by
  match k with
  | 0 => rfl
  | 1 => rfl
  | 2 => rfl
  | n + 3 => rfl
/-- A cell's block that is made and stored. -/
theorem box_cell {u u' : World} {c : Pt.Cl} (h : u' = (u.alloc (.cells (CL Pt.zc).toArray 28)).setCells u.heap.size 0 (CL c)) : Below u.heap.size u u' ∧ u'.rangeAt u.heap.size 0 (CL c) := by
  subst h
  have ht := there_box u (CL Pt.zc) 28
  exact ⟨grown_at (below_box _ _) (Nat.le_refl _) (by simp) (grown_setCells _ _ _ _), World.rangeAt_setCells_same _ _ 0 (CL c) ht⟩
set_option maxRecDepth 100000 in
set_option maxHeartbeats 6400000 in
theorem r_cell (xs : List Int) (p : Option Addr) (cap bR bL C x i : Nat) (ls : List Pt.Cl) (A : Nat → Prop) (w : World) (hr : Ru w bR xs p cap i 0) (hl : La w bL C ls A) (hx : x < C) (hC : C ≤ 16) (hls : ls.length = 16) (hne : bR ≠ bL) (hA1 : ∀ g, A g → g ≠ bR) (hA2 : ∀ g, w.heap.size ≤ g → A g) (hpb : ∀ b off, p = some ⟨b, off, none⟩ → b < w.heap.size ∧ b ≠ bL) :
    Calls Try.prog 63 #[.pointer (some ⟨bR, 0, none⟩), .pointer (some ⟨bL, x * 4, none⟩)] w fun y w' => RetCu w bR bL C x xs p cap ls A (Pt.ucell (Pt.at' ls x) (xs.drop i)) y w' := by
  obtain ⟨W, hW⟩ : ∃ W, W = w.alloc (.cells (CL Pt.zc).toArray 28) := ⟨_, rfl⟩
  have hB : Below w.heap.size w W := by rw [hW]; exact below_box _ _
  have HB := Lib.hid hB
  have C1 := Lib.hid (r_one xs p cap bR i 0 W (hr.below hB))
  have m0 : 0 ≤ Pt.on1 xs i 0 ∧ Pt.on1 xs i 0 < 256 := by
    by_cases h : i < xs.length
    · rw [(Pt.at_in h).1]; exact hr.hy _ (List.getElem_mem h)
    · rw [(Pt.at_end h).1]; decide
  obtain ⟨m, hm⟩ : ∃ m : Nat, Pt.on1 xs i 0 = (m : Int) := ⟨(Pt.on1 xs i 0).toNat, by omega⟩
  rw [hm] at C1 m0
  have HM := Lib.hid (show m < 256 ∧ Pt.on1 xs i 0 = (m : Int) by omega)
  obtain ⟨i1, hi1⟩ : ∃ i1, Pt.oni xs i 0 = i1 := ⟨_, rfl⟩
  obtain ⟨e1, he1⟩ : ∃ e1, Pt.one xs i 0 = e1 := ⟨_, rfl⟩
  have HI1 := Lib.hid (show Pt.oni xs i 0 = i1 ∧ Pt.one xs i 0 = e1 from ⟨hi1, he1⟩)
  rw [hi1, he1] at C1
  obtain ⟨la, hla⟩ : ∃ la, Pt.at' ls x = la := ⟨_, rfl⟩
  have HLA := Lib.hid hla
  rw [hla]
  obtain ⟨A', hA'⟩ : ∃ A' : Nat → Prop, A' = fun g => A g ∧ g ≠ w.heap.size := ⟨_, rfl⟩
  have HL := Lib.hid (show La W bL C ls A' from hl.grown (r := none) (grownBy_of hB) (by simp) (fun _ _ _ => by simp) (fun g hg h => by rw [hA']; exact ⟨h, by omega⟩))
  have HTB := Lib.hid (show W.there w.heap.size 0 6 by rw [hW]; exact there_box w (CL Pt.zc) _)
  have HS := Lib.hid (show W.heap.size = w.heap.size + 1 by rw [hW]; simp)
  have HX := Lib.hid (show x < C ∧ C ≤ 16 ∧ ls.length = 16 ∧ bR ≠ bL ∧ bR < w.heap.size ∧ bL < w.heap.size from ⟨hx, hC, hls, hne, hr.lt, hl.lt⟩)
  have HA := Lib.hid (show (∀ g, A' g → g ≠ bR) ∧ (∀ g, W.heap.size ≤ g → A' g) ∧ ∀ g, A' g → A g ∧ g ≠ w.heap.size from by
    have hs := HS.out
    rw [hA']
    exact ⟨fun g h => hA1 g h.1, fun g hg => ⟨hA2 g (by omega), by omega⟩, fun g h => h⟩)
  obtain ⟨b4, hb4⟩ : ∃ b4, b4 = w.heap.size := ⟨_, rfl⟩
  rw [← hb4] at HTB HS
  have HPP := Lib.hid (show ∀ b off, p = some ⟨b, off, none⟩ → b < b4 ∧ b ≠ bL from fun b off e => by rw [hb4]; exact hpb b off e)
  have HZ := Lib.hid (show b4 = w.heap.size ∧ bR < b4 ∧ bL < b4 ∧ W.heap.size = b4 + 1 by have := HX.out; have := HS.out; omega)
  have HTB4 := Lib.hid (show ∀ u, Fz W bR bL u → ∀ u', u.grownBy u' (some bR) → u'.there b4 0 6 from fun u hu u' hu' => by
    have hz := HZ.out
    have e : u.heap[b4]? = W.heap[b4]? := hu.block b4 (by omega) (by omega) (by omega)
    have e' : u'.heap[b4]? = u.heap[b4]? := hu'.block b4 (Nat.lt_of_lt_of_le (by omega) hu.size) (by simp; omega)
    have e2 : u'.heap[b4]? = W.heap[b4]? := e'.trans e
    exact fun j hj => by rw [World.cell?_of_block (a := ⟨b4, 0 + j, none⟩) e2, World.frozen?_of_block (a := ⟨b4, 0 + j, none⟩) e2]; exact HTB.out j hj)
  have ho := Pt.mo_bit HM.out.1
  obtain ⟨o, hoe⟩ : ∃ o, Pt.mo m = o := ⟨_, rfl⟩
  rw [hoe] at ho
  have HOE := Lib.hid hoe
  have hm256 : (m : Int) < 256 := by have := HM.out; omega
  rw [cl_zc] at hW
  clear hr hl hm hx hC hls hne hA1 hA2 hpb hi1 he1 hla hB m0 hoe hA'
  go_enter Try.func63, Try.ntmps63
  go_upto_region 1 with fail
  rw [← hW, ← hb4]
  clear hW hb4
  go_upto_region 2 with (first | (go_at_call 61; (with_reducible refine C1.out.mono ?_); rintro x' w1 ⟨rfl, hr1, hg1⟩; have HR1 := Lib.hid hr1; have HG1 := Lib.hid hg1; clear hr1 hg1))
  go_cut [5] (fun t5 wx => t5 = .int .i64 (m : Nat) ∧ Hid (Ru wx bR xs p cap i1 (Pt.bde (m == 0 || o) e1) ∧ W.grownBy wx (some bR)))
  case first =>
    by_cases hm0 : m = 0
    · subst hm0
      have C2 := Lib.hid (r_bad xs p cap bR i1 e1 true w1 HR1.out)
      go_wp2_with (first | (go_at_call 62; (with_reducible refine C2.out.mono ?_); rintro x' w2 ⟨rfl, hr2, hg2⟩))
      go_meet
      case rel => exact ⟨rfl, hr2, grownBy_trans HG1.out hg2⟩
    · have hmz : ((m : Int) == 0) = false := by simp; omega
      have hmz2 : (m == 0) = false := by simpa using hm0
      have C2 := Lib.hid (r_bad xs p cap bR i1 e1 o w1 HR1.out)
      go_wp2_with (first | (go_at_call 62; (with_reducible refine C2.out.mono ?_); rintro x' w2 ⟨rfl, hr2, hg2⟩))
      go_meet
      case rel => exact ⟨rfl, by rw [hmz2]; exact hr2, grownBy_trans HG1.out hg2⟩
  case rest =>
    obtain ⟨rfl, HR2⟩ := hcut
    obtain ⟨e2, he2⟩ : ∃ e2, Pt.bde (m == 0 || o) e1 = e2 := ⟨_, rfl⟩
    rw [he2] at HR2
    have HE2 := Lib.hid he2
    clear ho he2
    have C3 := Lib.hid (fun u => r_parts4 Pt.zc u)
    rw [cl_zc] at C3
    go_upto_region 4 with (first | (go_at_call 39; (with_reducible refine (C3.out _).mono ?_); rintro x' w7 ⟨⟨gp, hgp, rfl, hsv⟩, hb7⟩; have HB7 := Lib.hid hb7; have HG7 := Lib.hid hgp; have HSV7 := Lib.hid hsv; clear hb7 hgp hsv) | ((refine st_row (cs := [sl 0 gp, sl 1 (gp + 1), sl 2 (gp + 2), sl 3 (gp + 3)]) Try.infoSs (by simp [sl, Value.oneCell']) (by rfl) _ _ rfl rfl rfl (there_box w7 [_, _, _, _] _) ?_); intro w8 e8; have E8 := Lib.hid e8; clear e8))
    obtain ⟨b6, hb6⟩ : ∃ b6, b6 = w7.heap.size := ⟨_, rfl⟩
    rw [← hb6] at E8 ⊢
    have HB8 := Lib.hid (show Below w7.heap.size w7 w8 by rw [E8.out]; exact grown_at (below_box _ _) (Nat.le_of_eq hb6.symm) (by simp) (grown_setCells _ _ _ _))
    have HR8 := Lib.hid (show w8.rangeAt b6 0 [sl 0 gp, sl 1 (gp + 1), sl 2 (gp + 2), sl 3 (gp + 3)] by rw [E8.out, hb6]; exact World.rangeAt_setCells_same _ _ 0 _ (there_box w7 [_, _, _, _] _))
    have HT8 := Lib.hid (show w8.there b6 0 4 by rw [E8.out, hb6]; exact World.there_setCells (there_box w7 [_, _, _, _] _) _ 0 _)
    have HZ8 := Lib.hid (show w7.heap.size = b6 ∧ b6 < w8.heap.size ∧ wc.heap.size ≤ gp ∧ gp + 3 < b6 ∧ W.heap.size ≤ wc.heap.size from ⟨hb6.symm, cell_lt (HR8.out 0 _ rfl), HG7.out, by rw [hb6]; exact (HSV7.out 3 (by decide)).1.1, HR2.out.2.size⟩)
    have HL8 := Lib.hid (show Li w8 b6 gp 0 bR bL Pt.zc from by
      have hz := HZ8.out
      have hz2 := HZ.out
      refine ⟨HT8.out, fun j hj => ⟨gp + j, ?_, (HSV7.out j hj).1.below HB8.out, by omega, by omega, by omega, fun _ => rfl, .inl rfl⟩, fun j hj _ => there_below (HSV7.out j hj).2 HB8.out (HSV7.out j hj).1.1⟩
      have h := HR8.out j (sl j (gp + j)) (by match j, hj with | 0, _ => rfl | 1, _ => rfl | 2, _ => rfl | 3, _ => rfl)
      rwa [Nat.zero_add] at h)
    have HBc := Lib.hid (show Below wc.heap.size wc w8 from stepB HB7.out HB8.out)
    have HF8 := Lib.hid (show Fz W bR bL w8 from ((Fz.refl W bR bL).grow HR2.out.2 (fun k hk => .inl (by simpa using hk.symm))).grow (r := none) (grownBy_of HBc.out) (fun k hk => by simp at hk))
    have HU8 := Lib.hid (show Ru w8 bR xs p cap i1 e2 from HR2.out.1.below HBc.out)
    have HLa8 := Lib.hid (show La w8 bL C ls A' from (HL.out.grown HR2.out.2 (fun e => HX.out.2.2.2.1 (by simpa using e)) (fun g _ hg e => HA.out.1 g hg (by simpa using e.symm)) (fun _ _ h => h)).below HBc.out)
    clear hb6
    go_upto_block 0 with fail
    go_cut [7] (fun t7 wx => Hid (Ru wx bR xs p cap i1 (Pt.e1f la m e2 4) ∧ w8.grownBy wx (some bR)))
    case first =>
      go_wp2_with fail
      go_loopw [7] (fun i wr => ∃ k : Nat, k ≤ 4 ∧ i = .int .i64 k ∧ Hid (Ru wr bR xs p cap i1 (Pt.e1f la m e2 k) ∧ w8.grownBy wr (some bR))) (fun i _ => 4 - (intOf i).toNat)
      case atStart => exact ⟨0, by omega, rfl, HU8.out, grownBy_refl _ _⟩
      case round =>
        obtain ⟨k, hk, rfl, HRk⟩ := hrel
        have k2 := HRk.out.1.er
        obtain ⟨ek, hek⟩ : ∃ ek, Pt.e1f la m e2 k = ek := ⟨_, rfl⟩
        have HEK := Lib.hid hek
        rw [hek] at k2 HRk
        by_cases hcont : k < 4 ∧ ek = 0
        · obtain ⟨hlk, he0⟩ := hcont
          subst he0
          have HLK := Lib.hid hlk
          have hk4 : (k : Int) < 4 := by omega
          have HLak := Lib.hid (show La wr bL C ls A' from HLa8.out.grown HRk.out.2 (fun e => HX.out.2.2.2.1 (by simpa using e)) (fun g _ hg e => HA.out.1 g hg (by simpa using e.symm)) (fun _ _ h => h))
          obtain ⟨q, c1, c2, c3⟩ := HLak.out.cell x k HX.out.1 hlk
          rw [HLA.out] at c2
          have sh := (Pt.sh_bit HM.out.1 hlk).1
          obtain ⟨bt, hbt⟩ : ∃ bt, m.testBit (k + 4) = bt := ⟨_, rfl⟩
          rw [hbt] at sh
          have qn : ∀ (w : World) (a : Option Addr) (n c n' c' : Nat), (binOp .eql 71 (.slice a n c) (.slice none n' c')).run Try.prog w = .ok (.bool a.isNone) w := fun w a n c n' c' => Lib.run_eql_slice_nil w _ _ a n c n' c' Try.underlying71
          have HNX := Lib.hid (show Pt.e1f la m e2 (k + 1) = Pt.bde (Pt.nol m la k) 0 by
            show (if Pt.e1f la m e2 k = 0 then _ else _) = _
            rw [hek, if_pos rfl])
          clear hlk hek
          cases bt with
          | false =>
            have HNO := Lib.hid (show Pt.nol m la k = false by unfold Pt.nol; rw [hbt]; rfl)
            have C4 := Lib.hid (r_bad xs p cap bR i1 0 false wr HRk.out.1)
            clear hbt c1 c2 c3
            go_wp2_with (first | (go_at_call 62; (with_reducible refine C4.out.mono ?_); rintro x' w9 ⟨rfl, hr9, hg9⟩; have HR9 := Lib.hid hr9; have HG9 := Lib.hid hg9; clear hr9 hg9))
            go_roundw
            case rel => exact ⟨k + 1, HLK.out, by go_num, by rw [HNX.out, HNO.out]; exact HR9.out, grownBy_trans HRk.out.2 HG9.out⟩
            case measure => simp [intOf]; have := HLK.out; omega
          | true =>
            have HNO := Lib.hid (show Pt.nol m la k = q.isNone by
              unfold Pt.nol
              rw [hbt]
              cases q with
              | none =>
                have h0 : (Pt.pv k la).1 = 0 := c2
                simp [Pt.isSet, h0]
              | some g =>
                have h0 : (Pt.pv k la).1 ≠ 0 := c2.1
                simp [Pt.isSet, h0])
            obtain ⟨po, no, co, ho, hpo⟩ : ∃ po no co, sv k q = .slice po no co ∧ po.isNone = q.isNone := by cases q with | none => exact ⟨_, _, _, rfl, rfl⟩ | some g => exact ⟨_, _, _, rfl, rfl⟩
            rw [ho] at c1
            obtain ⟨nb, hnb⟩ : ∃ nb, q.isNone = nb := ⟨_, rfl⟩
            rw [hnb] at hpo HNO
            have C4 := Lib.hid (r_bad xs p cap bR i1 0 nb wr HRk.out.1)
            clear hbt c2 c3 ho hnb
            go_wp2_with (first | (go_at_call 62; (with_reducible refine C4.out.mono ?_); rintro x' w9 ⟨rfl, hr9, hg9⟩; have HR9 := Lib.hid hr9; have HG9 := Lib.hid hg9; clear hr9 hg9))
            go_roundw
            case rel => exact ⟨k + 1, HLK.out, by go_num, by rw [HNX.out, HNO.out]; exact HR9.out, grownBy_trans HRk.out.2 HG9.out⟩
            case measure => simp [intOf]; have := HLK.out; omega
        · have hfin : Pt.e1f la m e2 4 = ek := by
            by_cases h0 : ek = 0
            · have : k = 4 := by omega
              rw [← this]; exact hek
            · have h := Pt.e1f_stay (by rw [hek]; exact h0) (4 - k)
              rw [show k + (4 - k) = 4 by omega, hek] at h
              exact h
          have HFIN := Lib.hid (show Ru wr bR xs p cap i1 (Pt.e1f la m e2 4) ∧ w8.grownBy wr (some bR) by rw [hfin]; exact HRk.out)
          by_cases hlk : k < 4
          · have hk4 : (k : Int) < 4 := by omega
            have h0 : ¬ ek = 0 := fun e => hcont ⟨hlk, e⟩
            have hb : (ek == 0) = false := by simpa using h0
            clear hcont hlk h0 hek hfin
            go_wp2_with fail
            go_meet
            case rel => exact HFIN.out
          · obtain rfl : k = 4 := by omega
            clear hcont hlk hek hfin
            go_wp2_with fail
            go_meet
            case rel => exact HFIN.out
    case rest =>
      obtain ⟨E, hE⟩ : ∃ E, Pt.e1f la m e2 4 = E := ⟨_, rfl⟩
      rw [hE] at hcut
      obtain ⟨s0, hs0⟩ : ∃ s0 : Pt.Uc, s0 = ⟨Pt.zc, la, xs.drop i1⟩ := ⟨_, rfl⟩
      have HEV := Lib.hid (show Pt.ucell la (xs.drop i) = Pt.fin2 (Pt.T2 E m s0 4) ∧ (E = 0 → Pt.vmask m la = true) from by
        have h4 := Pt.e1f_four (la := la) (m := m) (e := e1)
        rw [HOE.out, HE2.out, hE] at h4
        by_cases h : i < xs.length
        · obtain ⟨o1, o2, o3⟩ := Pt.at_in h
          have hi1 := HI1.out.1
          have he1 := HI1.out.2
          rw [o2] at hi1
          rw [o3] at he1
          have hmx : xs[i] = (m : Int) := o1.symm.trans HM.out.2
          have h5 := h4 (.inl he1.symm)
          rw [← he1, if_neg (by decide)] at h5
          rw [List.drop_eq_getElem_cons h, hmx, hi1]
          rw [Pt.ucell_cons]
          rw [Int.toNat_natCast, ← hs0]
          by_cases hv : Pt.vmask m la = true
          · rw [if_pos hv] at h5 ⊢
            refine ⟨?_, fun _ => hv⟩
            unfold Pt.T2
            rw [if_pos h5]
          · rw [if_neg hv] at h5 ⊢
            refine ⟨?_, fun e => by rw [h5] at e; exact absurd e (by decide)⟩
            unfold Pt.T2
            rw [h5, if_neg (by decide)]
            rfl
        · obtain ⟨o1, o2, o3⟩ := Pt.at_end h
          have he1 := HI1.out.2
          rw [o3] at he1
          have h5 := h4 (.inr he1.symm)
          rw [← he1, if_pos rfl] at h5
          rw [List.drop_of_length_le (by omega)]
          refine ⟨?_, fun e => by rw [h5] at e; exact absurd e (by decide)⟩
          unfold Pt.T2
          rw [h5, if_neg (by decide)]
          rfl)
      have HS0 := Lib.hid hs0
      have hz8 := HZ8.out
      have hz := HZ.out
      have HRs := Lib.hid (show R2 W b6 gp bR bL C x xs p cap ls A' (Pt.T2 E m s0 0) 0 wc from by
        have l1 := HL8.out.apart hcut.out.2 (show bR ≠ b6 by omega) (.inl rfl)
        have f1 := HF8.out.grow hcut.out.2 (fun k hk => .inl (by simpa using hk.symm))
        unfold Pt.T2 Pt.uks
        by_cases h : E = 0
        · rw [if_pos h]
          refine ⟨i1, by rw [hs0], by rw [← h]; exact hcut.out.1, ?_, by rw [hs0]; exact l1, f1⟩
          rw [hs0]
          show La _ _ _ (ls.set x la) _
          rw [← HLA.out, Pt.set_self _ _ (by rw [HX.out.2.2.1]; have := HX.out; omega)]
          have h8 : La w8 bL C ls (fun h => A' h ∧ h < gp + 0) := (HL.out.grown HR2.out.2 (fun e => HX.out.2.2.2.1 (by simpa using e)) (fun g _ hg e => HA.out.1 g hg (by simpa using e.symm)) (A' := fun h => A' h) (fun _ _ h => h)).grown (r := none) (grownBy_of HBc.out) (by simp) (fun _ _ _ => by simp) (fun g hg h => ⟨h, by omega⟩)
          exact h8.grown hcut.out.2 (fun e => HX.out.2.2.2.1 (by simpa using e)) (fun g _ hg e => HA.out.1 g hg.1 (by simpa using e.symm)) (fun _ _ h => h)
        · rw [if_neg h]
          exact ⟨h, i1, Pt.zc, 0, hcut.out.1, l1, f1⟩)
      have HGB := Lib.hid (show ∀ j, j < 4 → gp + j ≠ b6 from fun j hj => by omega)
      clear hE hs0 hcut hz8 hz
      go_upto_block 2 with fail
      go_cut [8, 9] (fun t8 t9 wx => Hid (R2 W b6 gp bR bL C x xs p cap ls A' (Pt.T2 E m s0 4) 4 wx))
      case first =>
        go_wp2_with fail
        go_loopw [8, 9] (fun i _ wr => ∃ k : Nat, k ≤ 4 ∧ i = .int .i64 k ∧ Hid (R2 W b6 gp bR bL C x xs p cap ls A' (Pt.T2 E m s0 k) k wr)) (fun i _ _ => 4 - (intOf i).toNat)
        case atStart => exact ⟨0, by omega, rfl, HRs.out⟩
        case round =>
          obtain ⟨k, hk, rfl, HRk⟩ := hrel
          cases hT : Pt.T2 E m s0 k with
          | error z =>
            rw [hT] at HRk
            obtain ⟨hz, j, c, k', h1, h2, h3⟩ := HRk.out
            have k2 := h1.er
            have hb : (z == 0) = false := by simpa using hz
            have HM4 := Lib.hid (show R2 W b6 gp bR bL C x xs p cap ls A' (Pt.T2 E m s0 4) 4 wr by
              have h4 := Pt.T2_err hT (4 - k)
              rw [show k + (4 - k) = 4 by omega] at h4
              rw [h4]
              exact ⟨hz, j, c, k', h1, h2, h3⟩)
            by_cases hlk : k < 4
            · have hk4 : (k : Int) < 4 := by omega
              clear hlk hz h1 h2 h3 hT
              go_wp2_with fail
              go_meet
              case rel => exact HM4.out
            · obtain rfl : k = 4 := by omega
              clear hlk hz h1 h2 h3 hT
              go_wp2_with fail
              go_meet
              case rel => exact HM4.out
          | ok s =>
            rw [hT] at HRk
            obtain ⟨j, hj, h1, h2, h3, h4⟩ := HRk.out
            have k2 := h1.er
            by_cases hlk : k < 4
            · have HLK := Lib.hid hlk
              have hk4 : (k : Int) < 4 := by omega
              obtain ⟨hE0, hU⟩ := Pt.T2_ok hT
              have HST := Lib.hid (Pt.T2_step hT)
              have hvm := Pt.vmk_all (HEV.out.2 hE0) hlk
              have HPL := Lib.hid (show Pt.pv k s.la = Pt.pv k la by rw [Pt.uks_la hlk k (Nat.le_refl _) s hU, HS0.out])
              obtain ⟨sh1, sh0⟩ := Pt.sh_bit HM.out.1 hlk
              obtain ⟨q, c1, c2, c3⟩ := h2.cell x k HX.out.1 hlk
              rw [Pt.at_set _ _ _ (by rw [HX.out.2.2.1]; have := HX.out; omega), if_pos rfl, HPL.out] at c2
              have HH := Lib.hid (show (s.b = xs.drop j ∧ Ru wr bR xs p cap j 0) ∧ La wr bL C (ls.set x s.la) (fun h => A' h ∧ h < gp + k) ∧ Li wr b6 gp k bR bL s.c ∧ Fz W bR bL wr from ⟨⟨hj, h1⟩, h2, h3, h4⟩)
              obtain ⟨x6, d6⟩ := Option.isSome_iff_exists.1 (h3.th k (by omega)).1
              have f6 := (h3.th k (by omega)).2
              rw [Nat.zero_add] at d6 f6
              obtain ⟨b2, hb2⟩ : ∃ b, m.testBit (k + 4) = b := ⟨_, rfl⟩
              obtain ⟨b1, hb1⟩ : ∃ b, m.testBit k = b := ⟨_, rfl⟩
              rw [hb2] at sh1
              rw [hb1] at sh0
              have HBB := Lib.hid (show m.testBit k = b1 ∧ m.testBit (k + 4) = b2 from ⟨hb1, hb2⟩)
              unfold Pt.vmk at hvm
              rw [hb1, hb2] at hvm
              clear hj h1 h2 h3 h4 hlk hE0 hU hT hb1 hb2
              cases b2 with
              | true =>
                cases b1 with
                | true => exact absurd hvm (by simp)
                | false =>
                  obtain ⟨g', rfl⟩ : ∃ g', q = some g' := by
                    cases q with
                    | some g' => exact ⟨g', rfl⟩
                    | none =>
                      have h0 : (Pt.pv k la).1 = 0 := c2
                      simp [Pt.isSet, h0] at hvm
                  have HQ := Lib.hid (show Sv wr k (Pt.pv k la) g' ∧ g' ≠ bL ∧ A' g' ∧ g' < gp + k from ⟨c2.2, (c3 g' rfl).1, (c3 g' rfl).2.1, (c3 g' rfl).2.2⟩)
                  have c1' : wr.cell? ⟨bL, x * 4 + k, none⟩ = some (.slice (some ⟨g', 0, none⟩) (Pt.num k) (Pt.num k)) := c1
                  clear c1 c2 c3 hvm
                  simp only [Bool.not_false] at sh0
                  go_wp2
                  go_roundw
                  case rel =>
                    refine ⟨k + 1, HLK.out, by go_num, ?_⟩
                    rw [HST.out, Pt.uk_rep HBB.out.1 HBB.out.2]
                    have hz8 := HZ8.out
                    have hz := HZ.out
                    have hk4 := HLK.out
                    have hg : wr.grownBy (wr.setCell ⟨b6, k, none⟩ (sl k g')) (some b6) := grown_set _ _ _ _
                    have hq := HQ.out
                    have hl := HH.out.2.2.1.rep (d := la) hk4 hq.1 (by omega) (HA.out.1 g' hq.2.2.1) hq.2.1 hq.2.2.2 HGB.out
                    rw [← HPL.out] at hl
                    have l1 : La (wr.setCell ⟨b6, k, none⟩ (sl k g')) bL C (ls.set x s.la) (fun h => A' h ∧ h < gp + (k + 1)) := HH.out.2.1.grown hg (by simp; omega) (fun g _ h e => by
                      have e : b6 = g := by simpa using e
                      omega) (fun g _ h => ⟨h.1, by omega⟩)
                    have f1 : Fz W bR bL (wr.setCell ⟨b6, k, none⟩ (sl k g')) := HH.out.2.2.2.grow hg (fun k hk => by
                      have e : b6 = k := by simpa using hk
                      omega)
                    exact ⟨j, HH.out.1.1, HH.out.1.2.apart hg (by simp; omega) (fun b off e => by have := HPP.out b off e; simp; omega), l1, hl, f1⟩
                  case measure => simp [intOf]; have := HLK.out; omega
              | false =>
                cases b1 with
                | false =>
                  clear c1 c2 c3 hvm
                  go_wp2
                  go_roundw
                  case rel =>
                    refine ⟨k + 1, HLK.out, by go_num, ?_⟩
                    rw [HST.out, Pt.uk_none HBB.out.1 HBB.out.2]
                    exact ⟨j, HH.out.1.1, HH.out.1.2, HH.out.2.1.mono (fun g _ h => ⟨h.1, by omega⟩), HH.out.2.2.1.up, HH.out.2.2.2⟩
                  case measure => simp [intOf]; have := HLK.out; omega
                | true =>
                  simp only [Bool.not_true] at sh0
                  obtain ⟨nk, hnk⟩ : ∃ nk, Pt.num k = nk := ⟨_, rfl⟩
                  have HNK := Lib.hid (show Pt.num k = nk ∧ 1 ≤ nk ∧ nk ≤ 2 by have := Pt.num_le k; omega)
                  have n1 : (0 : Int) < (nk : Int) := by have := HNK.out; omega
                  have n2 : (nk : Int) ≤ 2 := by have := HNK.out; omega
                  have HC6 := Lib.hid (show ∀ u c, Li u b6 gp k bR bL c → u.cell? ⟨b6, k, none⟩ = some (.slice (some ⟨gp + k, 0, none⟩) nk nk) from fun u c hu => by
                    obtain ⟨q', a1, a2, a3, a4, a5, a6, a7⟩ := hu.at' k HLK.out
                    rw [a6 (Nat.le_refl _)] at a1
                    unfold sl at a1
                    rw [hnk] at a1
                    exact a1)
                  have p13 := HC6.out _ _ HH.out.2.2.1
                  have HLA0 := Lib.hid (show wr.cell? ⟨bL, x * 4 + k, none⟩ = some (sv k q) from c1)
                  clear c1 c2 c3 hvm hnk x6 d6 f6
                  go_wp2
                  clear p13
                  go_loopw [9] (fun ix u => ∃ n : Nat, n ≤ nk ∧ ix = .int .i64 n ∧ Hid (∃ v : Int × Int, (Pt.num k = 2 ∨ v.2 = 0) ∧ (1 ≤ n → v.1 = (Pt.vv xs j n).1) ∧ (2 ≤ n → v.2 = (Pt.vv xs j n).2) ∧ Li u b6 gp k bR bL (Pt.pw k s.c v) ∧ Ru u bR xs p cap (Pt.jj xs j n) (Pt.ee xs j n) ∧ La u bL C (ls.set x s.la) (fun h => A' h ∧ h < gp + k) ∧ Fz W bR bL u)) (fun ix _ => nk - (intOf ix).toNat)
                  case atStart => exact ⟨0, by omega, rfl, Pt.pv k s.c, Pt.pv_ok k s.c, fun h => absurd h (by omega), fun h => absurd h (by omega), by rw [Pt.pw_pv]; exact HH.out.2.2.1, HH.out.1.2, HH.out.2.1, HH.out.2.2.2⟩
                  case round =>
                    obtain ⟨n, hn, rfl, HQn⟩ := hrel
                    obtain ⟨v, v0, v1, v2, hli, hru, hla2, hfz⟩ := HQn.out
                    have p13 := HC6.out _ _ hli
                    by_cases hln : n < nk
                    · have HLN := Lib.hid (show n < nk ∧ n < Pt.num k from ⟨hln, by rw [HNK.out.1]; exact hln⟩)
                      have hln' : (n : Int) < (nk : Int) := by omega
                      have CN := Lib.hid (r_one xs p cap bR _ _ wr.drew (hru.below (Below.refl wr.heap.size wr).drew))
                      obtain ⟨y, hy⟩ : ∃ y, Pt.on1 xs (Pt.jj xs j n) (Pt.ee xs j n) = y := ⟨_, rfl⟩
                      rw [hy] at CN
                      have HYE := Lib.hid hy
                      have HV := Lib.hid (show (Pt.num k = 2 ∨ v.2 = 0) ∧ (1 ≤ n → v.1 = (Pt.vv xs j n).1) ∧ (2 ≤ n → v.2 = (Pt.vv xs j n).2) from ⟨v0, v1, v2⟩)
                      have HN4 := Lib.hid (show Li wr b6 gp k bR bL (Pt.pw k s.c v) ∧ La wr bL C (ls.set x s.la) (fun h => A' h ∧ h < gp + k) ∧ Fz W bR bL wr from ⟨hli, hla2, hfz⟩)
                      have HT17 := Lib.hid (show ∀ u, wr.drew.grownBy u (some bR) → u.there (gp + k) 0 nk from fun u hu => by
                        have h := there_grown (w := wr.drew) (hli.nw k HLK.out (Nat.le_refl _)) hu (by have := HZ8.out; have := HZ.out; omega) (hli.ltg HLK.out (Nat.le_refl _))
                        rw [HNK.out.1] at h
                        exact h)
                      have hg0 : wr.drew.cell? ⟨b6, k, none⟩ = some (.slice (some ⟨gp + k, 0, none⟩) nk nk) := p13
                      have HNE := Lib.hid (show b6 ≠ bR ∧ gp + k ≠ b6 by have := HZ8.out; have := HZ.out; have := HLK.out; omega)
                      clear v0 v1 v2 hli hru hla2 hfz hy hln
                      go_upto_region 17 with fail
                      go_region_held3 (fun u => u.cell? ⟨b6, k, none⟩ = some (.slice (some ⟨gp + k, 0, none⟩) nk nk))
                        (first | with_reducible exact hg0 | exact cell_grown hg17 hg0 HNE.out.1 | exact cell_grown (grown_set _ _ _ _) (cell_grown hg17 hg0 HNE.out.1) HNE.out.2.symm)
                        (first | (go_at_call 61; (with_reducible refine CN.out.mono ?_); rintro x' w17 ⟨rfl, hr17, hg17⟩; obtain ⟨x7, d7⟩ := Option.isSome_iff_exists.1 (HT17.out _ hg17 n HLN.out.1).1; have f7 := (HT17.out _ hg17 n HLN.out.1).2; (rw [Nat.zero_add] at d7 f7)))
                      obtain ⟨w18, hw18⟩ : ∃ w18, w18 = w17.setCell ⟨gp + k, n, none⟩ (.int .i64 y) := ⟨_, rfl⟩
                      change Exit.then _ _ _ _ (w17.setCell ⟨gp + k, n, none⟩ (.int .i64 y))
                      rw [← hw18]
                      obtain ⟨v', hv'⟩ : ∃ v' : Int × Int, v' = if n = 0 then (y, v.2) else (v.1, y) := ⟨_, rfl⟩
                      have hg18 : w17.grownBy w18 (some (gp + k)) := by rw [hw18]; exact grown_set _ _ _ _
                      have hz8 := HZ8.out
                      have hz := HZ.out
                      have hk4' := HLK.out
                      have hli17 : Li w17 b6 gp k bR bL (Pt.pw k s.c v) := (HN4.out.1.below (Below.refl wr.heap.size wr).drew).apart hg17 (fun e => HNE.out.1 e.symm) (.inl rfl)
                      have H18 := Lib.hid (show (Pt.num k = 2 ∨ v'.2 = 0) ∧ Li w18 b6 gp k bR bL (Pt.pw k s.c v') ∧ Ru w18 bR xs p cap (Pt.oni xs (Pt.jj xs j n) (Pt.ee xs j n)) (Pt.one xs (Pt.jj xs j n) (Pt.ee xs j n)) ∧ La w18 bL C (ls.set x s.la) (fun h => A' h ∧ h < gp + k) ∧ Fz W bR bL w18 from by
                        have h0 : Pt.num k = 2 ∨ v'.2 = 0 := by
                          rcases HV.out.1 with h | h
                          · exact .inl h
                          · by_cases hn0 : n = 0
                            · right; rw [hv', if_pos hn0]; exact h
                            · left
                              have := HLN.out.2
                              have := (Pt.num_le k).2
                              omega
                        refine ⟨h0, ?_, hr17.apart hg18 (by simp; omega) (fun b off e => by have := HPP.out b off e; simp; omega), ?_, ?_⟩
                        · obtain ⟨q', a1, a2, -, -, -, a6, -⟩ := hli17.at' k hk4'
                          rw [a6 (Nat.le_refl _), Pt.pv_pw HV.out.1] at a2
                          have h := hli17.wr hk4' hg18 (by rw [hw18]; exact sv_set a2 HLN.out.2 hv') (by rw [hw18]; exact there_set (hli17.nw k hk4' (Nat.le_refl _))) h0 HGB.out
                          rwa [pw_pw] at h
                        · exact ((HN4.out.2.1.below (Below.refl wr.heap.size wr).drew).grown hg17 (fun e => HX.out.2.2.2.1 (by simpa using e)) (fun g _ h e => HA.out.1 g h.1 (by simpa using e.symm)) (fun _ _ h => h)).grown hg18 (by simp; omega) (fun g _ h e => by
                            have e : gp + k = g := by simpa using e
                            omega) (fun _ _ h => h)
                        · refine (HN4.out.2.2.grow (grown_drew (grownBy_refl wr none)) (fun k hk => by simp at hk)).grow hg17 (fun k hk => .inl (by simpa using hk.symm)) |>.grow hg18 fun k' hk => ?_
                          have e : gp + k = k' := by simpa using hk
                          omega)
                      have HC18 := Lib.hid (show w18.cell? ⟨b6, k, none⟩ = some (.slice (some ⟨gp + k, 0, none⟩) nk nk) ∧ w18.cell? ⟨gp + k, n, none⟩ = some (.int .i64 y) from ⟨HC6.out _ _ H18.out.2.1, by rw [hw18]; exact World.cell?_setCell_same _ _ _ d7⟩)
                      have HVE := Lib.hid hv'
                      clear hg0 d7 f7 hr17 hg17 hw18 hg18 hli17 hz8 hz hk4' hv' p13
                      obtain ⟨k3, c4⟩ := HC18.out
                      by_cases hn0 : n = 0
                      · have hb0 : ((n : Int) == 0) = true := by rw [hn0]; rfl
                        obtain ⟨yb, hyb⟩ : ∃ yb, (y == 0) = yb := ⟨_, rfl⟩
                        have C5 := Lib.hid (r_bad xs p cap bR _ _ yb w18 H18.out.2.2.1)
                        have HYB := Lib.hid hyb
                        have HN0 := Lib.hid hn0
                        clear hn0
                        go_wp2_with (first | (go_at_call 62; (with_reducible refine C5.out.mono ?_); rintro x' w19 ⟨rfl, hr19, hg19⟩; have HR19 := Lib.hid hr19; have HG19 := Lib.hid hg19; clear hr19 hg19))
                        go_roundw
                        case rel =>
                          have h := H18.out
                          have hn0 := HN0.out
                          subst hn0
                          refine ⟨0 + 1, HLN.out.1, by go_num, v', h.1, fun _ => ?_, fun h => absurd h (by omega), h.2.1.apart HG19.out (fun e => HNE.out.1 e.symm) (.inl rfl), ?_, h.2.2.2.1.grown HG19.out (fun e => HX.out.2.2.2.1 (by simpa using e)) (fun g _ h e => HA.out.1 g h.1 (by simpa using e.symm)) (fun _ _ h => h), h.2.2.2.2.grow HG19.out (fun k hk => .inl (by simpa using hk.symm))⟩
                          · rw [HVE.out, if_pos rfl]
                            exact HYE.out.symm
                          · show Ru w19 bR xs p cap (Pt.oni xs j 0) (Pt.bde (Pt.on1 xs j 0 == 0) (Pt.one xs j 0))
                            have hy : Pt.on1 xs j 0 = y := HYE.out
                            rw [hy, HYB.out]
                            exact HR19.out
                        case measure => simp [intOf]; have := HLN.out.1; omega
                      · have hb0 : ((n : Int) == 0) = false := by simp; omega
                        have C5 := Lib.hid (r_bad xs p cap bR _ _ false w18 H18.out.2.2.1)
                        have HN1 := Lib.hid (show n = 1 by have := HLN.out.1; have := HNK.out; omega)
                        clear hn0
                        go_wp2_with (first | (go_at_call 62; (with_reducible refine C5.out.mono ?_); rintro x' w19 ⟨rfl, hr19, hg19⟩; have HR19 := Lib.hid hr19; have HG19 := Lib.hid hg19; clear hr19 hg19))
                        go_roundw
                        case rel =>
                          have h := H18.out
                          have hn1 := HN1.out
                          subst hn1
                          refine ⟨1 + 1, HLN.out.1, by go_num, v', h.1, fun _ => ?_, fun _ => ?_, h.2.1.apart HG19.out (fun e => HNE.out.1 e.symm) (.inl rfl), ?_, h.2.2.2.1.grown HG19.out (fun e => HX.out.2.2.2.1 (by simpa using e)) (fun g _ h e => HA.out.1 g h.1 (by simpa using e.symm)) (fun _ _ h => h), h.2.2.2.2.grow HG19.out (fun k hk => .inl (by simpa using hk.symm))⟩
                          · rw [HVE.out, if_neg (by decide)]
                            exact HV.out.2.1 (by omega)
                          · rw [HVE.out, if_neg (by decide)]
                            exact HYE.out.symm
                          · have h9 := HR19.out
                            have hb : ∀ e, Pt.bde false e = e := fun e => by simp [Pt.bde]
                            rw [hb] at h9
                            exact h9
                        case measure => simp [intOf]; have := HLN.out.1; omega
                    · obtain rfl : n = nk := by omega
                      obtain ⟨o9, e9, -, -⟩ := hla2.cell x k HX.out.1 HLK.out
                      have f9 := hla2.fz x k HX.out.1 HLK.out
                      have HD := Lib.hid (show ((Pt.num k = 2 ∨ v.2 = 0) ∧ (1 ≤ n → v.1 = (Pt.vv xs j n).1) ∧ (2 ≤ n → v.2 = (Pt.vv xs j n).2)) ∧ Li wr b6 gp k bR bL (Pt.pw k s.c v) ∧ Ru wr bR xs p cap (Pt.jj xs j n) (Pt.ee xs j n) ∧ La wr bL C (ls.set x s.la) (fun h => A' h ∧ h < gp + k) ∧ Fz W bR bL wr from ⟨⟨v0, v1, v2⟩, hli, hru, hla2, hfz⟩)
                      clear hln v0 v1 v2 hli hru hla2 hfz
                      go_upto_region 19 with fail
                      go_region
                      obtain ⟨w20, hw20⟩ : ∃ w20, w20 = (wr.setCell ⟨bL, x * 4 + k, none⟩ (.slice (some ⟨gp + k, 0, none⟩) n n)).drew := ⟨_, rfl⟩
                      rw [← hw20]
                      have hz8 := HZ8.out
                      have hz := HZ.out
                      have hk4' := HLK.out
                      have hg20 : wr.grownBy w20 (some bL) := by rw [hw20]; exact grown_drew (grown_set _ _ _ _)
                      have hL20 := HD.out.2.1.apart hg20 (show bL ≠ b6 by omega) (.inr rfl)
                      have hR20 := HD.out.2.2.1.apart hg20 (by have := HX.out.2.2.2.1; simp; omega) (fun b off e => by have := HPP.out b off e; simp; omega)
                      have hF20 := HD.out.2.2.2.2.grow hg20 (fun k hk => .inr (.inl (by simpa using hk.symm)))
                      have hst := Pt.vl_step xs j k
                      rw [HNK.out.1, ← HH.out.1.1] at hst
                      have HRN := Lib.hid (show R2 W b6 gp bR bL C x xs p cap ls A' (Pt.T2 E m s0 (k + 1)) (k + 1) w20 from by
                        rw [HST.out]
                        by_cases hee : Pt.ee xs j n = 0
                        · rw [if_pos hee] at hst
                          have hv : v = Pt.vv xs j n := by
                            have h1 := HD.out.1.2.1 HNK.out.2.1
                            have h2 : v.2 = (Pt.vv xs j n).2 := by
                              by_cases hn2 : 2 ≤ n
                              · exact HD.out.1.2.2 hn2
                              · have hn1 : n = 1 := by have := HNK.out.2.1; omega
                                rcases HD.out.1.1 with h | h
                                · have := HNK.out.1; omega
                                · rw [h, hn1]; rfl
                            exact Prod.ext h1 h2
                          rw [← hv] at hst
                          rw [Pt.uk_new HBB.out.1 hst]
                          have hset := (Pt.vl_ok hst).1
                          have hpv : Pt.pv k (Pt.pw k s.c v) = v := Pt.pv_pw HD.out.1.1
                          have hsv : Sv wr k v (gp + k) := by
                            obtain ⟨q', a1, a2, -, -, -, a6, -⟩ := HD.out.2.1.at' k hk4'
                            rw [a6 (Nat.le_refl _), hpv] at a2
                            exact a2
                          have hput := (HD.out.2.2.2.1.mono (A' := fun h => A' h ∧ h < gp + (k + 1)) (fun g _ h => ⟨h.1, by omega⟩)).put (d := Pt.pw k s.c v) (g := gp + k) HX.out.1 hk4' (by rw [List.length_set, HX.out.2.2.1]; have := HX.out; omega) (by rw [hpv]; exact hsv) (by rw [hpv]; unfold Pt.isSet at hset; simpa using hset) (by omega) ⟨HA.out.2.1 _ (by omega), by omega⟩
                          rw [hpv, Pt.at_set _ _ _ (by rw [HX.out.2.2.1]; have := HX.out; omega), if_pos rfl, Pt.set_set] at hput
                          unfold sl at hput
                          rw [HNK.out.1] at hput
                          exact ⟨Pt.jj xs j n, rfl, by rw [← hee]; exact hR20, by rw [hw20]; exact hput.below (Below.refl _ _).drew, hL20.up, hF20⟩
                        · rw [if_neg hee] at hst
                          rw [Pt.uk_bad HBB.out.1 hst]
                          exact ⟨hee, _, _, _, hR20, hL20, hF20⟩)
                      clear hw20 hz8 hz hk4' hg20 hL20 hR20 hF20 hst e9 f9 p13
                      go_wp2
                      go_roundw
                      case rel => exact ⟨k + 1, HLK.out, by go_num, HRN.out⟩
                      case measure => simp [intOf]; have := HLK.out; omega
            · obtain rfl : k = 4 := by omega
              have HM4 := Lib.hid (show R2 W b6 gp bR bL C x xs p cap ls A' (Pt.T2 E m s0 4) 4 wr by rw [hT]; exact HRk.out)
              clear hlk h1 h2 h3 h4 hT hj
              go_wp2_with fail
              go_meet
              case rel => exact HM4.out
      case rest =>
        cases hT : Pt.T2 E m s0 4 with
        | error z =>
          rw [hT] at hcut
          obtain ⟨hz, j, c, k', h1, h2, h3⟩ := hcut.out
          have HRx := Lib.hid h1
          have HLx := Lib.hid h2
          have HFx := Lib.hid h3
          have HTT := Lib.hid hT
          have HZN := Lib.hid hz
          clear h1 h2 h3 hz hT hcut
          obtain ⟨q0, a0, s0, -⟩ := HLx.out.at' 0 (by decide)
          obtain ⟨q1, a1, s1, -⟩ := HLx.out.at' 1 (by decide)
          obtain ⟨q2, a2, s2, -⟩ := HLx.out.at' 2 (by decide)
          obtain ⟨q3, a3, s3, -⟩ := HLx.out.at' 3 (by decide)
          have HR4 := Lib.hid (show wc.rangeAt b6 0 [sl 0 q0, sl 1 q1, sl 2 q2, sl 3 q3] from fun j v hv => by
            match j, hv with
            | 0, hv => cases hv; exact a0
            | 1, hv => cases hv; exact a1
            | 2, hv => cases hv; exact a2
            | 3, hv => cases hv; exact a3)
          have CJ := Lib.hid (r_joined c q0 q1 q2 q3 wc s0 s1 s2 s3)
          have CV := Lib.hid (fun u => r_ValidCell c u)
          obtain ⟨vc, hvc⟩ : ∃ vc, Pt.vcl c = vc := ⟨_, rfl⟩
          rw [hvc] at CV
          have HVC := Lib.hid hvc
          have HT4 := Lib.hid (show ∀ u, wc.grownBy u (some bR) → u.there b4 0 6 from fun u hu => HTB4.out wc HFx.out u hu)
          clear a0 s0 a1 s1 a2 s2 a3 s3 hvc
          go_wp2_with (first | (refine ld_row (cs := [sl 0 q0, sl 1 q1, sl 2 q2, sl 3 q3]) Try.underlying72 rfl Try.infoSs (by rfl) (.tmp 6) rfl rfl HR4.out ?_) | (go_at_call 85; (with_reducible refine CJ.out.mono ?_); rintro x' w20 ⟨rfl, hb20⟩; have HB20 := Lib.hid hb20; clear hb20) | ((refine st_cell (by rfl) (.tmp 10) _ rfl rfl rfl (there_box w20 (CL Pt.zc) _) ?_); intro w21 h21; have H21 := Lib.hid (box_cell h21); clear h21) | (refine ld_cell (by rfl) (.tmp 10) rfl rfl H21.out.2 ?_) | (go_at_call 56; (with_reducible refine (CV.out _).mono ?_); rintro x' w22 ⟨rfl, hb22⟩; have HB22 := Lib.hid (stepB (stepB HB20.out H21.out.1) hb22); have HR22 := Lib.hid (range_below H21.out.2 hb22 (cell_lt (H21.out.2 0 _ rfl))); clear hb22) | (go_at_call 62; (with_reducible refine (r_bad xs p cap bR _ z _ w22 (HRx.out.below HB22.out)).mono ?_); rintro x' w23 ⟨rfl, hr23, hg23⟩; have HRz := Lib.hid hr23; have HGz := Lib.hid (grownBy_trans (grownBy_of HB22.out) hg23); have HR23 := Lib.hid (range_grown HR22.out hg23 (by have := HRx.out.lt; have := HB20.out.size; omega) (cell_lt (HR22.out 0 _ rfl))); clear hr23 hg23) | (refine ld_cell (by rfl) (.tmp 10) rfl rfl HR23.out ?_) | ((refine st_cell (by rfl) (.tmp 4) _ rfl rfl rfl (HT4.out _ HGz.out) ?_); intro w24 h24; have H24 := Lib.hid h24; clear h24))
          have HG24 := Lib.hid (show w23.grownBy w24 (some b4) by rw [H24.out]; exact grown_setCells _ _ _ _)
          have HR24 := Lib.hid (show w24.rangeAt b4 0 (CL c) by rw [H24.out]; exact World.rangeAt_setCells_same _ _ 0 _ (HT4.out _ HGz.out))
          have HRf := Lib.hid (HRz.out.apart HG24.out (by have := HZ.out; simp; omega) (fun b off e => by have := HPP.out b off e; have := HZ.out; simp; omega))
          have HFf := Lib.hid (show Fz w bR bL w24 from ((((Fz.of HB.out).trans HFx.out).grow HGz.out (fun k hk => .inl (by simpa using hk.symm))).grow HG24.out (fun k hk => .inr (.inr (by rw [← HZ.out.1]; exact Nat.le_of_eq (by simpa using hk))))))
          refine bodyPost_ret (res_row (cs := CL c) Try.underlying28 rfl Try.infoCellSize rfl rfl HR24.out) rfl ?_
          rw [HEV.out.1, HTT.out]
          have hb : Pt.bde (!vc) z = z := by simp [Pt.bde, HZN.out]
          refine ⟨c, j, rfl, by have h := HRf.out; rw [hb] at h; exact h, HFf.out⟩
        | ok s =>
          rw [hT] at hcut
          obtain ⟨j, hj, h1, h2, h3, h4⟩ := hcut.out
          have HRx := Lib.hid h1
          have HLx := Lib.hid h3
          have HFx := Lib.hid h4
          have HLA4 := Lib.hid h2
          have HTT := Lib.hid hT
          have HJ := Lib.hid hj
          clear h1 h2 h3 h4 hj hT hcut
          obtain ⟨q0, a0, s0, -⟩ := HLx.out.at' 0 (by decide)
          obtain ⟨q1, a1, s1, -⟩ := HLx.out.at' 1 (by decide)
          obtain ⟨q2, a2, s2, -⟩ := HLx.out.at' 2 (by decide)
          obtain ⟨q3, a3, s3, -⟩ := HLx.out.at' 3 (by decide)
          have HR4 := Lib.hid (show wc.rangeAt b6 0 [sl 0 q0, sl 1 q1, sl 2 q2, sl 3 q3] from fun j v hv => by
            match j, hv with
            | 0, hv => cases hv; exact a0
            | 1, hv => cases hv; exact a1
            | 2, hv => cases hv; exact a2
            | 3, hv => cases hv; exact a3)
          have CJ := Lib.hid (r_joined s.c q0 q1 q2 q3 wc s0 s1 s2 s3)
          have CV := Lib.hid (fun u => r_ValidCell s.c u)
          obtain ⟨vc, hvc⟩ : ∃ vc, Pt.vcl s.c = vc := ⟨_, rfl⟩
          rw [hvc] at CV
          have HVC := Lib.hid hvc
          have HT4 := Lib.hid (show ∀ u, wc.grownBy u (some bR) → u.there b4 0 6 from fun u hu => HTB4.out wc HFx.out u hu)
          clear a0 s0 a1 s1 a2 s2 a3 s3 hvc
          go_wp2_with (first | (refine ld_row (cs := [sl 0 q0, sl 1 q1, sl 2 q2, sl 3 q3]) Try.underlying72 rfl Try.infoSs (by rfl) (.tmp 6) rfl rfl HR4.out ?_) | (go_at_call 85; (with_reducible refine CJ.out.mono ?_); rintro x' w20 ⟨rfl, hb20⟩; have HB20 := Lib.hid hb20; clear hb20) | ((refine st_cell (by rfl) (.tmp 10) _ rfl rfl rfl (there_box w20 (CL Pt.zc) _) ?_); intro w21 h21; have H21 := Lib.hid (box_cell h21); clear h21) | (refine ld_cell (by rfl) (.tmp 10) rfl rfl H21.out.2 ?_) | (go_at_call 56; (with_reducible refine (CV.out _).mono ?_); rintro x' w22 ⟨rfl, hb22⟩; have HB22 := Lib.hid (stepB (stepB HB20.out H21.out.1) hb22); have HR22 := Lib.hid (range_below H21.out.2 hb22 (cell_lt (H21.out.2 0 _ rfl))); clear hb22) | (go_at_call 62; (with_reducible refine (r_bad xs p cap bR _ 0 _ w22 (HRx.out.below HB22.out)).mono ?_); rintro x' w23 ⟨rfl, hr23, hg23⟩; have HRz := Lib.hid hr23; have HGz := Lib.hid (grownBy_trans (grownBy_of HB22.out) hg23); have HR23 := Lib.hid (range_grown HR22.out hg23 (by have := HRx.out.lt; have := HB20.out.size; omega) (cell_lt (HR22.out 0 _ rfl))); clear hr23 hg23) | (refine ld_cell (by rfl) (.tmp 10) rfl rfl HR23.out ?_) | ((refine st_cell (by rfl) (.tmp 4) _ rfl rfl rfl (HT4.out _ HGz.out) ?_); intro w24 h24; have H24 := Lib.hid h24; clear h24))
          have HG24 := Lib.hid (show w23.grownBy w24 (some b4) by rw [H24.out]; exact grown_setCells _ _ _ _)
          have HR24 := Lib.hid (show w24.rangeAt b4 0 (CL s.c) by rw [H24.out]; exact World.rangeAt_setCells_same _ _ 0 _ (HT4.out _ HGz.out))
          have HRf := Lib.hid (HRz.out.apart HG24.out (by have := HZ.out; simp; omega) (fun b off e => by have := HPP.out b off e; have := HZ.out; simp; omega))
          have HFf := Lib.hid (show Fz w bR bL w24 from ((((Fz.of HB.out).trans HFx.out).grow HGz.out (fun k hk => .inl (by simpa using hk.symm))).grow HG24.out (fun k hk => .inr (.inr (by rw [← HZ.out.1]; exact Nat.le_of_eq (by simpa using hk))))))
          refine bodyPost_ret (res_row (cs := CL s.c) Try.underlying28 rfl Try.infoCellSize rfl rfl HR24.out) rfl ?_
          rw [HEV.out.1, HTT.out]
          show RetCu w bR bL C x xs p cap ls A (Pt.uend s) _ _
          unfold Pt.uend
          rw [HVC.out]
          cases vc with
          | true =>
            have hb : Pt.bde (!true) 0 = 0 := by simp [Pt.bde]
            have hla : La w24 bL C (ls.set x s.la) A := (HLA4.out.grown HGz.out (fun e => HX.out.2.2.2.1 (by simpa using e)) (fun g _ h e => HA.out.1 g h.1 (by simpa using e.symm)) (fun _ _ h => h)).grown HG24.out (by have := HZ.out; simp; omega) (fun g _ h e => by
              have e : b4 = g := by simpa using e
              have := (HA.out.2.2 g h.1).2
              have := HZ.out
              omega) (fun g _ h => (HA.out.2.2 g h.1).1)
            exact ⟨rfl, ⟨j, HJ.out, by have h := HRf.out; rw [hb] at h; exact h⟩, hla, HFf.out⟩
          | false =>
            have hb : Pt.bde (!false) 0 = 9 := by simp [Pt.bde]
            exact ⟨s.c, j, rfl, by have h := HRf.out; rw [hb] at h; exact h, HFf.out⟩
end Go.Proofs.Ytfjfnbeegojlbaa
